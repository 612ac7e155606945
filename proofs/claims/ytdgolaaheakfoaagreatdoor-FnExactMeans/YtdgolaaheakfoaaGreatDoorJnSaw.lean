/- Contracts of both RegimeOk: they answer one plain function. Lists of ints in rows of their own ('MovRow': in a block that was not there in w; 'IntRow': anywhere), and the contracts of the laws' own helpers over lists of ints (eqIntS, sameInts, markIntS, heldIntS): two lists alike are told alike; marks are written into a list's own row, and found there again; nothing else turns. The state of a loop that puts a list of ints together by append: they lie in a row of their own. -/
import Derived.Test.YtdgolaaheakfoaaGreatDoorJnSau
import Derived.Test.YtdgolaaheakfoaaGreatDoorJnSav
import Derived.Test.YtdgolaaheakfoaaGreatDoorJnSaa
import Derived.Laws.AppendOwn
import Derived.PlainAid
namespace Go.Proofs.YtdgolaaheakfoaaGreatDoor.ctr
open Go.RowKit
set_option linter.unusedSimpArgs false
set_option maxRecDepth 100000 in
set_option maxHeartbeats 2000000 in
theorem implRegimeOk (v : Value) (r : Rgm) (a : Addr) (w : World) (h : GRow w v r) (ht : r.to ≤ 9223372036854775807) (hE : ErrT w) (hT : Tab w) (hS : Sent w a) : Calls Tryz.prog 58 #[v] w fun e w' => e = .returned (.bool (regimeB r)) ∧ Below w.heap.size w w' := by
  have hn : r.name.size ≤ maxLen := by obtain ⟨_, _, _, _, hn, _⟩ := h; exact hn
  have KS : Hid (∀ W, Below w.heap.size w W → Calls Tryz.prog 105 #[v] W fun e w' => e = .returned (.bool (segsB r.fr r.to r.segs)) ∧ Below W.heap.size W w') := fun W hb => implSegsOk v r W (h.below hb) ht (hE.below hb)
  have KP : Hid (∀ W, Below w.heap.size w W → Calls Tryz.prog 106 #[v] W fun e w' => e = .returned (.bool (patsB r.fr r.to r.pats)) ∧ Below W.heap.size W w') := fun W hb => implPatchesOk v r W (h.below hb)
  have RB : Hid (regimeB r = (nameOk r.name && (dayB r.fr && (dayB r.to && (segsB r.fr r.to r.segs && (patsB r.fr r.to r.pats && (reignsOk r.rgns && ruleB r.rule))))))) := rfl
  have HO : Hid (r.to < r.fr → segsB r.fr r.to r.segs = false) := fun h => segs_order (by omega)
  generalize regimeB r = ans at *
  obtain ⟨nm, f, t, l, ps, rs, ru⟩ := r
  dsimp only at *
  obtain ⟨v1, v2, v3, rfl, _, x1, x2, x3⟩ := h
  dsimp only at *
  have KN : Hid (∀ W, Calls Tryz.prog 104 #[.string nm] W fun e w' => e = .returned (.bool (nameOk nm)) ∧ Below W.heap.size W w') := fun W => (implNameOk nm W hn).mono fun _ _ h => ⟨h.1, same_bel h.2⟩
  have KF : Hid (∀ W, Calls Tryz.prog 93 #[.int .i64 f] W fun e w' => e = .returned (.bool (dayB f)) ∧ Below W.heap.size W w') := fun W => (implOnLine f W).mono fun _ _ h => ⟨h.1, same_bel h.2⟩
  have KT : Hid (∀ W, Calls Tryz.prog 93 #[.int .i64 t] W fun e w' => e = .returned (.bool (dayB t)) ∧ Below W.heap.size W w') := fun W => (implOnLine t W).mono fun _ _ h => ⟨h.1, same_bel h.2⟩
  have KR : Hid (∀ W, Below w.heap.size w W → Calls Tryz.prog 107 #[v3] W fun e w' => e = .returned (.bool (reignsOk rs)) ∧ Below W.heap.size W w') := fun W hb => implReignsOk v3 rs a W (x3.below hb) (hT.later hb) (hS.later hb)
  obtain ⟨W0, hW0, d0, d1, d2, d3, d4, d5, d6, hBl⟩ := seven_box w (.string nm) (.int .i64 f) (.int .i64 t) v1 v2 v3 (.int .i64 ru) 40
  obtain ⟨a1, c1, rfl, _⟩ := x1
  obtain ⟨a2, c2, rfl, _⟩ := x2
  obtain ⟨a3, c3, rfl, _⟩ := x3
  have HW0 := hideP hW0
  have HBl := hideP hBl
  clear hW0 hBl hn ht hE hT hS
  generalize nameOk nm = b1 at *
  generalize dayB f = b2 at *
  generalize dayB t = b3 at *
  generalize segsB f t l = b4 at *
  generalize patsB f t ps = b5 at *
  generalize reignsOk rs = b6 at *
  go_enter Tryz.func58, Tryz.ntmps58
  go_wp2_with fail
  rw [← HW0.out]
  refine (KN.out _).mono ?_
  rintro e w1 ⟨rfl, hb⟩
  obtain ⟨x1, rfl⟩ := Later.of hb
  clear hb
  cases b1
  · have HR : Hid (ans = false) := by unfold Hid; rw [RB.out]; simp only [Bool.false_and, Bool.and_false, Bool.true_and]
    go_wp2
    go_ret
    exact ⟨ret_bool HR.out.symm, HBl.out x1⟩
  go_wp2_with fail
  refine (KF.out _).mono ?_
  rintro e w2 ⟨rfl, hb⟩
  obtain ⟨x2, rfl⟩ := x1.next hb
  clear hb
  cases b2
  · have HR : Hid (ans = false) := by unfold Hid; rw [RB.out]; simp only [Bool.false_and, Bool.and_false, Bool.true_and]
    go_wp2
    go_ret
    exact ⟨ret_bool HR.out.symm, HBl.out x2⟩
  go_wp2_with fail
  refine (KT.out _).mono ?_
  rintro e w3 ⟨rfl, hb⟩
  obtain ⟨x3, rfl⟩ := x2.next hb
  clear hb
  cases b3
  · have HR : Hid (ans = false) := by unfold Hid; rw [RB.out]; simp only [Bool.false_and, Bool.and_false, Bool.true_and]
    go_wp2
    go_ret
    exact ⟨ret_bool HR.out.symm, HBl.out x3⟩
  go_wp2_with fail
  refine (KS.out _ (HBl.out x3)).mono ?_
  rintro e w4 ⟨rfl, hb⟩
  obtain ⟨x4, rfl⟩ := x3.next hb
  clear hb
  cases b4
  · have HR : Hid (ans = false) := by unfold Hid; rw [RB.out]; simp only [Bool.false_and, Bool.and_false, Bool.true_and]
    go_wp2
    go_ret
    exact ⟨ret_bool HR.out.symm, HBl.out x4⟩
  go_wp2_with fail
  refine (KP.out _ (HBl.out x4)).mono ?_
  rintro e w5 ⟨rfl, hb⟩
  obtain ⟨x5, rfl⟩ := x4.next hb
  clear hb
  cases b5
  · have HR : Hid (ans = false) := by unfold Hid; rw [RB.out]; simp only [Bool.false_and, Bool.and_false, Bool.true_and]
    go_wp2
    go_ret
    exact ⟨ret_bool HR.out.symm, HBl.out x5⟩
  go_wp2_with fail
  refine (KR.out _ (HBl.out x5)).mono ?_
  rintro e w6 ⟨rfl, hb⟩
  obtain ⟨x6, rfl⟩ := x5.next hb
  clear hb
  cases b6
  · have HR : Hid (ans = false) := by unfold Hid; rw [RB.out]; simp only [Bool.false_and, Bool.and_false, Bool.true_and]
    go_wp2
    go_ret
    exact ⟨ret_bool HR.out.symm, HBl.out x6⟩
  have HQ : Hid (ans = ruleB ru) := by unfold Hid; rw [RB.out]; simp only [Bool.true_and]
  clear RB HO KN KF KT KS KP KR
  have KU : Hid (∀ W, Calls Tryz.prog 108 #[.int .i64 ru] W fun e w' => e = .returned (.bool (ruleB ru)) ∧ w' = W) := fun W => implRuleOk ru W
  generalize ruleB ru = b7 at *
  go_wp2_with fail
  refine (KU.out _).mono ?_
  rintro e w7 ⟨rfl, rfl⟩
  go_wp2
  go_ret
  exact ⟨ret_bool HQ.out.symm, HBl.out x6⟩
set_option maxRecDepth 100000 in
set_option maxHeartbeats 2000000 in
theorem specRegimeOk (v : Value) (r : Rgm) (w : World) (h : GRow w v r) (hf : -9223372036854775808 ≤ r.fr) (ht : r.to ≤ 9223372036854775807) : Calls Tryz.prog 34 #[v] w fun e w' => e = .returned (.bool (regimeB r)) ∧ Below w.heap.size w w' := by
  have hn : r.name.size ≤ maxLen := by obtain ⟨_, _, _, _, hn, _⟩ := h; exact hn
  have KS : Hid (∀ W, Below w.heap.size w W → Calls Tryz.prog 71 #[v] W fun e w' => e = .returned (.bool (segsB r.fr r.to r.segs)) ∧ Below W.heap.size W w') := fun W hb => specSegs9 v r W (h.below hb) hf ht
  have KP : Hid (∀ W, Below w.heap.size w W → Calls Tryz.prog 72 #[v] W fun e w' => e = .returned (.bool (patsB r.fr r.to r.pats)) ∧ Below W.heap.size W w') := fun W hb => specPatches9 v r W (h.below hb)
  have RB : Hid (regimeB r = (nameOk r.name && (dayB r.fr && (dayB r.to && (segsB r.fr r.to r.segs && (patsB r.fr r.to r.pats && (reignsOk r.rgns && ruleB r.rule))))))) := rfl
  have HO : Hid (r.to < r.fr → segsB r.fr r.to r.segs = false) := fun h => segs_order (by omega)
  generalize regimeB r = ans at *
  obtain ⟨nm, f, t, l, ps, rs, ru⟩ := r
  dsimp only at *
  obtain ⟨v1, v2, v3, rfl, _, x1, x2, x3⟩ := h
  dsimp only at *
  have KN : Hid (∀ W, Calls Tryz.prog 69 #[.string nm] W fun e w' => e = .returned (.bool (nameOk nm)) ∧ Below W.heap.size W w') := fun W => (specNameOk nm W hn).mono fun _ _ h => ⟨h.1, same_bel h.2⟩
  have KF : Hid (∀ W, Calls Tryz.prog 70 #[.int .i64 f] W fun e w' => e = .returned (.bool (dayB f)) ∧ Below W.heap.size W w') := fun W => (specDay9 f W).mono fun _ _ h => ⟨h.1, same_bel h.2⟩
  have KT : Hid (∀ W, Calls Tryz.prog 70 #[.int .i64 t] W fun e w' => e = .returned (.bool (dayB t)) ∧ Below W.heap.size W w') := fun W => (specDay9 t W).mono fun _ _ h => ⟨h.1, same_bel h.2⟩
  have KR : Hid (∀ W, Below w.heap.size w W → Calls Tryz.prog 73 #[v3] W fun e w' => e = .returned (.bool (reignsOk rs)) ∧ Below W.heap.size W w') := fun W hb => specReignsOk v3 rs W (x3.below hb)
  obtain ⟨W0, hW0, d0, d1, d2, d3, d4, d5, d6, hBl⟩ := seven_box w (.string nm) (.int .i64 f) (.int .i64 t) v1 v2 v3 (.int .i64 ru) 40
  obtain ⟨a1, c1, rfl, _⟩ := x1
  obtain ⟨a2, c2, rfl, _⟩ := x2
  obtain ⟨a3, c3, rfl, _⟩ := x3
  have HW0 := hideP hW0
  have HBl := hideP hBl
  clear hW0 hBl hn hf ht
  generalize nameOk nm = b1 at *
  generalize dayB f = b2 at *
  generalize dayB t = b3 at *
  generalize segsB f t l = b4 at *
  generalize patsB f t ps = b5 at *
  generalize reignsOk rs = b6 at *
  go_enter Tryz.func34, Tryz.ntmps34
  go_wp2_with fail
  rw [← HW0.out]
  refine (KN.out _).mono ?_
  rintro e w1 ⟨rfl, hb⟩
  obtain ⟨x1, rfl⟩ := Later.of hb
  clear hb
  cases b1
  · have HR : Hid (ans = false) := by unfold Hid; rw [RB.out]; simp only [Bool.false_and, Bool.and_false, Bool.true_and]
    go_wp2
    go_ret
    exact ⟨ret_bool HR.out.symm, HBl.out x1⟩
  go_wp2_with fail
  refine (KF.out _).mono ?_
  rintro e w2 ⟨rfl, hb⟩
  obtain ⟨x2, rfl⟩ := x1.next hb
  clear hb
  cases b2
  · have HR : Hid (ans = false) := by unfold Hid; rw [RB.out]; simp only [Bool.false_and, Bool.and_false, Bool.true_and]
    go_wp2
    go_ret
    exact ⟨ret_bool HR.out.symm, HBl.out x2⟩
  go_wp2_with fail
  refine (KT.out _).mono ?_
  rintro e w3 ⟨rfl, hb⟩
  obtain ⟨x3, rfl⟩ := x2.next hb
  clear hb
  cases b3
  · have HR : Hid (ans = false) := by unfold Hid; rw [RB.out]; simp only [Bool.false_and, Bool.and_false, Bool.true_and]
    go_wp2
    go_ret
    exact ⟨ret_bool HR.out.symm, HBl.out x3⟩
  by_cases hft : f ≤ t
  case neg =>
    have q1 : decide (f ≤ t) = false := decide_eq_false hft
    have HR : Hid (ans = false) := by unfold Hid; rw [RB.out, HO.out (by omega)]; simp only [Bool.false_and, Bool.true_and]
    go_wp2
    go_ret
    exact ⟨ret_bool HR.out.symm, HBl.out x3⟩
  go_wp2_with fail
  refine (KS.out _ (HBl.out x3)).mono ?_
  rintro e w4 ⟨rfl, hb⟩
  obtain ⟨x4, rfl⟩ := x3.next hb
  clear hb
  cases b4
  · have HR : Hid (ans = false) := by unfold Hid; rw [RB.out]; simp only [Bool.false_and, Bool.and_false, Bool.true_and]
    go_wp2
    go_ret
    exact ⟨ret_bool HR.out.symm, HBl.out x4⟩
  go_wp2_with fail
  refine (KP.out _ (HBl.out x4)).mono ?_
  rintro e w5 ⟨rfl, hb⟩
  obtain ⟨x5, rfl⟩ := x4.next hb
  clear hb
  cases b5
  · have HR : Hid (ans = false) := by unfold Hid; rw [RB.out]; simp only [Bool.false_and, Bool.and_false, Bool.true_and]
    go_wp2
    go_ret
    exact ⟨ret_bool HR.out.symm, HBl.out x5⟩
  go_wp2_with fail
  refine (KR.out _ (HBl.out x5)).mono ?_
  rintro e w6 ⟨rfl, hb⟩
  obtain ⟨x6, rfl⟩ := x5.next hb
  clear hb
  cases b6
  · have HR : Hid (ans = false) := by unfold Hid; rw [RB.out]; simp only [Bool.false_and, Bool.and_false, Bool.true_and]
    go_wp2
    go_ret
    exact ⟨ret_bool HR.out.symm, HBl.out x6⟩
  have HQ : Hid (ans = ruleB ru) := by unfold Hid; rw [RB.out]; simp only [Bool.true_and]
  clear RB HO KN KF KT KS KP KR
  by_cases h0 : ru = 0
  · subst h0
    have HR : Hid (ans = true) := HQ.out
    go_wp2
    go_ret
    exact ⟨ret_bool HR.out.symm, HBl.out x6⟩
  by_cases h1 : ru = 1
  · subst h1
    have HR : Hid (ans = true) := HQ.out
    go_wp2
    go_ret
    exact ⟨ret_bool HR.out.symm, HBl.out x6⟩
  have HR : Hid (ans = false) := by unfold Hid; rw [HQ.out, ruleB, decide_eq_false h0, decide_eq_false h1]; rfl
  have q2 : (ru == 0) = false := by simp [h0]
  have q3 : (ru == 1) = false := by simp [h1]
  go_wp2
  go_ret
  exact ⟨ret_bool HR.out.symm, HBl.out x6⟩
end Go.Proofs.YtdgolaaheakfoaaGreatDoor.ctr
namespace Go.Proofs.YtdgolaaheakfoaaGreatDoor.ctr
open Go.RowKit
def ints (l : List Int) : Array Value := (l.map (Value.int .i64)).toArray
theorem ints_at (l : List Int) (j : Nat) (h : j < l.length) : (ints l)[j]? = some (.int .i64 (l.getD j 0)) := by
  simp [ints, List.getD, h]
theorem ints_size (l : List Int) : (ints l).size = l.length := by simp [ints]
theorem ints_app (l : List Int) (rs : Array Value) (j : Nat) (h : j < l.length) : (ints l ++ rs)[j]? = some (.int .i64 (l.getD j 0)) := by
  rw [Array.getElem?_append_left (by rw [ints_size]; exact h), ints_at l j h]
def MovRow (w w' : World) (v : Value) (xs : List Int) : Prop := ∃ ad cap, v = .slice ad xs.length cap ∧ (xs = [] ∨ ∃ g t rs, ad = some ⟨g, 0, none⟩ ∧ w.heap.size ≤ g ∧ Blk w' g (ints xs ++ rs) t)
theorem MovRow.below {w w' w'' : World} {v : Value} {xs : List Int} (h : MovRow w w' v xs) (hb : Below w'.heap.size w' w'') : MovRow w w'' v xs := by
  obtain ⟨ad, cap, rfl, h | ⟨g, t, zs, rfl, hg, hB⟩⟩ := h
  · exact ⟨ad, cap, rfl, .inl h⟩
  · exact ⟨_, cap, rfl, .inr ⟨g, t, zs, rfl, hg, hB.below hb hB.lt⟩⟩
def IntRow (w : World) (v : Value) (xs : List Int) : Prop := ∃ ad cap, v = .slice ad xs.length cap ∧ ∀ j, j < xs.length → ∃ g, ad = some ⟨g, 0, none⟩ ∧ g < w.heap.size ∧ w.cell? ⟨g, j, none⟩ = some (.int .i64 (xs.getD j 0))
theorem MovRow.row {w w' : World} {v : Value} {xs : List Int} (h : MovRow w w' v xs) : IntRow w' v xs := by
  obtain ⟨ad, cap, rfl, h | ⟨g, t, zs, rfl, _, hb⟩⟩ := h
  · subst h
    exact ⟨ad, cap, rfl, fun j hj => by simp at hj⟩
  · exact ⟨_, cap, rfl, fun j hj => ⟨g, rfl, hb.lt, hb.cell j (ints_app xs zs j hj)⟩⟩
theorem IntRow.below {w w' : World} {v : Value} {xs : List Int} (h : IntRow w v xs) (hb : Below w.heap.size w w') : IntRow w' v xs := by
  obtain ⟨ad, cap, rfl, h⟩ := h
  exact ⟨ad, cap, rfl, fun j hj => by
    obtain ⟨g, e, hg, hc⟩ := h j hj
    exact ⟨g, e, Nat.lt_of_lt_of_le hg hb.size, (hb.cell (p := ⟨g, j, none⟩) hg).trans hc⟩⟩
def marks (k0 n : Nat) : List Int := (List.range n).map fun j => ((k0 + j : Nat) : Int)
theorem own_ints {w W : World} {v : Value} {xs : List Int} {e : TypeId} (h : W.ownsRow w.heap.size e 1 v xs.length (xs.map (Value.int .i64))) : MovRow w W v xs := by
  rcases h.2 with ⟨hv, h0⟩ | ⟨g, cap, cur, hv, hb, hh, hcap, _, hsz, htake⟩
  · subst hv
    exact ⟨none, 0, by rw [h0], .inl (List.length_eq_zero_iff.1 h0)⟩
  · subst hv
    refine ⟨_, cap, rfl, .inr ⟨g, e, (cur.toList.drop xs.length).toArray, rfl, hb, ?_⟩⟩
    have e1 : cur = ints xs ++ (cur.toList.drop xs.length).toArray := by
      apply Array.toList_inj.1
      rw [Array.toList_append]
      show cur.toList = (xs.map (Value.int .i64)) ++ cur.toList.drop xs.length
      rw [← htake]
      simp
    unfold Blk
    rw [← e1]
    exact hh
end Go.Proofs.YtdgolaaheakfoaaGreatDoor.ctr
namespace Go.Proofs.YtdgolaaheakfoaaGreatDoor.ctr
open Go.RowKit
theorem iown_later {w w' : World} {base e size : Nat} {v : Value} {n : Nat} {xs : List Value} (h : w.ownsRow base e size v n xs) (hb : Below w.heap.size w w') : w'.ownsRow base e size v n xs :=
  h.kept (row := none) ⟨hb.os, hb.tape, hb.output, hb.size, fun k hk _ => hb.block k hk⟩ (Classical.em _)
structure ISt (w : World) (o : Value) (xs : List Int) (W : World) : Prop where
  row : W.ownsRow w.heap.size 3 1 o xs.length (xs.map (Value.int .i64))
  below : Below w.heap.size w W
theorem ISt.later {w : World} {o : Value} {xs : List Int} {W W' : World} (h : ISt w o xs W) (hb : Below W.heap.size W W') : ISt w o xs W' := ⟨iown_later h.row hb, h.below.trans (hb.mono h.below.size)⟩
theorem ISt.nil (w : World) : ISt w (.slice none 0 0) [] w := ⟨World.ownsRow_nil _ _ _ _, Below.refl _ _⟩
theorem own_mono1 {w : World} {b b' e size : Nat} {v : Value} {n : Nat} {xs : List Value} (h : w.ownsRow b e size v n xs) (hb : b' ≤ b) : w.ownsRow b' e size v n xs := by
  obtain ⟨h1, h | ⟨g, cap, cur, hv, hg, hr⟩⟩ := h
  · exact ⟨h1, .inl h⟩
  · exact ⟨h1, .inr ⟨g, cap, cur, hv, Nat.le_trans hb hg, hr⟩⟩
theorem ISt.done {w w0 W : World} {o : Value} {xs : List Int} (h : ISt w o xs W) (hb : Below w0.heap.size w0 w) : MovRow w0 W o xs ∧ Below w0.heap.size w0 W :=
  ⟨own_ints (e := 3) (own_mono1 h.row hb.size), hb.trans (h.below.mono hb.size)⟩
end Go.Proofs.YtdgolaaheakfoaaGreatDoor.ctr
