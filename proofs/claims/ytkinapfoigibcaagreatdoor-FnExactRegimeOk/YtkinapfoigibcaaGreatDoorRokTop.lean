/- Contracts of both RegimeOk: they answer one plain function. -/
import Derived.Test.YtkinapfoigibcaaGreatDoorRokImpl
import Derived.Test.YtkinapfoigibcaaGreatDoorRokSpec
namespace Go.Proofs.YtkinapfoigibcaaGreatDoor.ctr
open Go.RowKit
set_option linter.unusedSimpArgs false

set_option maxRecDepth 100000 in
set_option maxHeartbeats 2000000 in
theorem implRegimeOk (v : Value) (r : Rgm) (a : Addr) (w : World) (h : GRow w v r) (ht : r.to ≤ 9223372036854775807) (hE : ErrT w) (hT : Tab w) (hS : Sent w a) : Calls Tryz.prog 14 #[v] w fun e w' => e = .returned (.bool (regimeB r)) ∧ Below w.heap.size w w' := by
  have hn : r.name.size ≤ maxLen := by obtain ⟨_, _, _, _, hn, _⟩ := h; exact hn
  have KS : Hid (∀ W, Below w.heap.size w W → Calls Tryz.prog 40 #[v] W fun e w' => e = .returned (.bool (segsB r.fr r.to r.segs)) ∧ Below W.heap.size W w') := fun W hb => implSegsOk v r W (h.below hb) ht (hE.below hb)
  have KP : Hid (∀ W, Below w.heap.size w W → Calls Tryz.prog 41 #[v] W fun e w' => e = .returned (.bool (patsB r.fr r.to r.pats)) ∧ Below W.heap.size W w') := fun W hb => implPatchesOk v r W (h.below hb)
  have RB : Hid (regimeB r = (nameOk r.name && (dayB r.fr && (dayB r.to && (segsB r.fr r.to r.segs && (patsB r.fr r.to r.pats && (reignsOk r.rgns && ruleB r.rule))))))) := rfl
  have HO : Hid (r.to < r.fr → segsB r.fr r.to r.segs = false) := fun h => segs_order (by omega)
  generalize regimeB r = ans at *
  obtain ⟨nm, f, t, l, ps, rs, ru⟩ := r
  dsimp only at *
  obtain ⟨v1, v2, v3, rfl, _, x1, x2, x3⟩ := h
  dsimp only at *
  have KN : Hid (∀ W, Calls Tryz.prog 38 #[.string nm] W fun e w' => e = .returned (.bool (nameOk nm)) ∧ Below W.heap.size W w') := fun W => (implNameOk nm W hn).mono fun _ _ h => ⟨h.1, same_bel h.2⟩
  have KF : Hid (∀ W, Calls Tryz.prog 39 #[.int .i64 f] W fun e w' => e = .returned (.bool (dayB f)) ∧ Below W.heap.size W w') := fun W => (implOnLine f W).mono fun _ _ h => ⟨h.1, same_bel h.2⟩
  have KT : Hid (∀ W, Calls Tryz.prog 39 #[.int .i64 t] W fun e w' => e = .returned (.bool (dayB t)) ∧ Below W.heap.size W w') := fun W => (implOnLine t W).mono fun _ _ h => ⟨h.1, same_bel h.2⟩
  have KR : Hid (∀ W, Below w.heap.size w W → Calls Tryz.prog 42 #[v3] W fun e w' => e = .returned (.bool (reignsOk rs)) ∧ Below W.heap.size W w') := fun W hb => implReignsOk v3 rs a W (x3.below hb) (hT.later hb) (hS.later hb)
  obtain ⟨W0, hW0, d0, d1, d2, d3, d4, d5, d6, hBl⟩ := seven_box w (.string nm) (.int .i64 f) (.int .i64 t) v1 v2 v3 (.int .i64 ru) 28
  obtain ⟨a1, c1, rfl, _⟩ := x1
  obtain ⟨a2, c2, rfl, _⟩ := x2
  obtain ⟨a3, c3, rfl, _⟩ := x3
  have HW0 := hideP hW0
  have HBl := hideP hBl
  clear hW0 hBl hn ht hE hT hS
  generalize nameOk nm = b1 at *
  generalize dayB f = b2 at *
  generalize dayB t = b3 at *
  generalize segsB f t l = b4 at *
  generalize patsB f t ps = b5 at *
  generalize reignsOk rs = b6 at *
  go_enter Tryz.func14, Tryz.ntmps14
  go_wp2_with fail
  rw [← HW0.out]
  refine (KN.out _).mono ?_
  rintro e w1 ⟨rfl, hb⟩
  obtain ⟨x1, rfl⟩ := Later.of hb
  clear hb
  cases b1
  · have HR : Hid (ans = false) := by unfold Hid; rw [RB.out]; simp only [Bool.false_and, Bool.and_false, Bool.true_and]
    go_wp2
    go_ret
    exact ⟨ret_bool HR.out.symm, HBl.out x1⟩
  go_wp2_with fail
  refine (KF.out _).mono ?_
  rintro e w2 ⟨rfl, hb⟩
  obtain ⟨x2, rfl⟩ := x1.next hb
  clear hb
  cases b2
  · have HR : Hid (ans = false) := by unfold Hid; rw [RB.out]; simp only [Bool.false_and, Bool.and_false, Bool.true_and]
    go_wp2
    go_ret
    exact ⟨ret_bool HR.out.symm, HBl.out x2⟩
  go_wp2_with fail
  refine (KT.out _).mono ?_
  rintro e w3 ⟨rfl, hb⟩
  obtain ⟨x3, rfl⟩ := x2.next hb
  clear hb
  cases b3
  · have HR : Hid (ans = false) := by unfold Hid; rw [RB.out]; simp only [Bool.false_and, Bool.and_false, Bool.true_and]
    go_wp2
    go_ret
    exact ⟨ret_bool HR.out.symm, HBl.out x3⟩
  go_wp2_with fail
  refine (KS.out _ (HBl.out x3)).mono ?_
  rintro e w4 ⟨rfl, hb⟩
  obtain ⟨x4, rfl⟩ := x3.next hb
  clear hb
  cases b4
  · have HR : Hid (ans = false) := by unfold Hid; rw [RB.out]; simp only [Bool.false_and, Bool.and_false, Bool.true_and]
    go_wp2
    go_ret
    exact ⟨ret_bool HR.out.symm, HBl.out x4⟩
  go_wp2_with fail
  refine (KP.out _ (HBl.out x4)).mono ?_
  rintro e w5 ⟨rfl, hb⟩
  obtain ⟨x5, rfl⟩ := x4.next hb
  clear hb
  cases b5
  · have HR : Hid (ans = false) := by unfold Hid; rw [RB.out]; simp only [Bool.false_and, Bool.and_false, Bool.true_and]
    go_wp2
    go_ret
    exact ⟨ret_bool HR.out.symm, HBl.out x5⟩
  go_wp2_with fail
  refine (KR.out _ (HBl.out x5)).mono ?_
  rintro e w6 ⟨rfl, hb⟩
  obtain ⟨x6, rfl⟩ := x5.next hb
  clear hb
  cases b6
  · have HR : Hid (ans = false) := by unfold Hid; rw [RB.out]; simp only [Bool.false_and, Bool.and_false, Bool.true_and]
    go_wp2
    go_ret
    exact ⟨ret_bool HR.out.symm, HBl.out x6⟩
  have HQ : Hid (ans = ruleB ru) := by unfold Hid; rw [RB.out]; simp only [Bool.true_and]
  clear RB HO KN KF KT KS KP KR
  have KU : Hid (∀ W, Calls Tryz.prog 43 #[.int .i64 ru] W fun e w' => e = .returned (.bool (ruleB ru)) ∧ w' = W) := fun W => implRuleOk ru W
  generalize ruleB ru = b7 at *
  go_wp2_with fail
  refine (KU.out _).mono ?_
  rintro e w7 ⟨rfl, rfl⟩
  go_wp2
  go_ret
  exact ⟨ret_bool HQ.out.symm, HBl.out x6⟩

set_option maxRecDepth 100000 in
set_option maxHeartbeats 2000000 in
theorem specRegimeOk (v : Value) (r : Rgm) (w : World) (h : GRow w v r) (hf : -9223372036854775808 ≤ r.fr) (ht : r.to ≤ 9223372036854775807) : Calls Tryz.prog 15 #[v] w fun e w' => e = .returned (.bool (regimeB r)) ∧ Below w.heap.size w w' := by
  have hn : r.name.size ≤ maxLen := by obtain ⟨_, _, _, _, hn, _⟩ := h; exact hn
  have KS : Hid (∀ W, Below w.heap.size w W → Calls Tryz.prog 46 #[v] W fun e w' => e = .returned (.bool (segsB r.fr r.to r.segs)) ∧ Below W.heap.size W w') := fun W hb => specSegs9 v r W (h.below hb) hf ht
  have KP : Hid (∀ W, Below w.heap.size w W → Calls Tryz.prog 47 #[v] W fun e w' => e = .returned (.bool (patsB r.fr r.to r.pats)) ∧ Below W.heap.size W w') := fun W hb => specPatches9 v r W (h.below hb)
  have RB : Hid (regimeB r = (nameOk r.name && (dayB r.fr && (dayB r.to && (segsB r.fr r.to r.segs && (patsB r.fr r.to r.pats && (reignsOk r.rgns && ruleB r.rule))))))) := rfl
  have HO : Hid (r.to < r.fr → segsB r.fr r.to r.segs = false) := fun h => segs_order (by omega)
  generalize regimeB r = ans at *
  obtain ⟨nm, f, t, l, ps, rs, ru⟩ := r
  dsimp only at *
  obtain ⟨v1, v2, v3, rfl, _, x1, x2, x3⟩ := h
  dsimp only at *
  have KN : Hid (∀ W, Calls Tryz.prog 44 #[.string nm] W fun e w' => e = .returned (.bool (nameOk nm)) ∧ Below W.heap.size W w') := fun W => (specNameOk nm W hn).mono fun _ _ h => ⟨h.1, same_bel h.2⟩
  have KF : Hid (∀ W, Calls Tryz.prog 45 #[.int .i64 f] W fun e w' => e = .returned (.bool (dayB f)) ∧ Below W.heap.size W w') := fun W => (specDay9 f W).mono fun _ _ h => ⟨h.1, same_bel h.2⟩
  have KT : Hid (∀ W, Calls Tryz.prog 45 #[.int .i64 t] W fun e w' => e = .returned (.bool (dayB t)) ∧ Below W.heap.size W w') := fun W => (specDay9 t W).mono fun _ _ h => ⟨h.1, same_bel h.2⟩
  have KR : Hid (∀ W, Below w.heap.size w W → Calls Tryz.prog 48 #[v3] W fun e w' => e = .returned (.bool (reignsOk rs)) ∧ Below W.heap.size W w') := fun W hb => specReignsOk v3 rs W (x3.below hb)
  obtain ⟨W0, hW0, d0, d1, d2, d3, d4, d5, d6, hBl⟩ := seven_box w (.string nm) (.int .i64 f) (.int .i64 t) v1 v2 v3 (.int .i64 ru) 28
  obtain ⟨a1, c1, rfl, _⟩ := x1
  obtain ⟨a2, c2, rfl, _⟩ := x2
  obtain ⟨a3, c3, rfl, _⟩ := x3
  have HW0 := hideP hW0
  have HBl := hideP hBl
  clear hW0 hBl hn hf ht
  generalize nameOk nm = b1 at *
  generalize dayB f = b2 at *
  generalize dayB t = b3 at *
  generalize segsB f t l = b4 at *
  generalize patsB f t ps = b5 at *
  generalize reignsOk rs = b6 at *
  go_enter Tryz.func15, Tryz.ntmps15
  go_wp2_with fail
  rw [← HW0.out]
  refine (KN.out _).mono ?_
  rintro e w1 ⟨rfl, hb⟩
  obtain ⟨x1, rfl⟩ := Later.of hb
  clear hb
  cases b1
  · have HR : Hid (ans = false) := by unfold Hid; rw [RB.out]; simp only [Bool.false_and, Bool.and_false, Bool.true_and]
    go_wp2
    go_ret
    exact ⟨ret_bool HR.out.symm, HBl.out x1⟩
  go_wp2_with fail
  refine (KF.out _).mono ?_
  rintro e w2 ⟨rfl, hb⟩
  obtain ⟨x2, rfl⟩ := x1.next hb
  clear hb
  cases b2
  · have HR : Hid (ans = false) := by unfold Hid; rw [RB.out]; simp only [Bool.false_and, Bool.and_false, Bool.true_and]
    go_wp2
    go_ret
    exact ⟨ret_bool HR.out.symm, HBl.out x2⟩
  go_wp2_with fail
  refine (KT.out _).mono ?_
  rintro e w3 ⟨rfl, hb⟩
  obtain ⟨x3, rfl⟩ := x2.next hb
  clear hb
  cases b3
  · have HR : Hid (ans = false) := by unfold Hid; rw [RB.out]; simp only [Bool.false_and, Bool.and_false, Bool.true_and]
    go_wp2
    go_ret
    exact ⟨ret_bool HR.out.symm, HBl.out x3⟩
  by_cases hft : f ≤ t
  case neg =>
    have q1 : decide (f ≤ t) = false := decide_eq_false hft
    have HR : Hid (ans = false) := by unfold Hid; rw [RB.out, HO.out (by omega)]; simp only [Bool.false_and, Bool.true_and]
    go_wp2
    go_ret
    exact ⟨ret_bool HR.out.symm, HBl.out x3⟩
  go_wp2_with fail
  refine (KS.out _ (HBl.out x3)).mono ?_
  rintro e w4 ⟨rfl, hb⟩
  obtain ⟨x4, rfl⟩ := x3.next hb
  clear hb
  cases b4
  · have HR : Hid (ans = false) := by unfold Hid; rw [RB.out]; simp only [Bool.false_and, Bool.and_false, Bool.true_and]
    go_wp2
    go_ret
    exact ⟨ret_bool HR.out.symm, HBl.out x4⟩
  go_wp2_with fail
  refine (KP.out _ (HBl.out x4)).mono ?_
  rintro e w5 ⟨rfl, hb⟩
  obtain ⟨x5, rfl⟩ := x4.next hb
  clear hb
  cases b5
  · have HR : Hid (ans = false) := by unfold Hid; rw [RB.out]; simp only [Bool.false_and, Bool.and_false, Bool.true_and]
    go_wp2
    go_ret
    exact ⟨ret_bool HR.out.symm, HBl.out x5⟩
  go_wp2_with fail
  refine (KR.out _ (HBl.out x5)).mono ?_
  rintro e w6 ⟨rfl, hb⟩
  obtain ⟨x6, rfl⟩ := x5.next hb
  clear hb
  cases b6
  · have HR : Hid (ans = false) := by unfold Hid; rw [RB.out]; simp only [Bool.false_and, Bool.and_false, Bool.true_and]
    go_wp2
    go_ret
    exact ⟨ret_bool HR.out.symm, HBl.out x6⟩
  have HQ : Hid (ans = ruleB ru) := by unfold Hid; rw [RB.out]; simp only [Bool.true_and]
  clear RB HO KN KF KT KS KP KR
  by_cases h0 : ru = 0
  · subst h0
    have HR : Hid (ans = true) := HQ.out
    go_wp2
    go_ret
    exact ⟨ret_bool HR.out.symm, HBl.out x6⟩
  by_cases h1 : ru = 1
  · subst h1
    have HR : Hid (ans = true) := HQ.out
    go_wp2
    go_ret
    exact ⟨ret_bool HR.out.symm, HBl.out x6⟩
  have HR : Hid (ans = false) := by unfold Hid; rw [HQ.out, ruleB, decide_eq_false h0, decide_eq_false h1]; rfl
  have q2 : (ru == 0) = false := by simp [h0]
  have q3 : (ru == 1) = false := by simp [h1]
  go_wp2
  go_ret
  exact ⟨ret_bool HR.out.symm, HBl.out x6⟩
end Go.Proofs.YtkinapfoigibcaaGreatDoor.ctr
