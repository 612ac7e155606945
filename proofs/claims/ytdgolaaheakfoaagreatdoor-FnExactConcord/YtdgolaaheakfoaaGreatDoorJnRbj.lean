/- Contracts of the laws' helpers over lists of dates (eqDate, eqDateS, markDateS, heldDateS): two lists alike are told alike; marks are written into a list's own row, and found there again; nothing else turns. Rows of days, ascending and none twice: such a row is told by what is in it. Plain, of no program. Contracts of both Meet: the first and the last day that two regimes have. -/
import Derived.Test.YtdgolaaheakfoaaGreatDoorJnRbh
import Derived.Deep.RegionWith
import Derived.Test.YtdgolaaheakfoaaGreatDoorJnRaa
import Derived.Test.YtdgolaaheakfoaaGreatDoorJnRbf
import Derived.Lib.MinMax
import Derived.Deep.DeepCutAuto
namespace Go.Proofs.YtdgolaaheakfoaaGreatDoor.ctr
open Go.RowKit
theorem eqDate1 (a0 a1 a2 a3 : Int) (w : World) : Calls Tryz.prog 62 #[.agg #[.int .i64 a0, .int .i64 a1, .int .i64 a2, .int .i64 a3], .agg #[.int .i64 a0, .int .i64 a1, .int .i64 a2, .int .i64 a3]] w fun e w' => e = .returned (.bool true) ∧ Below w.heap.size w w' := by
  go_enter Tryz.func62, Tryz.ntmps62
  go_wp2
  go_ret
  exact ⟨rfl, ((Below.refl _ _).alloc (Nat.le_refl _) _).alloc (by rw [World.size_alloc]; omega) _⟩
set_option maxHeartbeats 1000000 in
theorem eqDateS (v1 v2 : Value) (l : List Qd) (w : World) (hl : l.length ≤ 2000000) (h1 : QRow w v1 l) (h2 : QRow w v2 l) : Calls Tryz.prog 22 #[v1, v2] w fun e w' => e = .returned (.bool true) ∧ Below w.heap.size w w' := by
  obtain ⟨a1, c1, rfl, H1⟩ := h1
  obtain ⟨a2, c2, rfl, H2⟩ := h2
  have K1 := hideP H1
  have K2 := hideP H2
  clear H1 H2
  go_enter Tryz.func22, Tryz.ntmps22
  go_wp2
  go_loopw [5] (fun i wr => ∃ k : Nat, k ≤ l.length ∧ i = .int .i64 (k : Int) ∧ Below w.heap.size w wr) (fun i _ => l.length - (intOf i).toNat)
  case atStart => exact ⟨0, Nat.zero_le _, rfl, Below.refl _ _⟩
  case round =>
    obtain ⟨k, hk, rfl, hB⟩ := hrel
    have HB := hideP hB
    clear hB
    by_cases hlt : k < l.length
    · obtain ⟨g1, rfl, hg1, x1⟩ := K1.out k hlt
      obtain ⟨g2, rfl, hg2, x2⟩ := K2.out k hlt
      obtain ⟨a0, a1, a2, a3⟩ := (x1.below HB.out hg1).quad
      obtain ⟨b0, b1, b2, b3⟩ := (x2.below HB.out hg2).quad
      clear x1 x2
      generalize atK qdK l k = r at *
      go_wp2
      go_region_with (go_at_call 62; refine (eqDate1 _ _ _ _ _).mono ?_; rintro e w2 ⟨rfl, hb2⟩; have HB2 : Hid (Below w.heap.size w w2) := HB.out.trans ⟨hb2.os, hb2.tape, hb2.output, Nat.le_trans (Nat.le_refl _) hb2.size, fun j hj => hb2.block j (Nat.lt_of_lt_of_le hj HB.out.size)⟩; clear hb2)
      all_goals go_wp2
      all_goals exact ⟨⟨k + 1, by omega, by go_num, HB2.out⟩, by simp [intOf]; omega⟩
    · go_wp2
      go_ret
      exact ⟨rfl, HB.out⟩
set_option maxHeartbeats 2000000 in
theorem markDates (g cap n : Nat) (w : World) (hn : n ≤ 1048576) (ho : OwnC w g (n * 4)) :
    Calls Tryz.prog 23 #[.slice (some ⟨g, 0, none⟩) n cap, .int .i64 1] w fun e w' => e = .returned (.int .i64 ((n : Int) * 4 + 1)) ∧ QMst w g n (n * 4) w' := by
  have S0 : Hid (QMst w g n 0 w) := ⟨ho, fun j hj => by omega, ⟨rfl, rfl, rfl, Nat.le_refl _, fun _ _ _ => rfl⟩⟩
  clear ho
  go_enter Tryz.func23, Tryz.ntmps23
  go_wp2
  go_loopw [1, 5] (fun t i wr => ∃ k : Nat, k ≤ n ∧ i = .int .i64 (k : Int) ∧ t = .int .i64 ((k : Int) * 4 + 1) ∧ QMst w g n (k * 4) wr) (fun _ i _ => n - (intOf i).toNat)
  case atStart => exact ⟨0, Nat.zero_le _, rfl, rfl, S0.out⟩
  case round =>
    obtain ⟨k, hk, rfl, rfl, hM⟩ := hrel
    have HM := hideP hM
    clear hM S0
    by_cases hlt : k < n
    · obtain ⟨⟨u0, h0⟩, f0⟩ := HM.out.own (k * 4) (by omega)
      obtain ⟨⟨u1, h1⟩, f1⟩ := HM.out.own (k * 4 + 1) (by omega)
      obtain ⟨⟨u2, h2⟩, f2⟩ := HM.out.own (k * 4 + 2) (by omega)
      obtain ⟨⟨u3, h3⟩, f3⟩ := HM.out.own (k * 4 + 3) (by omega)
      have HN := hideP (HM.out.four hlt)
      go_wp2
      exact ⟨⟨k + 1, by omega, by go_num, by apply congrArg (Value.int .i64); omega, HN.out⟩, by simp [intOf]; omega⟩
    · obtain rfl : k = n := by omega
      go_wp2
      go_ret
      exact ⟨rfl, HM.out⟩
set_option maxHeartbeats 1000000 in
theorem markDateNone (a : Option Addr) (cap : Nat) (w : World) : Calls Tryz.prog 23 #[.slice a 0 cap, .int .i64 1] w fun e w' => e = .returned (.int .i64 1) ∧ w' = w := by
  go_enter Tryz.func23, Tryz.ntmps23
  go_wp2
  go_loopw [1, 5] (fun u i wr => i = .int .i64 0 ∧ u = .int .i64 1 ∧ wr = w) (fun _ _ _ => 0)
  case atStart => exact ⟨rfl, rfl, rfl⟩
  case round =>
    obtain ⟨rfl, rfl, rfl⟩ := hrel
    go_wp2
    go_ret
    exact ⟨rfl, rfl⟩
theorem markDateRow (W w : World) (v : Value) (xs : List Qd) (hn : xs.length ≤ 1048576) (h : QMov W w v xs) (hW : Below W.heap.size W w) :
    Calls Tryz.prog 23 #[v, .int .i64 1] w fun e w' => e = .returned (.int .i64 ((xs.length : Int) * 4 + 1)) ∧ Below W.heap.size W w' ∧ QMark w' v xs.length := by
  obtain ⟨ad, cap, rfl, h | ⟨g, t, zs, rfl, hg, hB⟩⟩ := h
  · subst h
    exact (markDateNone ad cap w).mono fun e w' ⟨he, hw⟩ => ⟨he, by rw [hw]; exact hW, ⟨ad, cap, rfl, fun j hj => by simp at hj⟩⟩
  · have ho : OwnC w g (xs.length * 4) := ownC_of hB (by rw [Array.size_append, iA_size]; exact Nat.le_add_right _ _)
    refine (markDates g cap xs.length w hn ho).mono ?_
    rintro e w' ⟨he, hM⟩
    exact ⟨he, hW.trans ⟨hM.grown.os, hM.grown.tape, hM.grown.output, Nat.le_trans (Nat.le_refl _) hM.grown.size, fun k hk => hM.grown.block k (Nat.lt_of_lt_of_le hk hW.size) (fun e => by have := Option.some.inj e; omega)⟩, ⟨_, cap, rfl, fun j hj => ⟨g, rfl, Nat.lt_of_lt_of_le hB.lt hM.grown.size, hM.mark j hj⟩⟩⟩
set_option maxHeartbeats 2000000 in
theorem heldDates (v : Value) (n : Nat) (w : World) (hn : n ≤ 1048576) (h : QMark w v n) :
    Calls Tryz.prog 24 #[v, .int .i64 1] w fun e w' => e = .returned (.int .i64 ((n : Int) * 4 + 1)) ∧ w' = w := by
  obtain ⟨ad, cap, rfl, H⟩ := h
  have HO := hideP H
  clear H
  go_enter Tryz.func24, Tryz.ntmps24
  go_wp2
  go_loopw [1, 5] (fun t i wr => ∃ k : Nat, k ≤ n ∧ i = .int .i64 (k : Int) ∧ t = .int .i64 ((k : Int) * 4 + 1) ∧ wr = w) (fun _ i _ => n - (intOf i).toNat)
  case atStart => exact ⟨0, Nat.zero_le _, rfl, rfl, rfl⟩
  case round =>
    obtain ⟨k, hk, rfl, rfl, rfl⟩ := hrel
    by_cases hlt : k < n
    · obtain ⟨g, rfl, _, x0⟩ := HO.out (k * 4) (by omega)
      have up : ∀ j, j < n * 4 → wr.cell? ⟨g, j, none⟩ = some (.int .i64 ((1 + j : Nat) : Int)) := fun j hj => by
        obtain ⟨g', e, _, x⟩ := HO.out j hj
        cases e
        exact x
      have e0 : wr.cell? ⟨g, k * 4, none⟩ = some (.int .i64 ((k : Int) * 4 + 1)) := by rw [up (k * 4) (by omega)]; congr 2; omega
      have e1 : wr.cell? ⟨g, k * 4 + 1, none⟩ = some (.int .i64 ((k : Int) * 4 + 1 + 1)) := by rw [up (k * 4 + 1) (by omega)]; congr 2; omega
      have e2 : wr.cell? ⟨g, k * 4 + 2, none⟩ = some (.int .i64 ((k : Int) * 4 + 1 + 1 + 1)) := by rw [up (k * 4 + 2) (by omega)]; congr 2; omega
      have e3 : wr.cell? ⟨g, k * 4 + 3, none⟩ = some (.int .i64 ((k : Int) * 4 + 1 + 1 + 1 + 1)) := by rw [up (k * 4 + 3) (by omega)]; congr 2; omega
      clear up x0
      go_wp2
      exact ⟨⟨k + 1, by omega, by go_num, by apply congrArg (Value.int .i64); omega, by first | rfl | trivial⟩, by simp [intOf]; omega⟩
    · obtain rfl : k = n := by omega
      go_wp2
      go_ret
      exact ⟨rfl, rfl⟩
end Go.Proofs.YtdgolaaheakfoaaGreatDoor.ctr
namespace Go.Proofs.YtdgolaaheakfoaaGreatDoor.ctr
def DSet (xs : List Int) (P : Int → Prop) : Prop := xs.Pairwise (· < ·) ∧ ∀ z, z ∈ xs ↔ P z
theorem dset_same : ∀ {xs ys : List Int}, xs.Pairwise (· < ·) → ys.Pairwise (· < ·) → (∀ z, z ∈ xs ↔ z ∈ ys) → xs = ys
  | [], [], _, _, _ => rfl
  | [], y :: ys, _, _, h => absurd ((h y).2 (List.mem_cons_self ..)) List.not_mem_nil
  | x :: xs, [], _, _, h => absurd ((h x).1 (List.mem_cons_self ..)) List.not_mem_nil
  | x :: xs, y :: ys, hx, hy, h => by
    obtain ⟨x1, x2⟩ := List.pairwise_cons.1 hx
    obtain ⟨y1, y2⟩ := List.pairwise_cons.1 hy
    have e : x = y := by
      have a := (h x).1 (List.mem_cons_self ..)
      have b := (h y).2 (List.mem_cons_self ..)
      rcases List.mem_cons.1 a with a | a
      · exact a
      · rcases List.mem_cons.1 b with b | b
        · exact b.symm
        · have := x1 _ b
          have := y1 _ a
          omega
    subst e
    rw [dset_same x2 y2 (fun z => ⟨fun hz => by
        rcases List.mem_cons.1 ((h z).1 (List.mem_cons_of_mem _ hz)) with e | e
        · have := x1 _ hz; omega
        · exact e, fun hz => by
        rcases List.mem_cons.1 ((h z).2 (List.mem_cons_of_mem _ hz)) with e | e
        · have := y1 _ hz; omega
        · exact e⟩)]
theorem DSet.eq {xs ys : List Int} {P : Int → Prop} (h : DSet xs P) (k : DSet ys P) : xs = ys := dset_same h.1 k.1 (fun z => (h.2 z).trans (k.2 z).symm)
theorem DSet.imp {xs : List Int} {P Q : Int → Prop} (h : DSet xs P) (k : ∀ z, P z ↔ Q z) : DSet xs Q := ⟨h.1, fun z => (h.2 z).trans (k z)⟩
theorem dset_nil {P : Int → Prop} (h : ∀ z, ¬ P z) : DSet [] P := ⟨List.Pairwise.nil, fun z => ⟨fun k => absurd k List.not_mem_nil, fun k => absurd k (h z)⟩⟩
theorem DSet.snoc {xs : List Int} {P Q : Int → Prop} {n : Int} (h : DSet xs P) (hn : ∀ z, P z → z < n) (hq : ∀ z, Q z ↔ P z ∨ z = n) : DSet (xs ++ [n]) Q := by
  refine ⟨List.pairwise_append.2 ⟨h.1, List.pairwise_singleton _ _, fun a ha b hb => ?_⟩, fun z => ?_⟩
  · rw [List.mem_singleton.1 hb]
    exact hn _ ((h.2 a).1 ha)
  · rw [List.mem_append, List.mem_singleton, h.2, hq]
def daysWhere (a b : Int) (p : Int → Bool) : List Int := ((List.range (b - a + 1).toNat).map (fun i : Nat => a + (i : Int))).filter p
theorem daysWhere_set (a b : Int) (p : Int → Bool) : DSet (daysWhere a b p) (fun z => a ≤ z ∧ z ≤ b ∧ p z = true) := by
  unfold daysWhere
  refine ⟨List.Pairwise.filter _ (List.pairwise_map.2 (List.Pairwise.imp (fun h => by omega) List.pairwise_lt_range)), fun z => ?_⟩
  rw [List.mem_filter, List.mem_map]
  constructor
  · rintro ⟨⟨i, hi, rfl⟩, hp⟩
    have := List.mem_range.1 hi
    exact ⟨by omega, by omega, hp⟩
  · rintro ⟨h1, h2, hp⟩
    exact ⟨⟨(z - a).toNat, List.mem_range.2 (by omega), by omega⟩, hp⟩
theorem daysWhere_len (a b : Int) (p : Int → Bool) : (daysWhere a b p).length ≤ (b - a + 1).toNat := by
  unfold daysWhere
  refine Nat.le_trans (List.length_filter_le ..) ?_
  simp
theorem dset_len {xs : List Int} {P : Int → Prop} {a b : Int} (h : DSet xs P) (hp : ∀ z, P z → a ≤ z ∧ z ≤ b) : xs.length ≤ (b - a + 1).toNat := by
  have e : xs = daysWhere a b (fun z => decide (z ∈ xs)) := DSet.eq (P := fun z => z ∈ xs) ⟨h.1, fun z => Iff.rfl⟩ ((daysWhere_set a b _).imp (fun z => ⟨fun k => of_decide_eq_true k.2.2, fun k => ⟨(hp z ((h.2 z).1 k)).1, (hp z ((h.2 z).1 k)).2, decide_eq_true k⟩⟩))
  rw [e]
  exact daysWhere_len a b _
end Go.Proofs.YtdgolaaheakfoaaGreatDoor.ctr
namespace Go.Proofs.YtdgolaaheakfoaaGreatDoor.ctr
open Go.RowKit
set_option linter.unusedSimpArgs false
noncomputable def meetB (r s : Rgm) : Bool := regimeB r && regimeB s && decide (max r.fr s.fr ≤ min r.to s.to)
noncomputable def meetF (r s : Rgm) : Int := if meetB r s = true then max r.fr s.fr else 0
noncomputable def meetL (r s : Rgm) : Int := if meetB r s = true then min r.to s.to else 0
set_option maxHeartbeats 8000000 in
theorem implMeet (v u : Value) (r s : Rgm) (a : Addr) (w : World) (h : GRow w v r) (g : GRow w u s) (ht : r.to ≤ 9223372036854775807) (gt : s.to ≤ 9223372036854775807) (hE : ErrT w) (hT : Tab w) (hS : Sent w a) : Calls Tryz.prog 94 #[v, u] w fun e w' => e = .returned (.tuple #[.int .i64 (meetF r s), .int .i64 (meetL r s)]) ∧ Below w.heap.size w w' := by
  have hG := h
  have hU := g
  obtain ⟨a1, c1, a2, c2, a3, c3, rfl⟩ := h.parts
  obtain ⟨b1, d1, b2, d2, b3, d3, rfl⟩ := g.parts
  obtain ⟨W0, e0, HR, HZ, HB⟩ := boxR w #[.string r.name, .int .i64 r.fr, .int .i64 r.to, .slice a1 r.segs.length c1, .slice a2 r.pats.length c2, .slice a3 r.rgns.length c3, .int .i64 r.rule] 40 #[.string s.name, .int .i64 s.fr, .int .i64 s.to, .slice b1 s.segs.length d1, .slice b2 s.pats.length d2, .slice b3 s.rgns.length d3, .int .i64 s.rule] 40
  obtain ⟨r0, r1, r2, r3, r4, r5, r6⟩ := sevenL HR.out
  obtain ⟨u0, u1, u2, u3, u4, u5, u6⟩ := sevenL HZ.out
  obtain ⟨ok1, ok1e⟩ : ∃ b, b = regimeB r := ⟨_, rfl⟩
  obtain ⟨ok2, ok2e⟩ : ∃ b, b = regimeB s := ⟨_, rfl⟩
  have K1 : ∀ y : Later W0, Calls Tryz.prog 58 #[.agg #[.string r.name, .int .i64 r.fr, .int .i64 r.to, .slice a1 r.segs.length c1, .slice a2 r.pats.length c2, .slice a3 r.rgns.length c3, .int .i64 r.rule]] y.w fun e w' => e = .returned (.bool ok1) ∧ Below y.w.heap.size y.w w' := fun y => by rw [ok1e]; exact implRegimeOk _ r a y.w (hG.below (HB.out y)) ht (hE.below (HB.out y)) (hT.later (HB.out y)) (hS.later (HB.out y))
  have K2 : ∀ y : Later W0, Calls Tryz.prog 58 #[.agg #[.string s.name, .int .i64 s.fr, .int .i64 s.to, .slice b1 s.segs.length d1, .slice b2 s.pats.length d2, .slice b3 s.rgns.length d3, .int .i64 s.rule]] y.w fun e w' => e = .returned (.bool ok2) ∧ Below y.w.heap.size y.w w' := fun y => by rw [ok2e]; exact implRegimeOk _ s a y.w (hU.below (HB.out y)) gt (hE.below (HB.out y)) (hT.later (HB.out y)) (hS.later (HB.out y))
  have E0 := hideP e0
  unfold meetF meetL meetB
  rw [← ok1e, ← ok2e]
  clear e0 hG h hU g ht gt hT hE hS HR HZ ok1e ok2e
  cases ok1
  · simp only [Bool.false_and, Bool.false_eq_true, if_false]
    go_enter Tryz.func94, Tryz.ntmps94
    go_wp2_with fail
    rw [← E0.out]
    refine (K1 ⟨W0, Below.refl _ _⟩).mono ?_
    rintro e w1 ⟨rfl, hb⟩
    obtain ⟨x1, rfl⟩ := Later.of hb
    clear hb
    go_wp2
    go_returns
    exact ⟨rfl, HB.out x1⟩
  cases ok2
  · simp only [Bool.and_false, Bool.false_and, Bool.false_eq_true, if_false]
    go_enter Tryz.func94, Tryz.ntmps94
    go_wp2_with fail
    rw [← E0.out]
    refine (K1 ⟨W0, Below.refl _ _⟩).mono ?_
    rintro e w1 ⟨rfl, hb⟩
    obtain ⟨x1, rfl⟩ := Later.of hb
    clear hb
    go_wp2_with fail
    refine (K2 x1).mono ?_
    rintro e w2 ⟨rfl, hb⟩
    obtain ⟨x2, rfl⟩ := x1.next hb
    clear hb
    go_wp2
    go_returns
    exact ⟨rfl, HB.out x2⟩
  have M1 : ∀ x y : Int, Hid ((if y > x then y else x) = max x y) := fun x y => by unfold Hid; omega
  have M2 : ∀ x y : Int, Hid ((if y < x then y else x) = min x y) := fun x y => by unfold Hid; omega
  by_cases hm : max r.fr s.fr ≤ min r.to s.to
  all_goals
    have HD : Hid (decide (min r.to s.to < max r.fr s.fr) = !decide (max r.fr s.fr ≤ min r.to s.to)) := by unfold Hid; simp only [hm, decide_true, decide_false]; first | exact decide_eq_false (by omega) | exact decide_eq_true (by omega)
    simp only [hm, decide_true, decide_false, Bool.true_and, Bool.false_and, Bool.and_false, Bool.false_eq_true, if_false, if_true] at HD ⊢
    have hd := HD.out
    clear HD hm
    go_enter Tryz.func94, Tryz.ntmps94
    go_wp2_with fail
    rw [← E0.out]
    refine (K1 ⟨W0, Below.refl _ _⟩).mono ?_
    rintro e w1 ⟨rfl, hb⟩
    obtain ⟨x1, rfl⟩ := Later.of hb
    clear hb
    go_wp2_with fail
    refine (K2 x1).mono ?_
    rintro e w2 ⟨rfl, hb⟩
    obtain ⟨x2, rfl⟩ := x1.next hb
    clear hb
    go_upto_region 3 with fail
    refine wp_region_later (W := W0) x2.below (by kernel_rfl) (by kernel_rfl) ?_
    repeat (go_big_quiet_step (fail))
    refine wpQuiet_nil ?_
    intro _ hw'
    obtain ⟨x3, rfl⟩ := hw'
    try rw [(M1 _ _).out]
    try rw [(M2 _ _).out]
    go_wp2
    go_returns
    exact ⟨rfl, HB.out x3⟩
end Go.Proofs.YtdgolaaheakfoaaGreatDoor.ctr
