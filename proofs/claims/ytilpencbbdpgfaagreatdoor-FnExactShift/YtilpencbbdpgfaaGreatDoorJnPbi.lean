/- Contracts of both ReadingOf: in a right regime, at a day of it, its reading; else the zero reading and false. Contract of the laws' eqReading at two readings alike: true. -/
import Derived.Test.YtilpencbbdpgfaaGreatDoorRdgOnIP
import Derived.Test.YtilpencbbdpgfaaGreatDoorRdgOnSP
import Derived.Test.YtilpencbbdpgfaaGreatDoorJnPax
import Derived.Test.YtilpencbbdpgfaaGreatDoorJnPaz
namespace Go.Proofs.YtilpencbbdpgfaaGreatDoor.ctr
open Go.RowKit
theorem boxR (w : World) (cs : Array Value) (t : TypeId) (u : Array Value) (s : TypeId) : ∃ W0, W0 = (w.alloc (.cells cs t)).alloc (.cells u s) ∧ Hid (∀ x : Later W0, Blk x.w w.heap.size cs t) ∧ Hid (∀ x : Later W0, Blk x.w (w.heap.size + 1) u s) ∧ Hid (∀ x : Later W0, Below w.heap.size w x.w) := by
  refine ⟨_, rfl, fun x => ((Blk.new _ _ _).alloc _).later x, fun x => ?_, fun x => below_alloc (below_alloc x.below)⟩
  have h := Blk.new (w.alloc (.cells cs t)) u s
  rw [World.size_alloc] at h
  exact h.later x
theorem sevenL {W : World} {b : Nat} {v0 v1 v2 v3 v4 v5 v6 : Value} {t : TypeId} (h : ∀ x : Later W, Blk x.w b #[v0, v1, v2, v3, v4, v5, v6] t) : (∀ x : Later W, x.w.cell? ⟨b, 0, none⟩ = some v0) ∧ (∀ x : Later W, x.w.cell? ⟨b, 1, none⟩ = some v1) ∧ (∀ x : Later W, x.w.cell? ⟨b, 2, none⟩ = some v2) ∧ (∀ x : Later W, x.w.cell? ⟨b, 3, none⟩ = some v3) ∧ (∀ x : Later W, x.w.cell? ⟨b, 4, none⟩ = some v4) ∧ (∀ x : Later W, x.w.cell? ⟨b, 5, none⟩ = some v5) ∧ ∀ x : Later W, x.w.cell? ⟨b, 6, none⟩ = some v6 :=
  ⟨fun x => (h x).cell 0 rfl, fun x => (h x).cell 1 rfl, fun x => (h x).cell 2 rfl, fun x => (h x).cell 3 rfl, fun x => (h x).cell 4 rfl, fun x => (h x).cell 5 rfl, fun x => (h x).cell 6 rfl⟩
theorem fiveL {W : World} {b : Nat} {v0 v1 v2 v3 v4 : Value} {t : TypeId} (h : ∀ x : Later W, Blk x.w b #[v0, v1, v2, v3, v4] t) : (∀ x : Later W, x.w.cell? ⟨b, 0, none⟩ = some v0) ∧ (∀ x : Later W, x.w.cell? ⟨b, 1, none⟩ = some v1) ∧ (∀ x : Later W, x.w.cell? ⟨b, 2, none⟩ = some v2) ∧ (∀ x : Later W, x.w.cell? ⟨b, 3, none⟩ = some v3) ∧ ∀ x : Later W, x.w.cell? ⟨b, 4, none⟩ = some v4 :=
  ⟨fun x => (h x).cell 0 rfl, fun x => (h x).cell 1 rfl, fun x => (h x).cell 2 rfl, fun x => (h x).cell 3 rfl, fun x => (h x).cell 4 rfl⟩
theorem fiveF {W : World} {b : Nat} {v0 v1 v2 v3 v4 : Value} {t : TypeId} (h : ∀ x : Later W, Blk x.w b #[v0, v1, v2, v3, v4] t) : (∀ x : Later W, x.w.frozen? ⟨b, 0, none⟩ = false) ∧ (∀ x : Later W, x.w.frozen? ⟨b, 1, none⟩ = false) ∧ (∀ x : Later W, x.w.frozen? ⟨b, 2, none⟩ = false) ∧ (∀ x : Later W, x.w.frozen? ⟨b, 3, none⟩ = false) ∧ ∀ x : Later W, x.w.frozen? ⟨b, 4, none⟩ = false :=
  ⟨fun x => (h x).thaw 0, fun x => (h x).thaw 1, fun x => (h x).thaw 2, fun x => (h x).thaw 3, fun x => (h x).thaw 4⟩
theorem GRow.parts {w : World} {v : Value} {r : Rgm} (h : GRow w v r) : ∃ a1 c1 a2 c2 a3 c3, v = .agg #[.string r.name, .int .i64 r.fr, .int .i64 r.to, .slice a1 r.segs.length c1, .slice a2 r.pats.length c2, .slice a3 r.rgns.length c3, .int .i64 r.rule] := by
  obtain ⟨v1, v2, v3, rfl, _, ⟨a1, c1, rfl, _⟩, ⟨a2, c2, rfl, _⟩, ⟨a3, c3, rfl, _⟩⟩ := h
  exact ⟨_, _, _, _, _, _, rfl⟩
theorem box7 (w : World) (v0 v1 v2 v3 v4 v5 v6 : Value) (t : TypeId) : ∃ W0, W0 = w.alloc (.cells #[v0, v1, v2, v3, v4, v5, v6] t) ∧ (∀ x : Later W0, Blk x.w w.heap.size #[v0, v1, v2, v3, v4, v5, v6] t) ∧ ∀ x : Later W0, Below w.heap.size w x.w := ⟨_, rfl, fun x => (Blk.new _ _ _).later x, fun x => below_alloc x.below⟩
noncomputable def hasB (r : Rgm) (n : Int) : Bool := regimeB r && decide (r.fr ≤ n) && decide (n ≤ r.to)
theorem hasB_yes {r : Rgm} {n : Int} (h : hasB r n = true) : regimeB r = true ∧ r.fr ≤ n ∧ n ≤ r.to := by
  unfold hasB at h
  simp only [Bool.and_eq_true, decide_eq_true_eq] at h
  exact ⟨h.1.1, h.1.2, h.2⟩
theorem hasB_no {r : Rgm} {n : Int} (h : hasB r n = false) : ¬ (regimeB r = true ∧ r.fr ≤ n ∧ n ≤ r.to) := by
  rintro ⟨h1, h2, h3⟩
  unfold hasB at h
  rw [h1, decide_eq_true h2, decide_eq_true h3] at h
  cases h
theorem readR_yes {r : Rgm} {n : Int} (h : regimeB r = true) (h1 : r.fr ≤ n) (h2 : n ≤ r.to) : readR r n = .tuple #[rdgV (rdgOn r n), .bool true] := by unfold readR; rw [if_pos ⟨h, h1, h2⟩]
theorem readR_no {r : Rgm} {n : Int} (h : ¬ (regimeB r = true ∧ r.fr ≤ n ∧ n ≤ r.to)) : readR r n = .tuple #[rdgV rdg0, .bool false] := by unfold readR; rw [if_neg h]
set_option maxHeartbeats 2000000 in
theorem specReadNo (v : Value) (r : Rgm) (n : Int) (w : World) (h : GRow w v r) (hn : segAt r.segs n = -1) : Calls Tryz.prog 57 #[v, .int .i64 n] w fun e w' => e = .returned (.tuple #[rdgV rdg0, .bool false]) ∧ Below w.heap.size w w' := by
  have hG := h
  obtain ⟨v1, v2, v3, rfl, _, x1, x2, x3⟩ := h
  obtain ⟨a1, c1, rfl, _⟩ := x1
  obtain ⟨a2, c2, rfl, _⟩ := x2
  obtain ⟨a3, c3, rfl, _⟩ := x3
  obtain ⟨W0, e0, HR, HZ, HB⟩ := boxR w #[.string r.name, .int .i64 r.fr, .int .i64 r.to, .slice a1 r.segs.length c1, .slice a2 r.pats.length c2, .slice a3 r.rgns.length c3, .int .i64 r.rule] 36 #[.int .i64 0, .int .i64 0, .int .i64 0, .int .i64 0, .int .i64 0] 29
  have hG0 : Hid (∀ y : Later W0, GRow y.w (.agg #[.string r.name, .int .i64 r.fr, .int .i64 r.to, .slice a1 r.segs.length c1, .slice a2 r.pats.length c2, .slice a3 r.rgns.length c3, .int .i64 r.rule]) r) := fun y => GRow.below hG (HB.out y)
  have R0 : ∀ y : Later W0, y.w.cell? ⟨w.heap.size, 0, none⟩ = some (.string r.name) := fun y => (HR.out y).cell 0 rfl
  have R1 : ∀ y : Later W0, y.w.cell? ⟨w.heap.size, 1, none⟩ = some (.int .i64 r.fr) := fun y => (HR.out y).cell 1 rfl
  have R2 : ∀ y : Later W0, y.w.cell? ⟨w.heap.size, 2, none⟩ = some (.int .i64 r.to) := fun y => (HR.out y).cell 2 rfl
  have R3 : ∀ y : Later W0, y.w.cell? ⟨w.heap.size, 3, none⟩ = some (.slice a1 r.segs.length c1) := fun y => (HR.out y).cell 3 rfl
  have R4 : ∀ y : Later W0, y.w.cell? ⟨w.heap.size, 4, none⟩ = some (.slice a2 r.pats.length c2) := fun y => (HR.out y).cell 4 rfl
  have R5 : ∀ y : Later W0, y.w.cell? ⟨w.heap.size, 5, none⟩ = some (.slice a3 r.rgns.length c3) := fun y => (HR.out y).cell 5 rfl
  have R6 : ∀ y : Later W0, y.w.cell? ⟨w.heap.size, 6, none⟩ = some (.int .i64 r.rule) := fun y => (HR.out y).cell 6 rfl
  have u0 : ∀ y : Later W0, y.w.cell? ⟨w.heap.size + 1, 0, none⟩ = some (.int .i64 0) := fun y => (HZ.out y).cell 0 rfl
  have f0 : ∀ y : Later W0, y.w.frozen? ⟨w.heap.size + 1, 0, none⟩ = false := fun y => (HZ.out y).thaw 0
  have u1 : ∀ y : Later W0, y.w.cell? ⟨w.heap.size + 1, 1, none⟩ = some (.int .i64 0) := fun y => (HZ.out y).cell 1 rfl
  have f1 : ∀ y : Later W0, y.w.frozen? ⟨w.heap.size + 1, 1, none⟩ = false := fun y => (HZ.out y).thaw 1
  have u2 : ∀ y : Later W0, y.w.cell? ⟨w.heap.size + 1, 2, none⟩ = some (.int .i64 0) := fun y => (HZ.out y).cell 2 rfl
  have f2 : ∀ y : Later W0, y.w.frozen? ⟨w.heap.size + 1, 2, none⟩ = false := fun y => (HZ.out y).thaw 2
  have u3 : ∀ y : Later W0, y.w.cell? ⟨w.heap.size + 1, 3, none⟩ = some (.int .i64 0) := fun y => (HZ.out y).cell 3 rfl
  have f3 : ∀ y : Later W0, y.w.frozen? ⟨w.heap.size + 1, 3, none⟩ = false := fun y => (HZ.out y).thaw 3
  have u4 : ∀ y : Later W0, y.w.cell? ⟨w.heap.size + 1, 4, none⟩ = some (.int .i64 0) := fun y => (HZ.out y).cell 4 rfl
  have f4 : ∀ y : Later W0, y.w.frozen? ⟨w.heap.size + 1, 4, none⟩ = false := fun y => (HZ.out y).thaw 4
  have E0 := hideP e0
  have KS : ∀ y : Later W0, Calls Tryz.prog 105 #[.agg #[.string r.name, .int .i64 r.fr, .int .i64 r.to, .slice a1 r.segs.length c1, .slice a2 r.pats.length c2, .slice a3 r.rgns.length c3, .int .i64 r.rule], .int .i64 n] y.w fun e w' => e = .returned (.int .i64 (-1)) ∧ Below y.w.heap.size y.w w' := fun y => by
    have k := specSegAt _ r n y.w (hG0.out y)
    rw [hn] at k
    exact k
  clear e0 hG hn
  go_enter Tryz.func57, Tryz.ntmps57
  go_wp2_with fail
  rw [← E0.out]
  refine (KS ⟨W0, Below.refl _ _⟩).mono ?_
  rintro e w1 ⟨rfl, hb⟩
  obtain ⟨x1, rfl⟩ := Later.of hb
  clear hb
  go_wp2
  obtain ⟨W9, e9⟩ : ∃ W9, W9 = ((((x1.w.setCell ⟨w.heap.size + 1, 0, none⟩ (.int .i64 0)).setCell ⟨w.heap.size + 1, 1, none⟩ (.int .i64 0)).setCell ⟨w.heap.size + 1, 2, none⟩ (.int .i64 0)).setCell ⟨w.heap.size + 1, 3, none⟩ (.int .i64 0)).setCell ⟨w.heap.size + 1, 4, none⟩ (.int .i64 0) := ⟨_, rfl⟩
  have Z9 : Blk W9 (w.heap.size + 1) #[.int .i64 0, .int .i64 0, .int .i64 0, .int .i64 0, .int .i64 0] 29 := by rw [e9]; exact ((((((HZ.out x1).set 0 _).set 1 _).set 2 _).set 3 _).set 4 _)
  have B9 : Below w.heap.size w W9 := by rw [e9]; exact (Below.setCell (Below.setCell (Below.setCell (Below.setCell (Below.setCell (HB.out x1) (p := ⟨w.heap.size + 1, 0, none⟩) (show w.heap.size ≤ w.heap.size + 1 by omega) _) (p := ⟨w.heap.size + 1, 1, none⟩) (show w.heap.size ≤ w.heap.size + 1 by omega) _) (p := ⟨w.heap.size + 1, 2, none⟩) (show w.heap.size ≤ w.heap.size + 1 by omega) _) (p := ⟨w.heap.size + 1, 3, none⟩) (show w.heap.size ≤ w.heap.size + 1 by omega) _) (p := ⟨w.heap.size + 1, 4, none⟩) (show w.heap.size ≤ w.heap.size + 1 by omega) _)
  rw [← e9]
  clear e9
  have q0 : W9.cell? ⟨w.heap.size + 1, 0, none⟩ = some (.int .i64 0) := Z9.cell 0 rfl
  have q1 : W9.cell? ⟨w.heap.size + 1, 1, none⟩ = some (.int .i64 0) := Z9.cell 1 rfl
  have q2 : W9.cell? ⟨w.heap.size + 1, 2, none⟩ = some (.int .i64 0) := Z9.cell 2 rfl
  have q3 : W9.cell? ⟨w.heap.size + 1, 3, none⟩ = some (.int .i64 0) := Z9.cell 3 rfl
  have q4 : W9.cell? ⟨w.heap.size + 1, 4, none⟩ = some (.int .i64 0) := Z9.cell 4 rfl
  exact bodyPost_ret (by simp [results, Tryz.results57, go_sem, q0, q1, q2, q3, q4]; try rfl) rfl ⟨rfl, B9⟩
set_option maxHeartbeats 4000000 in
theorem specReadingOf (v : Value) (r : Rgm) (n : Int) (w : World) (h : GRow w v r) (hf : -9223372036854775808 ≤ r.fr) (ht : r.to ≤ 9223372036854775807) : Calls Tryz.prog 16 #[v, .int .i64 n] w fun e w' => e = .returned (readR r n) ∧ Below w.heap.size w w' := by
  have hG := h
  obtain ⟨v1, v2, v3, rfl, _, x1, x2, x3⟩ := h
  obtain ⟨a1, c1, rfl, _⟩ := x1
  obtain ⟨a2, c2, rfl, _⟩ := x2
  obtain ⟨a3, c3, rfl, _⟩ := x3
  obtain ⟨W0, e0, HR, HZ, HB⟩ := boxR w #[.string r.name, .int .i64 r.fr, .int .i64 r.to, .slice a1 r.segs.length c1, .slice a2 r.pats.length c2, .slice a3 r.rgns.length c3, .int .i64 r.rule] 36 #[.int .i64 0, .int .i64 0, .int .i64 0, .int .i64 0, .int .i64 0] 29
  have hG0 : Hid (∀ y : Later W0, GRow y.w (.agg #[.string r.name, .int .i64 r.fr, .int .i64 r.to, .slice a1 r.segs.length c1, .slice a2 r.pats.length c2, .slice a3 r.rgns.length c3, .int .i64 r.rule]) r) := fun y => GRow.below hG (HB.out y)
  have R0 : ∀ y : Later W0, y.w.cell? ⟨w.heap.size, 0, none⟩ = some (.string r.name) := fun y => (HR.out y).cell 0 rfl
  have R1 : ∀ y : Later W0, y.w.cell? ⟨w.heap.size, 1, none⟩ = some (.int .i64 r.fr) := fun y => (HR.out y).cell 1 rfl
  have R2 : ∀ y : Later W0, y.w.cell? ⟨w.heap.size, 2, none⟩ = some (.int .i64 r.to) := fun y => (HR.out y).cell 2 rfl
  have R3 : ∀ y : Later W0, y.w.cell? ⟨w.heap.size, 3, none⟩ = some (.slice a1 r.segs.length c1) := fun y => (HR.out y).cell 3 rfl
  have R4 : ∀ y : Later W0, y.w.cell? ⟨w.heap.size, 4, none⟩ = some (.slice a2 r.pats.length c2) := fun y => (HR.out y).cell 4 rfl
  have R5 : ∀ y : Later W0, y.w.cell? ⟨w.heap.size, 5, none⟩ = some (.slice a3 r.rgns.length c3) := fun y => (HR.out y).cell 5 rfl
  have R6 : ∀ y : Later W0, y.w.cell? ⟨w.heap.size, 6, none⟩ = some (.int .i64 r.rule) := fun y => (HR.out y).cell 6 rfl
  have u0 : ∀ y : Later W0, y.w.cell? ⟨w.heap.size + 1, 0, none⟩ = some (.int .i64 0) := fun y => (HZ.out y).cell 0 rfl
  have f0 : ∀ y : Later W0, y.w.frozen? ⟨w.heap.size + 1, 0, none⟩ = false := fun y => (HZ.out y).thaw 0
  have u1 : ∀ y : Later W0, y.w.cell? ⟨w.heap.size + 1, 1, none⟩ = some (.int .i64 0) := fun y => (HZ.out y).cell 1 rfl
  have f1 : ∀ y : Later W0, y.w.frozen? ⟨w.heap.size + 1, 1, none⟩ = false := fun y => (HZ.out y).thaw 1
  have u2 : ∀ y : Later W0, y.w.cell? ⟨w.heap.size + 1, 2, none⟩ = some (.int .i64 0) := fun y => (HZ.out y).cell 2 rfl
  have f2 : ∀ y : Later W0, y.w.frozen? ⟨w.heap.size + 1, 2, none⟩ = false := fun y => (HZ.out y).thaw 2
  have u3 : ∀ y : Later W0, y.w.cell? ⟨w.heap.size + 1, 3, none⟩ = some (.int .i64 0) := fun y => (HZ.out y).cell 3 rfl
  have f3 : ∀ y : Later W0, y.w.frozen? ⟨w.heap.size + 1, 3, none⟩ = false := fun y => (HZ.out y).thaw 3
  have u4 : ∀ y : Later W0, y.w.cell? ⟨w.heap.size + 1, 4, none⟩ = some (.int .i64 0) := fun y => (HZ.out y).cell 4 rfl
  have f4 : ∀ y : Later W0, y.w.frozen? ⟨w.heap.size + 1, 4, none⟩ = false := fun y => (HZ.out y).thaw 4
  have E0 := hideP e0
  have KO : ∀ y : Later W0, Calls Tryz.prog 56 #[.agg #[.string r.name, .int .i64 r.fr, .int .i64 r.to, .slice a1 r.segs.length c1, .slice a2 r.pats.length c2, .slice a3 r.rgns.length c3, .int .i64 r.rule]] y.w fun e w' => e = .returned (.bool (regimeB r)) ∧ Below y.w.heap.size y.w w' := fun y => specRegimeOk _ r y.w (hG0.out y) hf ht
  have KR : regimeB r = true → r.fr ≤ n → n ≤ r.to → ∀ y : Later W0, Calls Tryz.prog 57 #[.agg #[.string r.name, .int .i64 r.fr, .int .i64 r.to, .slice a1 r.segs.length c1, .slice a2 r.pats.length c2, .slice a3 r.rgns.length c3, .int .i64 r.rule], .int .i64 n] y.w fun e w' => e = .returned (.tuple #[rdgV (rdgOn r n), .bool true]) ∧ Below y.w.heap.size y.w w' := fun k0 k1 k2 y => specRead _ r n y.w (hG0.out y) k0 k1 k2
  have KN : regimeB r = true → ¬ (r.fr ≤ n ∧ n ≤ r.to) → ∀ y : Later W0, Calls Tryz.prog 57 #[.agg #[.string r.name, .int .i64 r.fr, .int .i64 r.to, .slice a1 r.segs.length c1, .slice a2 r.pats.length c2, .slice a3 r.rgns.length c3, .int .i64 r.rule], .int .i64 n] y.w fun e w' => e = .returned (.tuple #[rdgV rdg0, .bool false]) ∧ Below y.w.heap.size y.w w' := fun k0 k1 y => specReadNo _ r n y.w (hG0.out y) (by
    rcases segAt_cases r.segs n with ⟨k, _⟩ | ⟨j, _, k, _⟩
    · exact k
    · exact absurd ((seg_fact k0 n).1 (by omega)) k1)
  clear e0 hG hf ht
  cases hR : regimeB r
  · rw [readR_no (by rw [hR]; simp)]
    rw [hR] at KO
    clear KR KN
    go_enter Tryz.func16, Tryz.ntmps16
    go_wp2_with fail
    rw [← E0.out]
    refine (KO ⟨W0, Below.refl _ _⟩).mono ?_
    rintro e w1 ⟨rfl, hb⟩
    obtain ⟨x1, rfl⟩ := Later.of hb
    clear hb
    go_wp2
    obtain ⟨W9, e9⟩ : ∃ W9, W9 = ((((x1.w.setCell ⟨w.heap.size + 1, 0, none⟩ (.int .i64 0)).setCell ⟨w.heap.size + 1, 1, none⟩ (.int .i64 0)).setCell ⟨w.heap.size + 1, 2, none⟩ (.int .i64 0)).setCell ⟨w.heap.size + 1, 3, none⟩ (.int .i64 0)).setCell ⟨w.heap.size + 1, 4, none⟩ (.int .i64 0) := ⟨_, rfl⟩
    have Z9 : Blk W9 (w.heap.size + 1) #[.int .i64 0, .int .i64 0, .int .i64 0, .int .i64 0, .int .i64 0] 29 := by rw [e9]; exact ((((((HZ.out x1).set 0 _).set 1 _).set 2 _).set 3 _).set 4 _)
    have B9 : Below w.heap.size w W9 := by rw [e9]; exact (Below.setCell (Below.setCell (Below.setCell (Below.setCell (Below.setCell (HB.out x1) (p := ⟨w.heap.size + 1, 0, none⟩) (show w.heap.size ≤ w.heap.size + 1 by omega) _) (p := ⟨w.heap.size + 1, 1, none⟩) (show w.heap.size ≤ w.heap.size + 1 by omega) _) (p := ⟨w.heap.size + 1, 2, none⟩) (show w.heap.size ≤ w.heap.size + 1 by omega) _) (p := ⟨w.heap.size + 1, 3, none⟩) (show w.heap.size ≤ w.heap.size + 1 by omega) _) (p := ⟨w.heap.size + 1, 4, none⟩) (show w.heap.size ≤ w.heap.size + 1 by omega) _)
    rw [← e9]
    clear e9
    have q0 : W9.cell? ⟨w.heap.size + 1, 0, none⟩ = some (.int .i64 0) := Z9.cell 0 rfl
    have q1 : W9.cell? ⟨w.heap.size + 1, 1, none⟩ = some (.int .i64 0) := Z9.cell 1 rfl
    have q2 : W9.cell? ⟨w.heap.size + 1, 2, none⟩ = some (.int .i64 0) := Z9.cell 2 rfl
    have q3 : W9.cell? ⟨w.heap.size + 1, 3, none⟩ = some (.int .i64 0) := Z9.cell 3 rfl
    have q4 : W9.cell? ⟨w.heap.size + 1, 4, none⟩ = some (.int .i64 0) := Z9.cell 4 rfl
    exact bodyPost_ret (by simp [results, Tryz.results16, go_sem, q0, q1, q2, q3, q4]; try rfl) rfl ⟨rfl, B9⟩
  rw [hR] at KO
  by_cases h1 : r.fr ≤ n ∧ n ≤ r.to
  · rw [readR_yes hR h1.1 h1.2]
    have K := KR hR h1.1 h1.2
    clear KR KN
    generalize rdgOn r n = x at *
    go_enter Tryz.func16, Tryz.ntmps16
    go_wp2_with fail
    rw [← E0.out]
    refine (KO ⟨W0, Below.refl _ _⟩).mono ?_
    rintro e w1 ⟨rfl, hb⟩
    obtain ⟨x1, rfl⟩ := Later.of hb
    clear hb
    go_wp2_with fail
    refine (K x1).mono ?_
    rintro e w2 ⟨rfl, hb⟩
    obtain ⟨x2, rfl⟩ := x1.next hb
    clear hb
    go_wp2
    obtain ⟨W9, e9⟩ : ∃ W9, W9 = ((((x2.w.setCell ⟨w.heap.size + 1, 0, none⟩ (.int .i64 x.cal)).setCell ⟨w.heap.size + 1, 1, none⟩ (.int .i64 x.year)).setCell ⟨w.heap.size + 1, 2, none⟩ (.int .i64 x.sol)).setCell ⟨w.heap.size + 1, 3, none⟩ (.int .i64 x.mon)).setCell ⟨w.heap.size + 1, 4, none⟩ (.int .i64 x.day) := ⟨_, rfl⟩
    have Z9 : Blk W9 (w.heap.size + 1) #[.int .i64 x.cal, .int .i64 x.year, .int .i64 x.sol, .int .i64 x.mon, .int .i64 x.day] 29 := by rw [e9]; exact ((((((HZ.out x2).set 0 _).set 1 _).set 2 _).set 3 _).set 4 _)
    have B9 : Below w.heap.size w W9 := by rw [e9]; exact (Below.setCell (Below.setCell (Below.setCell (Below.setCell (Below.setCell (HB.out x2) (p := ⟨w.heap.size + 1, 0, none⟩) (show w.heap.size ≤ w.heap.size + 1 by omega) _) (p := ⟨w.heap.size + 1, 1, none⟩) (show w.heap.size ≤ w.heap.size + 1 by omega) _) (p := ⟨w.heap.size + 1, 2, none⟩) (show w.heap.size ≤ w.heap.size + 1 by omega) _) (p := ⟨w.heap.size + 1, 3, none⟩) (show w.heap.size ≤ w.heap.size + 1 by omega) _) (p := ⟨w.heap.size + 1, 4, none⟩) (show w.heap.size ≤ w.heap.size + 1 by omega) _)
    rw [← e9]
    clear e9
    have q0 : W9.cell? ⟨w.heap.size + 1, 0, none⟩ = some (.int .i64 x.cal) := Z9.cell 0 rfl
    have q1 : W9.cell? ⟨w.heap.size + 1, 1, none⟩ = some (.int .i64 x.year) := Z9.cell 1 rfl
    have q2 : W9.cell? ⟨w.heap.size + 1, 2, none⟩ = some (.int .i64 x.sol) := Z9.cell 2 rfl
    have q3 : W9.cell? ⟨w.heap.size + 1, 3, none⟩ = some (.int .i64 x.mon) := Z9.cell 3 rfl
    have q4 : W9.cell? ⟨w.heap.size + 1, 4, none⟩ = some (.int .i64 x.day) := Z9.cell 4 rfl
    exact bodyPost_ret (by simp [results, Tryz.results16, go_sem, q0, q1, q2, q3, q4]; try rfl) rfl ⟨rfl, B9⟩
  · rw [readR_no (fun k => h1 k.2)]
    have K := KN hR h1
    clear KR KN
    go_enter Tryz.func16, Tryz.ntmps16
    go_wp2_with fail
    rw [← E0.out]
    refine (KO ⟨W0, Below.refl _ _⟩).mono ?_
    rintro e w1 ⟨rfl, hb⟩
    obtain ⟨x1, rfl⟩ := Later.of hb
    clear hb
    go_wp2_with fail
    refine (K x1).mono ?_
    rintro e w2 ⟨rfl, hb⟩
    obtain ⟨x2, rfl⟩ := x1.next hb
    clear hb
    go_wp2
    obtain ⟨W9, e9⟩ : ∃ W9, W9 = ((((x2.w.setCell ⟨w.heap.size + 1, 0, none⟩ (.int .i64 0)).setCell ⟨w.heap.size + 1, 1, none⟩ (.int .i64 0)).setCell ⟨w.heap.size + 1, 2, none⟩ (.int .i64 0)).setCell ⟨w.heap.size + 1, 3, none⟩ (.int .i64 0)).setCell ⟨w.heap.size + 1, 4, none⟩ (.int .i64 0) := ⟨_, rfl⟩
    have Z9 : Blk W9 (w.heap.size + 1) #[.int .i64 0, .int .i64 0, .int .i64 0, .int .i64 0, .int .i64 0] 29 := by rw [e9]; exact ((((((HZ.out x2).set 0 _).set 1 _).set 2 _).set 3 _).set 4 _)
    have B9 : Below w.heap.size w W9 := by rw [e9]; exact (Below.setCell (Below.setCell (Below.setCell (Below.setCell (Below.setCell (HB.out x2) (p := ⟨w.heap.size + 1, 0, none⟩) (show w.heap.size ≤ w.heap.size + 1 by omega) _) (p := ⟨w.heap.size + 1, 1, none⟩) (show w.heap.size ≤ w.heap.size + 1 by omega) _) (p := ⟨w.heap.size + 1, 2, none⟩) (show w.heap.size ≤ w.heap.size + 1 by omega) _) (p := ⟨w.heap.size + 1, 3, none⟩) (show w.heap.size ≤ w.heap.size + 1 by omega) _) (p := ⟨w.heap.size + 1, 4, none⟩) (show w.heap.size ≤ w.heap.size + 1 by omega) _)
    rw [← e9]
    clear e9
    have q0 : W9.cell? ⟨w.heap.size + 1, 0, none⟩ = some (.int .i64 0) := Z9.cell 0 rfl
    have q1 : W9.cell? ⟨w.heap.size + 1, 1, none⟩ = some (.int .i64 0) := Z9.cell 1 rfl
    have q2 : W9.cell? ⟨w.heap.size + 1, 2, none⟩ = some (.int .i64 0) := Z9.cell 2 rfl
    have q3 : W9.cell? ⟨w.heap.size + 1, 3, none⟩ = some (.int .i64 0) := Z9.cell 3 rfl
    have q4 : W9.cell? ⟨w.heap.size + 1, 4, none⟩ = some (.int .i64 0) := Z9.cell 4 rfl
    exact bodyPost_ret (by simp [results, Tryz.results16, go_sem, q0, q1, q2, q3, q4]; try rfl) rfl ⟨rfl, B9⟩
set_option maxHeartbeats 4000000 in
theorem implHasReading (v : Value) (r : Rgm) (n : Int) (a : Addr) (w : World) (h : GRow w v r) (ht : r.to ≤ 9223372036854775807) (hE : ErrT w) (hT : Tab w) (hS : Sent w a) : Calls Tryz.prog 61 #[v, .int .i64 n] w fun e w' => e = .returned (.bool (hasB r n)) ∧ Below w.heap.size w w' := by
  have hG := h
  obtain ⟨a1, c1, a2, c2, a3, c3, rfl⟩ := h.parts
  obtain ⟨W0, e0, HR, HB⟩ := box7 w (.string r.name) (.int .i64 r.fr) (.int .i64 r.to) (.slice a1 r.segs.length c1) (.slice a2 r.pats.length c2) (.slice a3 r.rgns.length c3) (.int .i64 r.rule) 36
  obtain ⟨d0, d1, d2, d3, d4, d5, d6⟩ := sevenL HR
  have KO : ∀ y : Later W0, Calls Tryz.prog 69 #[.agg #[.string r.name, .int .i64 r.fr, .int .i64 r.to, .slice a1 r.segs.length c1, .slice a2 r.pats.length c2, .slice a3 r.rgns.length c3, .int .i64 r.rule]] y.w fun e w' => e = .returned (.bool (regimeB r)) ∧ Below y.w.heap.size y.w w' := fun y => implRegimeOk _ r a y.w (hG.below (HB y)) ht (hE.below (HB y)) (hT.later (HB y)) (hS.later (HB y))
  have E0 := hideP e0
  have HB := hideP HB
  unfold hasB
  generalize regimeB r = ok at *
  clear e0 hG h ht hE hT hS HR
  obtain ⟨b1, hd1⟩ : ∃ b, decide (r.fr ≤ n) = b := ⟨_, rfl⟩
  obtain ⟨b2, hd2⟩ : ∃ b, decide (n ≤ r.to) = b := ⟨_, rfl⟩
  rw [hd1, hd2]
  cases b1
  all_goals cases b2
  all_goals
    cases ok
    all_goals
      go_enter Tryz.func61, Tryz.ntmps61
      go_wp2_with fail
      rw [← E0.out]
      refine (KO ⟨W0, Below.refl _ _⟩).mono ?_
      rintro e w1 ⟨rfl, hb⟩
      obtain ⟨x1, rfl⟩ := Later.of hb
      clear hb
      go_wp2
      go_returns
      exact ⟨rfl, HB.out x1⟩
set_option maxHeartbeats 4000000 in
theorem implReadingOf (v : Value) (r : Rgm) (n : Int) (a : Addr) (w : World) (h : GRow w v r) (ht : r.to ≤ 9223372036854775807) (hE : ErrT w) (hT : Tab w) (hS : Sent w a) : Calls Tryz.prog 18 #[v, .int .i64 n] w fun e w' => e = .returned (readR r n) ∧ Below w.heap.size w w' := by
  have hG := h
  obtain ⟨a1, c1, a2, c2, a3, c3, rfl⟩ := h.parts
  obtain ⟨W0, e0, HR, HZ, HB⟩ := boxR w #[.string r.name, .int .i64 r.fr, .int .i64 r.to, .slice a1 r.segs.length c1, .slice a2 r.pats.length c2, .slice a3 r.rgns.length c3, .int .i64 r.rule] 36 #[.int .i64 0, .int .i64 0, .int .i64 0, .int .i64 0, .int .i64 0] 29
  obtain ⟨d0, d1, d2, d3, d4, d5, d6⟩ := sevenL HR.out
  obtain ⟨u0, u1, u2, u3, u4⟩ := fiveL HZ.out
  obtain ⟨f0, f1, f2, f3, f4⟩ := fiveF HZ.out
  have hG0 : ∀ y : Later W0, GRow y.w _ r := fun y => GRow.below hG (HB.out y)
  have KO : ∀ y : Later W0, Calls Tryz.prog 61 #[.agg #[.string r.name, .int .i64 r.fr, .int .i64 r.to, .slice a1 r.segs.length c1, .slice a2 r.pats.length c2, .slice a3 r.rgns.length c3, .int .i64 r.rule], .int .i64 n] y.w fun e w' => e = .returned (.bool (hasB r n)) ∧ Below y.w.heap.size y.w w' := fun y => implHasReading _ r n a y.w (hG0 y) ht (hE.below (HB.out y)) (hT.later (HB.out y)) (hS.later (HB.out y))
  have KR : regimeB r = true → r.fr ≤ n → n ≤ r.to → ∀ y : Later W0, Calls Tryz.prog 62 #[.agg #[.string r.name, .int .i64 r.fr, .int .i64 r.to, .slice a1 r.segs.length c1, .slice a2 r.pats.length c2, .slice a3 r.rgns.length c3, .int .i64 r.rule], .int .i64 n] y.w fun e w' => e = .returned (rdgV (rdgOn r n)) ∧ Below y.w.heap.size y.w w' := fun k0 k1 k2 y => implReadingOn _ r n y.w (hG0 y) k0 k1 k2 (hT.later (HB.out y))
  have E0 := hideP e0
  clear e0 hG h hG0 ht hE hT hS
  have key : ∀ (x : Rdg) (x1 : Later W0), ∃ W9, W9 = ((((x1.w.setCell ⟨w.heap.size + 1, 0, none⟩ (.int .i64 x.cal)).setCell ⟨w.heap.size + 1, 1, none⟩ (.int .i64 x.year)).setCell ⟨w.heap.size + 1, 2, none⟩ (.int .i64 x.sol)).setCell ⟨w.heap.size + 1, 3, none⟩ (.int .i64 x.mon)).setCell ⟨w.heap.size + 1, 4, none⟩ (.int .i64 x.day) ∧ Blk W9 (w.heap.size + 1) #[.int .i64 x.cal, .int .i64 x.year, .int .i64 x.sol, .int .i64 x.mon, .int .i64 x.day] 29 ∧ Below w.heap.size w W9 := fun x x1 => ⟨_, rfl, ((((((HZ.out x1).set 0 _).set 1 _).set 2 _).set 3 _).set 4 _), (Below.setCell (Below.setCell (Below.setCell (Below.setCell (Below.setCell (HB.out x1) (p := ⟨w.heap.size + 1, 0, none⟩) (show w.heap.size ≤ w.heap.size + 1 by omega) _) (p := ⟨w.heap.size + 1, 1, none⟩) (show w.heap.size ≤ w.heap.size + 1 by omega) _) (p := ⟨w.heap.size + 1, 2, none⟩) (show w.heap.size ≤ w.heap.size + 1 by omega) _) (p := ⟨w.heap.size + 1, 3, none⟩) (show w.heap.size ≤ w.heap.size + 1 by omega) _) (p := ⟨w.heap.size + 1, 4, none⟩) (show w.heap.size ≤ w.heap.size + 1 by omega) _)⟩
  have Key := hideP key
  clear key
  cases hb0 : hasB r n
  · rw [readR_no (hasB_no hb0)]
    rw [hb0] at KO
    clear KR hb0
    go_enter Tryz.func18, Tryz.ntmps18
    go_wp2_with fail
    rw [← E0.out]
    refine (KO ⟨W0, Below.refl _ _⟩).mono ?_
    rintro e w1 ⟨rfl, hb⟩
    obtain ⟨x1, rfl⟩ := Later.of hb
    clear hb
    go_wp2
    obtain ⟨W9, e9, Z9, B9⟩ := Key.out rdg0 x1
    unfold rdg0 at e9 Z9
    dsimp only at e9 Z9
    rw [← e9]
    clear e9
    have q0 : W9.cell? ⟨w.heap.size + 1, 0, none⟩ = some (.int .i64 0) := Z9.cell 0 rfl
    have q1 : W9.cell? ⟨w.heap.size + 1, 1, none⟩ = some (.int .i64 0) := Z9.cell 1 rfl
    have q2 : W9.cell? ⟨w.heap.size + 1, 2, none⟩ = some (.int .i64 0) := Z9.cell 2 rfl
    have q3 : W9.cell? ⟨w.heap.size + 1, 3, none⟩ = some (.int .i64 0) := Z9.cell 3 rfl
    have q4 : W9.cell? ⟨w.heap.size + 1, 4, none⟩ = some (.int .i64 0) := Z9.cell 4 rfl
    exact bodyPost_ret (by simp [results, Tryz.results18, go_sem, q0, q1, q2, q3, q4]; try rfl) rfl ⟨rfl, B9⟩
  · have hy := hasB_yes hb0
    rw [readR_yes hy.1 hy.2.1 hy.2.2]
    have K := KR hy.1 hy.2.1 hy.2.2
    rw [hb0] at KO
    clear KR hb0 hy
    generalize rdgOn r n = x at *
    go_enter Tryz.func18, Tryz.ntmps18
    go_wp2_with fail
    rw [← E0.out]
    refine (KO ⟨W0, Below.refl _ _⟩).mono ?_
    rintro e w1 ⟨rfl, hb⟩
    obtain ⟨x1, rfl⟩ := Later.of hb
    clear hb
    go_wp2_with fail
    refine (K x1).mono ?_
    rintro e w2 ⟨rfl, hb⟩
    obtain ⟨x2, rfl⟩ := x1.next hb
    clear hb
    go_wp2
    obtain ⟨W9, e9, Z9, B9⟩ := Key.out x x2
    rw [← e9]
    clear e9
    have q0 : W9.cell? ⟨w.heap.size + 1, 0, none⟩ = some (.int .i64 x.cal) := Z9.cell 0 rfl
    have q1 : W9.cell? ⟨w.heap.size + 1, 1, none⟩ = some (.int .i64 x.year) := Z9.cell 1 rfl
    have q2 : W9.cell? ⟨w.heap.size + 1, 2, none⟩ = some (.int .i64 x.sol) := Z9.cell 2 rfl
    have q3 : W9.cell? ⟨w.heap.size + 1, 3, none⟩ = some (.int .i64 x.mon) := Z9.cell 3 rfl
    have q4 : W9.cell? ⟨w.heap.size + 1, 4, none⟩ = some (.int .i64 x.day) := Z9.cell 4 rfl
    exact bodyPost_ret (by simp [results, Tryz.results18, go_sem, q0, q1, q2, q3, q4]; try rfl) rfl ⟨rfl, B9⟩
end Go.Proofs.YtilpencbbdpgfaaGreatDoor.ctr
namespace Go.Proofs.YtilpencbbdpgfaaGreatDoor.ctr
open Go.RowKit
theorem box55 (w : World) (u v : Array Value) (t s : TypeId) : ∃ W0, W0 = (w.alloc (.cells u t)).alloc (.cells v s) ∧ Hid (∀ x : Later W0, Blk x.w w.heap.size u t) ∧ Hid (∀ x : Later W0, Blk x.w (w.heap.size + 1) v s) ∧ Hid (∀ x : Later W0, Below w.heap.size w x.w) := by
  refine ⟨_, rfl, fun x => ((Blk.new _ _ _).alloc _).later x, fun x => ?_, fun x => below_alloc (below_alloc x.below)⟩
  have h := Blk.new (w.alloc (.cells u t)) v s
  rw [World.size_alloc] at h
  exact h.later x
set_option maxHeartbeats 1000000 in
theorem eqReading (x : Rdg) (w : World) : Calls Tryz.prog 19 #[rdgV x, rdgV x] w fun e w' => e = .returned (.bool true) ∧ Below w.heap.size w w' := by
  obtain ⟨W0, hW0, H0, H1, HB⟩ := box55 w #[.int .i64 x.cal, .int .i64 x.year, .int .i64 x.sol, .int .i64 x.mon, .int .i64 x.day] #[.int .i64 x.cal, .int .i64 x.year, .int .i64 x.sol, .int .i64 x.mon, .int .i64 x.day] 29 29
  have HW0 := hideP hW0
  clear hW0
  go_enter Tryz.func19, Tryz.ntmps19
  go_wp2_with fail
  rw [← HW0.out]
  go_ret
  exact ⟨rfl, HB.out ⟨W0, Below.refl _ _⟩⟩
end Go.Proofs.YtilpencbbdpgfaaGreatDoor.ctr
