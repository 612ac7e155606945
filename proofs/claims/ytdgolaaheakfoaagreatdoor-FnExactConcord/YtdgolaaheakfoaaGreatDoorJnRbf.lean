/- Contracts of both ReadingOf: in a right regime, at a day of it, its reading; else the zero reading and false. Contracts of both Shift: how far a day of a right regime is from the day that its date is by CGre; 0 and false where there is none. Contracts of the laws' markSegmentS and heldSegmentS: marks are written into a list's own row, and found there again; nothing else turns. -/
import Derived.Test.YtdgolaaheakfoaaGreatDoorJnRbe
import Derived.Test.YtdgolaaheakfoaaGreatDoorJnRaw
import Derived.Test.YtdgolaaheakfoaaGreatDoorJnRag
namespace Go.Proofs.YtdgolaaheakfoaaGreatDoor.ctr
open Go.RowKit
theorem boxR (w : World) (cs : Array Value) (t : TypeId) (u : Array Value) (s : TypeId) : ∃ W0, W0 = (w.alloc (.cells cs t)).alloc (.cells u s) ∧ Hid (∀ x : Later W0, Blk x.w w.heap.size cs t) ∧ Hid (∀ x : Later W0, Blk x.w (w.heap.size + 1) u s) ∧ Hid (∀ x : Later W0, Below w.heap.size w x.w) := by
  refine ⟨_, rfl, fun x => ((Blk.new _ _ _).alloc _).later x, fun x => ?_, fun x => below_alloc (below_alloc x.below)⟩
  have h := Blk.new (w.alloc (.cells cs t)) u s
  rw [World.size_alloc] at h
  exact h.later x
theorem sevenL {W : World} {b : Nat} {v0 v1 v2 v3 v4 v5 v6 : Value} {t : TypeId} (h : ∀ x : Later W, Blk x.w b #[v0, v1, v2, v3, v4, v5, v6] t) : (∀ x : Later W, x.w.cell? ⟨b, 0, none⟩ = some v0) ∧ (∀ x : Later W, x.w.cell? ⟨b, 1, none⟩ = some v1) ∧ (∀ x : Later W, x.w.cell? ⟨b, 2, none⟩ = some v2) ∧ (∀ x : Later W, x.w.cell? ⟨b, 3, none⟩ = some v3) ∧ (∀ x : Later W, x.w.cell? ⟨b, 4, none⟩ = some v4) ∧ (∀ x : Later W, x.w.cell? ⟨b, 5, none⟩ = some v5) ∧ ∀ x : Later W, x.w.cell? ⟨b, 6, none⟩ = some v6 :=
  ⟨fun x => (h x).cell 0 rfl, fun x => (h x).cell 1 rfl, fun x => (h x).cell 2 rfl, fun x => (h x).cell 3 rfl, fun x => (h x).cell 4 rfl, fun x => (h x).cell 5 rfl, fun x => (h x).cell 6 rfl⟩
theorem fiveL {W : World} {b : Nat} {v0 v1 v2 v3 v4 : Value} {t : TypeId} (h : ∀ x : Later W, Blk x.w b #[v0, v1, v2, v3, v4] t) : (∀ x : Later W, x.w.cell? ⟨b, 0, none⟩ = some v0) ∧ (∀ x : Later W, x.w.cell? ⟨b, 1, none⟩ = some v1) ∧ (∀ x : Later W, x.w.cell? ⟨b, 2, none⟩ = some v2) ∧ (∀ x : Later W, x.w.cell? ⟨b, 3, none⟩ = some v3) ∧ ∀ x : Later W, x.w.cell? ⟨b, 4, none⟩ = some v4 :=
  ⟨fun x => (h x).cell 0 rfl, fun x => (h x).cell 1 rfl, fun x => (h x).cell 2 rfl, fun x => (h x).cell 3 rfl, fun x => (h x).cell 4 rfl⟩
theorem GRow.parts {w : World} {v : Value} {r : Rgm} (h : GRow w v r) : ∃ a1 c1 a2 c2 a3 c3, v = .agg #[.string r.name, .int .i64 r.fr, .int .i64 r.to, .slice a1 r.segs.length c1, .slice a2 r.pats.length c2, .slice a3 r.rgns.length c3, .int .i64 r.rule] := by
  obtain ⟨v1, v2, v3, rfl, _, ⟨a1, c1, rfl, _⟩, ⟨a2, c2, rfl, _⟩, ⟨a3, c3, rfl, _⟩⟩ := h
  exact ⟨_, _, _, _, _, _, rfl⟩
theorem box7 (w : World) (v0 v1 v2 v3 v4 v5 v6 : Value) (t : TypeId) : ∃ W0, W0 = w.alloc (.cells #[v0, v1, v2, v3, v4, v5, v6] t) ∧ (∀ x : Later W0, Blk x.w w.heap.size #[v0, v1, v2, v3, v4, v5, v6] t) ∧ ∀ x : Later W0, Below w.heap.size w x.w := ⟨_, rfl, fun x => (Blk.new _ _ _).later x, fun x => below_alloc x.below⟩
theorem readR_yes {r : Rgm} {n : Int} (h : regimeB r = true) (h1 : r.fr ≤ n) (h2 : n ≤ r.to) : readR r n = .tuple #[rdgV (rdgOn r n), .bool true] := by unfold readR; rw [if_pos ⟨h, h1, h2⟩]
theorem readR_no {r : Rgm} {n : Int} (h : ¬ (regimeB r = true ∧ r.fr ≤ n ∧ n ≤ r.to)) : readR r n = .tuple #[rdgV rdg0, .bool false] := by unfold readR; rw [if_neg h]
set_option maxHeartbeats 2000000 in
theorem specReadNo (v : Value) (r : Rgm) (n : Int) (w : World) (h : GRow w v r) (hn : segAt r.segs n = -1) : Calls Tryz.prog 48 #[v, .int .i64 n] w fun e w' => e = .returned (.tuple #[rdgV rdg0, .bool false]) ∧ Below w.heap.size w w' := by
  have hG := h
  obtain ⟨v1, v2, v3, rfl, _, x1, x2, x3⟩ := h
  obtain ⟨a1, c1, rfl, _⟩ := x1
  obtain ⟨a2, c2, rfl, _⟩ := x2
  obtain ⟨a3, c3, rfl, _⟩ := x3
  obtain ⟨W0, e0, HR, HZ, HB⟩ := boxR w #[.string r.name, .int .i64 r.fr, .int .i64 r.to, .slice a1 r.segs.length c1, .slice a2 r.pats.length c2, .slice a3 r.rgns.length c3, .int .i64 r.rule] 40 #[.int .i64 0, .int .i64 0, .int .i64 0, .int .i64 0, .int .i64 0] 76
  have hG0 : Hid (∀ y : Later W0, GRow y.w (.agg #[.string r.name, .int .i64 r.fr, .int .i64 r.to, .slice a1 r.segs.length c1, .slice a2 r.pats.length c2, .slice a3 r.rgns.length c3, .int .i64 r.rule]) r) := fun y => GRow.below hG (HB.out y)
  have R0 : ∀ y : Later W0, y.w.cell? ⟨w.heap.size, 0, none⟩ = some (.string r.name) := fun y => (HR.out y).cell 0 rfl
  have R1 : ∀ y : Later W0, y.w.cell? ⟨w.heap.size, 1, none⟩ = some (.int .i64 r.fr) := fun y => (HR.out y).cell 1 rfl
  have R2 : ∀ y : Later W0, y.w.cell? ⟨w.heap.size, 2, none⟩ = some (.int .i64 r.to) := fun y => (HR.out y).cell 2 rfl
  have R3 : ∀ y : Later W0, y.w.cell? ⟨w.heap.size, 3, none⟩ = some (.slice a1 r.segs.length c1) := fun y => (HR.out y).cell 3 rfl
  have R4 : ∀ y : Later W0, y.w.cell? ⟨w.heap.size, 4, none⟩ = some (.slice a2 r.pats.length c2) := fun y => (HR.out y).cell 4 rfl
  have R5 : ∀ y : Later W0, y.w.cell? ⟨w.heap.size, 5, none⟩ = some (.slice a3 r.rgns.length c3) := fun y => (HR.out y).cell 5 rfl
  have R6 : ∀ y : Later W0, y.w.cell? ⟨w.heap.size, 6, none⟩ = some (.int .i64 r.rule) := fun y => (HR.out y).cell 6 rfl
  have u0 : ∀ y : Later W0, y.w.cell? ⟨w.heap.size + 1, 0, none⟩ = some (.int .i64 0) := fun y => (HZ.out y).cell 0 rfl
  have f0 : ∀ y : Later W0, y.w.frozen? ⟨w.heap.size + 1, 0, none⟩ = false := fun y => (HZ.out y).thaw 0
  have u1 : ∀ y : Later W0, y.w.cell? ⟨w.heap.size + 1, 1, none⟩ = some (.int .i64 0) := fun y => (HZ.out y).cell 1 rfl
  have f1 : ∀ y : Later W0, y.w.frozen? ⟨w.heap.size + 1, 1, none⟩ = false := fun y => (HZ.out y).thaw 1
  have u2 : ∀ y : Later W0, y.w.cell? ⟨w.heap.size + 1, 2, none⟩ = some (.int .i64 0) := fun y => (HZ.out y).cell 2 rfl
  have f2 : ∀ y : Later W0, y.w.frozen? ⟨w.heap.size + 1, 2, none⟩ = false := fun y => (HZ.out y).thaw 2
  have u3 : ∀ y : Later W0, y.w.cell? ⟨w.heap.size + 1, 3, none⟩ = some (.int .i64 0) := fun y => (HZ.out y).cell 3 rfl
  have f3 : ∀ y : Later W0, y.w.frozen? ⟨w.heap.size + 1, 3, none⟩ = false := fun y => (HZ.out y).thaw 3
  have u4 : ∀ y : Later W0, y.w.cell? ⟨w.heap.size + 1, 4, none⟩ = some (.int .i64 0) := fun y => (HZ.out y).cell 4 rfl
  have f4 : ∀ y : Later W0, y.w.frozen? ⟨w.heap.size + 1, 4, none⟩ = false := fun y => (HZ.out y).thaw 4
  have E0 := hideP e0
  have KS : ∀ y : Later W0, Calls Tryz.prog 90 #[.agg #[.string r.name, .int .i64 r.fr, .int .i64 r.to, .slice a1 r.segs.length c1, .slice a2 r.pats.length c2, .slice a3 r.rgns.length c3, .int .i64 r.rule], .int .i64 n] y.w fun e w' => e = .returned (.int .i64 (-1)) ∧ Below y.w.heap.size y.w w' := fun y => by
    have k := specSegAt _ r n y.w (hG0.out y)
    rw [hn] at k
    exact k
  clear e0 hG hn
  go_enter Tryz.func48, Tryz.ntmps48
  go_wp2_with fail
  rw [← E0.out]
  refine (KS ⟨W0, Below.refl _ _⟩).mono ?_
  rintro e w1 ⟨rfl, hb⟩
  obtain ⟨x1, rfl⟩ := Later.of hb
  clear hb
  go_wp2
  obtain ⟨W9, e9⟩ : ∃ W9, W9 = ((((x1.w.setCell ⟨w.heap.size + 1, 0, none⟩ (.int .i64 0)).setCell ⟨w.heap.size + 1, 1, none⟩ (.int .i64 0)).setCell ⟨w.heap.size + 1, 2, none⟩ (.int .i64 0)).setCell ⟨w.heap.size + 1, 3, none⟩ (.int .i64 0)).setCell ⟨w.heap.size + 1, 4, none⟩ (.int .i64 0) := ⟨_, rfl⟩
  have Z9 : Blk W9 (w.heap.size + 1) #[.int .i64 0, .int .i64 0, .int .i64 0, .int .i64 0, .int .i64 0] 76 := by rw [e9]; exact ((((((HZ.out x1).set 0 _).set 1 _).set 2 _).set 3 _).set 4 _)
  have B9 : Below w.heap.size w W9 := by rw [e9]; exact (Below.setCell (Below.setCell (Below.setCell (Below.setCell (Below.setCell (HB.out x1) (p := ⟨w.heap.size + 1, 0, none⟩) (show w.heap.size ≤ w.heap.size + 1 by omega) _) (p := ⟨w.heap.size + 1, 1, none⟩) (show w.heap.size ≤ w.heap.size + 1 by omega) _) (p := ⟨w.heap.size + 1, 2, none⟩) (show w.heap.size ≤ w.heap.size + 1 by omega) _) (p := ⟨w.heap.size + 1, 3, none⟩) (show w.heap.size ≤ w.heap.size + 1 by omega) _) (p := ⟨w.heap.size + 1, 4, none⟩) (show w.heap.size ≤ w.heap.size + 1 by omega) _)
  rw [← e9]
  clear e9
  have q0 : W9.cell? ⟨w.heap.size + 1, 0, none⟩ = some (.int .i64 0) := Z9.cell 0 rfl
  have q1 : W9.cell? ⟨w.heap.size + 1, 1, none⟩ = some (.int .i64 0) := Z9.cell 1 rfl
  have q2 : W9.cell? ⟨w.heap.size + 1, 2, none⟩ = some (.int .i64 0) := Z9.cell 2 rfl
  have q3 : W9.cell? ⟨w.heap.size + 1, 3, none⟩ = some (.int .i64 0) := Z9.cell 3 rfl
  have q4 : W9.cell? ⟨w.heap.size + 1, 4, none⟩ = some (.int .i64 0) := Z9.cell 4 rfl
  exact bodyPost_ret (by simp [results, Tryz.results48, go_sem, q0, q1, q2, q3, q4]; try rfl) rfl ⟨rfl, B9⟩
set_option maxHeartbeats 4000000 in
theorem specReadingOf (v : Value) (r : Rgm) (n : Int) (w : World) (h : GRow w v r) (hf : -9223372036854775808 ≤ r.fr) (ht : r.to ≤ 9223372036854775807) : Calls Tryz.prog 111 #[v, .int .i64 n] w fun e w' => e = .returned (readR r n) ∧ Below w.heap.size w w' := by
  have hG := h
  obtain ⟨v1, v2, v3, rfl, _, x1, x2, x3⟩ := h
  obtain ⟨a1, c1, rfl, _⟩ := x1
  obtain ⟨a2, c2, rfl, _⟩ := x2
  obtain ⟨a3, c3, rfl, _⟩ := x3
  obtain ⟨W0, e0, HR, HZ, HB⟩ := boxR w #[.string r.name, .int .i64 r.fr, .int .i64 r.to, .slice a1 r.segs.length c1, .slice a2 r.pats.length c2, .slice a3 r.rgns.length c3, .int .i64 r.rule] 40 #[.int .i64 0, .int .i64 0, .int .i64 0, .int .i64 0, .int .i64 0] 76
  have hG0 : Hid (∀ y : Later W0, GRow y.w (.agg #[.string r.name, .int .i64 r.fr, .int .i64 r.to, .slice a1 r.segs.length c1, .slice a2 r.pats.length c2, .slice a3 r.rgns.length c3, .int .i64 r.rule]) r) := fun y => GRow.below hG (HB.out y)
  have R0 : ∀ y : Later W0, y.w.cell? ⟨w.heap.size, 0, none⟩ = some (.string r.name) := fun y => (HR.out y).cell 0 rfl
  have R1 : ∀ y : Later W0, y.w.cell? ⟨w.heap.size, 1, none⟩ = some (.int .i64 r.fr) := fun y => (HR.out y).cell 1 rfl
  have R2 : ∀ y : Later W0, y.w.cell? ⟨w.heap.size, 2, none⟩ = some (.int .i64 r.to) := fun y => (HR.out y).cell 2 rfl
  have R3 : ∀ y : Later W0, y.w.cell? ⟨w.heap.size, 3, none⟩ = some (.slice a1 r.segs.length c1) := fun y => (HR.out y).cell 3 rfl
  have R4 : ∀ y : Later W0, y.w.cell? ⟨w.heap.size, 4, none⟩ = some (.slice a2 r.pats.length c2) := fun y => (HR.out y).cell 4 rfl
  have R5 : ∀ y : Later W0, y.w.cell? ⟨w.heap.size, 5, none⟩ = some (.slice a3 r.rgns.length c3) := fun y => (HR.out y).cell 5 rfl
  have R6 : ∀ y : Later W0, y.w.cell? ⟨w.heap.size, 6, none⟩ = some (.int .i64 r.rule) := fun y => (HR.out y).cell 6 rfl
  have u0 : ∀ y : Later W0, y.w.cell? ⟨w.heap.size + 1, 0, none⟩ = some (.int .i64 0) := fun y => (HZ.out y).cell 0 rfl
  have f0 : ∀ y : Later W0, y.w.frozen? ⟨w.heap.size + 1, 0, none⟩ = false := fun y => (HZ.out y).thaw 0
  have u1 : ∀ y : Later W0, y.w.cell? ⟨w.heap.size + 1, 1, none⟩ = some (.int .i64 0) := fun y => (HZ.out y).cell 1 rfl
  have f1 : ∀ y : Later W0, y.w.frozen? ⟨w.heap.size + 1, 1, none⟩ = false := fun y => (HZ.out y).thaw 1
  have u2 : ∀ y : Later W0, y.w.cell? ⟨w.heap.size + 1, 2, none⟩ = some (.int .i64 0) := fun y => (HZ.out y).cell 2 rfl
  have f2 : ∀ y : Later W0, y.w.frozen? ⟨w.heap.size + 1, 2, none⟩ = false := fun y => (HZ.out y).thaw 2
  have u3 : ∀ y : Later W0, y.w.cell? ⟨w.heap.size + 1, 3, none⟩ = some (.int .i64 0) := fun y => (HZ.out y).cell 3 rfl
  have f3 : ∀ y : Later W0, y.w.frozen? ⟨w.heap.size + 1, 3, none⟩ = false := fun y => (HZ.out y).thaw 3
  have u4 : ∀ y : Later W0, y.w.cell? ⟨w.heap.size + 1, 4, none⟩ = some (.int .i64 0) := fun y => (HZ.out y).cell 4 rfl
  have f4 : ∀ y : Later W0, y.w.frozen? ⟨w.heap.size + 1, 4, none⟩ = false := fun y => (HZ.out y).thaw 4
  have E0 := hideP e0
  have KO : ∀ y : Later W0, Calls Tryz.prog 34 #[.agg #[.string r.name, .int .i64 r.fr, .int .i64 r.to, .slice a1 r.segs.length c1, .slice a2 r.pats.length c2, .slice a3 r.rgns.length c3, .int .i64 r.rule]] y.w fun e w' => e = .returned (.bool (regimeB r)) ∧ Below y.w.heap.size y.w w' := fun y => specRegimeOk _ r y.w (hG0.out y) hf ht
  have KR : regimeB r = true → r.fr ≤ n → n ≤ r.to → ∀ y : Later W0, Calls Tryz.prog 48 #[.agg #[.string r.name, .int .i64 r.fr, .int .i64 r.to, .slice a1 r.segs.length c1, .slice a2 r.pats.length c2, .slice a3 r.rgns.length c3, .int .i64 r.rule], .int .i64 n] y.w fun e w' => e = .returned (.tuple #[rdgV (rdgOn r n), .bool true]) ∧ Below y.w.heap.size y.w w' := fun k0 k1 k2 y => specRead _ r n y.w (hG0.out y) k0 k1 k2
  have KN : regimeB r = true → ¬ (r.fr ≤ n ∧ n ≤ r.to) → ∀ y : Later W0, Calls Tryz.prog 48 #[.agg #[.string r.name, .int .i64 r.fr, .int .i64 r.to, .slice a1 r.segs.length c1, .slice a2 r.pats.length c2, .slice a3 r.rgns.length c3, .int .i64 r.rule], .int .i64 n] y.w fun e w' => e = .returned (.tuple #[rdgV rdg0, .bool false]) ∧ Below y.w.heap.size y.w w' := fun k0 k1 y => specReadNo _ r n y.w (hG0.out y) (by
    rcases segAt_cases r.segs n with ⟨k, _⟩ | ⟨j, _, k, _⟩
    · exact k
    · exact absurd ((seg_fact k0 n).1 (by omega)) k1)
  clear e0 hG hf ht
  cases hR : regimeB r
  · rw [readR_no (by rw [hR]; simp)]
    rw [hR] at KO
    clear KR KN
    go_enter Tryz.func111, Tryz.ntmps111
    go_wp2_with fail
    rw [← E0.out]
    refine (KO ⟨W0, Below.refl _ _⟩).mono ?_
    rintro e w1 ⟨rfl, hb⟩
    obtain ⟨x1, rfl⟩ := Later.of hb
    clear hb
    go_wp2
    obtain ⟨W9, e9⟩ : ∃ W9, W9 = ((((x1.w.setCell ⟨w.heap.size + 1, 0, none⟩ (.int .i64 0)).setCell ⟨w.heap.size + 1, 1, none⟩ (.int .i64 0)).setCell ⟨w.heap.size + 1, 2, none⟩ (.int .i64 0)).setCell ⟨w.heap.size + 1, 3, none⟩ (.int .i64 0)).setCell ⟨w.heap.size + 1, 4, none⟩ (.int .i64 0) := ⟨_, rfl⟩
    have Z9 : Blk W9 (w.heap.size + 1) #[.int .i64 0, .int .i64 0, .int .i64 0, .int .i64 0, .int .i64 0] 76 := by rw [e9]; exact ((((((HZ.out x1).set 0 _).set 1 _).set 2 _).set 3 _).set 4 _)
    have B9 : Below w.heap.size w W9 := by rw [e9]; exact (Below.setCell (Below.setCell (Below.setCell (Below.setCell (Below.setCell (HB.out x1) (p := ⟨w.heap.size + 1, 0, none⟩) (show w.heap.size ≤ w.heap.size + 1 by omega) _) (p := ⟨w.heap.size + 1, 1, none⟩) (show w.heap.size ≤ w.heap.size + 1 by omega) _) (p := ⟨w.heap.size + 1, 2, none⟩) (show w.heap.size ≤ w.heap.size + 1 by omega) _) (p := ⟨w.heap.size + 1, 3, none⟩) (show w.heap.size ≤ w.heap.size + 1 by omega) _) (p := ⟨w.heap.size + 1, 4, none⟩) (show w.heap.size ≤ w.heap.size + 1 by omega) _)
    rw [← e9]
    clear e9
    have q0 : W9.cell? ⟨w.heap.size + 1, 0, none⟩ = some (.int .i64 0) := Z9.cell 0 rfl
    have q1 : W9.cell? ⟨w.heap.size + 1, 1, none⟩ = some (.int .i64 0) := Z9.cell 1 rfl
    have q2 : W9.cell? ⟨w.heap.size + 1, 2, none⟩ = some (.int .i64 0) := Z9.cell 2 rfl
    have q3 : W9.cell? ⟨w.heap.size + 1, 3, none⟩ = some (.int .i64 0) := Z9.cell 3 rfl
    have q4 : W9.cell? ⟨w.heap.size + 1, 4, none⟩ = some (.int .i64 0) := Z9.cell 4 rfl
    exact bodyPost_ret (by simp [results, Tryz.results111, go_sem, q0, q1, q2, q3, q4]; try rfl) rfl ⟨rfl, B9⟩
  rw [hR] at KO
  by_cases h1 : r.fr ≤ n ∧ n ≤ r.to
  · rw [readR_yes hR h1.1 h1.2]
    have K := KR hR h1.1 h1.2
    clear KR KN
    generalize rdgOn r n = x at *
    go_enter Tryz.func111, Tryz.ntmps111
    go_wp2_with fail
    rw [← E0.out]
    refine (KO ⟨W0, Below.refl _ _⟩).mono ?_
    rintro e w1 ⟨rfl, hb⟩
    obtain ⟨x1, rfl⟩ := Later.of hb
    clear hb
    go_wp2_with fail
    refine (K x1).mono ?_
    rintro e w2 ⟨rfl, hb⟩
    obtain ⟨x2, rfl⟩ := x1.next hb
    clear hb
    go_wp2
    obtain ⟨W9, e9⟩ : ∃ W9, W9 = ((((x2.w.setCell ⟨w.heap.size + 1, 0, none⟩ (.int .i64 x.cal)).setCell ⟨w.heap.size + 1, 1, none⟩ (.int .i64 x.year)).setCell ⟨w.heap.size + 1, 2, none⟩ (.int .i64 x.sol)).setCell ⟨w.heap.size + 1, 3, none⟩ (.int .i64 x.mon)).setCell ⟨w.heap.size + 1, 4, none⟩ (.int .i64 x.day) := ⟨_, rfl⟩
    have Z9 : Blk W9 (w.heap.size + 1) #[.int .i64 x.cal, .int .i64 x.year, .int .i64 x.sol, .int .i64 x.mon, .int .i64 x.day] 76 := by rw [e9]; exact ((((((HZ.out x2).set 0 _).set 1 _).set 2 _).set 3 _).set 4 _)
    have B9 : Below w.heap.size w W9 := by rw [e9]; exact (Below.setCell (Below.setCell (Below.setCell (Below.setCell (Below.setCell (HB.out x2) (p := ⟨w.heap.size + 1, 0, none⟩) (show w.heap.size ≤ w.heap.size + 1 by omega) _) (p := ⟨w.heap.size + 1, 1, none⟩) (show w.heap.size ≤ w.heap.size + 1 by omega) _) (p := ⟨w.heap.size + 1, 2, none⟩) (show w.heap.size ≤ w.heap.size + 1 by omega) _) (p := ⟨w.heap.size + 1, 3, none⟩) (show w.heap.size ≤ w.heap.size + 1 by omega) _) (p := ⟨w.heap.size + 1, 4, none⟩) (show w.heap.size ≤ w.heap.size + 1 by omega) _)
    rw [← e9]
    clear e9
    have q0 : W9.cell? ⟨w.heap.size + 1, 0, none⟩ = some (.int .i64 x.cal) := Z9.cell 0 rfl
    have q1 : W9.cell? ⟨w.heap.size + 1, 1, none⟩ = some (.int .i64 x.year) := Z9.cell 1 rfl
    have q2 : W9.cell? ⟨w.heap.size + 1, 2, none⟩ = some (.int .i64 x.sol) := Z9.cell 2 rfl
    have q3 : W9.cell? ⟨w.heap.size + 1, 3, none⟩ = some (.int .i64 x.mon) := Z9.cell 3 rfl
    have q4 : W9.cell? ⟨w.heap.size + 1, 4, none⟩ = some (.int .i64 x.day) := Z9.cell 4 rfl
    exact bodyPost_ret (by simp [results, Tryz.results111, go_sem, q0, q1, q2, q3, q4]; try rfl) rfl ⟨rfl, B9⟩
  · rw [readR_no (fun k => h1 k.2)]
    have K := KN hR h1
    clear KR KN
    go_enter Tryz.func111, Tryz.ntmps111
    go_wp2_with fail
    rw [← E0.out]
    refine (KO ⟨W0, Below.refl _ _⟩).mono ?_
    rintro e w1 ⟨rfl, hb⟩
    obtain ⟨x1, rfl⟩ := Later.of hb
    clear hb
    go_wp2_with fail
    refine (K x1).mono ?_
    rintro e w2 ⟨rfl, hb⟩
    obtain ⟨x2, rfl⟩ := x1.next hb
    clear hb
    go_wp2
    obtain ⟨W9, e9⟩ : ∃ W9, W9 = ((((x2.w.setCell ⟨w.heap.size + 1, 0, none⟩ (.int .i64 0)).setCell ⟨w.heap.size + 1, 1, none⟩ (.int .i64 0)).setCell ⟨w.heap.size + 1, 2, none⟩ (.int .i64 0)).setCell ⟨w.heap.size + 1, 3, none⟩ (.int .i64 0)).setCell ⟨w.heap.size + 1, 4, none⟩ (.int .i64 0) := ⟨_, rfl⟩
    have Z9 : Blk W9 (w.heap.size + 1) #[.int .i64 0, .int .i64 0, .int .i64 0, .int .i64 0, .int .i64 0] 76 := by rw [e9]; exact ((((((HZ.out x2).set 0 _).set 1 _).set 2 _).set 3 _).set 4 _)
    have B9 : Below w.heap.size w W9 := by rw [e9]; exact (Below.setCell (Below.setCell (Below.setCell (Below.setCell (Below.setCell (HB.out x2) (p := ⟨w.heap.size + 1, 0, none⟩) (show w.heap.size ≤ w.heap.size + 1 by omega) _) (p := ⟨w.heap.size + 1, 1, none⟩) (show w.heap.size ≤ w.heap.size + 1 by omega) _) (p := ⟨w.heap.size + 1, 2, none⟩) (show w.heap.size ≤ w.heap.size + 1 by omega) _) (p := ⟨w.heap.size + 1, 3, none⟩) (show w.heap.size ≤ w.heap.size + 1 by omega) _) (p := ⟨w.heap.size + 1, 4, none⟩) (show w.heap.size ≤ w.heap.size + 1 by omega) _)
    rw [← e9]
    clear e9
    have q0 : W9.cell? ⟨w.heap.size + 1, 0, none⟩ = some (.int .i64 0) := Z9.cell 0 rfl
    have q1 : W9.cell? ⟨w.heap.size + 1, 1, none⟩ = some (.int .i64 0) := Z9.cell 1 rfl
    have q2 : W9.cell? ⟨w.heap.size + 1, 2, none⟩ = some (.int .i64 0) := Z9.cell 2 rfl
    have q3 : W9.cell? ⟨w.heap.size + 1, 3, none⟩ = some (.int .i64 0) := Z9.cell 3 rfl
    have q4 : W9.cell? ⟨w.heap.size + 1, 4, none⟩ = some (.int .i64 0) := Z9.cell 4 rfl
    exact bodyPost_ret (by simp [results, Tryz.results111, go_sem, q0, q1, q2, q3, q4]; try rfl) rfl ⟨rfl, B9⟩
end Go.Proofs.YtdgolaaheakfoaaGreatDoor.ctr
namespace Go.Proofs.YtdgolaaheakfoaaGreatDoor.ctr
open Go.RowKit
theorem day_in {r : Rgm} {n : Int} (h : regimeB r = true) (h1 : r.fr ≤ n) (h2 : n ≤ r.to) : 400 ≤ n ∧ n ≤ 1090000 := by
  rcases segAt_cases r.segs n with ⟨k, _⟩ | ⟨j, hj, k, k1, k2⟩
  · have := (seg_fact h n).2 ⟨h1, h2⟩; omega
  · have := segOk_nums (right_seg h hj).1; omega
noncomputable def shiftR (r : Rgm) (n : Int) : Value := if (regimeB r = true ∧ r.fr ≤ n ∧ n ≤ r.to) ∧ dateOk 1 (rdgOn r n).sol (rdgOn r n).mon (rdgOn r n).day = true then .tuple #[.int .i64 (dayOf 1 (rdgOn r n).sol (rdgOn r n).mon (rdgOn r n).day - n), .bool true] else .tuple #[.int .i64 0, .bool false]
theorem plainR_yes {c : Int} {x : Rdg} (h : dateOk c x.sol x.mon x.day = true) : plainR c x = .tuple #[.agg #[.int .i64 c, .int .i64 x.sol, .int .i64 x.mon, .int .i64 x.day], .bool true] := by unfold plainR; rw [if_pos h]
theorem plainR_no {c : Int} {x : Rdg} (h : ¬ dateOk c x.sol x.mon x.day = true) : plainR c x = .tuple #[.agg #[.int .i64 0, .int .i64 0, .int .i64 0, .int .i64 0], .bool false] := by unfold plainR; rw [if_neg h]
set_option maxHeartbeats 4000000 in
theorem implShiftOn (v : Value) (r : Rgm) (n : Int) (w : World) (h : GRow w v r) (hR : regimeB r = true) (h1 : r.fr ≤ n) (h2 : n ≤ r.to) (hT : Tab w) : Calls Tryz.prog 112 #[v, .int .i64 n] w fun e w' => e = .returned (shiftR r n) ∧ Below w.heap.size w w' := by
  have hG := h
  obtain ⟨a1, c1, a2, c2, a3, c3, rfl⟩ := h.parts
  obtain ⟨W0, hW0, HR, hBl⟩ := box7 w (.string r.name) (.int .i64 r.fr) (.int .i64 r.to) (.slice a1 r.segs.length c1) (.slice a2 r.pats.length c2) (.slice a3 r.rgns.length c3) (.int .i64 r.rule) 40
  obtain ⟨d0, d1, d2, d3, d4, d5, d6⟩ := sevenL HR
  have HW0 := hideP hW0
  have HBl := hideP hBl
  have KR : ∀ y : Later W0, Calls Tryz.prog 50 #[.agg #[.string r.name, .int .i64 r.fr, .int .i64 r.to, .slice a1 r.segs.length c1, .slice a2 r.pats.length c2, .slice a3 r.rgns.length c3, .int .i64 r.rule], .int .i64 n] y.w fun e w' => e = .returned (rdgV (rdgOn r n)) ∧ Below y.w.heap.size y.w w' := fun y => implReadingOn _ r n y.w (hG.below (hBl y)) hR h1 h2 (hT.later (hBl y))
  have KD : ∀ (x : Rdg) (y : Later W0), Calls Tryz.prog 59 #[.int .i64 1, rdgV x] y.w fun e w' => e = .returned (plainR 1 x) ∧ Below y.w.heap.size y.w w' := fun x y => implSolarDate 1 x y.w (hT.later (hBl y))
  have KY : ∀ (y m d : Int) W, Below w.heap.size w W → Calls Tryz.prog 110 #[.agg #[.int .i64 1, .int .i64 y, .int .i64 m, .int .i64 d]] W fun e w' => e = .returned (.int .i64 (dayOf 1 y m d)) ∧ Below W.heap.size W w' := fun y m d W hb => implDayOf 1 y m d W (hT.later hb)
  have hd := day_in hR h1 h2
  have hq : regimeB r = true ∧ r.fr ≤ n ∧ n ≤ r.to := ⟨hR, h1, h2⟩
  clear hW0 hG h hT HR hBl
  by_cases hO : dateOk 1 (rdgOn r n).sol (rdgOn r n).mon (rdgOn r n).day = true
  case neg =>
    rw [show shiftR r n = .tuple #[.int .i64 0, .bool false] by unfold shiftR; rw [if_neg (fun k => hO k.2)]]
    clear hR hq
    generalize rdgOn r n = x at *
    have KD1 := KD x
    rw [plainR_no hO] at KD1
    clear KD KY
    go_enter Tryz.func112, Tryz.ntmps112
    go_wp2_with fail
    rw [← HW0.out]
    refine (KR ⟨W0, Below.refl _ _⟩).mono ?_
    rintro e w1 ⟨rfl, hb⟩
    obtain ⟨y1, rfl⟩ := Later.of hb
    clear hb
    go_wp2_with fail
    refine (KD1 y1).mono ?_
    rintro e w2 ⟨rfl, hb⟩
    obtain ⟨y2, rfl⟩ := y1.next hb
    clear hb
    go_wp2
    go_returns
    exact ⟨rfl, (HBl.out y2).alloc (HBl.out y2).size _⟩
  have hy := dayOf_bound 1 (rdgOn r n).sol (rdgOn r n).mon (rdgOn r n).day
  rw [show shiftR r n = .tuple #[.int .i64 (dayOf 1 (rdgOn r n).sol (rdgOn r n).mon (rdgOn r n).day - n), .bool true] by unfold shiftR; rw [if_pos ⟨hq, hO⟩]]
  clear hR hq
  generalize rdgOn r n = x at *
  have KD1 := KD x
  rw [plainR_yes hO] at KD1
  have KY1 := KY x.sol x.mon x.day
  generalize dayOf 1 x.sol x.mon x.day = dd at *
  clear KD KY
  go_enter Tryz.func112, Tryz.ntmps112
  go_wp2_with fail
  rw [← HW0.out]
  refine (KR ⟨W0, Below.refl _ _⟩).mono ?_
  rintro e w1 ⟨rfl, hb⟩
  obtain ⟨y1, rfl⟩ := Later.of hb
  clear hb
  go_wp2_with fail
  refine (KD1 y1).mono ?_
  rintro e w2 ⟨rfl, hb⟩
  obtain ⟨y2, rfl⟩ := y1.next hb
  have B2 := HBl.out y2
  clear hb
  go_wp2_with fail
  refine (KY1 _ (B2.alloc B2.size _)).mono ?_
  rintro e w3 ⟨rfl, hb⟩
  have B3 := B2.alloc B2.size (.cells #[.int .i64 1, .int .i64 x.sol, .int .i64 x.mon, .int .i64 x.day] 92)
  have B4 : Below w.heap.size w w3 := B3.trans (hb.mono B3.size)
  clear hb
  go_wp2
  go_returns
  exact ⟨rfl, B4⟩
set_option maxHeartbeats 4000000 in
theorem specShift (v : Value) (r : Rgm) (n : Int) (w : World) (h : GRow w v r) (hf : -9223372036854775808 ≤ r.fr) (ht : r.to ≤ 9223372036854775807) : Calls Tryz.prog 63 #[v, .int .i64 n] w fun e w' => e = .returned (shiftR r n) ∧ Below w.heap.size w w' := by
  have hG := h
  obtain ⟨v1, v2, v3, rfl, _, x1, x2, x3⟩ := h
  obtain ⟨a1, c1, rfl, _⟩ := x1
  obtain ⟨a2, c2, rfl, _⟩ := x2
  obtain ⟨a3, c3, rfl, _⟩ := x3
  obtain ⟨W0, hW0, d0, d1, d2, d3, d4, d5, d6, hBl⟩ := seven_box w (.string r.name) (.int .i64 r.fr) (.int .i64 r.to) (.slice a1 r.segs.length c1) (.slice a2 r.pats.length c2) (.slice a3 r.rgns.length c3) (.int .i64 r.rule) 40
  have HW0 := hideP hW0
  have HBl := hideP hBl
  have KR : ∀ y : Later W0, Calls Tryz.prog 111 #[.agg #[.string r.name, .int .i64 r.fr, .int .i64 r.to, .slice a1 r.segs.length c1, .slice a2 r.pats.length c2, .slice a3 r.rgns.length c3, .int .i64 r.rule], .int .i64 n] y.w fun e w' => e = .returned (readR r n) ∧ Below y.w.heap.size y.w w' := fun y => specReadingOf _ r n y.w (GRow.below hG (hBl y)) hf ht
  have KD : ∀ (x : Rdg) W, Calls Tryz.prog 55 #[.agg #[.int .i64 1, .int .i64 x.year, .int .i64 x.sol, .int .i64 x.mon, .int .i64 x.day]] W fun e w' => e = .returned (plainR 1 x) ∧ Below W.heap.size W w' := fun x W => specPlain ⟨1, x.year, x.sol, x.mon, x.day⟩ W
  have KY : ∀ (y m d : Int) W, Calls Tryz.prog 56 #[.agg #[.int .i64 1, .int .i64 y, .int .i64 m, .int .i64 d]] W fun e w' => e = .returned (.int .i64 (dayOf 1 y m d)) ∧ Below W.heap.size W w' := fun y m d W => specDayOf 1 y m d W
  clear hW0 hG hf ht
  by_cases hR : regimeB r = true ∧ r.fr ≤ n ∧ n ≤ r.to
  case neg =>
    rw [show shiftR r n = .tuple #[.int .i64 0, .bool false] by unfold shiftR; rw [if_neg (fun k => hR k.1)]]
    rw [readR_no hR] at KR
    have KD1 := KD rdg0
    have hp : ∃ p q s t ok, plainR 1 rdg0 = .tuple #[.agg #[.int .i64 p, .int .i64 q, .int .i64 s, .int .i64 t], .bool ok] := by
      unfold plainR
      split
      · exact ⟨_, _, _, _, _, rfl⟩
      · exact ⟨_, _, _, _, _, rfl⟩
    obtain ⟨p, q, s, t, ok, ep⟩ := hp
    rw [ep] at KD1
    clear KD KY ep
    go_enter Tryz.func63, Tryz.ntmps63
    go_wp2_with fail
    rw [← HW0.out]
    refine (KR ⟨W0, Below.refl _ _⟩).mono ?_
    rintro e w1 ⟨rfl, hb⟩
    obtain ⟨y1, rfl⟩ := Later.of hb
    clear hb
    go_wp2_with fail
    refine (KD1 _).mono ?_
    rintro e w2 ⟨rfl, hb⟩
    have B1 := (HBl.out y1).alloc (HBl.out y1).size (.cells #[.int .i64 1, .int .i64 0, .int .i64 0, .int .i64 0, .int .i64 0] 76)
    have B2 : Below w.heap.size w w2 := B1.trans (hb.mono B1.size)
    clear hb B1
    go_wp2
    go_returns
    exact ⟨rfl, B2.alloc B2.size _⟩
  have hd := day_in hR.1 hR.2.1 hR.2.2
  rw [readR_yes hR.1 hR.2.1 hR.2.2] at KR
  by_cases hO : dateOk 1 (rdgOn r n).sol (rdgOn r n).mon (rdgOn r n).day = true
  case neg =>
    rw [show shiftR r n = .tuple #[.int .i64 0, .bool false] by unfold shiftR; rw [if_neg (fun k => hO k.2)]]
    generalize rdgOn r n = x at *
    have KD1 := KD x
    rw [plainR_no hO] at KD1
    clear KD KY
    go_enter Tryz.func63, Tryz.ntmps63
    go_wp2_with fail
    rw [← HW0.out]
    refine (KR ⟨W0, Below.refl _ _⟩).mono ?_
    rintro e w1 ⟨rfl, hb⟩
    obtain ⟨y1, rfl⟩ := Later.of hb
    clear hb
    go_wp2_with fail
    refine (KD1 _).mono ?_
    rintro e w2 ⟨rfl, hb⟩
    have B1 := (HBl.out y1).alloc (HBl.out y1).size (.cells #[.int .i64 1, .int .i64 x.year, .int .i64 x.sol, .int .i64 x.mon, .int .i64 x.day] 76)
    have B2 : Below w.heap.size w w2 := B1.trans (hb.mono B1.size)
    clear hb B1
    go_wp2
    go_returns
    exact ⟨rfl, B2.alloc B2.size _⟩
  have hy := dayOf_bound 1 (rdgOn r n).sol (rdgOn r n).mon (rdgOn r n).day
  rw [show shiftR r n = .tuple #[.int .i64 (dayOf 1 (rdgOn r n).sol (rdgOn r n).mon (rdgOn r n).day - n), .bool true] by unfold shiftR; rw [if_pos ⟨hR, hO⟩]]
  generalize rdgOn r n = x at *
  have KD1 := KD x
  rw [plainR_yes hO] at KD1
  have KY1 := KY x.sol x.mon x.day
  generalize dayOf 1 x.sol x.mon x.day = dd at *
  clear KD KY
  go_enter Tryz.func63, Tryz.ntmps63
  go_wp2_with fail
  rw [← HW0.out]
  refine (KR ⟨W0, Below.refl _ _⟩).mono ?_
  rintro e w1 ⟨rfl, hb⟩
  obtain ⟨y1, rfl⟩ := Later.of hb
  clear hb
  go_wp2_with fail
  refine (KD1 _).mono ?_
  rintro e w2 ⟨rfl, hb⟩
  have B1 := (HBl.out y1).alloc (HBl.out y1).size (.cells #[.int .i64 1, .int .i64 x.year, .int .i64 x.sol, .int .i64 x.mon, .int .i64 x.day] 76)
  have B2 : Below w.heap.size w w2 := B1.trans (hb.mono B1.size)
  clear hb B1
  go_wp2_with fail
  refine (KY1 _).mono ?_
  rintro e w3 ⟨rfl, hb⟩
  have B3 := B2.alloc B2.size (.cells #[.int .i64 1, .int .i64 x.sol, .int .i64 x.mon, .int .i64 x.day] 92)
  have B4 : Below w.heap.size w w3 := B3.trans (hb.mono B3.size)
  clear hb
  go_wp2
  go_returns
  exact ⟨rfl, B4⟩
end Go.Proofs.YtdgolaaheakfoaaGreatDoor.ctr
namespace Go.Proofs.YtdgolaaheakfoaaGreatDoor.ctr
open Go.RowKit
def OwnC (w : World) (g m : Nat) : Prop := ∀ j, j < m → (∃ u, w.cell? ⟨g, j, none⟩ = some u) ∧ w.frozen? ⟨g, j, none⟩ = false
def MarkC (w : World) (g m : Nat) : Prop := ∀ j, j < m → w.cell? ⟨g, j, none⟩ = some (.int .i64 ((1 + j : Nat) : Int))
theorem ownC_of {W : World} {g m : Nat} {cs : Array Value} {t : TypeId} (h : Blk W g cs t) (hs : m ≤ cs.size) : OwnC W g m := fun j hj => ⟨⟨cs[j]'(by omega), h.cell j (by simp)⟩, h.thaw j⟩
theorem PRow.own {w : World} {g cap : Nat} {T : TypeId} {L : List Seg} (h : PRow segK T w g cap L) : OwnC w g (L.length * 5) := by
  obtain ⟨cur, hB, hs, h1, _⟩ := h
  have : L.length * 5 ≤ cap * 5 := Nat.mul_le_mul_right _ h1
  exact ownC_of hB (by rw [hs]; exact this)
theorem ownC_set {W : World} {g n : Nat} (h : OwnC W g n) (k : Nat) (v : Value) : OwnC (W.setCell ⟨g, k, none⟩ v) g n := fun j hj => by
  obtain ⟨⟨u, hu⟩, hf⟩ := h j hj
  refine ⟨?_, by rw [World.frozen?_setCell]; exact hf⟩
  by_cases e : j = k
  · subst e
    exact ⟨v, World.cell?_setCell_same W _ _ hu⟩
  · exact ⟨u, by rw [World.cell?_setCell_other W _ _ _ (by intro h; injection h with _ h2; exact e h2.symm)]; exact hu⟩
theorem markC_set {W : World} {g n k : Nat} (h : MarkC W g k) (ho : OwnC W g n) (hk : k < n) : MarkC (W.setCell ⟨g, k, none⟩ (.int .i64 ((1 + k : Nat) : Int))) g (k + 1) := fun j hj => by
  obtain ⟨⟨u, hu⟩, _⟩ := ho k hk
  by_cases e : j = k
  · subst e
    exact World.cell?_setCell_same W _ _ hu
  · rw [World.cell?_setCell_other W _ _ _ (by intro h; injection h with _ h2; exact e h2.symm)]
    exact h j (by omega)
theorem grown_set (W : World) (B o : Nat) (v : Value) : W.grownBy (W.setCell ⟨B, o, none⟩ v) (some B) :=
  ⟨rfl, rfl, rfl, by rw [World.size_setCell]; exact Nat.le_refl _, fun k _ hk => Below.heap_setCell W _ _ k (by intro e; apply hk; rw [e])⟩
structure MSt (w : World) (g n k : Nat) (wr : World) : Prop where
  own : OwnC wr g (n * 5)
  mark : MarkC wr g k
  grown : w.grownBy wr (some g)
theorem MSt.put {w wr : World} {g n k : Nat} (h : MSt w g n k wr) (hk : k < n * 5) : MSt w g n (k + 1) (wr.setCell ⟨g, k, none⟩ (.int .i64 ((1 + k : Nat) : Int))) :=
  ⟨ownC_set h.own _ _, markC_set h.mark h.own hk, grown_two h.grown (grown_set _ _ _ _)⟩
theorem MSt.five {w wr : World} {g n k : Nat} (h : MSt w g n (k * 5) wr) (hk : k < n) : MSt w g n ((k + 1) * 5) (((((wr.setCell ⟨g, k * 5, none⟩ (.int .i64 ((k : Int) * 5 + 1))).setCell ⟨g, k * 5 + 1, none⟩ (.int .i64 ((k : Int) * 5 + 1 + 1))).setCell ⟨g, k * 5 + 2, none⟩ (.int .i64 ((k : Int) * 5 + 1 + 1 + 1))).setCell ⟨g, k * 5 + 3, none⟩ (.int .i64 ((k : Int) * 5 + 1 + 1 + 1 + 1))).setCell ⟨g, k * 5 + 4, none⟩ (.int .i64 ((k : Int) * 5 + 1 + 1 + 1 + 1 + 1))) := by
  have e : ∀ j : Nat, j < 5 → ((1 + (k * 5 + j) : Nat) : Int) = (k : Int) * 5 + 1 + (j : Int) := fun j _ => by omega
  have h5 := ((((h.put (by omega)).put (by omega)).put (by omega)).put (by omega)).put (by omega)
  rw [show (k + 1) * 5 = k * 5 + 1 + 1 + 1 + 1 + 1 by omega]
  have a0 : ((1 + (k * 5) : Nat) : Int) = (k : Int) * 5 + 1 := by omega
  have a1 : ((1 + (k * 5 + 1) : Nat) : Int) = (k : Int) * 5 + 1 + 1 := by omega
  have a2 : ((1 + (k * 5 + 1 + 1) : Nat) : Int) = (k : Int) * 5 + 1 + 1 + 1 := by omega
  have a3 : ((1 + (k * 5 + 1 + 1 + 1) : Nat) : Int) = (k : Int) * 5 + 1 + 1 + 1 + 1 := by omega
  have a4 : ((1 + (k * 5 + 1 + 1 + 1 + 1) : Nat) : Int) = (k : Int) * 5 + 1 + 1 + 1 + 1 + 1 := by omega
  rw [a0, a1, a2, a3, a4] at h5
  exact h5
set_option maxHeartbeats 2000000 in
theorem markSegs (g cap n : Nat) (w : World) (hn : n ≤ 1048576) (ho : OwnC w g (n * 5)) :
    Calls Tryz.prog 51 #[.slice (some ⟨g, 0, none⟩) n cap, .int .i64 1] w fun e w' => e = .returned (.int .i64 ((n : Int) * 5 + 1)) ∧ MSt w g n (n * 5) w' := by
  have S0 : Hid (MSt w g n 0 w) := ⟨ho, fun j hj => by omega, ⟨rfl, rfl, rfl, Nat.le_refl _, fun _ _ _ => rfl⟩⟩
  clear ho
  go_enter Tryz.func51, Tryz.ntmps51
  go_wp2
  go_loopw [1, 5] (fun t i wr => ∃ k : Nat, k ≤ n ∧ i = .int .i64 (k : Int) ∧ t = .int .i64 ((k : Int) * 5 + 1) ∧ MSt w g n (k * 5) wr) (fun _ i _ => n - (intOf i).toNat)
  case atStart => exact ⟨0, Nat.zero_le _, rfl, rfl, S0.out⟩
  case round =>
    obtain ⟨k, hk, rfl, rfl, hM⟩ := hrel
    have HM := hideP hM
    clear hM S0
    by_cases hlt : k < n
    · obtain ⟨⟨u0, h0⟩, f0⟩ := HM.out.own (k * 5) (by omega)
      obtain ⟨⟨u1, h1⟩, f1⟩ := HM.out.own (k * 5 + 1) (by omega)
      obtain ⟨⟨u2, h2⟩, f2⟩ := HM.out.own (k * 5 + 2) (by omega)
      obtain ⟨⟨u3, h3⟩, f3⟩ := HM.out.own (k * 5 + 3) (by omega)
      obtain ⟨⟨u4, h4⟩, f4⟩ := HM.out.own (k * 5 + 4) (by omega)
      have HN := hideP (HM.out.five hlt)
      go_wp2
      exact ⟨⟨k + 1, by omega, by go_num, by apply congrArg (Value.int .i64); omega, HN.out⟩, by simp [intOf]; omega⟩
    · obtain rfl : k = n := by omega
      go_wp2
      go_ret
      exact ⟨rfl, HM.out⟩
end Go.Proofs.YtdgolaaheakfoaaGreatDoor.ctr
