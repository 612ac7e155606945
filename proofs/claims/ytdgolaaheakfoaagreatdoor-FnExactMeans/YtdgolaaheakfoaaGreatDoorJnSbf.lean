/- Contracts of both ReadingOf: in a right regime, at a day of it, its reading; else the zero reading and false. Contracts of both Shift: how far a day of a right regime is from the day that its date is by CGre; 0 and false where there is none. Plain laws of days counted back, of no program: nones and ides, a date's count, the one date of a year that has a count. -/
import Derived.Test.YtdgolaaheakfoaaGreatDoorJnSbe
import Derived.Test.YtdgolaaheakfoaaGreatDoorJnSaw
import Derived.Test.YtdgolaaheakfoaaGreatDoorJnSal
namespace Go.Proofs.YtdgolaaheakfoaaGreatDoor.ctr
open Go.RowKit
theorem boxR (w : World) (cs : Array Value) (t : TypeId) (u : Array Value) (s : TypeId) : ∃ W0, W0 = (w.alloc (.cells cs t)).alloc (.cells u s) ∧ Hid (∀ x : Later W0, Blk x.w w.heap.size cs t) ∧ Hid (∀ x : Later W0, Blk x.w (w.heap.size + 1) u s) ∧ Hid (∀ x : Later W0, Below w.heap.size w x.w) := by
  refine ⟨_, rfl, fun x => ((Blk.new _ _ _).alloc _).later x, fun x => ?_, fun x => below_alloc (below_alloc x.below)⟩
  have h := Blk.new (w.alloc (.cells cs t)) u s
  rw [World.size_alloc] at h
  exact h.later x
theorem sevenL {W : World} {b : Nat} {v0 v1 v2 v3 v4 v5 v6 : Value} {t : TypeId} (h : ∀ x : Later W, Blk x.w b #[v0, v1, v2, v3, v4, v5, v6] t) : (∀ x : Later W, x.w.cell? ⟨b, 0, none⟩ = some v0) ∧ (∀ x : Later W, x.w.cell? ⟨b, 1, none⟩ = some v1) ∧ (∀ x : Later W, x.w.cell? ⟨b, 2, none⟩ = some v2) ∧ (∀ x : Later W, x.w.cell? ⟨b, 3, none⟩ = some v3) ∧ (∀ x : Later W, x.w.cell? ⟨b, 4, none⟩ = some v4) ∧ (∀ x : Later W, x.w.cell? ⟨b, 5, none⟩ = some v5) ∧ ∀ x : Later W, x.w.cell? ⟨b, 6, none⟩ = some v6 :=
  ⟨fun x => (h x).cell 0 rfl, fun x => (h x).cell 1 rfl, fun x => (h x).cell 2 rfl, fun x => (h x).cell 3 rfl, fun x => (h x).cell 4 rfl, fun x => (h x).cell 5 rfl, fun x => (h x).cell 6 rfl⟩
theorem fiveL {W : World} {b : Nat} {v0 v1 v2 v3 v4 : Value} {t : TypeId} (h : ∀ x : Later W, Blk x.w b #[v0, v1, v2, v3, v4] t) : (∀ x : Later W, x.w.cell? ⟨b, 0, none⟩ = some v0) ∧ (∀ x : Later W, x.w.cell? ⟨b, 1, none⟩ = some v1) ∧ (∀ x : Later W, x.w.cell? ⟨b, 2, none⟩ = some v2) ∧ (∀ x : Later W, x.w.cell? ⟨b, 3, none⟩ = some v3) ∧ ∀ x : Later W, x.w.cell? ⟨b, 4, none⟩ = some v4 :=
  ⟨fun x => (h x).cell 0 rfl, fun x => (h x).cell 1 rfl, fun x => (h x).cell 2 rfl, fun x => (h x).cell 3 rfl, fun x => (h x).cell 4 rfl⟩
theorem fiveF {W : World} {b : Nat} {v0 v1 v2 v3 v4 : Value} {t : TypeId} (h : ∀ x : Later W, Blk x.w b #[v0, v1, v2, v3, v4] t) : (∀ x : Later W, x.w.frozen? ⟨b, 0, none⟩ = false) ∧ (∀ x : Later W, x.w.frozen? ⟨b, 1, none⟩ = false) ∧ (∀ x : Later W, x.w.frozen? ⟨b, 2, none⟩ = false) ∧ (∀ x : Later W, x.w.frozen? ⟨b, 3, none⟩ = false) ∧ ∀ x : Later W, x.w.frozen? ⟨b, 4, none⟩ = false :=
  ⟨fun x => (h x).thaw 0, fun x => (h x).thaw 1, fun x => (h x).thaw 2, fun x => (h x).thaw 3, fun x => (h x).thaw 4⟩
theorem GRow.parts {w : World} {v : Value} {r : Rgm} (h : GRow w v r) : ∃ a1 c1 a2 c2 a3 c3, v = .agg #[.string r.name, .int .i64 r.fr, .int .i64 r.to, .slice a1 r.segs.length c1, .slice a2 r.pats.length c2, .slice a3 r.rgns.length c3, .int .i64 r.rule] := by
  obtain ⟨v1, v2, v3, rfl, _, ⟨a1, c1, rfl, _⟩, ⟨a2, c2, rfl, _⟩, ⟨a3, c3, rfl, _⟩⟩ := h
  exact ⟨_, _, _, _, _, _, rfl⟩
theorem box7 (w : World) (v0 v1 v2 v3 v4 v5 v6 : Value) (t : TypeId) : ∃ W0, W0 = w.alloc (.cells #[v0, v1, v2, v3, v4, v5, v6] t) ∧ (∀ x : Later W0, Blk x.w w.heap.size #[v0, v1, v2, v3, v4, v5, v6] t) ∧ ∀ x : Later W0, Below w.heap.size w x.w := ⟨_, rfl, fun x => (Blk.new _ _ _).later x, fun x => below_alloc x.below⟩
noncomputable def hasB (r : Rgm) (n : Int) : Bool := regimeB r && decide (r.fr ≤ n) && decide (n ≤ r.to)
theorem hasB_yes {r : Rgm} {n : Int} (h : hasB r n = true) : regimeB r = true ∧ r.fr ≤ n ∧ n ≤ r.to := by
  unfold hasB at h
  simp only [Bool.and_eq_true, decide_eq_true_eq] at h
  exact ⟨h.1.1, h.1.2, h.2⟩
theorem hasB_no {r : Rgm} {n : Int} (h : hasB r n = false) : ¬ (regimeB r = true ∧ r.fr ≤ n ∧ n ≤ r.to) := by
  rintro ⟨h1, h2, h3⟩
  unfold hasB at h
  rw [h1, decide_eq_true h2, decide_eq_true h3] at h
  cases h
theorem readR_yes {r : Rgm} {n : Int} (h : regimeB r = true) (h1 : r.fr ≤ n) (h2 : n ≤ r.to) : readR r n = .tuple #[rdgV (rdgOn r n), .bool true] := by unfold readR; rw [if_pos ⟨h, h1, h2⟩]
theorem readR_no {r : Rgm} {n : Int} (h : ¬ (regimeB r = true ∧ r.fr ≤ n ∧ n ≤ r.to)) : readR r n = .tuple #[rdgV rdg0, .bool false] := by unfold readR; rw [if_neg h]
set_option maxHeartbeats 2000000 in
theorem specReadNo (v : Value) (r : Rgm) (n : Int) (w : World) (h : GRow w v r) (hn : segAt r.segs n = -1) : Calls Tryz.prog 48 #[v, .int .i64 n] w fun e w' => e = .returned (.tuple #[rdgV rdg0, .bool false]) ∧ Below w.heap.size w w' := by
  have hG := h
  obtain ⟨v1, v2, v3, rfl, _, x1, x2, x3⟩ := h
  obtain ⟨a1, c1, rfl, _⟩ := x1
  obtain ⟨a2, c2, rfl, _⟩ := x2
  obtain ⟨a3, c3, rfl, _⟩ := x3
  obtain ⟨W0, e0, HR, HZ, HB⟩ := boxR w #[.string r.name, .int .i64 r.fr, .int .i64 r.to, .slice a1 r.segs.length c1, .slice a2 r.pats.length c2, .slice a3 r.rgns.length c3, .int .i64 r.rule] 40 #[.int .i64 0, .int .i64 0, .int .i64 0, .int .i64 0, .int .i64 0] 76
  have hG0 : Hid (∀ y : Later W0, GRow y.w (.agg #[.string r.name, .int .i64 r.fr, .int .i64 r.to, .slice a1 r.segs.length c1, .slice a2 r.pats.length c2, .slice a3 r.rgns.length c3, .int .i64 r.rule]) r) := fun y => GRow.below hG (HB.out y)
  have R0 : ∀ y : Later W0, y.w.cell? ⟨w.heap.size, 0, none⟩ = some (.string r.name) := fun y => (HR.out y).cell 0 rfl
  have R1 : ∀ y : Later W0, y.w.cell? ⟨w.heap.size, 1, none⟩ = some (.int .i64 r.fr) := fun y => (HR.out y).cell 1 rfl
  have R2 : ∀ y : Later W0, y.w.cell? ⟨w.heap.size, 2, none⟩ = some (.int .i64 r.to) := fun y => (HR.out y).cell 2 rfl
  have R3 : ∀ y : Later W0, y.w.cell? ⟨w.heap.size, 3, none⟩ = some (.slice a1 r.segs.length c1) := fun y => (HR.out y).cell 3 rfl
  have R4 : ∀ y : Later W0, y.w.cell? ⟨w.heap.size, 4, none⟩ = some (.slice a2 r.pats.length c2) := fun y => (HR.out y).cell 4 rfl
  have R5 : ∀ y : Later W0, y.w.cell? ⟨w.heap.size, 5, none⟩ = some (.slice a3 r.rgns.length c3) := fun y => (HR.out y).cell 5 rfl
  have R6 : ∀ y : Later W0, y.w.cell? ⟨w.heap.size, 6, none⟩ = some (.int .i64 r.rule) := fun y => (HR.out y).cell 6 rfl
  have u0 : ∀ y : Later W0, y.w.cell? ⟨w.heap.size + 1, 0, none⟩ = some (.int .i64 0) := fun y => (HZ.out y).cell 0 rfl
  have f0 : ∀ y : Later W0, y.w.frozen? ⟨w.heap.size + 1, 0, none⟩ = false := fun y => (HZ.out y).thaw 0
  have u1 : ∀ y : Later W0, y.w.cell? ⟨w.heap.size + 1, 1, none⟩ = some (.int .i64 0) := fun y => (HZ.out y).cell 1 rfl
  have f1 : ∀ y : Later W0, y.w.frozen? ⟨w.heap.size + 1, 1, none⟩ = false := fun y => (HZ.out y).thaw 1
  have u2 : ∀ y : Later W0, y.w.cell? ⟨w.heap.size + 1, 2, none⟩ = some (.int .i64 0) := fun y => (HZ.out y).cell 2 rfl
  have f2 : ∀ y : Later W0, y.w.frozen? ⟨w.heap.size + 1, 2, none⟩ = false := fun y => (HZ.out y).thaw 2
  have u3 : ∀ y : Later W0, y.w.cell? ⟨w.heap.size + 1, 3, none⟩ = some (.int .i64 0) := fun y => (HZ.out y).cell 3 rfl
  have f3 : ∀ y : Later W0, y.w.frozen? ⟨w.heap.size + 1, 3, none⟩ = false := fun y => (HZ.out y).thaw 3
  have u4 : ∀ y : Later W0, y.w.cell? ⟨w.heap.size + 1, 4, none⟩ = some (.int .i64 0) := fun y => (HZ.out y).cell 4 rfl
  have f4 : ∀ y : Later W0, y.w.frozen? ⟨w.heap.size + 1, 4, none⟩ = false := fun y => (HZ.out y).thaw 4
  have E0 := hideP e0
  have KS : ∀ y : Later W0, Calls Tryz.prog 90 #[.agg #[.string r.name, .int .i64 r.fr, .int .i64 r.to, .slice a1 r.segs.length c1, .slice a2 r.pats.length c2, .slice a3 r.rgns.length c3, .int .i64 r.rule], .int .i64 n] y.w fun e w' => e = .returned (.int .i64 (-1)) ∧ Below y.w.heap.size y.w w' := fun y => by
    have k := specSegAt _ r n y.w (hG0.out y)
    rw [hn] at k
    exact k
  clear e0 hG hn
  go_enter Tryz.func48, Tryz.ntmps48
  go_wp2_with fail
  rw [← E0.out]
  refine (KS ⟨W0, Below.refl _ _⟩).mono ?_
  rintro e w1 ⟨rfl, hb⟩
  obtain ⟨x1, rfl⟩ := Later.of hb
  clear hb
  go_wp2
  obtain ⟨W9, e9⟩ : ∃ W9, W9 = ((((x1.w.setCell ⟨w.heap.size + 1, 0, none⟩ (.int .i64 0)).setCell ⟨w.heap.size + 1, 1, none⟩ (.int .i64 0)).setCell ⟨w.heap.size + 1, 2, none⟩ (.int .i64 0)).setCell ⟨w.heap.size + 1, 3, none⟩ (.int .i64 0)).setCell ⟨w.heap.size + 1, 4, none⟩ (.int .i64 0) := ⟨_, rfl⟩
  have Z9 : Blk W9 (w.heap.size + 1) #[.int .i64 0, .int .i64 0, .int .i64 0, .int .i64 0, .int .i64 0] 76 := by rw [e9]; exact ((((((HZ.out x1).set 0 _).set 1 _).set 2 _).set 3 _).set 4 _)
  have B9 : Below w.heap.size w W9 := by rw [e9]; exact (Below.setCell (Below.setCell (Below.setCell (Below.setCell (Below.setCell (HB.out x1) (p := ⟨w.heap.size + 1, 0, none⟩) (show w.heap.size ≤ w.heap.size + 1 by omega) _) (p := ⟨w.heap.size + 1, 1, none⟩) (show w.heap.size ≤ w.heap.size + 1 by omega) _) (p := ⟨w.heap.size + 1, 2, none⟩) (show w.heap.size ≤ w.heap.size + 1 by omega) _) (p := ⟨w.heap.size + 1, 3, none⟩) (show w.heap.size ≤ w.heap.size + 1 by omega) _) (p := ⟨w.heap.size + 1, 4, none⟩) (show w.heap.size ≤ w.heap.size + 1 by omega) _)
  rw [← e9]
  clear e9
  have q0 : W9.cell? ⟨w.heap.size + 1, 0, none⟩ = some (.int .i64 0) := Z9.cell 0 rfl
  have q1 : W9.cell? ⟨w.heap.size + 1, 1, none⟩ = some (.int .i64 0) := Z9.cell 1 rfl
  have q2 : W9.cell? ⟨w.heap.size + 1, 2, none⟩ = some (.int .i64 0) := Z9.cell 2 rfl
  have q3 : W9.cell? ⟨w.heap.size + 1, 3, none⟩ = some (.int .i64 0) := Z9.cell 3 rfl
  have q4 : W9.cell? ⟨w.heap.size + 1, 4, none⟩ = some (.int .i64 0) := Z9.cell 4 rfl
  exact bodyPost_ret (by simp [results, Tryz.results48, go_sem, q0, q1, q2, q3, q4]; try rfl) rfl ⟨rfl, B9⟩
set_option maxHeartbeats 4000000 in
theorem implHasReading (v : Value) (r : Rgm) (n : Int) (a : Addr) (w : World) (h : GRow w v r) (ht : r.to ≤ 9223372036854775807) (hE : ErrT w) (hT : Tab w) (hS : Sent w a) : Calls Tryz.prog 81 #[v, .int .i64 n] w fun e w' => e = .returned (.bool (hasB r n)) ∧ Below w.heap.size w w' := by
  have hG := h
  obtain ⟨a1, c1, a2, c2, a3, c3, rfl⟩ := h.parts
  obtain ⟨W0, e0, HR, HB⟩ := box7 w (.string r.name) (.int .i64 r.fr) (.int .i64 r.to) (.slice a1 r.segs.length c1) (.slice a2 r.pats.length c2) (.slice a3 r.rgns.length c3) (.int .i64 r.rule) 40
  obtain ⟨d0, d1, d2, d3, d4, d5, d6⟩ := sevenL HR
  have KO : ∀ y : Later W0, Calls Tryz.prog 58 #[.agg #[.string r.name, .int .i64 r.fr, .int .i64 r.to, .slice a1 r.segs.length c1, .slice a2 r.pats.length c2, .slice a3 r.rgns.length c3, .int .i64 r.rule]] y.w fun e w' => e = .returned (.bool (regimeB r)) ∧ Below y.w.heap.size y.w w' := fun y => implRegimeOk _ r a y.w (hG.below (HB y)) ht (hE.below (HB y)) (hT.later (HB y)) (hS.later (HB y))
  have E0 := hideP e0
  have HB := hideP HB
  unfold hasB
  generalize regimeB r = ok at *
  clear e0 hG h ht hE hT hS HR
  obtain ⟨b1, hd1⟩ : ∃ b, decide (r.fr ≤ n) = b := ⟨_, rfl⟩
  obtain ⟨b2, hd2⟩ : ∃ b, decide (n ≤ r.to) = b := ⟨_, rfl⟩
  rw [hd1, hd2]
  cases b1
  all_goals cases b2
  all_goals
    cases ok
    all_goals
      go_enter Tryz.func81, Tryz.ntmps81
      go_wp2_with fail
      rw [← E0.out]
      refine (KO ⟨W0, Below.refl _ _⟩).mono ?_
      rintro e w1 ⟨rfl, hb⟩
      obtain ⟨x1, rfl⟩ := Later.of hb
      clear hb
      go_wp2
      go_returns
      exact ⟨rfl, HB.out x1⟩
set_option maxHeartbeats 4000000 in
theorem implReadingOf (v : Value) (r : Rgm) (n : Int) (a : Addr) (w : World) (h : GRow w v r) (ht : r.to ≤ 9223372036854775807) (hE : ErrT w) (hT : Tab w) (hS : Sent w a) : Calls Tryz.prog 41 #[v, .int .i64 n] w fun e w' => e = .returned (readR r n) ∧ Below w.heap.size w w' := by
  have hG := h
  obtain ⟨a1, c1, a2, c2, a3, c3, rfl⟩ := h.parts
  obtain ⟨W0, e0, HR, HZ, HB⟩ := boxR w #[.string r.name, .int .i64 r.fr, .int .i64 r.to, .slice a1 r.segs.length c1, .slice a2 r.pats.length c2, .slice a3 r.rgns.length c3, .int .i64 r.rule] 40 #[.int .i64 0, .int .i64 0, .int .i64 0, .int .i64 0, .int .i64 0] 76
  obtain ⟨d0, d1, d2, d3, d4, d5, d6⟩ := sevenL HR.out
  obtain ⟨u0, u1, u2, u3, u4⟩ := fiveL HZ.out
  obtain ⟨f0, f1, f2, f3, f4⟩ := fiveF HZ.out
  have hG0 : ∀ y : Later W0, GRow y.w _ r := fun y => GRow.below hG (HB.out y)
  have KO : ∀ y : Later W0, Calls Tryz.prog 81 #[.agg #[.string r.name, .int .i64 r.fr, .int .i64 r.to, .slice a1 r.segs.length c1, .slice a2 r.pats.length c2, .slice a3 r.rgns.length c3, .int .i64 r.rule], .int .i64 n] y.w fun e w' => e = .returned (.bool (hasB r n)) ∧ Below y.w.heap.size y.w w' := fun y => implHasReading _ r n a y.w (hG0 y) ht (hE.below (HB.out y)) (hT.later (HB.out y)) (hS.later (HB.out y))
  have KR : regimeB r = true → r.fr ≤ n → n ≤ r.to → ∀ y : Later W0, Calls Tryz.prog 50 #[.agg #[.string r.name, .int .i64 r.fr, .int .i64 r.to, .slice a1 r.segs.length c1, .slice a2 r.pats.length c2, .slice a3 r.rgns.length c3, .int .i64 r.rule], .int .i64 n] y.w fun e w' => e = .returned (rdgV (rdgOn r n)) ∧ Below y.w.heap.size y.w w' := fun k0 k1 k2 y => implReadingOn _ r n y.w (hG0 y) k0 k1 k2 (hT.later (HB.out y))
  have E0 := hideP e0
  clear e0 hG h hG0 ht hE hT hS
  have key : ∀ (x : Rdg) (x1 : Later W0), ∃ W9, W9 = ((((x1.w.setCell ⟨w.heap.size + 1, 0, none⟩ (.int .i64 x.cal)).setCell ⟨w.heap.size + 1, 1, none⟩ (.int .i64 x.year)).setCell ⟨w.heap.size + 1, 2, none⟩ (.int .i64 x.sol)).setCell ⟨w.heap.size + 1, 3, none⟩ (.int .i64 x.mon)).setCell ⟨w.heap.size + 1, 4, none⟩ (.int .i64 x.day) ∧ Blk W9 (w.heap.size + 1) #[.int .i64 x.cal, .int .i64 x.year, .int .i64 x.sol, .int .i64 x.mon, .int .i64 x.day] 76 ∧ Below w.heap.size w W9 := fun x x1 => ⟨_, rfl, ((((((HZ.out x1).set 0 _).set 1 _).set 2 _).set 3 _).set 4 _), (Below.setCell (Below.setCell (Below.setCell (Below.setCell (Below.setCell (HB.out x1) (p := ⟨w.heap.size + 1, 0, none⟩) (show w.heap.size ≤ w.heap.size + 1 by omega) _) (p := ⟨w.heap.size + 1, 1, none⟩) (show w.heap.size ≤ w.heap.size + 1 by omega) _) (p := ⟨w.heap.size + 1, 2, none⟩) (show w.heap.size ≤ w.heap.size + 1 by omega) _) (p := ⟨w.heap.size + 1, 3, none⟩) (show w.heap.size ≤ w.heap.size + 1 by omega) _) (p := ⟨w.heap.size + 1, 4, none⟩) (show w.heap.size ≤ w.heap.size + 1 by omega) _)⟩
  have Key := hideP key
  clear key
  cases hb0 : hasB r n
  · rw [readR_no (hasB_no hb0)]
    rw [hb0] at KO
    clear KR hb0
    go_enter Tryz.func41, Tryz.ntmps41
    go_wp2_with fail
    rw [← E0.out]
    refine (KO ⟨W0, Below.refl _ _⟩).mono ?_
    rintro e w1 ⟨rfl, hb⟩
    obtain ⟨x1, rfl⟩ := Later.of hb
    clear hb
    go_wp2
    obtain ⟨W9, e9, Z9, B9⟩ := Key.out rdg0 x1
    unfold rdg0 at e9 Z9
    dsimp only at e9 Z9
    rw [← e9]
    clear e9
    have q0 : W9.cell? ⟨w.heap.size + 1, 0, none⟩ = some (.int .i64 0) := Z9.cell 0 rfl
    have q1 : W9.cell? ⟨w.heap.size + 1, 1, none⟩ = some (.int .i64 0) := Z9.cell 1 rfl
    have q2 : W9.cell? ⟨w.heap.size + 1, 2, none⟩ = some (.int .i64 0) := Z9.cell 2 rfl
    have q3 : W9.cell? ⟨w.heap.size + 1, 3, none⟩ = some (.int .i64 0) := Z9.cell 3 rfl
    have q4 : W9.cell? ⟨w.heap.size + 1, 4, none⟩ = some (.int .i64 0) := Z9.cell 4 rfl
    exact bodyPost_ret (by simp [results, Tryz.results41, go_sem, q0, q1, q2, q3, q4]; try rfl) rfl ⟨rfl, B9⟩
  · have hy := hasB_yes hb0
    rw [readR_yes hy.1 hy.2.1 hy.2.2]
    have K := KR hy.1 hy.2.1 hy.2.2
    rw [hb0] at KO
    clear KR hb0 hy
    generalize rdgOn r n = x at *
    go_enter Tryz.func41, Tryz.ntmps41
    go_wp2_with fail
    rw [← E0.out]
    refine (KO ⟨W0, Below.refl _ _⟩).mono ?_
    rintro e w1 ⟨rfl, hb⟩
    obtain ⟨x1, rfl⟩ := Later.of hb
    clear hb
    go_wp2_with fail
    refine (K x1).mono ?_
    rintro e w2 ⟨rfl, hb⟩
    obtain ⟨x2, rfl⟩ := x1.next hb
    clear hb
    go_wp2
    obtain ⟨W9, e9, Z9, B9⟩ := Key.out x x2
    rw [← e9]
    clear e9
    have q0 : W9.cell? ⟨w.heap.size + 1, 0, none⟩ = some (.int .i64 x.cal) := Z9.cell 0 rfl
    have q1 : W9.cell? ⟨w.heap.size + 1, 1, none⟩ = some (.int .i64 x.year) := Z9.cell 1 rfl
    have q2 : W9.cell? ⟨w.heap.size + 1, 2, none⟩ = some (.int .i64 x.sol) := Z9.cell 2 rfl
    have q3 : W9.cell? ⟨w.heap.size + 1, 3, none⟩ = some (.int .i64 x.mon) := Z9.cell 3 rfl
    have q4 : W9.cell? ⟨w.heap.size + 1, 4, none⟩ = some (.int .i64 x.day) := Z9.cell 4 rfl
    exact bodyPost_ret (by simp [results, Tryz.results41, go_sem, q0, q1, q2, q3, q4]; try rfl) rfl ⟨rfl, B9⟩
end Go.Proofs.YtdgolaaheakfoaaGreatDoor.ctr
namespace Go.Proofs.YtdgolaaheakfoaaGreatDoor.ctr
open Go.RowKit
theorem day_in {r : Rgm} {n : Int} (h : regimeB r = true) (h1 : r.fr ≤ n) (h2 : n ≤ r.to) : 400 ≤ n ∧ n ≤ 1090000 := by
  rcases segAt_cases r.segs n with ⟨k, _⟩ | ⟨j, hj, k, k1, k2⟩
  · have := (seg_fact h n).2 ⟨h1, h2⟩; omega
  · have := segOk_nums (right_seg h hj).1; omega
theorem plainR_yes {c : Int} {x : Rdg} (h : dateOk c x.sol x.mon x.day = true) : plainR c x = .tuple #[.agg #[.int .i64 c, .int .i64 x.sol, .int .i64 x.mon, .int .i64 x.day], .bool true] := by unfold plainR; rw [if_pos h]
theorem plainR_no {c : Int} {x : Rdg} (h : ¬ dateOk c x.sol x.mon x.day = true) : plainR c x = .tuple #[.agg #[.int .i64 0, .int .i64 0, .int .i64 0, .int .i64 0], .bool false] := by unfold plainR; rw [if_neg h]
end Go.Proofs.YtdgolaaheakfoaaGreatDoor.ctr
namespace Go.Proofs.YtdgolaaheakfoaaGreatDoor.ctr
open Go.RowKit
def nones (m : Int) : Int := if 1 ≤ m ∧ m ≤ 12 then (if m = 3 ∨ m = 5 ∨ m = 7 ∨ m = 10 then 7 else 5) else 0
def ides (m : Int) : Int := if 1 ≤ m ∧ m ≤ 12 then nones m + 8 else 0
theorem nones_b (m : Int) : 0 ≤ nones m ∧ nones m ≤ 7 := by
  unfold nones
  split
  · split <;> omega
  · omega
theorem ides_b (m : Int) : 0 ≤ ides m ∧ ides m ≤ 15 := by
  have := nones_b m
  unfold ides
  split <;> omega
theorem ides_in {m : Int} (h1 : 1 ≤ m) (h2 : m ≤ 12) : ides m = nones m + 8 := by unfold ides; rw [if_pos ⟨h1, h2⟩]
theorem nones_in {m : Int} (h1 : 1 ≤ m) (h2 : m ≤ 12) : 5 ≤ nones m := by
  unfold nones
  rw [if_pos ⟨h1, h2⟩]
  split <;> omega
structure Rom where
  count : Int
  mark : Int
  month : Int
  twice : Bool
instance : DecidableEq Rom := fun a b =>
  if h : a.count = b.count ∧ a.mark = b.mark ∧ a.month = b.month ∧ a.twice = b.twice then .isTrue (by cases a; cases b; simp at h; simp [h]) else .isFalse (fun e => h (by subst e; exact ⟨rfl, rfl, rfl, rfl⟩))
def countDays (c y m d : Int) : Int := if m = 2 ∧ d ≤ 24 then 28 else monthDays c y m
def romanIn (c y m d : Int) : Rom :=
  if d = 1 then ⟨1, 0, m, false⟩
  else if d ≤ nones m then ⟨nones m - d + 1, 1, m, false⟩
  else if d ≤ ides m then ⟨ides m - d + 1, 2, m, false⟩
  else ⟨countDays c y m d - d + 2, 0, m % 12 + 1, decide (m = 2 ∧ d = 24 ∧ leapP c y)⟩
def romanOf (c y m d : Int) : Rom := if dateP c y m d then romanIn c y m d else ⟨0, 0, 0, false⟩
def monAhead (m : Int) : Int := if m = 1 then 12 else m - 1
def invM (r : Rom) : Int := if r.mark = 0 ∧ r.count ≠ 1 then monAhead r.month else r.month
def invD (c y : Int) (r : Rom) : Int :=
  if r.mark = 0 then
    if r.count = 1 then 1
    else if monAhead r.month = 2 ∧ leapP c y ∧ (6 < r.count ∨ r.twice = true) then 30 - r.count
    else monthDays c y (monAhead r.month) + 2 - r.count
  else if r.mark = 1 then nones r.month + 1 - r.count
  else ides r.month + 1 - r.count
theorem inv_back {c y m d : Int} (h : dateP c y m d) : invM (romanOf c y m d) = m ∧ invD c y (romanOf c y m d) = d := by
  have hm := dateP_month h
  have hd := dateP_day h
  have hn := nones_in hm.1 hm.2
  have hi := ides_in hm.1 hm.2
  unfold romanOf
  rw [if_pos h]
  unfold romanIn
  by_cases h1 : d = 1
  · rw [if_pos h1]
    unfold invM invD
    simp [h1]
  rw [if_neg h1]
  by_cases h2 : d ≤ nones m
  · rw [if_pos h2]
    unfold invM invD
    simp
    omega
  rw [if_neg h2]
  by_cases h3 : d ≤ ides m
  · rw [if_pos h3]
    unfold invM invD
    simp
    omega
  rw [if_neg h3]
  have hA : monAhead (m % 12 + 1) = m := by unfold monAhead; split <;> omega
  have hmd := h.2.2.2.2
  have hc := h.1
  have hcd : countDays c y m d - d + 2 ≠ 1 := by
    unfold countDays
    split <;> omega
  unfold invM invD
  simp only [hA]
  rw [if_pos ⟨trivial, hcd⟩, if_pos trivial, if_neg hcd]
  refine ⟨rfl, ?_⟩
  by_cases e2 : m = 2
  · subst e2
    by_cases hl : leapP c y
    · have h29 := monthDays_leap hc hl
      rw [h29] at hmd
      by_cases h24 : d ≤ 24
      · have hk : countDays c y 2 d = 28 := by unfold countDays; rw [if_pos ⟨rfl, h24⟩]
        rw [hk, if_pos]
        · omega
        · refine ⟨rfl, hl, ?_⟩
          by_cases e : d = 24
          · right
            simp [e, hl]
          · left
            omega
      · have hk : countDays c y 2 d = 29 := by unfold countDays; rw [if_neg (fun h => h24 h.2), h29]
        rw [hk, h29, if_neg]
        · omega
        · rintro ⟨_, _, h | h⟩
          · omega
          · simp at h
            omega
    · rw [if_neg (fun h => hl h.2.1)]
      have h28 : monthDays c y 2 = 28 := monthDays_plain hc (by omega) (by omega) (fun h => hl h.2)
      unfold countDays
      rw [h28]
      split <;> omega
  · rw [if_neg (fun h => e2 h.1)]
    unfold countDays
    rw [if_neg (fun h => e2 h.1)]
    omega
def isDay (c y : Int) (r : Rom) (m d : Int) : Prop := dateP c y m d ∧ romanOf c y m d = r
theorem isDay_inv {c y m d : Int} {r : Rom} (h : isDay c y r m d) : m = invM r ∧ d = invD c y r := by
  have := inv_back h.1
  rw [h.2] at this
  exact ⟨this.1.symm, this.2.symm⟩
def dayR (c y : Int) (r : Rom) : Bool := decide (dateP c y (invM r) (invD c y r) ∧ romanOf c y (invM r) (invD c y r) = r)
theorem dayR_of {c y m d : Int} {r : Rom} (h : isDay c y r m d) : dayR c y r = true := by
  obtain ⟨rfl, rfl⟩ := isDay_inv h
  exact decide_eq_true h
instance (c y : Int) (r : Rom) (m d : Int) : Decidable (isDay c y r m d) := by unfold isDay; infer_instance
theorem dayR_is {c y : Int} {r : Rom} (h : dayR c y r = true) : isDay c y r (invM r) (invD c y r) := by
  unfold dayR at h
  exact of_decide_eq_true h
def dayOfRoman (c y : Int) (r : Rom) : Int × Int × Int × Int := if dayR c y r = true then (c, y, invM r, invD c y r) else (0, 0, 0, 0)
theorem romDay_yes {c y m d : Int} {r : Rom} (h : isDay c y r m d) : dayOfRoman c y r = (c, y, m, d) := by
  unfold dayOfRoman
  rw [if_pos (dayR_of h)]
  obtain ⟨rfl, rfl⟩ := isDay_inv h
  rfl
theorem romDay_no {c y : Int} {r : Rom} (h : ∀ m d, ¬ isDay c y r m d) : dayOfRoman c y r = (0, 0, 0, 0) := by
  unfold dayOfRoman
  rw [if_neg (fun k => h _ _ (dayR_is k))]
def romB (r : Rom) : Bool := dayR 0 4 r
theorem leap4 : leapP 0 4 := by decide
theorem romB_any {c y m d : Int} (h : dateP c y m d) : romB (romanOf c y m d) = true := by
  have hm := dateP_month h
  have hd := dateP_day h
  have hn := nones_in hm.1 hm.2
  have hi := ides_in hm.1 hm.2
  have hc := h.1
  have hmd := h.2.2.2.2
  by_cases e2 : m = 2
  · subst e2
    by_cases hlow : d ≤ 23 ∨ leapP c y
    · have hP : dateP 0 4 2 d := ⟨.inl rfl, by omega, by omega, h.2.2.2.1, by
        rw [monthDays_leap (.inl rfl) leap4]
        by_cases hl : leapP c y
        · rw [monthDays_leap hc hl] at hmd
          exact hmd
        · rw [monthDays_plain hc (by omega) (by omega) (fun h => hl h.2)] at hmd
          have : tab12.getD ((2 : Int) - 1).toNat 0 = 28 := rfl
          omega⟩
      refine dayR_of (m := 2) (d := d) ⟨hP, ?_⟩
      unfold romanOf
      rw [if_pos h, if_pos hP]
      have hcd : countDays 0 4 2 d = countDays c y 2 d := by
        unfold countDays
        by_cases h24 : d ≤ 24
        · rw [if_pos ⟨rfl, h24⟩, if_pos ⟨rfl, h24⟩]
        · have hl : leapP c y := by
            rcases hlow with h | h
            · omega
            · exact h
          rw [if_neg (fun h => h24 h.2), if_neg (fun h => h24 h.2), monthDays_leap (.inl rfl) leap4, monthDays_leap hc hl]
      have htw : decide ((2 : Int) = 2 ∧ d = 24 ∧ leapP 0 4) = decide ((2 : Int) = 2 ∧ d = 24 ∧ leapP c y) := by
        by_cases e : d = 24
        · have hl : leapP c y := by
            rcases hlow with h | h
            · omega
            · exact h
          simp [e, hl, leap4]
        · simp [e]
      unfold romanIn
      rw [hcd, htw]
    · have hl : ¬ leapP c y := fun k => hlow (.inr k)
      have h28 : monthDays c y 2 = 28 := monthDays_plain hc (by omega) (by omega) (fun h => hl h.2)
      rw [h28] at hmd
      have hP : dateP 0 4 2 (d + 1) := ⟨.inl rfl, by omega, by omega, by omega, by rw [monthDays_leap (.inl rfl) leap4]; omega⟩
      refine dayR_of (m := 2) (d := d + 1) ⟨hP, ?_⟩
      have hn2 : nones 2 = 5 := rfl
      have hi2 : ides 2 = 13 := rfl
      unfold romanOf
      rw [if_pos h, if_pos hP]
      unfold romanIn countDays
      rw [if_neg (by omega), if_neg (by omega), if_neg (by omega), if_neg (by omega), if_neg (by omega), if_neg (by omega), if_neg (by omega), monthDays_leap (.inl rfl) leap4, h28]
      simp [hl, show ¬ d + 1 = 24 by omega]
      omega
  · have hsame : monthDays 0 4 m = monthDays c y m := by
      rw [monthDays_plain hc hm.1 hm.2 (fun h => e2 h.1), monthDays_plain (.inl rfl) hm.1 hm.2 (fun h => e2 h.1)]
    have hP : dateP 0 4 m d := ⟨.inl rfl, by omega, by omega, h.2.2.2.1, by rw [hsame]; exact hmd⟩
    refine dayR_of (m := m) (d := d) ⟨hP, ?_⟩
    unfold romanOf
    rw [if_pos h, if_pos hP]
    unfold romanIn countDays
    rw [hsame]
    simp [e2]
theorem romB_of {c y m d : Int} {r : Rom} (h : isDay c y r m d) : romB r = true := by
  have := romB_any h.1
  rw [h.2] at this
  exact this
end Go.Proofs.YtdgolaaheakfoaaGreatDoor.ctr
