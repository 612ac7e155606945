/- The walk of the law FnRegime: for every code of bytes it returns true and turns nothing that was there, where the listed tables hold what they list. -/
import Derived.Test.YtchhdoipkimbgaaGreatDoorDrwB
import Derived.Test.YtchhdoipkimbgaaGreatDoorChgA
import Derived.Test.YtchhdoipkimbgaaGreatDoorSameA
import Derived.Test.YtchhdoipkimbgaaGreatDoorDrwA
import Derived.Test.YtchhdoipkimbgaaGreatDoorWlkA
import Derived.Deep.DeepCutAuto
import Derived.Shelf.Abstract
namespace Go.Proofs.YtchhdoipkimbgaaGreatDoor.ctr
open Go.RowKit Go.ChangeShapes

theorem bel_on {V P w1 : World} (h : Below V.heap.size V P) (hb : Below P.heap.size P w1) : Below V.heap.size V w1 := h.trans (hb.mono h.size)
theorem GRow.form {W : World} {v : Value} {r : Rgm} (h : GRow W v r) : ∃ (a1 : Option Addr) (c1 : Nat) (a2 : Option Addr) (c2 : Nat) (a3 : Option Addr) (c3 : Nat), v = .agg #[.string r.name, .int .i64 r.fr, .int .i64 r.to, .slice a1 r.segs.length c1, .slice a2 r.pats.length c2, .slice a3 r.rgns.length c3, .int .i64 r.rule] := by
  obtain ⟨v1, v2, v3, rfl, _, ⟨a1, c1, rfl, _⟩, ⟨a2, c2, rfl, _⟩, ⟨a3, c3, rfl, _⟩⟩ := h
  exact ⟨a1, c1, a2, c2, a3, c3, rfl⟩
/-- A regime's block. -/
def GB (W : World) (E : Nat) (ev : Array Value) : Prop := Blk W E ev 29
theorem GB.below {W W' : World} {E : Nat} {ev : Array Value} (h : GB W E ev) (hb : Below W.heap.size W W') : GB W' E ev := Blk.below h hb (Blk.lt h)
theorem GB.cells {W : World} {E : Nat} {a b c d e f g : Value} (h : GB W E #[a, b, c, d, e, f, g]) : W.cell? ⟨E, 0, none⟩ = some a ∧ W.cell? ⟨E, 1, none⟩ = some b ∧ W.cell? ⟨E, 2, none⟩ = some c ∧ W.cell? ⟨E, 3, none⟩ = some d ∧ W.cell? ⟨E, 4, none⟩ = some e ∧ W.cell? ⟨E, 5, none⟩ = some f ∧ W.cell? ⟨E, 6, none⟩ = some g :=
  ⟨Blk.cell h 0 rfl, Blk.cell h 1 rfl, Blk.cell h 2 rfl, Blk.cell h 3 rfl, Blk.cell h 4 rfl, Blk.cell h 5 rfl, Blk.cell h 6 rfl⟩
theorem small_fr {r : Rgm} (h : DSmall r) : -9223372036854775808 ≤ r.fr ∧ r.to ≤ 9223372036854775807 := ⟨by have := h.2.1; omega, by have := h.2.2.2.2.1; omega⟩

set_option maxRecDepth 100000 in
set_option maxHeartbeats 20000000 in
theorem regimeWalk (l09Regime : RegimeC) (a0 : Option Addr) (len0 cap0 : Nat) (z0 : List Int) (w : World) (w0 : kit.IsRow .u8 w a0 len0 cap0 z0) (tE : ErrT w) (tT : Tab w) (q0 : Addr) (tQ : Sent w q0) :
    Calls Tryz.prog 4 #[.slice a0 len0 cap0] w fun e w' => e = .returned (.bool true) ∧ Below w.heap.size w w' := by
  obtain ⟨hcode, hlen⟩ := code_of w0
  have HT : Hid (∀ W', Below w.heap.size w W' → Tab W') := fun W' hb => tT.later hb
  have HE : Hid (∀ W', Below w.heap.size w W' → ErrT W') := fun W' hb => tE.below hb
  have HQ : Hid (∀ W', Below w.heap.size w W' → Sent W' q0) := fun W' hb => tQ.later hb
  have KC : Hid (∀ W', Below w.heap.size w W' → CodeAt W'.heap.size W' a0 len0) := fun W' hb => CodeAt.up hcode hb
  clear tE tT tQ hcode w0
  by_cases hbig : (1048576 : Int) < (len0 : Int)
  · have hbd : decide ((1048576 : Int) < (len0 : Int)) = true := by simp; omega
    go_enter Tryz.func4, Tryz.ntmps4
    go_wp2_with fail
    refine (big_ _ _ _ _).mono ?_
    rintro e w' ⟨rfl, rfl⟩
    go_wp2_with fail
    go_ret
    exact ⟨rfl, Below.refl _ _⟩
  have hbd : decide ((1048576 : Int) < (len0 : Int)) = false := by simp; omega
  have B0 : Hid (Below w.heap.size w w) := Below.refl _ _
  go_enter Tryz.func4, Tryz.ntmps4
  go_wp2_with fail
  refine (big_ _ _ _ _).mono ?_
  rintro e w' ⟨rfl, hw'⟩
  rw [hw']
  clear hw' w' 
  go_wp2_with fail
  refine (drawRegimeOk l09Regime _ a0 len0 cap0 hlen (KC.out _ B0.out)).mono ?_
  rintro e W1 ⟨v0, r0, rfl, hr, hs, hb⟩
  have B1 := hideP (bel_on B0.out hb)
  clear hb B0
  have R0_1 := hideP hr
  have HS0 := hideP (small_fr hs)
  clear hs
  obtain ⟨sa0, sc0, pa0, pc0, na0, nc0, rfl⟩ := GRow.form hr
  clear hr
  go_wp2_with fail
  obtain ⟨W2, hV⟩ : ∃ V, V = W1.alloc (.cells #[.string r0.name, .int .i64 r0.fr, .int .i64 r0.to, .slice sa0 r0.segs.length sc0, .slice pa0 r0.pats.length pc0, .slice na0 r0.rgns.length nc0, .int .i64 r0.rule] 29) := ⟨_, rfl⟩
  have hb : Below W1.heap.size W1 W2 := by rw [hV]; exact (Below.refl _ _).alloc (Nat.le_refl _) _
  have XN : Hid (GB W2 W1.heap.size #[.string r0.name, .int .i64 r0.fr, .int .i64 r0.to, .slice sa0 r0.segs.length sc0, .slice pa0 r0.pats.length pc0, .slice na0 r0.rgns.length nc0, .int .i64 r0.rule]) := by unfold Hid; rw [hV]; exact Blk.new _ _ _
  rw [← hV]
  clear hV
  have B2 := hideP (bel_on B1.out hb)
  have R0_2 := hideP (R0_1.out.below hb)
  clear hb B1 R0_1
  have X0_2 := hideP XN.out
  clear XN
  go_wp2_with fail
  refine (drawSegAt l09Regime _ a0 len0 cap0 hlen (KC.out _ B2.out)).mono ?_
  rintro e W3 ⟨v1, r1, n1, rfl, hr, hs, hb⟩
  have B3 := hideP (bel_on B2.out hb)
  have R0_3 := hideP (R0_2.out.below hb)
  have X0_3 := hideP (X0_2.out.below hb)
  clear hb B2 R0_2 X0_2
  have R1_3 := hideP hr
  have HS1 := hideP (small_fr hs)
  clear hs
  obtain ⟨sa1, sc1, pa1, pc1, na1, nc1, rfl⟩ := GRow.form hr
  clear hr
  go_wp2_with fail
  obtain ⟨W4, hV⟩ : ∃ V, V = W3.alloc (.cells #[.string r1.name, .int .i64 r1.fr, .int .i64 r1.to, .slice sa1 r1.segs.length sc1, .slice pa1 r1.pats.length pc1, .slice na1 r1.rgns.length nc1, .int .i64 r1.rule] 29) := ⟨_, rfl⟩
  have hb : Below W3.heap.size W3 W4 := by rw [hV]; exact (Below.refl _ _).alloc (Nat.le_refl _) _
  have XN : Hid (GB W4 W3.heap.size #[.string r1.name, .int .i64 r1.fr, .int .i64 r1.to, .slice sa1 r1.segs.length sc1, .slice pa1 r1.pats.length pc1, .slice na1 r1.rgns.length nc1, .int .i64 r1.rule]) := by unfold Hid; rw [hV]; exact Blk.new _ _ _
  rw [← hV]
  clear hV
  have B4 := hideP (bel_on B3.out hb)
  have R0_4 := hideP (R0_3.out.below hb)
  have X0_4 := hideP (X0_3.out.below hb)
  have R1_4 := hideP (R1_3.out.below hb)
  clear hb B3 R0_3 X0_3 R1_3
  have X1_4 := hideP XN.out
  clear XN
  obtain ⟨q0', q1, q2, q3, q4, q5, q6⟩ := X1_4.out.cells
  go_wp2_with fail
  clear q0' q1 q2 q3 q4 q5 q6
  refine (implSegAt _ r1 n1 _ R1_4.out).mono ?_
  rintro e W5 ⟨rfl, hb⟩
  have B5 := hideP (bel_on B4.out hb)
  have R0_5 := hideP (R0_4.out.below hb)
  have X0_5 := hideP (X0_4.out.below hb)
  have R1_5 := hideP (R1_4.out.below hb)
  have X1_5 := hideP (X1_4.out.below hb)
  clear hb B4 R0_4 X0_4 R1_4 X1_4
  obtain ⟨ix, hix⟩ : ∃ ix, ix = segAt r1.segs n1 := ⟨_, rfl⟩
  have HIX := hideP hix
  rw [← hix]
  clear hix
  go_wp2_with fail
  refine (drawPatchAt l09Regime _ a0 len0 cap0 hlen (KC.out _ B5.out)).mono ?_
  rintro e W6 ⟨v2, r2, n2, rfl, hr, hs, hb⟩
  have B6 := hideP (bel_on B5.out hb)
  have R0_6 := hideP (R0_5.out.below hb)
  have X0_6 := hideP (X0_5.out.below hb)
  have R1_6 := hideP (R1_5.out.below hb)
  have X1_6 := hideP (X1_5.out.below hb)
  clear hb B5 R0_5 X0_5 R1_5 X1_5
  have R2_6 := hideP hr
  clear hs
  obtain ⟨sa2, sc2, pa2, pc2, na2, nc2, rfl⟩ := GRow.form hr
  clear hr
  go_wp2_with fail
  obtain ⟨W7, hV⟩ : ∃ V, V = W6.alloc (.cells #[.string r2.name, .int .i64 r2.fr, .int .i64 r2.to, .slice sa2 r2.segs.length sc2, .slice pa2 r2.pats.length pc2, .slice na2 r2.rgns.length nc2, .int .i64 r2.rule] 29) := ⟨_, rfl⟩
  have hb : Below W6.heap.size W6 W7 := by rw [hV]; exact (Below.refl _ _).alloc (Nat.le_refl _) _
  have XN : Hid (GB W7 W6.heap.size #[.string r2.name, .int .i64 r2.fr, .int .i64 r2.to, .slice sa2 r2.segs.length sc2, .slice pa2 r2.pats.length pc2, .slice na2 r2.rgns.length nc2, .int .i64 r2.rule]) := by unfold Hid; rw [hV]; exact Blk.new _ _ _
  rw [← hV]
  clear hV
  have B7 := hideP (bel_on B6.out hb)
  have R0_7 := hideP (R0_6.out.below hb)
  have X0_7 := hideP (X0_6.out.below hb)
  have R1_7 := hideP (R1_6.out.below hb)
  have X1_7 := hideP (X1_6.out.below hb)
  have R2_7 := hideP (R2_6.out.below hb)
  clear hb B6 R0_6 X0_6 R1_6 X1_6 R2_6
  have X2_7 := hideP XN.out
  clear XN
  go_wp2_with fail
  refine (drawSameRegime l09Regime _ a0 len0 cap0 hlen (KC.out _ B7.out)).mono ?_
  rintro e W8 ⟨v3, r3, v4, r4, rfl, hr, hr2, hb⟩
  have B8 := hideP (bel_on B7.out hb)
  have R0_8 := hideP (R0_7.out.below hb)
  have X0_8 := hideP (X0_7.out.below hb)
  have R1_8 := hideP (R1_7.out.below hb)
  have X1_8 := hideP (X1_7.out.below hb)
  have R2_8 := hideP (R2_7.out.below hb)
  have X2_8 := hideP (X2_7.out.below hb)
  clear hb B7 R0_7 X0_7 R1_7 X1_7 R2_7 X2_7
  have R3_8 := hideP hr
  have R4_8 := hideP hr2
  obtain ⟨sa3, sc3, pa3, pc3, na3, nc3, rfl⟩ := GRow.form hr
  obtain ⟨sa4, sc4, pa4, pc4, na4, nc4, rfl⟩ := GRow.form hr2
  clear hr hr2
  go_wp2_with fail
  obtain ⟨W9, hV⟩ : ∃ V, V = (W8.alloc (.cells #[.string r3.name, .int .i64 r3.fr, .int .i64 r3.to, .slice sa3 r3.segs.length sc3, .slice pa3 r3.pats.length pc3, .slice na3 r3.rgns.length nc3, .int .i64 r3.rule] 29)).alloc (.cells #[.string r4.name, .int .i64 r4.fr, .int .i64 r4.to, .slice sa4 r4.segs.length sc4, .slice pa4 r4.pats.length pc4, .slice na4 r4.rgns.length nc4, .int .i64 r4.rule] 29) := ⟨_, rfl⟩
  have hb : Below W8.heap.size W8 W9 := by rw [hV]; exact ((Below.refl _ _).alloc (Nat.le_refl _) _).alloc (by rw [size_new]; omega) _
  have XN : Hid (GB W9 W8.heap.size #[.string r3.name, .int .i64 r3.fr, .int .i64 r3.to, .slice sa3 r3.segs.length sc3, .slice pa3 r3.pats.length pc3, .slice na3 r3.rgns.length nc3, .int .i64 r3.rule]) := by unfold Hid; rw [hV]; exact (Blk.new _ _ _).alloc _
  have YN : Hid (GB W9 (W8.heap.size + 1) #[.string r4.name, .int .i64 r4.fr, .int .i64 r4.to, .slice sa4 r4.segs.length sc4, .slice pa4 r4.pats.length pc4, .slice na4 r4.rgns.length nc4, .int .i64 r4.rule]) := by
    unfold Hid
    have h := Blk.new (W8.alloc (.cells #[.string r3.name, .int .i64 r3.fr, .int .i64 r3.to, .slice sa3 r3.segs.length sc3, .slice pa3 r3.pats.length pc3, .slice na3 r3.rgns.length nc3, .int .i64 r3.rule] 29)) #[.string r4.name, .int .i64 r4.fr, .int .i64 r4.to, .slice sa4 r4.segs.length sc4, .slice pa4 r4.pats.length pc4, .slice na4 r4.rgns.length nc4, .int .i64 r4.rule] 29
    rw [size_new] at h
    rw [hV]
    exact h
  rw [← hV]
  clear hV
  have B9 := hideP (bel_on B8.out hb)
  have R0_9 := hideP (R0_8.out.below hb)
  have X0_9 := hideP (X0_8.out.below hb)
  have R1_9 := hideP (R1_8.out.below hb)
  have X1_9 := hideP (X1_8.out.below hb)
  have R2_9 := hideP (R2_8.out.below hb)
  have X2_9 := hideP (X2_8.out.below hb)
  have R3_9 := hideP (R3_8.out.below hb)
  have R4_9 := hideP (R4_8.out.below hb)
  clear hb B8 R0_8 X0_8 R1_8 X1_8 R2_8 X2_8 R3_8 R4_8
  have X3_9 := hideP XN.out
  have X4_9 := hideP YN.out
  clear XN YN
  go_wp2_with fail
  refine (drawChanges l09Regime _ a0 len0 cap0 hlen (KC.out _ B9.out)).mono ?_
  rintro e W10 ⟨v5, r5, rfl, hr, hs, hb⟩
  have B10 := hideP (bel_on B9.out hb)
  have R0_10 := hideP (R0_9.out.below hb)
  have X0_10 := hideP (X0_9.out.below hb)
  have R1_10 := hideP (R1_9.out.below hb)
  have X1_10 := hideP (X1_9.out.below hb)
  have R2_10 := hideP (R2_9.out.below hb)
  have X2_10 := hideP (X2_9.out.below hb)
  have R3_10 := hideP (R3_9.out.below hb)
  have R4_10 := hideP (R4_9.out.below hb)
  have X3_10 := hideP (X3_9.out.below hb)
  have X4_10 := hideP (X4_9.out.below hb)
  clear hb B9 R0_9 X0_9 R1_9 X1_9 R2_9 X2_9 R3_9 R4_9 X3_9 X4_9
  have R5_10 := hideP hr
  have HS5 := hideP (small_fr hs)
  clear hs
  obtain ⟨sa5, sc5, pa5, pc5, na5, nc5, rfl⟩ := GRow.form hr
  clear hr
  go_wp2_with fail
  obtain ⟨W11, hV⟩ : ∃ V, V = W10.alloc (.cells #[.string r5.name, .int .i64 r5.fr, .int .i64 r5.to, .slice sa5 r5.segs.length sc5, .slice pa5 r5.pats.length pc5, .slice na5 r5.rgns.length nc5, .int .i64 r5.rule] 29) := ⟨_, rfl⟩
  have hb : Below W10.heap.size W10 W11 := by rw [hV]; exact (Below.refl _ _).alloc (Nat.le_refl _) _
  have XN : Hid (GB W11 W10.heap.size #[.string r5.name, .int .i64 r5.fr, .int .i64 r5.to, .slice sa5 r5.segs.length sc5, .slice pa5 r5.pats.length pc5, .slice na5 r5.rgns.length nc5, .int .i64 r5.rule]) := by unfold Hid; rw [hV]; exact Blk.new _ _ _
  rw [← hV]
  clear hV
  have B11 := hideP (bel_on B10.out hb)
  have R0_11 := hideP (R0_10.out.below hb)
  have X0_11 := hideP (X0_10.out.below hb)
  have R1_11 := hideP (R1_10.out.below hb)
  have X1_11 := hideP (X1_10.out.below hb)
  have R2_11 := hideP (R2_10.out.below hb)
  have X2_11 := hideP (X2_10.out.below hb)
  have R3_11 := hideP (R3_10.out.below hb)
  have R4_11 := hideP (R4_10.out.below hb)
  have X3_11 := hideP (X3_10.out.below hb)
  have X4_11 := hideP (X4_10.out.below hb)
  have R5_11 := hideP (R5_10.out.below hb)
  clear hb B10 R0_10 X0_10 R1_10 X1_10 R2_10 X2_10 R3_10 R4_10 X3_10 X4_10 R5_10
  have X5_11 := hideP XN.out
  clear XN
  obtain ⟨q0', q1, q2, q3, q4, q5, q6⟩ := X5_11.out.cells
  go_wp2_with fail
  clear q0' q1 q2 q3 q4 q5 q6
  refine (implChanges _ r5 q0 _ R5_11.out HS5.out.2 (HE.out _ B11.out) (HT.out _ B11.out) (HQ.out _ B11.out)).mono ?_
  rintro e W12 ⟨dv, rfl, hr, hb⟩
  have B12 := hideP (bel_on B11.out hb)
  have R0_12 := hideP (R0_11.out.below hb)
  have X0_12 := hideP (X0_11.out.below hb)
  have R1_12 := hideP (R1_11.out.below hb)
  have X1_12 := hideP (X1_11.out.below hb)
  have R2_12 := hideP (R2_11.out.below hb)
  have X2_12 := hideP (X2_11.out.below hb)
  have R3_12 := hideP (R3_11.out.below hb)
  have R4_12 := hideP (R4_11.out.below hb)
  have X3_12 := hideP (X3_11.out.below hb)
  have X4_12 := hideP (X4_11.out.below hb)
  have R5_12 := hideP (R5_11.out.below hb)
  have X5_12 := hideP (X5_11.out.below hb)
  clear hb B11 R0_11 X0_11 R1_11 X1_11 R2_11 X2_11 R3_11 R4_11 X3_11 X4_11 R5_11 X5_11
  have D_12 := hideP hr.row
  clear hr
  have HCL := hideP (changes_len r5)
  have HCR : Hid (∀ j, j + 1 < (changes r5).length → (changes r5).getD j 0 < (changes r5).getD (j + 1) 0) := fun j hj => changes_rise j hj
  have HBl : Hid (∀ x : Later W12, Below w.heap.size w x.w) := fun x => bel_on B12.out x.below
  have a0 : ∀ x : Later W12, x.w.cell? ⟨W1.heap.size, 0, none⟩ = some (.string r0.name) := fun x => Blk.cell (X0_12.out.below x.below) 0 rfl
  have a1 : ∀ x : Later W12, x.w.cell? ⟨W1.heap.size, 1, none⟩ = some (.int .i64 r0.fr) := fun x => Blk.cell (X0_12.out.below x.below) 1 rfl
  have a2 : ∀ x : Later W12, x.w.cell? ⟨W1.heap.size, 2, none⟩ = some (.int .i64 r0.to) := fun x => Blk.cell (X0_12.out.below x.below) 2 rfl
  have a3 : ∀ x : Later W12, x.w.cell? ⟨W1.heap.size, 3, none⟩ = some (.slice sa0 r0.segs.length sc0) := fun x => Blk.cell (X0_12.out.below x.below) 3 rfl
  have a4 : ∀ x : Later W12, x.w.cell? ⟨W1.heap.size, 4, none⟩ = some (.slice pa0 r0.pats.length pc0) := fun x => Blk.cell (X0_12.out.below x.below) 4 rfl
  have a5 : ∀ x : Later W12, x.w.cell? ⟨W1.heap.size, 5, none⟩ = some (.slice na0 r0.rgns.length nc0) := fun x => Blk.cell (X0_12.out.below x.below) 5 rfl
  have a6 : ∀ x : Later W12, x.w.cell? ⟨W1.heap.size, 6, none⟩ = some (.int .i64 r0.rule) := fun x => Blk.cell (X0_12.out.below x.below) 6 rfl
  have b0 : ∀ x : Later W12, x.w.cell? ⟨W3.heap.size, 0, none⟩ = some (.string r1.name) := fun x => Blk.cell (X1_12.out.below x.below) 0 rfl
  have b1 : ∀ x : Later W12, x.w.cell? ⟨W3.heap.size, 1, none⟩ = some (.int .i64 r1.fr) := fun x => Blk.cell (X1_12.out.below x.below) 1 rfl
  have b2 : ∀ x : Later W12, x.w.cell? ⟨W3.heap.size, 2, none⟩ = some (.int .i64 r1.to) := fun x => Blk.cell (X1_12.out.below x.below) 2 rfl
  have b3 : ∀ x : Later W12, x.w.cell? ⟨W3.heap.size, 3, none⟩ = some (.slice sa1 r1.segs.length sc1) := fun x => Blk.cell (X1_12.out.below x.below) 3 rfl
  have b4 : ∀ x : Later W12, x.w.cell? ⟨W3.heap.size, 4, none⟩ = some (.slice pa1 r1.pats.length pc1) := fun x => Blk.cell (X1_12.out.below x.below) 4 rfl
  have b5 : ∀ x : Later W12, x.w.cell? ⟨W3.heap.size, 5, none⟩ = some (.slice na1 r1.rgns.length nc1) := fun x => Blk.cell (X1_12.out.below x.below) 5 rfl
  have b6 : ∀ x : Later W12, x.w.cell? ⟨W3.heap.size, 6, none⟩ = some (.int .i64 r1.rule) := fun x => Blk.cell (X1_12.out.below x.below) 6 rfl
  have c0 : ∀ x : Later W12, x.w.cell? ⟨W6.heap.size, 0, none⟩ = some (.string r2.name) := fun x => Blk.cell (X2_12.out.below x.below) 0 rfl
  have c1 : ∀ x : Later W12, x.w.cell? ⟨W6.heap.size, 1, none⟩ = some (.int .i64 r2.fr) := fun x => Blk.cell (X2_12.out.below x.below) 1 rfl
  have c2 : ∀ x : Later W12, x.w.cell? ⟨W6.heap.size, 2, none⟩ = some (.int .i64 r2.to) := fun x => Blk.cell (X2_12.out.below x.below) 2 rfl
  have c3 : ∀ x : Later W12, x.w.cell? ⟨W6.heap.size, 3, none⟩ = some (.slice sa2 r2.segs.length sc2) := fun x => Blk.cell (X2_12.out.below x.below) 3 rfl
  have c4 : ∀ x : Later W12, x.w.cell? ⟨W6.heap.size, 4, none⟩ = some (.slice pa2 r2.pats.length pc2) := fun x => Blk.cell (X2_12.out.below x.below) 4 rfl
  have c5 : ∀ x : Later W12, x.w.cell? ⟨W6.heap.size, 5, none⟩ = some (.slice na2 r2.rgns.length nc2) := fun x => Blk.cell (X2_12.out.below x.below) 5 rfl
  have c6 : ∀ x : Later W12, x.w.cell? ⟨W6.heap.size, 6, none⟩ = some (.int .i64 r2.rule) := fun x => Blk.cell (X2_12.out.below x.below) 6 rfl
  have d0 : ∀ x : Later W12, x.w.cell? ⟨W8.heap.size, 0, none⟩ = some (.string r3.name) := fun x => Blk.cell (X3_12.out.below x.below) 0 rfl
  have d1 : ∀ x : Later W12, x.w.cell? ⟨W8.heap.size, 1, none⟩ = some (.int .i64 r3.fr) := fun x => Blk.cell (X3_12.out.below x.below) 1 rfl
  have d2 : ∀ x : Later W12, x.w.cell? ⟨W8.heap.size, 2, none⟩ = some (.int .i64 r3.to) := fun x => Blk.cell (X3_12.out.below x.below) 2 rfl
  have d3 : ∀ x : Later W12, x.w.cell? ⟨W8.heap.size, 3, none⟩ = some (.slice sa3 r3.segs.length sc3) := fun x => Blk.cell (X3_12.out.below x.below) 3 rfl
  have d4 : ∀ x : Later W12, x.w.cell? ⟨W8.heap.size, 4, none⟩ = some (.slice pa3 r3.pats.length pc3) := fun x => Blk.cell (X3_12.out.below x.below) 4 rfl
  have d5 : ∀ x : Later W12, x.w.cell? ⟨W8.heap.size, 5, none⟩ = some (.slice na3 r3.rgns.length nc3) := fun x => Blk.cell (X3_12.out.below x.below) 5 rfl
  have d6 : ∀ x : Later W12, x.w.cell? ⟨W8.heap.size, 6, none⟩ = some (.int .i64 r3.rule) := fun x => Blk.cell (X3_12.out.below x.below) 6 rfl
  have f0 : ∀ x : Later W12, x.w.cell? ⟨(W8.heap.size + 1), 0, none⟩ = some (.string r4.name) := fun x => Blk.cell (X4_12.out.below x.below) 0 rfl
  have f1 : ∀ x : Later W12, x.w.cell? ⟨(W8.heap.size + 1), 1, none⟩ = some (.int .i64 r4.fr) := fun x => Blk.cell (X4_12.out.below x.below) 1 rfl
  have f2 : ∀ x : Later W12, x.w.cell? ⟨(W8.heap.size + 1), 2, none⟩ = some (.int .i64 r4.to) := fun x => Blk.cell (X4_12.out.below x.below) 2 rfl
  have f3 : ∀ x : Later W12, x.w.cell? ⟨(W8.heap.size + 1), 3, none⟩ = some (.slice sa4 r4.segs.length sc4) := fun x => Blk.cell (X4_12.out.below x.below) 3 rfl
  have f4 : ∀ x : Later W12, x.w.cell? ⟨(W8.heap.size + 1), 4, none⟩ = some (.slice pa4 r4.pats.length pc4) := fun x => Blk.cell (X4_12.out.below x.below) 4 rfl
  have f5 : ∀ x : Later W12, x.w.cell? ⟨(W8.heap.size + 1), 5, none⟩ = some (.slice na4 r4.rgns.length nc4) := fun x => Blk.cell (X4_12.out.below x.below) 5 rfl
  have f6 : ∀ x : Later W12, x.w.cell? ⟨(W8.heap.size + 1), 6, none⟩ = some (.int .i64 r4.rule) := fun x => Blk.cell (X4_12.out.below x.below) 6 rfl
  have g0 : ∀ x : Later W12, x.w.cell? ⟨W10.heap.size, 0, none⟩ = some (.string r5.name) := fun x => Blk.cell (X5_12.out.below x.below) 0 rfl
  have g1 : ∀ x : Later W12, x.w.cell? ⟨W10.heap.size, 1, none⟩ = some (.int .i64 r5.fr) := fun x => Blk.cell (X5_12.out.below x.below) 1 rfl
  have g2 : ∀ x : Later W12, x.w.cell? ⟨W10.heap.size, 2, none⟩ = some (.int .i64 r5.to) := fun x => Blk.cell (X5_12.out.below x.below) 2 rfl
  have g3 : ∀ x : Later W12, x.w.cell? ⟨W10.heap.size, 3, none⟩ = some (.slice sa5 r5.segs.length sc5) := fun x => Blk.cell (X5_12.out.below x.below) 3 rfl
  have g4 : ∀ x : Later W12, x.w.cell? ⟨W10.heap.size, 4, none⟩ = some (.slice pa5 r5.pats.length pc5) := fun x => Blk.cell (X5_12.out.below x.below) 4 rfl
  have g5 : ∀ x : Later W12, x.w.cell? ⟨W10.heap.size, 5, none⟩ = some (.slice na5 r5.rgns.length nc5) := fun x => Blk.cell (X5_12.out.below x.below) 5 rfl
  have g6 : ∀ x : Later W12, x.w.cell? ⟨W10.heap.size, 6, none⟩ = some (.int .i64 r5.rule) := fun x => Blk.cell (X5_12.out.below x.below) 6 rfl
  have K1 : ∀ x : Later W12, Calls Tryz.prog 27 #[.agg #[.string r0.name, .int .i64 r0.fr, .int .i64 r0.to, .slice sa0 r0.segs.length sc0, .slice pa0 r0.pats.length pc0, .slice na0 r0.rgns.length nc0, .int .i64 r0.rule]] x.w fun e w' => e = .returned (.bool (regimeB r0)) ∧ Below x.w.heap.size x.w w' := fun x => implRegimeOk _ r0 q0 x.w (R0_12.out.below x.below) HS0.out.2 (HE.out _ (HBl.out x)) (HT.out _ (HBl.out x)) (HQ.out _ (HBl.out x))
  have K2 : ∀ x : Later W12, Calls Tryz.prog 28 #[.agg #[.string r0.name, .int .i64 r0.fr, .int .i64 r0.to, .slice sa0 r0.segs.length sc0, .slice pa0 r0.pats.length pc0, .slice na0 r0.rgns.length nc0, .int .i64 r0.rule]] x.w fun e w' => e = .returned (.bool (regimeB r0)) ∧ Below x.w.heap.size x.w w' := fun x => specRegimeOk _ r0 x.w (R0_12.out.below x.below) HS0.out.1 HS0.out.2
  have K3 : ∀ x : Later W12, Calls Tryz.prog 36 #[.agg #[.string r1.name, .int .i64 r1.fr, .int .i64 r1.to, .slice sa1 r1.segs.length sc1, .slice pa1 r1.pats.length pc1, .slice na1 r1.rgns.length nc1, .int .i64 r1.rule], .int .i64 n1] x.w fun e w' => e = .returned (.int .i64 ix) ∧ Below x.w.heap.size x.w w' := fun x => by rw [HIX.out]; exact specSegAt _ r1 n1 x.w (R1_12.out.below x.below)
  have K4 : ∀ x : Later W12, Calls Tryz.prog 37 #[.agg #[.string r2.name, .int .i64 r2.fr, .int .i64 r2.to, .slice sa2 r2.segs.length sc2, .slice pa2 r2.pats.length pc2, .slice na2 r2.rgns.length nc2, .int .i64 r2.rule], .int .i64 n2] x.w fun e w' => e = .returned (.int .i64 (patAt r2.pats n2)) ∧ Below x.w.heap.size x.w w' := fun x => implPatAt _ r2 n2 x.w (R2_12.out.below x.below)
  have K5 : ∀ x : Later W12, Calls Tryz.prog 38 #[.agg #[.string r2.name, .int .i64 r2.fr, .int .i64 r2.to, .slice sa2 r2.segs.length sc2, .slice pa2 r2.pats.length pc2, .slice na2 r2.rgns.length nc2, .int .i64 r2.rule], .int .i64 n2] x.w fun e w' => e = .returned (.int .i64 (patAt r2.pats n2)) ∧ Below x.w.heap.size x.w w' := fun x => specPatAt _ r2 n2 x.w (R2_12.out.below x.below)
  have K6 : ∀ x : Later W12, Calls Tryz.prog 39 #[.agg #[.string r3.name, .int .i64 r3.fr, .int .i64 r3.to, .slice sa3 r3.segs.length sc3, .slice pa3 r3.pats.length pc3, .slice na3 r3.rgns.length nc3, .int .i64 r3.rule], .agg #[.string r4.name, .int .i64 r4.fr, .int .i64 r4.to, .slice sa4 r4.segs.length sc4, .slice pa4 r4.pats.length pc4, .slice na4 r4.rgns.length nc4, .int .i64 r4.rule]] x.w fun e w' => e = .returned (.bool (sameG r3 r4)) ∧ Below x.w.heap.size x.w w' := fun x => implSameG _ _ r3 r4 x.w (R3_12.out.below x.below) (R4_12.out.below x.below)
  have K7 : ∀ x : Later W12, Calls Tryz.prog 19 #[.agg #[.string r3.name, .int .i64 r3.fr, .int .i64 r3.to, .slice sa3 r3.segs.length sc3, .slice pa3 r3.pats.length pc3, .slice na3 r3.rgns.length nc3, .int .i64 r3.rule], .agg #[.string r4.name, .int .i64 r4.fr, .int .i64 r4.to, .slice sa4 r4.segs.length sc4, .slice pa4 r4.pats.length pc4, .slice na4 r4.rgns.length nc4, .int .i64 r4.rule]] x.w fun e w' => e = .returned (.bool (sameG r3 r4)) ∧ Below x.w.heap.size x.w w' := fun x => lawsSame _ _ r3 r4 x.w (R3_12.out.below x.below) (R4_12.out.below x.below)
  have K8 : Hid (∀ x : Later W12, Calls Tryz.prog 41 #[.agg #[.string r5.name, .int .i64 r5.fr, .int .i64 r5.to, .slice sa5 r5.segs.length sc5, .slice pa5 r5.pats.length pc5, .slice na5 r5.rgns.length nc5, .int .i64 r5.rule]] x.w fun e w' => ∃ o, e = .returned o ∧ IntRow w' o (changes r5) ∧ Below x.w.heap.size x.w w') := fun x => (specChanges _ r5 x.w (R5_12.out.below x.below) HS5.out.1 HS5.out.2).mono fun e w' ⟨v', he, hr, hb⟩ => ⟨v', he, hr.row, hb⟩
  have K9 : Hid (∀ x : Later W12, Calls Tryz.prog 28 #[.agg #[.string r1.name, .int .i64 r1.fr, .int .i64 r1.to, .slice sa1 r1.segs.length sc1, .slice pa1 r1.pats.length pc1, .slice na1 r1.rgns.length nc1, .int .i64 r1.rule]] x.w fun e w' => e = .returned (.bool (regimeB r1)) ∧ Below x.w.heap.size x.w w') := fun x => specRegimeOk _ r1 x.w (R1_12.out.below x.below) HS1.out.1 HS1.out.2
  have HD : Hid (∀ x : Later W12, IntRow x.w dv (changes r5)) := fun x => D_12.out.below x.below
  have HR1 : Hid (∀ x : Later W12, GRow x.w (.agg #[.string r1.name, .int .i64 r1.fr, .int .i64 r1.to, .slice sa1 r1.segs.length sc1, .slice pa1 r1.pats.length pc1, .slice na1 r1.rgns.length nc1, .int .i64 r1.rule]) r1) := fun x => R1_12.out.below x.below
  generalize regimeB r0 = ob at *
  generalize patAt r2.pats n2 = pt at *
  generalize sameG r3 r4 = sm at *
  generalize changes r5 = ch at *
  clear R0_12 X0_12 R1_12 X1_12 R2_12 X2_12 R3_12 X3_12 R4_12 X4_12 R5_12 X5_12 D_12 HS0 HS1 HS5
  go_upto_region 10 with fail
  go_cut [80] (fun s80 wx => s80 = .bool false ∧ Hid (Below W12.heap.size W12 wx))
  case first =>
    as_aux_lemma =>
    obtain ⟨x0, hx0⟩ : ∃ x0 : Later W12, W12.drew = x0.w := ⟨⟨W12.drew, (Below.refl _ _).drew⟩, rfl⟩
    try simp only [List.append]
    refine wp_region_any (by kernel_rfl) ?_
    change wpAny _ _ _ _ (11 + 31) _ _ _
    refine any_prefix (C := fun w' => ∃ x : Later W12, w' = x.w) 31 11 (by decide) (Eq.trans (by kernel_rfl) ns10) (Eq.trans (by kernel_rfl) lex10) (Eq.trans (by kernel_rfl) link10) (Eq.trans (by kernel_rfl) wait10) (by kernel_rfl) ⟨x0, hx0⟩ ?_
    simp only [List.take_succ_cons, List.take_zero]
    clear hx0 x0
    repeat (go_big_quiet_step (first | (go_at_call 27; exact calls_later (K1 _)) | (go_at_call 28; exact calls_later (K2 _)) | (go_at_call 36; exact calls_later (K3 _)) | (go_at_call 37; exact calls_later (K4 _)) | (go_at_call 38; exact calls_later (K5 _)) | (go_at_call 39; exact calls_later (K6 _)) | (go_at_call 19; exact calls_later (K7 _)) | fail))
    refine wpQuiet_nil ?_
    intro _ hw'
    obtain ⟨x3, rfl⟩ := hw'
    clear K1 K2 K3 K4 K5 K6 K7
    refine any_moves (g := 30) (G := 69) (ds := [70]) (Eq.trans (by kernel_rfl) ns10) (by kernel_rfl) (by kernel_rfl) (fun _ _ _ _ _ h => h) (mv1 dv) 10 11 _ _ _ rfl (Eq.trans (by kernel_rfl) (mvs10 dv)) rfl ⟨rfl, trivial⟩ ?_
    simp only [mv1, putM, Act.put, List.setIfInBounds_toArray, List.set_cons_succ, List.set_cons_zero]
    have z0 := g0 x3
    have z1 := g1 x3
    have z2 := g2 x3
    have z3 := g3 x3
    have z4 := g4 x3
    have z5 := g5 x3
    have z6 := g6 x3
    refine any_one (i := 32) (Eq.trans (by kernel_rfl) (rd10 dv)) (op_run (v := .agg #[.string r5.name, .int .i64 r5.fr, .int .i64 r5.to, .slice sa5 r5.segs.length sc5, .slice pa5 r5.pats.length pc5, .slice na5 r5.rgns.length nc5, .int .i64 r5.rule]) rfl rfl (by rfl) (by simp [execOp, go_sem, z0, z1, z2, z3, z4, z5, z6]) ?_)
    simp only [Act.put, List.setIfInBounds_toArray, List.set_cons_succ, List.set_cons_zero]
    refine any_one (i := 33) (Eq.trans (by kernel_rfl) (rc10 dv)) (op_call (args := #[.agg #[.string r5.name, .int .i64 r5.fr, .int .i64 r5.to, .slice sa5 r5.segs.length sc5, .slice pa5 r5.pats.length pc5, .slice na5 r5.rgns.length nc5, .int .i64 r5.rule]]) (T := fun u w' => IntRow w' u ch ∧ Below x3.w.heap.size x3.w w') rfl rfl rfl (by rfl) (by simp only [List.map_toArray, List.map_cons, List.map_nil]; rfl) (enters_of Tryz.func41 (by kernel_rfl) rfl) (K8.out x3) ?_)
    rintro v2 w4 ⟨hrow, hb4⟩
    have HROW := hideP hrow
    have LIFT : Hid (∀ y : Later w4, ∃ x : Later W12, y.w = x.w) := fun y => ⟨⟨y.w, bel_on (bel_on x3.below hb4) y.below⟩, rfl⟩
    clear hrow hb4 z0 z1 z2 z3 z4 z5 z6
    have J7 : ∀ y : Later w4, Calls Tryz.prog 40 #[dv, v2] y.w fun e w' => e = .returned (.bool true) ∧ Below y.w.heap.size y.w w' := fun y => by
      have hr := HROW.out.below y.below
      obtain ⟨x', hx⟩ := LIFT.out y
      rw [hx] at hr ⊢
      exact sameInts dv v2 ch x'.w (by have := HCL.out; omega) (HD.out x') hr
    have J8 : ∀ y : Later w4, Calls Tryz.prog 42 #[dv] y.w fun e w' => e = .returned (.bool true) ∧ Below y.w.heap.size y.w w' := fun y => by obtain ⟨x, hx⟩ := LIFT.out y; rw [hx]; exact rising dv ch x.w (by have := HCL.out; omega) (HD.out x) HCR.out
    clear K8 K9 HROW
    simp only [Act.put, List.setIfInBounds_toArray, List.set_cons_succ, List.set_cons_zero]
    refine any_rest (C := fun w' => ∃ y : Later w4, w' = y.w) 34 8 (by decide) (Eq.trans (by kernel_rfl) ns10) (Eq.trans (by kernel_rfl) (rest10 dv)) ⟨⟨w4, Below.refl _ _⟩, rfl⟩ ?_
    simp only [List.drop_succ_cons, List.drop_zero]
    repeat (go_big_quiet_step (first | (go_at_call 40; exact calls_later (J7 _)) | (go_at_call 42; exact calls_later (J8 _)) | fail))
    refine wpQuiet_nil ?_
    intro _ hw'
    obtain ⟨y, rfl⟩ := hw'
    obtain ⟨x5, hx5⟩ := LIFT.out y
    rw [hx5]
    go_wp2_with fail
    go_meet
    exact ⟨rfl, x5.below⟩
  case rest =>
  as_aux_lemma =>
  obtain ⟨rfl, C1⟩ := hcut
  obtain ⟨xc, rfl⟩ : ∃ xc : Later W12, wc = xc.w := ⟨⟨wc, C1.out⟩, rfl⟩
  clear K1 K2 K3 K4 K5 K6 K7 K8 C1 HD HCL HCR
  clear a0 a1 a2 a3 a4 a5 a6
  clear c0 c1 c2 c3 c4 c5 c6
  clear d0 d1 d2 d3 d4 d5 d6
  clear f0 f1 f2 f3 f4 f5 f6
  clear g0 g1 g2 g3 g4 g5 g6
  have e0 := b0 xc
  have e1 := b1 xc
  have e2 := b2 xc
  have e3 := b3 xc
  have e4 := b4 xc
  have e5 := b5 xc
  have e6 := b6 xc
  go_wp2_with fail
  refine (K9.out xc).mono ?_
  rintro e Wd ⟨rfl, hb⟩
  obtain ⟨xd, rfl⟩ := xc.next hb
  clear hb K9 e0 e1 e2 e3 e4 e5 e6
  obtain ⟨rb, hrb⟩ : ∃ rb, rb = regimeB r1 := ⟨_, rfl⟩
  have HRB := hideP hrb
  rw [← hrb]
  clear hrb
  cases rb
  · go_wp2_with fail
    go_ret
    exact ⟨rfl, HBl.out xd⟩
  have e0 := b0 xd
  have e1 := b1 xd
  have e2 := b2 xd
  have e3 := b3 xd
  have e4 := b4 xd
  have e5 := b5 xd
  have e6 := b6 xd
  clear b0 b1 b2 b3 b4 b5 b6
  have hsf := seg_fact HRB.out.symm n1
  rw [← HIX.out] at hsf
  have hsc := segAt_cases r1.segs n1
  rw [← HIX.out] at hsc
  obtain ⟨v1', v2', v3', ev, _, hseg, _, _⟩ := HR1.out xd
  have ev' : v1' = .slice sa1 r1.segs.length sc1 := by
    injection ev with ev
    have h := congrArg (fun a => a[3]?) ev
    simpa using h.symm
  rw [ev'] at hseg
  obtain ⟨_, _, ee, hl5, hl6, hat⟩ := hseg
  cases ee
  have HAT := hideP hat
  have HSF := hideP hsf
  have HSC := hideP hsc
  unfold maxLen at hl6
  clear hsf hsc ev ev' hat HR1
  generalize r1.fr = rf at *
  generalize r1.to = rt at *
  rcases HSC.out with ⟨hm, _⟩ | ⟨k, hk, hm, hk1, hk2⟩
  · subst hm
    have hno : ¬ (rf ≤ n1 ∧ n1 ≤ rt) := fun h => by have := HSF.out.2 h; omega
    clear HSC HSF HAT
    by_cases h1 : rf ≤ n1
    · have h2 : ¬ n1 ≤ rt := fun h => hno ⟨h1, h⟩
      have h2d : decide (n1 ≤ rt) = false := decide_eq_false h2
      clear hno h2
      go_wp2_with fail
      go_ret
      exact ⟨rfl, HBl.out xd⟩
    · clear hno
      go_wp2_with fail
      go_ret
      exact ⟨rfl, HBl.out xd⟩
  · subst hm
    obtain ⟨h1, h2⟩ := HSF.out.1 (by omega)
    obtain ⟨g, rfl, _, hcell⟩ := HAT.out k hk
    obtain ⟨s0', s1', _, _, _⟩ := hcell.seg
    have hk0 : ¬ (k : Int) < 0 := by omega
    have hkl : (k : Int) < (r1.segs.length : Int) := by omega
    generalize (atK segK r1.segs k).fr = kf at *
    generalize (atK segK r1.segs k).to = kt at *
    clear HSC HSF HAT hcell
    go_wp2_with fail
    go_ret
    exact ⟨rfl, HBl.out xd⟩
end Go.Proofs.YtchhdoipkimbgaaGreatDoor.ctr
