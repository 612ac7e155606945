/- Contract of the laws' own toSaying: what comes in is handed on, field by field. -/
import Derived.Test.YtdgolaaheakfoaaGreatDoorJnSbq
namespace Go.Proofs.YtdgolaaheakfoaaGreatDoor.ctr
open Go.RowKit
theorem setToS {w : World} {b : Nat} {vs vs' : Array Value} {t : TypeId} (h : Blk w b vs t) (i : Nat) (v : Value) (he : vs.setIfInBounds i v = vs') : Blk (w.setCell ⟨b, i, none⟩ v) b vs' t := he ▸ h.set i v
set_option maxRecDepth 100000 in
set_option maxHeartbeats 8000000 in
theorem toSay (k m d a b c : Int) (t : Bool) (s : ByteArray) (p y so ca : Int) (w : World) : Calls Tryz.prog 11 #[.agg #[.int .i64 k, .int .i64 m, .int .i64 d, .int .i64 a, .int .i64 b, .int .i64 c, .bool t, .string s, .int .i64 p, .int .i64 y, .int .i64 so, .int .i64 ca]] w fun e w' => e = .returned (.agg #[.int .i64 k, .int .i64 m, .int .i64 d, .int .i64 a, .int .i64 b, .int .i64 c, .bool t, .string s, .int .i64 p, .int .i64 y, .int .i64 so, .int .i64 ca]) ∧ Below w.heap.size w w' := by
  obtain ⟨W1, e1⟩ : ∃ W1, W1 = (((w.alloc (.cells #[.int .i64 k, .int .i64 m, .int .i64 d, .int .i64 a, .int .i64 b, .int .i64 c, .bool t, .string s, .int .i64 p, .int .i64 y, .int .i64 so, .int .i64 ca] 32)).alloc (.cells #[.int .i64 0, .int .i64 0, .int .i64 0, .int .i64 0, .int .i64 0, .int .i64 0, .bool false, .string ⟨#[]⟩, .int .i64 0, .int .i64 0, .int .i64 0, .int .i64 0] 46)).alloc (.cells #[.int .i64 0, .int .i64 0, .int .i64 0, .int .i64 0, .int .i64 0, .int .i64 0, .bool false, .string ⟨#[]⟩, .int .i64 0, .int .i64 0, .int .i64 0, .int .i64 0] 46)) := ⟨_, rfl⟩
  obtain ⟨WA, eA, HP, HR, HO, HB⟩ := boxes3 w #[.int .i64 k, .int .i64 m, .int .i64 d, .int .i64 a, .int .i64 b, .int .i64 c, .bool t, .string s, .int .i64 p, .int .i64 y, .int .i64 so, .int .i64 ca] #[.int .i64 0, .int .i64 0, .int .i64 0, .int .i64 0, .int .i64 0, .int .i64 0, .bool false, .string ⟨#[]⟩, .int .i64 0, .int .i64 0, .int .i64 0, .int .i64 0] #[.int .i64 0, .int .i64 0, .int .i64 0, .int .i64 0, .int .i64 0, .int .i64 0, .bool false, .string ⟨#[]⟩, .int .i64 0, .int .i64 0, .int .i64 0, .int .i64 0] 32 46 46
  have Y0 : Blk W1 w.heap.size #[.int .i64 k, .int .i64 m, .int .i64 d, .int .i64 a, .int .i64 b, .int .i64 c, .bool t, .string s, .int .i64 p, .int .i64 y, .int .i64 so, .int .i64 ca] 32 := by rw [e1, ← eA]; exact HP
  have Y1 : Blk W1 (w.heap.size + 1) #[.int .i64 0, .int .i64 0, .int .i64 0, .int .i64 0, .int .i64 0, .int .i64 0, .bool false, .string ⟨#[]⟩, .int .i64 0, .int .i64 0, .int .i64 0, .int .i64 0] 46 := by rw [e1, ← eA]; exact HR
  have Y2 : Blk W1 (w.heap.size + 2) #[.int .i64 0, .int .i64 0, .int .i64 0, .int .i64 0, .int .i64 0, .int .i64 0, .bool false, .string ⟨#[]⟩, .int .i64 0, .int .i64 0, .int .i64 0, .int .i64 0] 46 := by rw [e1, ← eA]; exact HO
  have B1 : Below w.heap.size w W1 := by rw [e1, ← eA]; exact HB
  have E1 := hideP e1
  have HY0 := hideP Y0
  have HY1 := hideP Y1
  have HY2 := hideP Y2
  have HB1 := hideP B1
  have K : ∀ W, Calls Tryz.prog 40 #[.agg #[.int .i64 k, .int .i64 m, .int .i64 d, .int .i64 a, .int .i64 b, .int .i64 c, .bool t, .string s, .int .i64 p]] W fun e w' => e = .returned (.agg #[.int .i64 k, .int .i64 m, .int .i64 d, .int .i64 a, .int .i64 b, .int .i64 c, .bool t, .string s, .int .i64 p]) ∧ Below W.heap.size W w' := fun W => toWhn k m d a b c t s p W
  clear e1 Y0 Y1 Y2 B1 HP HR HO HB eA
  go_enter Tryz.func11, Tryz.ntmps11
  go_wp2_with fail
  rw [← E1.out]
  refine (K _).mono ?_
  rintro e w2 ⟨rfl, hb⟩
  have Z0 : Hid (Blk w2 w.heap.size #[.int .i64 k, .int .i64 m, .int .i64 d, .int .i64 a, .int .i64 b, .int .i64 c, .bool t, .string s, .int .i64 p, .int .i64 y, .int .i64 so, .int .i64 ca] 32) := HY0.out.below hb HY0.out.lt
  have Z1 : Hid (Blk w2 (w.heap.size + 1) #[.int .i64 0, .int .i64 0, .int .i64 0, .int .i64 0, .int .i64 0, .int .i64 0, .bool false, .string ⟨#[]⟩, .int .i64 0, .int .i64 0, .int .i64 0, .int .i64 0] 46) := HY1.out.below hb HY1.out.lt
  have Z2 : Hid (Blk w2 (w.heap.size + 2) #[.int .i64 0, .int .i64 0, .int .i64 0, .int .i64 0, .int .i64 0, .int .i64 0, .bool false, .string ⟨#[]⟩, .int .i64 0, .int .i64 0, .int .i64 0, .int .i64 0] 46) := HY2.out.below hb HY2.out.lt
  have B2 : Hid (Below w.heap.size w w2) := HB1.out.trans (hb.mono HB1.out.size)
  clear hb E1 HY0 HY1 HY2 HB1 K
  have p0 : w2.cell? ⟨w.heap.size, 0, none⟩ = some (.int .i64 k) := Z0.out.cell 0 rfl
  have p1 : w2.cell? ⟨w.heap.size, 1, none⟩ = some (.int .i64 m) := Z0.out.cell 1 rfl
  have p2 : w2.cell? ⟨w.heap.size, 2, none⟩ = some (.int .i64 d) := Z0.out.cell 2 rfl
  have p3 : w2.cell? ⟨w.heap.size, 3, none⟩ = some (.int .i64 a) := Z0.out.cell 3 rfl
  have p4 : w2.cell? ⟨w.heap.size, 4, none⟩ = some (.int .i64 b) := Z0.out.cell 4 rfl
  have p5 : w2.cell? ⟨w.heap.size, 5, none⟩ = some (.int .i64 c) := Z0.out.cell 5 rfl
  have p6 : w2.cell? ⟨w.heap.size, 6, none⟩ = some (.bool t) := Z0.out.cell 6 rfl
  have p7 : w2.cell? ⟨w.heap.size, 7, none⟩ = some (.string s) := Z0.out.cell 7 rfl
  have p8 : w2.cell? ⟨w.heap.size, 8, none⟩ = some (.int .i64 p) := Z0.out.cell 8 rfl
  have p9 : w2.cell? ⟨w.heap.size, 9, none⟩ = some (.int .i64 y) := Z0.out.cell 9 rfl
  have p10 : w2.cell? ⟨w.heap.size, 10, none⟩ = some (.int .i64 so) := Z0.out.cell 10 rfl
  have p11 : w2.cell? ⟨w.heap.size, 11, none⟩ = some (.int .i64 ca) := Z0.out.cell 11 rfl
  have o0 : w2.cell? ⟨w.heap.size + 2, 0, none⟩ = some (.int .i64 0) := Z2.out.cell 0 rfl
  have o1 : w2.cell? ⟨w.heap.size + 2, 1, none⟩ = some (.int .i64 0) := Z2.out.cell 1 rfl
  have o2 : w2.cell? ⟨w.heap.size + 2, 2, none⟩ = some (.int .i64 0) := Z2.out.cell 2 rfl
  have o3 : w2.cell? ⟨w.heap.size + 2, 3, none⟩ = some (.int .i64 0) := Z2.out.cell 3 rfl
  have o4 : w2.cell? ⟨w.heap.size + 2, 4, none⟩ = some (.int .i64 0) := Z2.out.cell 4 rfl
  have o5 : w2.cell? ⟨w.heap.size + 2, 5, none⟩ = some (.int .i64 0) := Z2.out.cell 5 rfl
  have o6 : w2.cell? ⟨w.heap.size + 2, 6, none⟩ = some (.bool false) := Z2.out.cell 6 rfl
  have o7 : w2.cell? ⟨w.heap.size + 2, 7, none⟩ = some (.string ⟨#[]⟩) := Z2.out.cell 7 rfl
  have o8 : w2.cell? ⟨w.heap.size + 2, 8, none⟩ = some (.int .i64 0) := Z2.out.cell 8 rfl
  have o9 : w2.cell? ⟨w.heap.size + 2, 9, none⟩ = some (.int .i64 0) := Z2.out.cell 9 rfl
  have o10 : w2.cell? ⟨w.heap.size + 2, 10, none⟩ = some (.int .i64 0) := Z2.out.cell 10 rfl
  have o11 : w2.cell? ⟨w.heap.size + 2, 11, none⟩ = some (.int .i64 0) := Z2.out.cell 11 rfl
  have f0 : w2.frozen? ⟨w.heap.size + 2, 0, none⟩ = false := Z2.out.thaw 0
  have f1 : w2.frozen? ⟨w.heap.size + 2, 1, none⟩ = false := Z2.out.thaw 1
  have f2 : w2.frozen? ⟨w.heap.size + 2, 2, none⟩ = false := Z2.out.thaw 2
  have f3 : w2.frozen? ⟨w.heap.size + 2, 3, none⟩ = false := Z2.out.thaw 3
  have f4 : w2.frozen? ⟨w.heap.size + 2, 4, none⟩ = false := Z2.out.thaw 4
  have f5 : w2.frozen? ⟨w.heap.size + 2, 5, none⟩ = false := Z2.out.thaw 5
  have f6 : w2.frozen? ⟨w.heap.size + 2, 6, none⟩ = false := Z2.out.thaw 6
  have f7 : w2.frozen? ⟨w.heap.size + 2, 7, none⟩ = false := Z2.out.thaw 7
  have f8 : w2.frozen? ⟨w.heap.size + 2, 8, none⟩ = false := Z2.out.thaw 8
  have f9 : w2.frozen? ⟨w.heap.size + 2, 9, none⟩ = false := Z2.out.thaw 9
  have f10 : w2.frozen? ⟨w.heap.size + 2, 10, none⟩ = false := Z2.out.thaw 10
  have f11 : w2.frozen? ⟨w.heap.size + 2, 11, none⟩ = false := Z2.out.thaw 11
  go_upto_region 6 with fail
  obtain ⟨W5, e5⟩ : ∃ W5, W5 = ((((((((((((w2.setCell ⟨w.heap.size + 2, 0, none⟩ (.int .i64 k)).setCell ⟨w.heap.size + 2, 1, none⟩ (.int .i64 m)).setCell ⟨w.heap.size + 2, 2, none⟩ (.int .i64 d)).setCell ⟨w.heap.size + 2, 3, none⟩ (.int .i64 a)).setCell ⟨w.heap.size + 2, 4, none⟩ (.int .i64 b)).setCell ⟨w.heap.size + 2, 5, none⟩ (.int .i64 c)).setCell ⟨w.heap.size + 2, 6, none⟩ (.bool t)).setCell ⟨w.heap.size + 2, 7, none⟩ (.string s)).setCell ⟨w.heap.size + 2, 8, none⟩ (.int .i64 p)).setCell ⟨w.heap.size + 2, 9, none⟩ (.int .i64 y)).setCell ⟨w.heap.size + 2, 10, none⟩ (.int .i64 so)).setCell ⟨w.heap.size + 2, 11, none⟩ (.int .i64 ca)) := ⟨_, rfl⟩
  have X1 : Hid (Blk W5 (w.heap.size + 1) #[.int .i64 0, .int .i64 0, .int .i64 0, .int .i64 0, .int .i64 0, .int .i64 0, .bool false, .string ⟨#[]⟩, .int .i64 0, .int .i64 0, .int .i64 0, .int .i64 0] 46) := by unfold Hid; rw [e5]; exact ((((((((((((Z1.out.other (by omega)).other (by omega)).other (by omega)).other (by omega)).other (by omega)).other (by omega)).other (by omega)).other (by omega)).other (by omega)).other (by omega)).other (by omega)).other (by omega))
  have X2 : Hid (Blk W5 (w.heap.size + 2) #[.int .i64 k, .int .i64 m, .int .i64 d, .int .i64 a, .int .i64 b, .int .i64 c, .bool t, .string s, .int .i64 p, .int .i64 y, .int .i64 so, .int .i64 ca] 46) := by unfold Hid; rw [e5]; exact (setToS (vs' := #[.int .i64 k, .int .i64 m, .int .i64 d, .int .i64 a, .int .i64 b, .int .i64 c, .bool t, .string s, .int .i64 p, .int .i64 y, .int .i64 so, .int .i64 ca]) (setToS (vs' := #[.int .i64 k, .int .i64 m, .int .i64 d, .int .i64 a, .int .i64 b, .int .i64 c, .bool t, .string s, .int .i64 p, .int .i64 y, .int .i64 so, .int .i64 0]) (setToS (vs' := #[.int .i64 k, .int .i64 m, .int .i64 d, .int .i64 a, .int .i64 b, .int .i64 c, .bool t, .string s, .int .i64 p, .int .i64 y, .int .i64 0, .int .i64 0]) (setToS (vs' := #[.int .i64 k, .int .i64 m, .int .i64 d, .int .i64 a, .int .i64 b, .int .i64 c, .bool t, .string s, .int .i64 p, .int .i64 0, .int .i64 0, .int .i64 0]) (setToS (vs' := #[.int .i64 k, .int .i64 m, .int .i64 d, .int .i64 a, .int .i64 b, .int .i64 c, .bool t, .string s, .int .i64 0, .int .i64 0, .int .i64 0, .int .i64 0]) (setToS (vs' := #[.int .i64 k, .int .i64 m, .int .i64 d, .int .i64 a, .int .i64 b, .int .i64 c, .bool t, .string ⟨#[]⟩, .int .i64 0, .int .i64 0, .int .i64 0, .int .i64 0]) (setToS (vs' := #[.int .i64 k, .int .i64 m, .int .i64 d, .int .i64 a, .int .i64 b, .int .i64 c, .bool false, .string ⟨#[]⟩, .int .i64 0, .int .i64 0, .int .i64 0, .int .i64 0]) (setToS (vs' := #[.int .i64 k, .int .i64 m, .int .i64 d, .int .i64 a, .int .i64 b, .int .i64 0, .bool false, .string ⟨#[]⟩, .int .i64 0, .int .i64 0, .int .i64 0, .int .i64 0]) (setToS (vs' := #[.int .i64 k, .int .i64 m, .int .i64 d, .int .i64 a, .int .i64 0, .int .i64 0, .bool false, .string ⟨#[]⟩, .int .i64 0, .int .i64 0, .int .i64 0, .int .i64 0]) (setToS (vs' := #[.int .i64 k, .int .i64 m, .int .i64 d, .int .i64 0, .int .i64 0, .int .i64 0, .bool false, .string ⟨#[]⟩, .int .i64 0, .int .i64 0, .int .i64 0, .int .i64 0]) (setToS (vs' := #[.int .i64 k, .int .i64 m, .int .i64 0, .int .i64 0, .int .i64 0, .int .i64 0, .bool false, .string ⟨#[]⟩, .int .i64 0, .int .i64 0, .int .i64 0, .int .i64 0]) (setToS (vs' := #[.int .i64 k, .int .i64 0, .int .i64 0, .int .i64 0, .int .i64 0, .int .i64 0, .bool false, .string ⟨#[]⟩, .int .i64 0, .int .i64 0, .int .i64 0, .int .i64 0]) Z2.out 0 _ rfl) 1 _ rfl) 2 _ rfl) 3 _ rfl) 4 _ rfl) 5 _ rfl) 6 _ rfl) 7 _ rfl) 8 _ rfl) 9 _ rfl) 10 _ rfl) 11 _ rfl)
  have B5 : Hid (Below w.heap.size w W5) := by unfold Hid; rw [e5]; exact (below_store (below_store (below_store (below_store (below_store (below_store (below_store (below_store (below_store (below_store (below_store (below_store B2.out (b := w.heap.size + 2) (i := 0) _ (by omega)) (b := w.heap.size + 2) (i := 1) _ (by omega)) (b := w.heap.size + 2) (i := 2) _ (by omega)) (b := w.heap.size + 2) (i := 3) _ (by omega)) (b := w.heap.size + 2) (i := 4) _ (by omega)) (b := w.heap.size + 2) (i := 5) _ (by omega)) (b := w.heap.size + 2) (i := 6) _ (by omega)) (b := w.heap.size + 2) (i := 7) _ (by omega)) (b := w.heap.size + 2) (i := 8) _ (by omega)) (b := w.heap.size + 2) (i := 9) _ (by omega)) (b := w.heap.size + 2) (i := 10) _ (by omega)) (b := w.heap.size + 2) (i := 11) _ (by omega))
  rw [← e5]
  clear e5 Z0 Z1 Z2 B2 p0 o0 f0 p1 o1 f1 p2 o2 f2 p3 o3 f3 p4 o4 f4 p5 o5 f5 p6 o6 f6 p7 o7 f7 p8 o8 f8 p9 o9 f9 p10 o10 f10 p11 o11 f11
  have o0 : W5.cell? ⟨w.heap.size + 2, 0, none⟩ = some (.int .i64 k) := X2.out.cell 0 rfl
  have o1 : W5.cell? ⟨w.heap.size + 2, 1, none⟩ = some (.int .i64 m) := X2.out.cell 1 rfl
  have o2 : W5.cell? ⟨w.heap.size + 2, 2, none⟩ = some (.int .i64 d) := X2.out.cell 2 rfl
  have o3 : W5.cell? ⟨w.heap.size + 2, 3, none⟩ = some (.int .i64 a) := X2.out.cell 3 rfl
  have o4 : W5.cell? ⟨w.heap.size + 2, 4, none⟩ = some (.int .i64 b) := X2.out.cell 4 rfl
  have o5 : W5.cell? ⟨w.heap.size + 2, 5, none⟩ = some (.int .i64 c) := X2.out.cell 5 rfl
  have o6 : W5.cell? ⟨w.heap.size + 2, 6, none⟩ = some (.bool t) := X2.out.cell 6 rfl
  have o7 : W5.cell? ⟨w.heap.size + 2, 7, none⟩ = some (.string s) := X2.out.cell 7 rfl
  have o8 : W5.cell? ⟨w.heap.size + 2, 8, none⟩ = some (.int .i64 p) := X2.out.cell 8 rfl
  have o9 : W5.cell? ⟨w.heap.size + 2, 9, none⟩ = some (.int .i64 y) := X2.out.cell 9 rfl
  have o10 : W5.cell? ⟨w.heap.size + 2, 10, none⟩ = some (.int .i64 so) := X2.out.cell 10 rfl
  have o11 : W5.cell? ⟨w.heap.size + 2, 11, none⟩ = some (.int .i64 ca) := X2.out.cell 11 rfl
  have r0 : W5.cell? ⟨w.heap.size + 1, 0, none⟩ = some (.int .i64 0) := X1.out.cell 0 rfl
  have r1 : W5.cell? ⟨w.heap.size + 1, 1, none⟩ = some (.int .i64 0) := X1.out.cell 1 rfl
  have r2 : W5.cell? ⟨w.heap.size + 1, 2, none⟩ = some (.int .i64 0) := X1.out.cell 2 rfl
  have r3 : W5.cell? ⟨w.heap.size + 1, 3, none⟩ = some (.int .i64 0) := X1.out.cell 3 rfl
  have r4 : W5.cell? ⟨w.heap.size + 1, 4, none⟩ = some (.int .i64 0) := X1.out.cell 4 rfl
  have r5 : W5.cell? ⟨w.heap.size + 1, 5, none⟩ = some (.int .i64 0) := X1.out.cell 5 rfl
  have r6 : W5.cell? ⟨w.heap.size + 1, 6, none⟩ = some (.bool false) := X1.out.cell 6 rfl
  have r7 : W5.cell? ⟨w.heap.size + 1, 7, none⟩ = some (.string ⟨#[]⟩) := X1.out.cell 7 rfl
  have r8 : W5.cell? ⟨w.heap.size + 1, 8, none⟩ = some (.int .i64 0) := X1.out.cell 8 rfl
  have r9 : W5.cell? ⟨w.heap.size + 1, 9, none⟩ = some (.int .i64 0) := X1.out.cell 9 rfl
  have r10 : W5.cell? ⟨w.heap.size + 1, 10, none⟩ = some (.int .i64 0) := X1.out.cell 10 rfl
  have r11 : W5.cell? ⟨w.heap.size + 1, 11, none⟩ = some (.int .i64 0) := X1.out.cell 11 rfl
  have g0 : W5.frozen? ⟨w.heap.size + 1, 0, none⟩ = false := X1.out.thaw 0
  have g1 : W5.frozen? ⟨w.heap.size + 1, 1, none⟩ = false := X1.out.thaw 1
  have g2 : W5.frozen? ⟨w.heap.size + 1, 2, none⟩ = false := X1.out.thaw 2
  have g3 : W5.frozen? ⟨w.heap.size + 1, 3, none⟩ = false := X1.out.thaw 3
  have g4 : W5.frozen? ⟨w.heap.size + 1, 4, none⟩ = false := X1.out.thaw 4
  have g5 : W5.frozen? ⟨w.heap.size + 1, 5, none⟩ = false := X1.out.thaw 5
  have g6 : W5.frozen? ⟨w.heap.size + 1, 6, none⟩ = false := X1.out.thaw 6
  have g7 : W5.frozen? ⟨w.heap.size + 1, 7, none⟩ = false := X1.out.thaw 7
  have g8 : W5.frozen? ⟨w.heap.size + 1, 8, none⟩ = false := X1.out.thaw 8
  have g9 : W5.frozen? ⟨w.heap.size + 1, 9, none⟩ = false := X1.out.thaw 9
  have g10 : W5.frozen? ⟨w.heap.size + 1, 10, none⟩ = false := X1.out.thaw 10
  have g11 : W5.frozen? ⟨w.heap.size + 1, 11, none⟩ = false := X1.out.thaw 11
  go_wp2
  obtain ⟨W9, e9⟩ : ∃ W9, W9 = ((((((((((((W5.setCell ⟨w.heap.size + 1, 0, none⟩ (.int .i64 k)).setCell ⟨w.heap.size + 1, 1, none⟩ (.int .i64 m)).setCell ⟨w.heap.size + 1, 2, none⟩ (.int .i64 d)).setCell ⟨w.heap.size + 1, 3, none⟩ (.int .i64 a)).setCell ⟨w.heap.size + 1, 4, none⟩ (.int .i64 b)).setCell ⟨w.heap.size + 1, 5, none⟩ (.int .i64 c)).setCell ⟨w.heap.size + 1, 6, none⟩ (.bool t)).setCell ⟨w.heap.size + 1, 7, none⟩ (.string s)).setCell ⟨w.heap.size + 1, 8, none⟩ (.int .i64 p)).setCell ⟨w.heap.size + 1, 9, none⟩ (.int .i64 y)).setCell ⟨w.heap.size + 1, 10, none⟩ (.int .i64 so)).setCell ⟨w.heap.size + 1, 11, none⟩ (.int .i64 ca)) := ⟨_, rfl⟩
  have Z9 : Blk W9 (w.heap.size + 1) #[.int .i64 k, .int .i64 m, .int .i64 d, .int .i64 a, .int .i64 b, .int .i64 c, .bool t, .string s, .int .i64 p, .int .i64 y, .int .i64 so, .int .i64 ca] 46 := by rw [e9]; exact (setToS (vs' := #[.int .i64 k, .int .i64 m, .int .i64 d, .int .i64 a, .int .i64 b, .int .i64 c, .bool t, .string s, .int .i64 p, .int .i64 y, .int .i64 so, .int .i64 ca]) (setToS (vs' := #[.int .i64 k, .int .i64 m, .int .i64 d, .int .i64 a, .int .i64 b, .int .i64 c, .bool t, .string s, .int .i64 p, .int .i64 y, .int .i64 so, .int .i64 0]) (setToS (vs' := #[.int .i64 k, .int .i64 m, .int .i64 d, .int .i64 a, .int .i64 b, .int .i64 c, .bool t, .string s, .int .i64 p, .int .i64 y, .int .i64 0, .int .i64 0]) (setToS (vs' := #[.int .i64 k, .int .i64 m, .int .i64 d, .int .i64 a, .int .i64 b, .int .i64 c, .bool t, .string s, .int .i64 p, .int .i64 0, .int .i64 0, .int .i64 0]) (setToS (vs' := #[.int .i64 k, .int .i64 m, .int .i64 d, .int .i64 a, .int .i64 b, .int .i64 c, .bool t, .string s, .int .i64 0, .int .i64 0, .int .i64 0, .int .i64 0]) (setToS (vs' := #[.int .i64 k, .int .i64 m, .int .i64 d, .int .i64 a, .int .i64 b, .int .i64 c, .bool t, .string ⟨#[]⟩, .int .i64 0, .int .i64 0, .int .i64 0, .int .i64 0]) (setToS (vs' := #[.int .i64 k, .int .i64 m, .int .i64 d, .int .i64 a, .int .i64 b, .int .i64 c, .bool false, .string ⟨#[]⟩, .int .i64 0, .int .i64 0, .int .i64 0, .int .i64 0]) (setToS (vs' := #[.int .i64 k, .int .i64 m, .int .i64 d, .int .i64 a, .int .i64 b, .int .i64 0, .bool false, .string ⟨#[]⟩, .int .i64 0, .int .i64 0, .int .i64 0, .int .i64 0]) (setToS (vs' := #[.int .i64 k, .int .i64 m, .int .i64 d, .int .i64 a, .int .i64 0, .int .i64 0, .bool false, .string ⟨#[]⟩, .int .i64 0, .int .i64 0, .int .i64 0, .int .i64 0]) (setToS (vs' := #[.int .i64 k, .int .i64 m, .int .i64 d, .int .i64 0, .int .i64 0, .int .i64 0, .bool false, .string ⟨#[]⟩, .int .i64 0, .int .i64 0, .int .i64 0, .int .i64 0]) (setToS (vs' := #[.int .i64 k, .int .i64 m, .int .i64 0, .int .i64 0, .int .i64 0, .int .i64 0, .bool false, .string ⟨#[]⟩, .int .i64 0, .int .i64 0, .int .i64 0, .int .i64 0]) (setToS (vs' := #[.int .i64 k, .int .i64 0, .int .i64 0, .int .i64 0, .int .i64 0, .int .i64 0, .bool false, .string ⟨#[]⟩, .int .i64 0, .int .i64 0, .int .i64 0, .int .i64 0]) X1.out 0 _ rfl) 1 _ rfl) 2 _ rfl) 3 _ rfl) 4 _ rfl) 5 _ rfl) 6 _ rfl) 7 _ rfl) 8 _ rfl) 9 _ rfl) 10 _ rfl) 11 _ rfl)
  have B9 : Below w.heap.size w W9 := by rw [e9]; exact (below_store (below_store (below_store (below_store (below_store (below_store (below_store (below_store (below_store (below_store (below_store (below_store B5.out (b := w.heap.size + 1) (i := 0) _ (by omega)) (b := w.heap.size + 1) (i := 1) _ (by omega)) (b := w.heap.size + 1) (i := 2) _ (by omega)) (b := w.heap.size + 1) (i := 3) _ (by omega)) (b := w.heap.size + 1) (i := 4) _ (by omega)) (b := w.heap.size + 1) (i := 5) _ (by omega)) (b := w.heap.size + 1) (i := 6) _ (by omega)) (b := w.heap.size + 1) (i := 7) _ (by omega)) (b := w.heap.size + 1) (i := 8) _ (by omega)) (b := w.heap.size + 1) (i := 9) _ (by omega)) (b := w.heap.size + 1) (i := 10) _ (by omega)) (b := w.heap.size + 1) (i := 11) _ (by omega))
  rw [← e9]
  clear e9
  have q0 : W9.cell? ⟨w.heap.size + 1, 0, none⟩ = some (.int .i64 k) := Z9.cell 0 rfl
  have q1 : W9.cell? ⟨w.heap.size + 1, 1, none⟩ = some (.int .i64 m) := Z9.cell 1 rfl
  have q2 : W9.cell? ⟨w.heap.size + 1, 2, none⟩ = some (.int .i64 d) := Z9.cell 2 rfl
  have q3 : W9.cell? ⟨w.heap.size + 1, 3, none⟩ = some (.int .i64 a) := Z9.cell 3 rfl
  have q4 : W9.cell? ⟨w.heap.size + 1, 4, none⟩ = some (.int .i64 b) := Z9.cell 4 rfl
  have q5 : W9.cell? ⟨w.heap.size + 1, 5, none⟩ = some (.int .i64 c) := Z9.cell 5 rfl
  have q6 : W9.cell? ⟨w.heap.size + 1, 6, none⟩ = some (.bool t) := Z9.cell 6 rfl
  have q7 : W9.cell? ⟨w.heap.size + 1, 7, none⟩ = some (.string s) := Z9.cell 7 rfl
  have q8 : W9.cell? ⟨w.heap.size + 1, 8, none⟩ = some (.int .i64 p) := Z9.cell 8 rfl
  have q9 : W9.cell? ⟨w.heap.size + 1, 9, none⟩ = some (.int .i64 y) := Z9.cell 9 rfl
  have q10 : W9.cell? ⟨w.heap.size + 1, 10, none⟩ = some (.int .i64 so) := Z9.cell 10 rfl
  have q11 : W9.cell? ⟨w.heap.size + 1, 11, none⟩ = some (.int .i64 ca) := Z9.cell 11 rfl
  exact bodyPost_ret (by simp [results, Tryz.results11, go_sem, q0, q1, q2, q3, q4, q5, q6, q7, q8, q9, q10, q11]; first | done | rfl) rfl ⟨rfl, B9⟩
end Go.Proofs.YtdgolaaheakfoaaGreatDoor.ctr
