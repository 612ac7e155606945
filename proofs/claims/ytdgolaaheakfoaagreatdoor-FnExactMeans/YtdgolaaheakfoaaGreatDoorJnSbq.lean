/- Whether a day of a right regime is told by a saying: plain, of no program. What the laws of chapter 5 use besides: four listed variables; the contracts of the laws' own toDate, eqDate, toRoman and eqRoman. Contracts of the laws' own toWhen and toSaying: what comes in is handed on, field by field. -/
import Derived.Test.YtdgolaaheakfoaaGreatDoorJnSbp
import Derived.Test.YtdgolaaheakfoaaGreatDoorJnSbf
import Derived.Test.YtdgolaaheakfoaaGreatDoorJnSbg
import Derived.Test.YtdgolaaheakfoaaGreatDoorJnSaj
import Derived.Test.YtdgolaaheakfoaaGreatDoorJnSbo
namespace Go.Proofs.YtdgolaaheakfoaaGreatDoor.ctr
open Go.RowKit
noncomputable def segN (r : Rgm) (n : Int) : Seg := atK segK r.segs (segAt r.segs n).toNat
theorem segN_nums {r : Rgm} {n : Int} (hr : regimeB r = true) (h1 : r.fr ≤ n) (h2 : n ≤ r.to) : ((segN r n).cal = 0 ∨ (segN r n).cal = 1) ∧ -3 ≤ (segN r n).off ∧ (segN r n).off ≤ 3 := by
  have h0 := (seg_fact hr n).2 ⟨h1, h2⟩
  rcases segAt_cases r.segs n with ⟨h3, _⟩ | ⟨j, hj, h3, h4, h5⟩
  · omega
  · obtain ⟨_, _, _, hc, _, o1, o2⟩ := segOk_nums (right_seg hr hj).1
    unfold segN
    rw [h3, Int.toNat_natCast]
    exact ⟨hc, o1, o2⟩
theorem line_ends : dayOf 0 1 1 1 = -1 ∧ dayOf 1 1 1 1 = 1 ∧ dayOf 0 3000 12 31 = 1095748 ∧ dayOf 1 3000 12 31 = 1095727 := by decide +kernel
theorem line_dates : dateP 0 1 1 1 ∧ dateP 1 1 1 1 ∧ dateP 0 3000 12 31 ∧ dateP 1 3000 12 31 := by decide +kernel
theorem mid_date {c n : Int} (hc : c = 0 ∨ c = 1) (h1 : 300 ≤ n) (h2 : n ≤ 1091000) : ∃ Y m d, dateOf c n = (c, Y, m, d, true) := by
  obtain ⟨e0, e1, e2, e3⟩ := line_ends
  obtain ⟨p0, p1, p2, p3⟩ := line_dates
  rcases hc with rfl | rfl
  · exact date_between (day_back p0) (day_back p2) (by omega) (by omega)
  · exact date_between (day_back p1) (day_back p3) (by omega) (by omega)
noncomputable def whenIsB (r : Rgm) (wh : Whn) (n : Int) : Bool :=
  if wh.kind = 0 then ((rdgOn r n).mon == wh.mon && (rdgOn r n).day == wh.day)
  else if 0 ≤ patAt r.pats n then false
  else if wh.kind = 1 then romEq (romanOf (segN r n).cal (dateOf (segN r n).cal (n + (segN r n).off)).2.1 (dateOf (segN r n).cal (n + (segN r n).off)).2.2.1 (dateOf (segN r n).cal (n + (segN r n).off)).2.2.2.1) wh.rom
  else (feaDay (segN r n).cal (dateOf (segN r n).cal (n + (segN r n).off)).2.1 (feaOf wh.feast).name (feaOf wh.feast).mv (feaOf wh.feast).off (feaOf wh.feast).m (feaOf wh.feast).d + wh.plus == n + (segN r n).off)
noncomputable def headB (x : Rdg) (s : Say) : Bool := x.year == s.year && ((s.sol == -1 || x.sol == s.sol) && (s.cal == -1 || x.cal == s.cal))
noncomputable def saidB (r : Rgm) (s : Say) (n : Int) : Bool := headB (rdgOn r n) s && whenIsB r s.whn n
theorem rdg_date {r : Rgm} {n : Int} (hr : regimeB r = true) (h1 : r.fr ≤ n) (h2 : n ≤ r.to) (hp : ¬ 0 ≤ patAt r.pats n) :
    ∃ Y m d, dateOf (segN r n).cal (n + (segN r n).off) = ((segN r n).cal, Y, m, d, true) ∧ (rdgOn r n).cal = (segN r n).cal ∧ (rdgOn r n).sol = Y ∧ (rdgOn r n).mon = m ∧ (rdgOn r n).day = d ∧ dateOk (segN r n).cal Y m d = true ∧ dayOf (segN r n).cal Y m d = n + (segN r n).off := by
  obtain ⟨hc, o1, o2⟩ := segN_nums hr h1 h2
  obtain ⟨n1, n2⟩ := day_in hr h1 h2
  obtain ⟨Y, m, d, he⟩ := mid_date hc (n := n + (segN r n).off) (by omega) (by omega)
  obtain ⟨_, hd, hb⟩ := date_back he
  refine ⟨Y, m, d, he, rfl, ?_, ?_, ?_, by unfold dateOk; exact decide_eq_true hd, hb⟩
  · show (dateOf (segN r n).cal (n + (segN r n).off)).2.1 = Y
    rw [he]
  · show (if 0 ≤ patAt r.pats n then _ else (dateOf (segN r n).cal (n + (segN r n).off)).2.2.1) = m
    rw [if_neg hp, he]
  · show (if 0 ≤ patAt r.pats n then _ else (dateOf (segN r n).cal (n + (segN r n).off)).2.2.2.1) = d
    rw [if_neg hp, he]
theorem plain_tuple (c : Int) (x : Rdg) : ∃ e0 e1 e2 e3 ok, plainR c x = .tuple #[.agg #[.int .i64 e0, .int .i64 e1, .int .i64 e2, .int .i64 e3], .bool ok] := by
  by_cases h : dateOk c x.sol x.mon x.day = true
  · exact ⟨_, _, _, _, _, plainR_yes h⟩
  · exact ⟨_, _, _, _, _, plainR_no h⟩
end Go.Proofs.YtdgolaaheakfoaaGreatDoor.ctr
namespace Go.Proofs.YtdgolaaheakfoaaGreatDoor.kit
end Go.Proofs.YtdgolaaheakfoaaGreatDoor.kit
namespace Go.Proofs.YtdgolaaheakfoaaGreatDoor.ctr
open Go.RowKit
theorem lawToRoman (a b c : Int) (d : Bool) (w : World) : Calls Tryz.prog 80 #[.agg #[.int .i64 a, .int .i64 b, .int .i64 c, .bool d]] w fun e w' => e = .returned (.agg #[.int .i64 a, .int .i64 b, .int .i64 c, .bool d]) ∧ Below w.heap.size w w' := by
  go_enter Tryz.func80, Tryz.ntmps80
  go_wp2
  go_returns
  refine ⟨rfl, ?_⟩
  go_grown
end Go.Proofs.YtdgolaaheakfoaaGreatDoor.ctr
namespace Go.Proofs.YtdgolaaheakfoaaGreatDoor.ctr
open Go.RowKit
theorem boxes3 (w : World) (a b c : Array Value) (t s u : TypeId) : ∃ W0, W0 = ((w.alloc (.cells a t)).alloc (.cells b s)).alloc (.cells c u) ∧ Blk W0 w.heap.size a t ∧ Blk W0 (w.heap.size + 1) b s ∧ Blk W0 (w.heap.size + 2) c u ∧ Below w.heap.size w W0 := by
  refine ⟨_, rfl, ((Blk.new _ _ _).alloc _).alloc _, ?_, ?_, ?_⟩
  · have h := Blk.new (w.alloc (.cells a t)) b s
    rw [World.size_alloc] at h
    exact h.alloc _
  · have h := Blk.new ((w.alloc (.cells a t)).alloc (.cells b s)) c u
    rw [World.size_alloc, World.size_alloc] at h
    exact h
  · exact below_alloc (below_alloc (below_alloc (Below.refl _ _)))
set_option maxRecDepth 100000 in
set_option maxHeartbeats 8000000 in
theorem toWhn (k m d a b c : Int) (t : Bool) (s : ByteArray) (p : Int) (w : World) : Calls Tryz.prog 40 #[.agg #[.int .i64 k, .int .i64 m, .int .i64 d, .int .i64 a, .int .i64 b, .int .i64 c, .bool t, .string s, .int .i64 p]] w fun e w' => e = .returned (.agg #[.int .i64 k, .int .i64 m, .int .i64 d, .int .i64 a, .int .i64 b, .int .i64 c, .bool t, .string s, .int .i64 p]) ∧ Below w.heap.size w w' := by
  obtain ⟨W1, e1⟩ : ∃ W1, W1 = (((w.alloc (.cells #[.int .i64 k, .int .i64 m, .int .i64 d, .int .i64 a, .int .i64 b, .int .i64 c, .bool t, .string s, .int .i64 p] 30)).alloc (.cells #[.int .i64 0, .int .i64 0, .int .i64 0, .int .i64 0, .int .i64 0, .int .i64 0, .bool false, .string ⟨#[]⟩, .int .i64 0] 44)).alloc (.cells #[.int .i64 k, .int .i64 m, .int .i64 d, .int .i64 0, .int .i64 0, .int .i64 0, .bool false, .string ⟨#[]⟩, .int .i64 0] 44)) := ⟨_, rfl⟩
  obtain ⟨WA, eA, HP, HR, HO, HB⟩ := boxes3 w #[.int .i64 k, .int .i64 m, .int .i64 d, .int .i64 a, .int .i64 b, .int .i64 c, .bool t, .string s, .int .i64 p] #[.int .i64 0, .int .i64 0, .int .i64 0, .int .i64 0, .int .i64 0, .int .i64 0, .bool false, .string ⟨#[]⟩, .int .i64 0] #[.int .i64 k, .int .i64 m, .int .i64 d, .int .i64 0, .int .i64 0, .int .i64 0, .bool false, .string ⟨#[]⟩, .int .i64 0] 30 44 44
  have Y0 : Blk W1 w.heap.size #[.int .i64 k, .int .i64 m, .int .i64 d, .int .i64 a, .int .i64 b, .int .i64 c, .bool t, .string s, .int .i64 p] 30 := by rw [e1, ← eA]; exact HP
  have Y1 : Blk W1 (w.heap.size + 1) #[.int .i64 0, .int .i64 0, .int .i64 0, .int .i64 0, .int .i64 0, .int .i64 0, .bool false, .string ⟨#[]⟩, .int .i64 0] 44 := by rw [e1, ← eA]; exact HR
  have Y2 : Blk W1 (w.heap.size + 2) #[.int .i64 k, .int .i64 m, .int .i64 d, .int .i64 0, .int .i64 0, .int .i64 0, .bool false, .string ⟨#[]⟩, .int .i64 0] 44 := by rw [e1, ← eA]; exact HO
  have B1 : Below w.heap.size w W1 := by rw [e1, ← eA]; exact HB
  have E1 := hideP e1
  have HY0 := hideP Y0
  have HY1 := hideP Y1
  have HY2 := hideP Y2
  have HB1 := hideP B1
  have K : ∀ W, Calls Tryz.prog 80 #[.agg #[.int .i64 a, .int .i64 b, .int .i64 c, .bool t]] W fun e w' => e = .returned (.agg #[.int .i64 a, .int .i64 b, .int .i64 c, .bool t]) ∧ Below W.heap.size W w' := fun W => lawToRoman a b c t W
  clear e1 Y0 Y1 Y2 B1 HP HR HO HB eA
  go_enter Tryz.func40, Tryz.ntmps40
  go_wp2_with fail
  rw [← E1.out]
  refine (K _).mono ?_
  rintro e w2 ⟨rfl, hb⟩
  have Z0 : Hid (Blk w2 w.heap.size #[.int .i64 k, .int .i64 m, .int .i64 d, .int .i64 a, .int .i64 b, .int .i64 c, .bool t, .string s, .int .i64 p] 30) := HY0.out.below hb HY0.out.lt
  have Z1 : Hid (Blk w2 (w.heap.size + 1) #[.int .i64 0, .int .i64 0, .int .i64 0, .int .i64 0, .int .i64 0, .int .i64 0, .bool false, .string ⟨#[]⟩, .int .i64 0] 44) := HY1.out.below hb HY1.out.lt
  have Z2 : Hid (Blk w2 (w.heap.size + 2) #[.int .i64 k, .int .i64 m, .int .i64 d, .int .i64 0, .int .i64 0, .int .i64 0, .bool false, .string ⟨#[]⟩, .int .i64 0] 44) := HY2.out.below hb HY2.out.lt
  have B2 : Hid (Below w.heap.size w w2) := HB1.out.trans (hb.mono HB1.out.size)
  clear hb E1 HY0 HY1 HY2 HB1 K
  have p0 : w2.cell? ⟨w.heap.size, 0, none⟩ = some (.int .i64 k) := Z0.out.cell 0 rfl
  have p1 : w2.cell? ⟨w.heap.size, 1, none⟩ = some (.int .i64 m) := Z0.out.cell 1 rfl
  have p2 : w2.cell? ⟨w.heap.size, 2, none⟩ = some (.int .i64 d) := Z0.out.cell 2 rfl
  have p3 : w2.cell? ⟨w.heap.size, 3, none⟩ = some (.int .i64 a) := Z0.out.cell 3 rfl
  have p4 : w2.cell? ⟨w.heap.size, 4, none⟩ = some (.int .i64 b) := Z0.out.cell 4 rfl
  have p5 : w2.cell? ⟨w.heap.size, 5, none⟩ = some (.int .i64 c) := Z0.out.cell 5 rfl
  have p6 : w2.cell? ⟨w.heap.size, 6, none⟩ = some (.bool t) := Z0.out.cell 6 rfl
  have p7 : w2.cell? ⟨w.heap.size, 7, none⟩ = some (.string s) := Z0.out.cell 7 rfl
  have p8 : w2.cell? ⟨w.heap.size, 8, none⟩ = some (.int .i64 p) := Z0.out.cell 8 rfl
  have o0 : w2.cell? ⟨w.heap.size + 2, 0, none⟩ = some (.int .i64 k) := Z2.out.cell 0 rfl
  have o1 : w2.cell? ⟨w.heap.size + 2, 1, none⟩ = some (.int .i64 m) := Z2.out.cell 1 rfl
  have o2 : w2.cell? ⟨w.heap.size + 2, 2, none⟩ = some (.int .i64 d) := Z2.out.cell 2 rfl
  have o3 : w2.cell? ⟨w.heap.size + 2, 3, none⟩ = some (.int .i64 0) := Z2.out.cell 3 rfl
  have o4 : w2.cell? ⟨w.heap.size + 2, 4, none⟩ = some (.int .i64 0) := Z2.out.cell 4 rfl
  have o5 : w2.cell? ⟨w.heap.size + 2, 5, none⟩ = some (.int .i64 0) := Z2.out.cell 5 rfl
  have o6 : w2.cell? ⟨w.heap.size + 2, 6, none⟩ = some (.bool false) := Z2.out.cell 6 rfl
  have o7 : w2.cell? ⟨w.heap.size + 2, 7, none⟩ = some (.string ⟨#[]⟩) := Z2.out.cell 7 rfl
  have o8 : w2.cell? ⟨w.heap.size + 2, 8, none⟩ = some (.int .i64 0) := Z2.out.cell 8 rfl
  have f0 : w2.frozen? ⟨w.heap.size + 2, 0, none⟩ = false := Z2.out.thaw 0
  have f1 : w2.frozen? ⟨w.heap.size + 2, 1, none⟩ = false := Z2.out.thaw 1
  have f2 : w2.frozen? ⟨w.heap.size + 2, 2, none⟩ = false := Z2.out.thaw 2
  have f3 : w2.frozen? ⟨w.heap.size + 2, 3, none⟩ = false := Z2.out.thaw 3
  have f4 : w2.frozen? ⟨w.heap.size + 2, 4, none⟩ = false := Z2.out.thaw 4
  have f5 : w2.frozen? ⟨w.heap.size + 2, 5, none⟩ = false := Z2.out.thaw 5
  have f6 : w2.frozen? ⟨w.heap.size + 2, 6, none⟩ = false := Z2.out.thaw 6
  have f7 : w2.frozen? ⟨w.heap.size + 2, 7, none⟩ = false := Z2.out.thaw 7
  have f8 : w2.frozen? ⟨w.heap.size + 2, 8, none⟩ = false := Z2.out.thaw 8
  go_upto_region 8 with fail
  obtain ⟨W5, e5⟩ : ∃ W5, W5 = ((((((w2.setCell ⟨w.heap.size + 2, 3, none⟩ (.int .i64 a)).setCell ⟨w.heap.size + 2, 4, none⟩ (.int .i64 b)).setCell ⟨w.heap.size + 2, 5, none⟩ (.int .i64 c)).setCell ⟨w.heap.size + 2, 6, none⟩ (.bool t)).setCell ⟨w.heap.size + 2, 7, none⟩ (.string s)).setCell ⟨w.heap.size + 2, 8, none⟩ (.int .i64 p)) := ⟨_, rfl⟩
  have X1 : Hid (Blk W5 (w.heap.size + 1) #[.int .i64 0, .int .i64 0, .int .i64 0, .int .i64 0, .int .i64 0, .int .i64 0, .bool false, .string ⟨#[]⟩, .int .i64 0] 44) := by unfold Hid; rw [e5]; exact ((((((Z1.out.other (by omega)).other (by omega)).other (by omega)).other (by omega)).other (by omega)).other (by omega))
  have X2 : Hid (Blk W5 (w.heap.size + 2) #[.int .i64 k, .int .i64 m, .int .i64 d, .int .i64 a, .int .i64 b, .int .i64 c, .bool t, .string s, .int .i64 p] 44) := by unfold Hid; rw [e5]; exact ((((((Z2.out.set 3 _).set 4 _).set 5 _).set 6 _).set 7 _).set 8 _)
  have B5 : Hid (Below w.heap.size w W5) := by unfold Hid; rw [e5]; exact (below_store (below_store (below_store (below_store (below_store (below_store B2.out (b := w.heap.size + 2) (i := 3) _ (by omega)) (b := w.heap.size + 2) (i := 4) _ (by omega)) (b := w.heap.size + 2) (i := 5) _ (by omega)) (b := w.heap.size + 2) (i := 6) _ (by omega)) (b := w.heap.size + 2) (i := 7) _ (by omega)) (b := w.heap.size + 2) (i := 8) _ (by omega))
  rw [← e5]
  clear e5 Z0 Z1 Z2 B2 p0 o0 f0 p1 o1 f1 p2 o2 f2 p3 o3 f3 p4 o4 f4 p5 o5 f5 p6 o6 f6 p7 o7 f7 p8 o8 f8
  have o0 : W5.cell? ⟨w.heap.size + 2, 0, none⟩ = some (.int .i64 k) := X2.out.cell 0 rfl
  have o1 : W5.cell? ⟨w.heap.size + 2, 1, none⟩ = some (.int .i64 m) := X2.out.cell 1 rfl
  have o2 : W5.cell? ⟨w.heap.size + 2, 2, none⟩ = some (.int .i64 d) := X2.out.cell 2 rfl
  have o3 : W5.cell? ⟨w.heap.size + 2, 3, none⟩ = some (.int .i64 a) := X2.out.cell 3 rfl
  have o4 : W5.cell? ⟨w.heap.size + 2, 4, none⟩ = some (.int .i64 b) := X2.out.cell 4 rfl
  have o5 : W5.cell? ⟨w.heap.size + 2, 5, none⟩ = some (.int .i64 c) := X2.out.cell 5 rfl
  have o6 : W5.cell? ⟨w.heap.size + 2, 6, none⟩ = some (.bool t) := X2.out.cell 6 rfl
  have o7 : W5.cell? ⟨w.heap.size + 2, 7, none⟩ = some (.string s) := X2.out.cell 7 rfl
  have o8 : W5.cell? ⟨w.heap.size + 2, 8, none⟩ = some (.int .i64 p) := X2.out.cell 8 rfl
  have r0 : W5.cell? ⟨w.heap.size + 1, 0, none⟩ = some (.int .i64 0) := X1.out.cell 0 rfl
  have r1 : W5.cell? ⟨w.heap.size + 1, 1, none⟩ = some (.int .i64 0) := X1.out.cell 1 rfl
  have r2 : W5.cell? ⟨w.heap.size + 1, 2, none⟩ = some (.int .i64 0) := X1.out.cell 2 rfl
  have r3 : W5.cell? ⟨w.heap.size + 1, 3, none⟩ = some (.int .i64 0) := X1.out.cell 3 rfl
  have r4 : W5.cell? ⟨w.heap.size + 1, 4, none⟩ = some (.int .i64 0) := X1.out.cell 4 rfl
  have r5 : W5.cell? ⟨w.heap.size + 1, 5, none⟩ = some (.int .i64 0) := X1.out.cell 5 rfl
  have r6 : W5.cell? ⟨w.heap.size + 1, 6, none⟩ = some (.bool false) := X1.out.cell 6 rfl
  have r7 : W5.cell? ⟨w.heap.size + 1, 7, none⟩ = some (.string ⟨#[]⟩) := X1.out.cell 7 rfl
  have r8 : W5.cell? ⟨w.heap.size + 1, 8, none⟩ = some (.int .i64 0) := X1.out.cell 8 rfl
  have g0 : W5.frozen? ⟨w.heap.size + 1, 0, none⟩ = false := X1.out.thaw 0
  have g1 : W5.frozen? ⟨w.heap.size + 1, 1, none⟩ = false := X1.out.thaw 1
  have g2 : W5.frozen? ⟨w.heap.size + 1, 2, none⟩ = false := X1.out.thaw 2
  have g3 : W5.frozen? ⟨w.heap.size + 1, 3, none⟩ = false := X1.out.thaw 3
  have g4 : W5.frozen? ⟨w.heap.size + 1, 4, none⟩ = false := X1.out.thaw 4
  have g5 : W5.frozen? ⟨w.heap.size + 1, 5, none⟩ = false := X1.out.thaw 5
  have g6 : W5.frozen? ⟨w.heap.size + 1, 6, none⟩ = false := X1.out.thaw 6
  have g7 : W5.frozen? ⟨w.heap.size + 1, 7, none⟩ = false := X1.out.thaw 7
  have g8 : W5.frozen? ⟨w.heap.size + 1, 8, none⟩ = false := X1.out.thaw 8
  go_wp2
  obtain ⟨W9, e9⟩ : ∃ W9, W9 = (((((((((W5.setCell ⟨w.heap.size + 1, 0, none⟩ (.int .i64 k)).setCell ⟨w.heap.size + 1, 1, none⟩ (.int .i64 m)).setCell ⟨w.heap.size + 1, 2, none⟩ (.int .i64 d)).setCell ⟨w.heap.size + 1, 3, none⟩ (.int .i64 a)).setCell ⟨w.heap.size + 1, 4, none⟩ (.int .i64 b)).setCell ⟨w.heap.size + 1, 5, none⟩ (.int .i64 c)).setCell ⟨w.heap.size + 1, 6, none⟩ (.bool t)).setCell ⟨w.heap.size + 1, 7, none⟩ (.string s)).setCell ⟨w.heap.size + 1, 8, none⟩ (.int .i64 p)) := ⟨_, rfl⟩
  have Z9 : Blk W9 (w.heap.size + 1) #[.int .i64 k, .int .i64 m, .int .i64 d, .int .i64 a, .int .i64 b, .int .i64 c, .bool t, .string s, .int .i64 p] 44 := by rw [e9]; exact (((((((((X1.out.set 0 _).set 1 _).set 2 _).set 3 _).set 4 _).set 5 _).set 6 _).set 7 _).set 8 _)
  have B9 : Below w.heap.size w W9 := by rw [e9]; exact (below_store (below_store (below_store (below_store (below_store (below_store (below_store (below_store (below_store B5.out (b := w.heap.size + 1) (i := 0) _ (by omega)) (b := w.heap.size + 1) (i := 1) _ (by omega)) (b := w.heap.size + 1) (i := 2) _ (by omega)) (b := w.heap.size + 1) (i := 3) _ (by omega)) (b := w.heap.size + 1) (i := 4) _ (by omega)) (b := w.heap.size + 1) (i := 5) _ (by omega)) (b := w.heap.size + 1) (i := 6) _ (by omega)) (b := w.heap.size + 1) (i := 7) _ (by omega)) (b := w.heap.size + 1) (i := 8) _ (by omega))
  rw [← e9]
  clear e9
  have q0 : W9.cell? ⟨w.heap.size + 1, 0, none⟩ = some (.int .i64 k) := Z9.cell 0 rfl
  have q1 : W9.cell? ⟨w.heap.size + 1, 1, none⟩ = some (.int .i64 m) := Z9.cell 1 rfl
  have q2 : W9.cell? ⟨w.heap.size + 1, 2, none⟩ = some (.int .i64 d) := Z9.cell 2 rfl
  have q3 : W9.cell? ⟨w.heap.size + 1, 3, none⟩ = some (.int .i64 a) := Z9.cell 3 rfl
  have q4 : W9.cell? ⟨w.heap.size + 1, 4, none⟩ = some (.int .i64 b) := Z9.cell 4 rfl
  have q5 : W9.cell? ⟨w.heap.size + 1, 5, none⟩ = some (.int .i64 c) := Z9.cell 5 rfl
  have q6 : W9.cell? ⟨w.heap.size + 1, 6, none⟩ = some (.bool t) := Z9.cell 6 rfl
  have q7 : W9.cell? ⟨w.heap.size + 1, 7, none⟩ = some (.string s) := Z9.cell 7 rfl
  have q8 : W9.cell? ⟨w.heap.size + 1, 8, none⟩ = some (.int .i64 p) := Z9.cell 8 rfl
  exact bodyPost_ret (by simp [results, Tryz.results40, go_sem, q0, q1, q2, q3, q4, q5, q6, q7, q8]; first | done | rfl) rfl ⟨rfl, B9⟩
end Go.Proofs.YtdgolaaheakfoaaGreatDoor.ctr
