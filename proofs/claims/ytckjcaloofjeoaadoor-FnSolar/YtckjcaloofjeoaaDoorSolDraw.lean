/- Contracts of the model's draws for FnSolar: each call returns a date or numbers, and nothing that was there turns. -/
import Derived.Test.YtckjcaloofjeoaaDoorWeekDraw2
import Derived.Test.YtckjcaloofjeoaaDoorNumDraw
import Derived.Test.YtckjcaloofjeoaaDoorLawBase
namespace Go.Proofs.YtckjcaloofjeoaaDoor.ctr
open Go.RowKit

set_option maxHeartbeats 2000000 in
theorem drawDateOk (W : World) (a : Option Addr) (len cap : Nat) (hlen : len ≤ maxLen) (hcode : CodeAt W.heap.size W a len) :
    Calls Tryd.prog 15 #[.slice a len cap] W fun e W' => ∃ c y m d : Int, e = .returned (.agg #[.int .i64 c, .int .i64 y, .int .i64 m, .int .i64 d]) ∧ Below W.heap.size W W' := by
  have HC := hideP hcode
  clear hcode
  go_enter Tryd.func15, Tryd.ntmps15
  go_wp2_with fail
  obtain ⟨V, hV⟩ : ∃ V, V = W.alloc (.cells #[.int .i64 0, .int .i64 0, .int .i64 0, .int .i64 0] 25) := ⟨_, rfl⟩
  have BV : Hid (Below W.heap.size W V) := by unfold Hid; rw [hV]; exact (Below.refl _ _).alloc (Nat.le_refl _) _
  have ZV : Hid (Blk V W.heap.size #[.int .i64 0, .int .i64 0, .int .i64 0, .int .i64 0] 25) := by unfold Hid; rw [hV]; exact Blk.new W _ _
  rw [← hV]
  clear hV
  refine (l01New V a len cap hlen (HC.out.up BV.out)).mono ?_
  rintro e W1 ⟨B, rfl, hC1, hb1⟩
  have HK1 := hideP hC1
  have HB1 := hideP hb1
  clear hC1 hb1
  go_wp2_with fail
  refine (l02Date V.heap.size _ a len cap B hlen HK1.out).mono ?_
  rintro e W2 ⟨c, y, m, d, rfl, hC2, hG2⟩
  have HB2 : Hid (Below V.heap.size V W2) := below_grownBy HB1.out hG2 HB1.out.size HK1.out.lo
  have HZ2 : Hid (Blk W2 W.heap.size #[.int .i64 0, .int .i64 0, .int .i64 0, .int .i64 0] 25) := ZV.out.below HB2.out ZV.out.lt
  have HBW : Hid (Below W.heap.size W W2) := BV.out.trans (HB2.out.mono BV.out.size)
  clear hC2 hG2
  have z0 := HZ2.out.cell 0 rfl
  have z1 := HZ2.out.cell 1 rfl
  have z2 := HZ2.out.cell 2 rfl
  have z3 := HZ2.out.cell 3 rfl
  have f0 := HZ2.out.thaw 0
  have f1 := HZ2.out.thaw 1
  have f2 := HZ2.out.thaw 2
  have f3 := HZ2.out.thaw 3
  go_wp2_with fail
  obtain ⟨W9, e9⟩ : ∃ W9, W9 = ((((W2.setCell ⟨W.heap.size, 0, none⟩ (.int .i64 c)).setCell ⟨W.heap.size, 1, none⟩ (.int .i64 y)).setCell ⟨W.heap.size, 2, none⟩ (.int .i64 m)).setCell ⟨W.heap.size, 3, none⟩ (.int .i64 d)) := ⟨_, rfl⟩
  have Z9 : Blk W9 W.heap.size #[.int .i64 c, .int .i64 y, .int .i64 m, .int .i64 d] 25 := by rw [e9]; exact ((((HZ2.out.set 0 _).set 1 _).set 2 _).set 3 _)
  have B9 : Below W.heap.size W W9 := by rw [e9]; exact (below_store (below_store (below_store (below_store HBW.out _ (Nat.le_refl _)) _ (Nat.le_refl _)) _ (Nat.le_refl _)) _ (Nat.le_refl _))
  rw [← e9]
  clear e9
  have y0 := Z9.cell 0 rfl
  have y1 := Z9.cell 1 rfl
  have y2 := Z9.cell 2 rfl
  have y3 := Z9.cell 3 rfl
  refine bodyPost_ret (by simp [results, Tryd.results15, go_sem, y0, y1, y2, y3]; try rfl) rfl ?_
  exact ⟨_, _, _, _, rfl, B9⟩

set_option maxHeartbeats 2000000 in
theorem drawDayOf (W : World) (a : Option Addr) (len cap : Nat) (hlen : len ≤ maxLen) (hcode : CodeAt W.heap.size W a len) :
    Calls Tryd.prog 16 #[.slice a len cap] W fun e W' => ∃ c y m d : Int, e = .returned (.agg #[.int .i64 c, .int .i64 y, .int .i64 m, .int .i64 d]) ∧ Below W.heap.size W W' := by
  have HC := hideP hcode
  clear hcode
  go_enter Tryd.func16, Tryd.ntmps16
  go_wp2_with fail
  obtain ⟨V, hV⟩ : ∃ V, V = W.alloc (.cells #[.int .i64 0, .int .i64 0, .int .i64 0, .int .i64 0] 25) := ⟨_, rfl⟩
  have BV : Hid (Below W.heap.size W V) := by unfold Hid; rw [hV]; exact (Below.refl _ _).alloc (Nat.le_refl _) _
  have ZV : Hid (Blk V W.heap.size #[.int .i64 0, .int .i64 0, .int .i64 0, .int .i64 0] 25) := by unfold Hid; rw [hV]; exact Blk.new W _ _
  rw [← hV]
  clear hV
  refine (l01New V a len cap hlen (HC.out.up BV.out)).mono ?_
  rintro e W1 ⟨B, rfl, hC1, hb1⟩
  have HK1 := hideP hC1
  have HB1 := hideP hb1
  clear hC1 hb1
  go_wp2_with fail
  refine (l02Date V.heap.size _ a len cap B hlen HK1.out).mono ?_
  rintro e W2 ⟨c, y, m, d, rfl, hC2, hG2⟩
  have HB2 : Hid (Below V.heap.size V W2) := below_grownBy HB1.out hG2 HB1.out.size HK1.out.lo
  have HZ2 : Hid (Blk W2 W.heap.size #[.int .i64 0, .int .i64 0, .int .i64 0, .int .i64 0] 25) := ZV.out.below HB2.out ZV.out.lt
  have HBW : Hid (Below W.heap.size W W2) := BV.out.trans (HB2.out.mono BV.out.size)
  clear hC2 hG2
  have z0 := HZ2.out.cell 0 rfl
  have z1 := HZ2.out.cell 1 rfl
  have z2 := HZ2.out.cell 2 rfl
  have z3 := HZ2.out.cell 3 rfl
  have f0 := HZ2.out.thaw 0
  have f1 := HZ2.out.thaw 1
  have f2 := HZ2.out.thaw 2
  have f3 := HZ2.out.thaw 3
  go_wp2_with fail
  obtain ⟨W9, e9⟩ : ∃ W9, W9 = ((((W2.setCell ⟨W.heap.size, 0, none⟩ (.int .i64 c)).setCell ⟨W.heap.size, 1, none⟩ (.int .i64 y)).setCell ⟨W.heap.size, 2, none⟩ (.int .i64 m)).setCell ⟨W.heap.size, 3, none⟩ (.int .i64 d)) := ⟨_, rfl⟩
  have Z9 : Blk W9 W.heap.size #[.int .i64 c, .int .i64 y, .int .i64 m, .int .i64 d] 25 := by rw [e9]; exact ((((HZ2.out.set 0 _).set 1 _).set 2 _).set 3 _)
  have B9 : Below W.heap.size W W9 := by rw [e9]; exact (below_store (below_store (below_store (below_store HBW.out _ (Nat.le_refl _)) _ (Nat.le_refl _)) _ (Nat.le_refl _)) _ (Nat.le_refl _))
  rw [← e9]
  clear e9
  have y0 := Z9.cell 0 rfl
  have y1 := Z9.cell 1 rfl
  have y2 := Z9.cell 2 rfl
  have y3 := Z9.cell 3 rfl
  refine bodyPost_ret (by simp [results, Tryd.results16, go_sem, y0, y1, y2, y3]; try rfl) rfl ?_
  exact ⟨_, _, _, _, rfl, B9⟩

set_option maxHeartbeats 2000000 in
theorem drawDayInYear (W : World) (a : Option Addr) (len cap : Nat) (hlen : len ≤ maxLen) (hcode : CodeAt W.heap.size W a len) :
    Calls Tryd.prog 23 #[.slice a len cap] W fun e W' => ∃ c y m d : Int, e = .returned (.agg #[.int .i64 c, .int .i64 y, .int .i64 m, .int .i64 d]) ∧ Below W.heap.size W W' := by
  have HC := hideP hcode
  clear hcode
  go_enter Tryd.func23, Tryd.ntmps23
  go_wp2_with fail
  obtain ⟨V, hV⟩ : ∃ V, V = W.alloc (.cells #[.int .i64 0, .int .i64 0, .int .i64 0, .int .i64 0] 25) := ⟨_, rfl⟩
  have BV : Hid (Below W.heap.size W V) := by unfold Hid; rw [hV]; exact (Below.refl _ _).alloc (Nat.le_refl _) _
  have ZV : Hid (Blk V W.heap.size #[.int .i64 0, .int .i64 0, .int .i64 0, .int .i64 0] 25) := by unfold Hid; rw [hV]; exact Blk.new W _ _
  rw [← hV]
  clear hV
  refine (l01New V a len cap hlen (HC.out.up BV.out)).mono ?_
  rintro e W1 ⟨B, rfl, hC1, hb1⟩
  have HK1 := hideP hC1
  have HB1 := hideP hb1
  clear hC1 hb1
  go_wp2_with fail
  refine (l02Date V.heap.size _ a len cap B hlen HK1.out).mono ?_
  rintro e W2 ⟨c, y, m, d, rfl, hC2, hG2⟩
  have HB2 : Hid (Below V.heap.size V W2) := below_grownBy HB1.out hG2 HB1.out.size HK1.out.lo
  have HZ2 : Hid (Blk W2 W.heap.size #[.int .i64 0, .int .i64 0, .int .i64 0, .int .i64 0] 25) := ZV.out.below HB2.out ZV.out.lt
  have HBW : Hid (Below W.heap.size W W2) := BV.out.trans (HB2.out.mono BV.out.size)
  clear hC2 hG2
  have z0 := HZ2.out.cell 0 rfl
  have z1 := HZ2.out.cell 1 rfl
  have z2 := HZ2.out.cell 2 rfl
  have z3 := HZ2.out.cell 3 rfl
  have f0 := HZ2.out.thaw 0
  have f1 := HZ2.out.thaw 1
  have f2 := HZ2.out.thaw 2
  have f3 := HZ2.out.thaw 3
  go_wp2_with fail
  obtain ⟨W9, e9⟩ : ∃ W9, W9 = ((((W2.setCell ⟨W.heap.size, 0, none⟩ (.int .i64 c)).setCell ⟨W.heap.size, 1, none⟩ (.int .i64 y)).setCell ⟨W.heap.size, 2, none⟩ (.int .i64 m)).setCell ⟨W.heap.size, 3, none⟩ (.int .i64 d)) := ⟨_, rfl⟩
  have Z9 : Blk W9 W.heap.size #[.int .i64 c, .int .i64 y, .int .i64 m, .int .i64 d] 25 := by rw [e9]; exact ((((HZ2.out.set 0 _).set 1 _).set 2 _).set 3 _)
  have B9 : Below W.heap.size W W9 := by rw [e9]; exact (below_store (below_store (below_store (below_store HBW.out _ (Nat.le_refl _)) _ (Nat.le_refl _)) _ (Nat.le_refl _)) _ (Nat.le_refl _))
  rw [← e9]
  clear e9
  have y0 := Z9.cell 0 rfl
  have y1 := Z9.cell 1 rfl
  have y2 := Z9.cell 2 rfl
  have y3 := Z9.cell 3 rfl
  refine bodyPost_ret (by simp [results, Tryd.results23, go_sem, y0, y1, y2, y3]; try rfl) rfl ?_
  exact ⟨_, _, _, _, rfl, B9⟩

def calsOf : List Int := [0, 1, 0, 1, 0, 1, 2, -1]
set_option maxHeartbeats 2000000 in
theorem drawDateOf (W : World) (a : Option Addr) (len cap : Nat) (hlen : len ≤ maxLen) (hcode : CodeAt W.heap.size W a len) :
    Calls Tryd.prog 18 #[.slice a len cap] W fun e W' => ∃ c n : Int, e = .returned (.tuple #[.int .i64 c, .int .i64 n]) ∧ I64 n ∧ Below W.heap.size W W' := by
  have HC := hideP hcode
  clear hcode
  go_enter Tryd.func18, Tryd.ntmps18
  go_wp2_with fail
  refine (l01New W a len cap hlen HC.out).mono ?_
  rintro e W1 ⟨B, rfl, hC1, hb1⟩
  have HK1 := hideP hC1
  have HB1 := hideP hb1
  clear hC1 hb1
  go_wp2_with fail
  refine (l01PickInt _ _ a len cap B W1.heap.size 8 8 (fun j => calsOf.getD j 0) hlen (by omega) (by omega) (by rw [size_new]; omega) (Nat.ne_of_gt HK1.out.hi) (fun j hj => alloc_ints W1 calsOf _ j hj) (HK1.out.alloc _)).mono ?_
  rintro e W2 ⟨j, hj, rfl, hC2, hG2⟩
  have HK2 := hideP hC2
  have HB2 : Hid (Below W.heap.size W W2) := below_grownBy (HB1.out.alloc HB1.out.size _) hG2 (by rw [size_new]; have := HB1.out.size; omega) HK1.out.lo
  clear hC2 hG2
  generalize calsOf.getD j 0 = c at *
  go_wp2_with fail
  refine (l02Some _ _ a len cap B hlen HK2.out).mono ?_
  rintro e W3 ⟨z, rfl, hz, hC3, hG3⟩
  have HB3 : Hid (Below W.heap.size W W3) := below_grownBy HB2.out hG3 HB2.out.size HK2.out.lo
  clear hC3 hG3
  go_wp2
  go_ret2
  exact ⟨c, z, rfl, hz, HB3.out⟩
set_option maxHeartbeats 2000000 in
theorem drawLeap (W : World) (a : Option Addr) (len cap : Nat) (hlen : len ≤ maxLen) (hcode : CodeAt W.heap.size W a len) :
    Calls Tryd.prog 21 #[.slice a len cap] W fun e W' => ∃ c n : Int, e = .returned (.tuple #[.int .i64 c, .int .i64 n]) ∧ Below W.heap.size W W' := by
  have HC := hideP hcode
  clear hcode
  go_enter Tryd.func21, Tryd.ntmps21
  go_wp2_with fail
  refine (l01New W a len cap hlen HC.out).mono ?_
  rintro e W1 ⟨B, rfl, hC1, hb1⟩
  have HK1 := hideP hC1
  have HB1 := hideP hb1
  clear hC1 hb1
  go_wp2_with fail
  refine (l01Below _ _ a len cap B 4 hlen (by omega) HK1.out).mono ?_
  rintro e W2 ⟨x, rfl, x0, x1, hC2, hG2⟩
  have HK2 := hideP hC2
  have HB2 : Hid (Below W.heap.size W W2) := below_grownBy HB1.out hG2 HB1.out.size HK1.out.lo
  clear hC2 hG2
  go_wp2_with fail
  refine (l01Once _ _ a len cap B 6 hlen (by omega) HK2.out).mono ?_
  rintro e W3 ⟨u, rfl, hC3, hG3⟩
  have HK3 := hideP hC3
  have HB3 : Hid (Below W.heap.size W W3) := below_grownBy HB2.out hG3 HB2.out.size HK2.out.lo
  clear hC3 hG3
  cases u
  · go_wp2_with fail
    refine (l02AnyYear _ _ a len cap B hlen HK3.out).mono ?_
    rintro e W4 ⟨y, rfl, hC4, hG4⟩
    have HB4 : Hid (Below W.heap.size W W4) := below_grownBy HB3.out hG4 HB3.out.size HK3.out.lo
    clear hC4 hG4
    go_wp2
    go_ret2
    exact ⟨_, _, rfl, HB4.out⟩
  · go_wp2_with fail
    refine (l01Raw _ _ a len cap B hlen HK3.out).mono ?_
    rintro e W4 ⟨y, rfl, _, hC4, hG4⟩
    have HB4 : Hid (Below W.heap.size W W4) := below_grownBy HB3.out hG4 HB3.out.size HK3.out.lo
    clear hC4 hG4
    go_wp2
    go_ret2
    exact ⟨_, _, rfl, HB4.out⟩
set_option maxHeartbeats 2000000 in
theorem drawMonthDays (W : World) (a : Option Addr) (len cap : Nat) (hlen : len ≤ maxLen) (hcode : CodeAt W.heap.size W a len) :
    Calls Tryd.prog 22 #[.slice a len cap] W fun e W' => ∃ c y m : Int, e = .returned (.tuple #[.int .i64 c, .int .i64 y, .int .i64 m]) ∧ Below W.heap.size W W' := by
  have HC := hideP hcode
  clear hcode
  go_enter Tryd.func22, Tryd.ntmps22
  go_wp2_with fail
  refine (l01New W a len cap hlen HC.out).mono ?_
  rintro e W1 ⟨B, rfl, hC1, hb1⟩
  have HK1 := hideP hC1
  have HB1 := hideP hb1
  clear hC1 hb1
  go_wp2_with fail
  refine (l02Date _ _ a len cap B hlen HK1.out).mono ?_
  rintro e W2 ⟨c, y, m, d, rfl, hC2, hG2⟩
  have HB2 : Hid (Below W.heap.size W W2) := below_grownBy HB1.out hG2 HB1.out.size HK1.out.lo
  clear hC2 hG2
  go_wp2_with fail
  obtain ⟨W0, hW0⟩ : ∃ W0, W0 = W2.alloc (.cells #[.int .i64 c, .int .i64 y, .int .i64 m, .int .i64 d] 25) := ⟨_, rfl⟩
  have c0 : ∀ x : Later W0, x.w.cell? ⟨W2.heap.size, 0, none⟩ = some (.int .i64 c) := Later.new hW0 0 rfl
  have c1 : ∀ x : Later W0, x.w.cell? ⟨W2.heap.size, 1, none⟩ = some (.int .i64 y) := Later.new hW0 1 rfl
  have c2 : ∀ x : Later W0, x.w.cell? ⟨W2.heap.size, 2, none⟩ = some (.int .i64 m) := Later.new hW0 2 rfl
  have HB0 : Hid (Below W.heap.size W W0) := by unfold Hid; rw [hW0]; exact HB2.out.alloc HB2.out.size _
  rw [← hW0]
  clear hW0
  refine wp_region_later (W := W0) (Below.refl _ _) (by kernel_rfl) (by kernel_rfl) ?_
  repeat (go_big_quiet_step (fail))
  refine wpQuiet_nil ?_
  intro _ hw'
  obtain ⟨x, rfl⟩ := hw'
  go_wp2
  go_ret3
  exact ⟨_, _, _, rfl, HB0.out.trans (x.below.mono HB0.out.size)⟩
end Go.Proofs.YtckjcaloofjeoaaDoor.ctr
