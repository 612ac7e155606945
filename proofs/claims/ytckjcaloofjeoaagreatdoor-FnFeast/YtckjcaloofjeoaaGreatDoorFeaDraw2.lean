/- Contracts of the model's draws for FnFeast: each call returns a feast, numbers or a text, and nothing that was there turns. -/
import Derived.Test.YtckjcaloofjeoaaGreatDoorFeaDraw
import Derived.Test.YtckjcaloofjeoaaGreatDoorEasDraw
import Derived.Test.YtckjcaloofjeoaaGreatDoorBentDraw
import Derived.Test.YtckjcaloofjeoaaGreatDoorLawBase
namespace Go.Proofs.YtckjcaloofjeoaaGreatDoor.ctr
open Go.RowKit

set_option maxRecDepth 100000 in
set_option maxHeartbeats 2000000 in
theorem drawFeastOk (W : World) (a : Option Addr) (len cap : Nat) (hlen : len ≤ maxLen) (hcode : CodeAt W.heap.size W a len) :
    Calls Tryz.prog 5 #[.slice a len cap] W fun e W' => ∃ (s : ByteArray) (mv : Bool) (o m d : Int), e = .returned (.agg #[.string s, .bool mv, .int .i64 o, .int .i64 m, .int .i64 d]) ∧ s.size ≤ 16 ∧ Below W.heap.size W W' := by
  have HC := hideP hcode
  clear hcode
  go_enter Tryz.func5, Tryz.ntmps5
  go_wp2_with fail
  obtain ⟨V, hV⟩ : ∃ V, V = W.alloc (.cells #[.string ⟨#[]⟩, .bool false, .int .i64 0, .int .i64 0, .int .i64 0] 25) := ⟨_, rfl⟩
  have BV : Hid (Below W.heap.size W V) := by unfold Hid; rw [hV]; exact (Below.refl _ _).alloc (Nat.le_refl _) _
  have ZV : Hid (Blk V W.heap.size #[.string ⟨#[]⟩, .bool false, .int .i64 0, .int .i64 0, .int .i64 0] 25) := by unfold Hid; rw [hV]; exact Blk.new W _ _
  rw [← hV]
  clear hV
  refine (l01New V a len cap hlen (HC.out.up BV.out)).mono ?_
  rintro e W1 ⟨B, rfl, hC1, hb1⟩
  have HK1 := hideP hC1
  have HB1 := hideP hb1
  clear hC1 hb1
  go_wp2_with fail
  refine (l04Feast V.heap.size _ a len cap B hlen HK1.out).mono ?_
  rintro e W2 ⟨s, mv, o, m, d, rfl, hsz, hC2, hG2⟩
  have HB2 : Hid (Below V.heap.size V W2) := below_grownBy HB1.out hG2 HB1.out.size HK1.out.lo
  have HZ2 : Hid (Blk W2 W.heap.size #[.string ⟨#[]⟩, .bool false, .int .i64 0, .int .i64 0, .int .i64 0] 25) := ZV.out.below HB2.out ZV.out.lt
  have HBW : Hid (Below W.heap.size W W2) := BV.out.trans (HB2.out.mono BV.out.size)
  clear hC2 hG2
  have z0 := HZ2.out.cell 0 rfl
  have z1 := HZ2.out.cell 1 rfl
  have z2 := HZ2.out.cell 2 rfl
  have z3 := HZ2.out.cell 3 rfl
  have z4 := HZ2.out.cell 4 rfl
  have f0 := HZ2.out.thaw 0
  have f1 := HZ2.out.thaw 1
  have f2 := HZ2.out.thaw 2
  have f3 := HZ2.out.thaw 3
  have f4 := HZ2.out.thaw 4
  go_wp2_with fail
  obtain ⟨W9, e9⟩ : ∃ W9, W9 = (((((W2.setCell ⟨W.heap.size, 0, none⟩ (.string s)).setCell ⟨W.heap.size, 1, none⟩ (.bool mv)).setCell ⟨W.heap.size, 2, none⟩ (.int .i64 o)).setCell ⟨W.heap.size, 3, none⟩ (.int .i64 m)).setCell ⟨W.heap.size, 4, none⟩ (.int .i64 d)) := ⟨_, rfl⟩
  have Z9 : Blk W9 W.heap.size #[.string s, .bool mv, .int .i64 o, .int .i64 m, .int .i64 d] 25 := by rw [e9]; exact (((((HZ2.out.set 0 _).set 1 _).set 2 _).set 3 _).set 4 _)
  have B9 : Below W.heap.size W W9 := by rw [e9]; exact (below_store (below_store (below_store (below_store (below_store HBW.out _ (Nat.le_refl _)) _ (Nat.le_refl _)) _ (Nat.le_refl _)) _ (Nat.le_refl _)) _ (Nat.le_refl _))
  rw [← e9]
  clear e9
  have y0 := Z9.cell 0 rfl
  have y1 := Z9.cell 1 rfl
  have y2 := Z9.cell 2 rfl
  have y3 := Z9.cell 3 rfl
  have y4 := Z9.cell 4 rfl
  refine bodyPost_ret (by simp [results, Tryz.results5, go_sem, y0, y1, y2, y3, y4]; try rfl) rfl ?_
  exact ⟨_, _, _, _, _, rfl, hsz, B9⟩

set_option maxRecDepth 100000 in
set_option maxHeartbeats 2000000 in
theorem drawFeastDay (W : World) (a : Option Addr) (len cap : Nat) (hlen : len ≤ maxLen) (hcode : CodeAt W.heap.size W a len) :
    Calls Tryz.prog 6 #[.slice a len cap] W fun e W' => ∃ (c y : Int) (s : ByteArray) (mv : Bool) (o m d : Int), e = .returned (.tuple #[.int .i64 c, .int .i64 y, .agg #[.string s, .bool mv, .int .i64 o, .int .i64 m, .int .i64 d]]) ∧ s.size ≤ 16 ∧ Below W.heap.size W W' := by
  have HC := hideP hcode
  clear hcode
  go_enter Tryz.func6, Tryz.ntmps6
  go_wp2_with fail
  obtain ⟨V, hV⟩ : ∃ V, V = W.alloc (.cells #[.string ⟨#[]⟩, .bool false, .int .i64 0, .int .i64 0, .int .i64 0] 25) := ⟨_, rfl⟩
  have BV : Hid (Below W.heap.size W V) := by unfold Hid; rw [hV]; exact (Below.refl _ _).alloc (Nat.le_refl _) _
  have ZV : Hid (Blk V W.heap.size #[.string ⟨#[]⟩, .bool false, .int .i64 0, .int .i64 0, .int .i64 0] 25) := by unfold Hid; rw [hV]; exact Blk.new W _ _
  rw [← hV]
  clear hV
  refine (l03Two V a len cap hlen (HC.out.up BV.out)).mono ?_
  rintro e W0 ⟨c, y, rfl, hb0⟩
  have HB0 := hideP hb0
  have BW0 : Hid (Below W.heap.size W W0) := BV.out.trans (hb0.mono BV.out.size)
  clear hb0
  go_wp2_with fail
  refine (l01New W0 a len cap hlen (HC.out.up BW0.out)).mono ?_
  rintro e W1 ⟨B, rfl, hC1, hb1⟩
  have HK1 := hideP hC1
  have HB1 := hideP hb1
  clear hC1 hb1
  go_wp2_with fail
  refine (l04Feast W0.heap.size _ a len cap B hlen HK1.out).mono ?_
  rintro e W2 ⟨s, mv, o, m, d, rfl, hsz, hC2, hG2⟩
  have HB2 : Hid (Below W0.heap.size W0 W2) := below_grownBy HB1.out hG2 HB1.out.size HK1.out.lo
  have HZ2 : Hid (Blk W2 W.heap.size #[.string ⟨#[]⟩, .bool false, .int .i64 0, .int .i64 0, .int .i64 0] 25) := (ZV.out.below HB0.out ZV.out.lt).below HB2.out (Nat.lt_of_lt_of_le ZV.out.lt HB0.out.size)
  have HBW : Hid (Below W.heap.size W W2) := BW0.out.trans (HB2.out.mono BW0.out.size)
  clear hC2 hG2
  have z0 := HZ2.out.cell 0 rfl
  have z1 := HZ2.out.cell 1 rfl
  have z2 := HZ2.out.cell 2 rfl
  have z3 := HZ2.out.cell 3 rfl
  have z4 := HZ2.out.cell 4 rfl
  have f0 := HZ2.out.thaw 0
  have f1 := HZ2.out.thaw 1
  have f2 := HZ2.out.thaw 2
  have f3 := HZ2.out.thaw 3
  have f4 := HZ2.out.thaw 4
  go_wp2_with fail
  obtain ⟨W9, e9⟩ : ∃ W9, W9 = (((((W2.setCell ⟨W.heap.size, 0, none⟩ (.string s)).setCell ⟨W.heap.size, 1, none⟩ (.bool mv)).setCell ⟨W.heap.size, 2, none⟩ (.int .i64 o)).setCell ⟨W.heap.size, 3, none⟩ (.int .i64 m)).setCell ⟨W.heap.size, 4, none⟩ (.int .i64 d)) := ⟨_, rfl⟩
  have Z9 : Blk W9 W.heap.size #[.string s, .bool mv, .int .i64 o, .int .i64 m, .int .i64 d] 25 := by rw [e9]; exact (((((HZ2.out.set 0 _).set 1 _).set 2 _).set 3 _).set 4 _)
  have B9 : Below W.heap.size W W9 := by rw [e9]; exact (below_store (below_store (below_store (below_store (below_store HBW.out _ (Nat.le_refl _)) _ (Nat.le_refl _)) _ (Nat.le_refl _)) _ (Nat.le_refl _)) _ (Nat.le_refl _))
  rw [← e9]
  clear e9
  have y0 := Z9.cell 0 rfl
  have y1 := Z9.cell 1 rfl
  have y2 := Z9.cell 2 rfl
  have y3 := Z9.cell 3 rfl
  have y4 := Z9.cell 4 rfl
  refine bodyPost_ret (by simp [results, Tryz.results6, go_sem, y0, y1, y2, y3, y4]; try rfl) rfl ?_
  exact ⟨_, _, _, _, _, _, _, rfl, hsz, B9⟩

set_option maxHeartbeats 2000000 in
theorem drawFeastsOn (W : World) (a : Option Addr) (len cap : Nat) (hlen : len ≤ maxLen) (hcode : CodeAt W.heap.size W a len) :
    Calls Tryz.prog 8 #[.slice a len cap] W fun e W' => ∃ c n : Int, e = .returned (.tuple #[.int .i64 c, .int .i64 n]) ∧ Below W.heap.size W W' := by
  have HC := hideP hcode
  clear hcode
  go_enter Tryz.func8, Tryz.ntmps8
  go_wp2_with fail
  refine (l01New W a len cap hlen HC.out).mono ?_
  rintro e W1 ⟨B, rfl, hC1, hb1⟩
  have HK1 := hideP hC1
  have HB1 := hideP hb1
  clear hC1 hb1
  go_wp2_with fail
  refine (l03Two W1 a len cap hlen (HC.out.up HB1.out)).mono ?_
  rintro e W2 ⟨c, y, rfl, hb2⟩
  have HK2 := hideP (HK1.out.below hb2)
  have HB2 : Hid (Below W.heap.size W W2) := HB1.out.trans (hb2.mono HB1.out.size)
  clear hb2
  go_wp2_with fail
  refine (l04Feast _ _ a len cap B hlen HK2.out).mono ?_
  rintro e W3 ⟨s, mv, o, m, d, rfl, hsz, hC3, hG3⟩
  have HK3 := hideP hC3
  have HB3 : Hid (Below W.heap.size W W3) := below_grownBy HB2.out hG3 HB2.out.size HK2.out.lo
  clear hC3 hG3
  have KF := specFeaDay c y s mv o m d W3 (by unfold maxLen; omega)
  generalize feaDay c y s mv o m d = day at *
  go_wp2_with fail
  refine KF.mono ?_
  rintro e W4 ⟨rfl, hb4⟩
  have HK4 := hideP (HK3.out.below hb4)
  have HB4 : Hid (Below W.heap.size W W4) := HB3.out.trans (hb4.mono HB3.out.size)
  clear hb4
  go_wp2_with fail
  refine (l01Once _ _ a len cap B 6 hlen (by omega) HK4.out).mono ?_
  rintro e W5 ⟨u, rfl, hC5, hG5⟩
  have HK5 := hideP hC5
  have HB5 : Hid (Below W.heap.size W W5) := below_grownBy HB4.out hG5 HB4.out.size HK4.out.lo
  clear hC5 hG5
  cases u
  · go_wp2
    go_ret2
    exact ⟨_, _, rfl, HB5.out⟩
  · go_wp2_with fail
    refine (l02Some _ _ a len cap B hlen HK5.out).mono ?_
    rintro e W6 ⟨z, rfl, hz, hC6, hG6⟩
    have HB6 : Hid (Below W.heap.size W W6) := below_grownBy HB5.out hG6 HB5.out.size HK5.out.lo
    clear hC6 hG6 hz
    go_wp2
    go_ret2
    exact ⟨_, _, rfl, HB6.out⟩

set_option maxHeartbeats 2000000 in
theorem drawFindFeast (W : World) (a : Option Addr) (len cap : Nat) (hlen : len ≤ maxLen) (hcode : CodeAt W.heap.size W a len) :
    Calls Tryz.prog 10 #[.slice a len cap] W fun e W' => ∃ s : ByteArray, e = .returned (.string s) ∧ s.size ≤ 100 ∧ Below W.heap.size W W' := by
  have HC := hideP hcode
  clear hcode
  go_enter Tryz.func10, Tryz.ntmps10
  go_wp2_with fail
  refine (l01New W a len cap hlen HC.out).mono ?_
  rintro e W1 ⟨B, rfl, hC1, hb1⟩
  have HK1 := hideP hC1
  have HB1 := hideP hb1
  clear hC1 hb1
  go_wp2_with fail
  refine (l04Name _ _ a len cap B hlen HK1.out).mono ?_
  rintro e W2 ⟨s, rfl, hsz, hC2, hG2⟩
  have HK2 := hideP hC2
  have HB2 : Hid (Below W.heap.size W W2) := below_grownBy HB1.out hG2 HB1.out.size HK1.out.lo
  clear hC2 hG2
  go_wp2_with fail
  refine (l01Bent _ _ a len cap B s hlen (by omega) HK2.out).mono ?_
  rintro e W3 ⟨q, rfl, hq, hC3, hG3⟩
  have HB3 : Hid (Below W.heap.size W W3) := below_grownBy HB2.out hG3 HB2.out.size HK2.out.lo
  clear hC3 hG3
  go_wp2
  go_ret
  exact ⟨q, rfl, by omega, HB3.out⟩

set_option maxHeartbeats 2000000 in
theorem drawFeastText (W : World) (a : Option Addr) (len cap : Nat) (hlen : len ≤ maxLen) (hcode : CodeAt W.heap.size W a len) :
    Calls Tryz.prog 11 #[.slice a len cap] W fun e W' => ∃ (c n : Int) (mv : Bool), e = .returned (.tuple #[.int .i64 c, .int .i64 n, .bool mv]) ∧ Below W.heap.size W W' := by
  have HC := hideP hcode
  clear hcode
  go_enter Tryz.func11, Tryz.ntmps11
  go_wp2_with fail
  refine (l01New W a len cap hlen HC.out).mono ?_
  rintro e W1 ⟨B, rfl, hC1, hb1⟩
  have HK1 := hideP hC1
  have HB1 := hideP hb1
  clear hC1 hb1
  go_wp2_with fail
  refine (l01Below _ _ a len cap B 2 hlen (by omega) HK1.out).mono ?_
  rintro e W2 ⟨x, rfl, x0, x1, hC2, hG2⟩
  have HK2 := hideP hC2
  have HB2 : Hid (Below W.heap.size W W2) := below_grownBy HB1.out hG2 HB1.out.size HK1.out.lo
  clear hC2 hG2
  go_wp2_with fail
  refine (l02Some _ _ a len cap B hlen HK2.out).mono ?_
  rintro e W3 ⟨z, rfl, hz, hC3, hG3⟩
  have HK3 := hideP hC3
  have HB3 : Hid (Below W.heap.size W W3) := below_grownBy HB2.out hG3 HB2.out.size HK2.out.lo
  clear hC3 hG3 hz
  go_wp2_with fail
  refine (l01Once _ _ a len cap B 2 hlen (by omega) HK3.out).mono ?_
  rintro e W4 ⟨u, rfl, hC4, hG4⟩
  have HB4 : Hid (Below W.heap.size W W4) := below_grownBy HB3.out hG4 HB3.out.size HK3.out.lo
  clear hC4 hG4
  go_wp2
  go_ret3
  exact ⟨_, _, _, rfl, HB4.out⟩

def saidTexts : List ByteArray := [⟨#[49]⟩, ⟨#[51]⟩, ⟨#[57, 57]⟩, ⟨#[49, 48, 48]⟩, ⟨#[48]⟩, ⟨#[48, 55]⟩, ⟨#[120]⟩, ⟨#[]⟩]
theorem saidTexts_len : ∀ j : Fin 8, (saidTexts.getD j.val ⟨#[]⟩).size ≤ 3 := by decide
set_option maxHeartbeats 2000000 in
theorem l04Said (n0 : Nat) (W : World) (a : Option Addr) (len cap B : Nat) (hlen : len ≤ maxLen) (hC : Cur n0 W a len cap B) :
    Calls Tryz.prog 42 #[.pointer (some ⟨B, 0, none⟩)] W fun e W' => ∃ s : ByteArray, e = .returned (.string s) ∧ s.size ≤ 100 ∧ Cur n0 W' a len cap B ∧ W.grownBy W' (some B) := by
  have HK := hideP hC
  clear hC
  go_enter Tryz.func42, Tryz.ntmps42
  go_wp2_with fail
  refine (l04Name _ _ a len cap B hlen HK.out).mono ?_
  rintro e W1 ⟨s, rfl, hsz, hC1, hG1⟩
  have HK1 := hideP hC1
  have HG1 := hideP hG1
  clear hC1 hG1
  go_wp2_with fail
  refine (l01Once _ _ a len cap B 2 hlen (by omega) HK1.out).mono ?_
  rintro e W2 ⟨u, rfl, hC2, hG2⟩
  have HK2 := hideP hC2
  have HG2 := hideP (grown_trans HG1.out hG2)
  clear hC2 hG2
  cases u
  · go_wp2_with fail
    refine (l01Bent _ _ a len cap B s hlen (by omega) HK2.out).mono ?_
    rintro e W3 ⟨q, rfl, hq, hC3, hG3⟩
    have HK3 := hideP hC3
    have HG3 := hideP (grown_trans HG2.out hG3)
    clear hC3 hG3
    go_wp2
    go_ret
    exact ⟨q, rfl, by omega, HK3.out, HG3.out⟩
  · have hsz2 : (s ++ (⟨#[43]⟩ : ByteArray)).size ≤ 17 := by rw [ByteArray.size_append]; show s.size + 1 ≤ 17; omega
    go_wp2_with fail
    refine (l01Pick n0 _ a len cap B W2.heap.size 8 8 (fun j => saidTexts.getD j ⟨#[]⟩) hlen (by omega) (by omega) (by rw [size_new]; omega) (Nat.ne_of_gt HK2.out.hi) (fun j hj => alloc_strs W2 saidTexts _ j hj) (HK2.out.alloc _)).mono ?_
    rintro e W3 ⟨j, hj, rfl, hC3, hG3⟩
    have hr := saidTexts_len ⟨j, hj⟩
    dsimp only at hr
    have HK3 := hideP hC3
    have HG3 := hideP (grown_trans (grown_alloc HG2.out _) hG3)
    clear hC3 hG3
    generalize saidTexts.getD j ⟨#[]⟩ = r at *
    have hsz3 : (s ++ (⟨#[43]⟩ : ByteArray) ++ r).size ≤ 20 := by rw [ByteArray.size_append]; omega
    go_wp2_with fail
    refine (l01Bent _ _ a len cap B (s ++ (⟨#[43]⟩ : ByteArray) ++ r) hlen (by omega) HK3.out).mono ?_
    rintro e W4 ⟨q, rfl, hq, hC4, hG4⟩
    have HK4 := hideP hC4
    have HG4 := hideP (grown_trans HG3.out hG4)
    clear hC4 hG4
    go_wp2
    go_ret
    exact ⟨q, rfl, by omega, HK4.out, HG4.out⟩

set_option maxHeartbeats 2000000 in
theorem drawReadFeast (W : World) (a : Option Addr) (len cap : Nat) (hlen : len ≤ maxLen) (hcode : CodeAt W.heap.size W a len) :
    Calls Tryz.prog 13 #[.slice a len cap] W fun e W' => ∃ s : ByteArray, e = .returned (.string s) ∧ s.size ≤ 100 ∧ Below W.heap.size W W' := by
  have HC := hideP hcode
  clear hcode
  go_enter Tryz.func13, Tryz.ntmps13
  go_wp2_with fail
  refine (l01New W a len cap hlen HC.out).mono ?_
  rintro e W1 ⟨B, rfl, hC1, hb1⟩
  have HK1 := hideP hC1
  have HB1 := hideP hb1
  clear hC1 hb1
  go_wp2_with fail
  refine (l04Said _ _ a len cap B hlen HK1.out).mono ?_
  rintro e W2 ⟨s, rfl, hsz, hC2, hG2⟩
  have HB2 : Hid (Below W.heap.size W W2) := below_grownBy HB1.out hG2 HB1.out.size HK1.out.lo
  clear hC2 hG2
  go_wp2
  go_ret
  exact ⟨s, rfl, hsz, HB2.out⟩

set_option maxHeartbeats 2000000 in
theorem drawFeastPlus (W : World) (a : Option Addr) (len cap : Nat) (hlen : len ≤ maxLen) (hcode : CodeAt W.heap.size W a len) :
    Calls Tryz.prog 16 #[.slice a len cap] W fun e W' => ∃ (c y : Int) (s : ByteArray), e = .returned (.tuple #[.int .i64 c, .int .i64 y, .string s]) ∧ s.size ≤ 100 ∧ Below W.heap.size W W' := by
  have HC := hideP hcode
  clear hcode
  go_enter Tryz.func16, Tryz.ntmps16
  go_wp2_with fail
  refine (l03Two W a len cap hlen HC.out).mono ?_
  rintro e W0 ⟨c, y, rfl, hb0⟩
  have HB0 := hideP hb0
  clear hb0
  go_wp2_with fail
  refine (l01New W0 a len cap hlen (HC.out.up HB0.out)).mono ?_
  rintro e W1 ⟨B, rfl, hC1, hb1⟩
  have HK1 := hideP hC1
  have HB1 := hideP hb1
  clear hC1 hb1
  go_wp2_with fail
  refine (l04Said _ _ a len cap B hlen HK1.out).mono ?_
  rintro e W2 ⟨s, rfl, hsz, hC2, hG2⟩
  have HB2 : Hid (Below W0.heap.size W0 W2) := below_grownBy HB1.out hG2 HB1.out.size HK1.out.lo
  have HBW : Hid (Below W.heap.size W W2) := HB0.out.trans (HB2.out.mono HB0.out.size)
  clear hC2 hG2
  go_wp2
  go_ret3
  exact ⟨_, _, _, rfl, hsz, HBW.out⟩
end Go.Proofs.YtckjcaloofjeoaaGreatDoor.ctr
