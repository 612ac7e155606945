/- Contracts of the model's draws for FnEaster: l03Two and the eight draws upon it: each call returns numbers, and nothing that was there turns. -/
import Derived.Test.YtckjcaloofjeoaaDoorWeekDraw
namespace Go.Proofs.YtckjcaloofjeoaaDoor.ctr
open Go.RowKit

def calsIn : List Int := [0, 1, 0, 1, 0, 1, 0, 1, 2, -1]
def oddYears : List Int := [0, 3001, -5, 9223372036854775807]
set_option maxHeartbeats 1000000 in
theorem l03Two (W : World) (a : Option Addr) (len cap : Nat) (hlen : len ≤ maxLen) (hcode : CodeAt W.heap.size W a len) :
    Calls Tryd.prog 96 #[.slice a len cap] W fun e W' => ∃ x y : Int, e = .returned (.tuple #[.int .i64 x, .int .i64 y]) ∧ Below W.heap.size W W' := by
  have HC := hideP hcode
  clear hcode
  go_enter Tryd.func96, Tryd.ntmps96
  go_wp2_with fail
  refine (l01New W a len cap hlen HC.out).mono ?_
  rintro e W1 ⟨B, rfl, hC1, hb1⟩
  have HK1 : Hid (Cur W.heap.size W1 a len cap B) := hC1
  have HB1 : Hid (Below W.heap.size W W1) := hb1
  clear hC1 hb1
  go_wp2_with fail
  refine (l01PickInt _ _ a len cap B W1.heap.size 10 10 (fun j => calsIn.getD j 0) hlen (by omega) (by omega) (by rw [size_new]; omega) (Nat.ne_of_gt HK1.out.hi) (fun j hj => alloc_ints W1 calsIn _ j hj) (HK1.out.alloc _)).mono ?_
  rintro e W2 ⟨j, hj, rfl, hC2, hG2⟩
  have HK2 : Hid (Cur W.heap.size W2 a len cap B) := hC2
  have HB2 : Hid (Below W.heap.size W W2) := below_grownBy (HB1.out.alloc HB1.out.size _) hG2 (Nat.le_trans HB1.out.size (by rw [size_new]; omega)) HK1.out.lo
  clear hC2 hG2
  generalize calsIn.getD j 0 = x at *
  go_wp2_with fail
  refine (l01Once _ _ a len cap B 12 hlen (by omega) HK2.out).mono ?_
  rintro e W3 ⟨o, rfl, hC3, hG3⟩
  have HK3 : Hid (Cur W.heap.size W3 a len cap B) := hC3
  have HB3 : Hid (Below W.heap.size W W3) := below_grownBy HB2.out hG3 HB2.out.size HK2.out.lo
  clear hC3 hG3
  cases o
  · go_wp2_with fail
    refine (l02AnyYear _ _ a len cap B hlen HK3.out).mono ?_
    rintro e W4 ⟨y, rfl, hC4, hG4⟩
    have HB4 : Hid (Below W.heap.size W W4) := below_grownBy HB3.out hG4 HB3.out.size HK3.out.lo
    clear hC4 hG4
    go_wp2
    go_ret2
    exact ⟨x, y, rfl, HB4.out⟩
  · go_wp2_with fail
    refine (l01PickInt _ _ a len cap B W3.heap.size 4 4 (fun j => oddYears.getD j 0) hlen (by omega) (by omega) (by rw [size_new]; omega) (Nat.ne_of_gt HK3.out.hi) (fun j hj => alloc_ints W3 oddYears _ j hj) (HK3.out.alloc _)).mono ?_
    rintro e W4 ⟨i, hi, rfl, hC4, hG4⟩
    have HB4 : Hid (Below W.heap.size W W4) := below_grownBy (HB3.out.alloc HB3.out.size _) hG4 (Nat.le_trans HB3.out.size (by rw [size_new]; omega)) HK3.out.lo
    clear hC4 hG4
    generalize oddYears.getD i 0 = y at *
    go_wp2
    go_ret2
    exact ⟨x, y, rfl, HB4.out⟩
theorem drawEasterTable (W : World) (a : Option Addr) (len cap : Nat) (hlen : len ≤ maxLen) (hcode : CodeAt W.heap.size W a len) :
    Calls Tryd.prog 50 #[.slice a len cap] W fun e W' => ∃ x y : Int, e = .returned (.tuple #[.int .i64 x, .int .i64 y]) ∧ Below W.heap.size W W' := by
  have HC := hideP hcode
  clear hcode
  go_enter Tryd.func50, Tryd.ntmps50
  go_wp2_with fail
  refine (l03Two W a len cap hlen HC.out).mono ?_
  rintro e W1 ⟨x, y, rfl, hb⟩
  go_wp2
  go_ret2
  exact ⟨x, y, rfl, hb⟩
theorem drawFullMoon (W : World) (a : Option Addr) (len cap : Nat) (hlen : len ≤ maxLen) (hcode : CodeAt W.heap.size W a len) :
    Calls Tryd.prog 51 #[.slice a len cap] W fun e W' => ∃ x y : Int, e = .returned (.tuple #[.int .i64 x, .int .i64 y]) ∧ Below W.heap.size W W' := by
  have HC := hideP hcode
  clear hcode
  go_enter Tryd.func51, Tryd.ntmps51
  go_wp2_with fail
  refine (l03Two W a len cap hlen HC.out).mono ?_
  rintro e W1 ⟨x, y, rfl, hb⟩
  go_wp2
  go_ret2
  exact ⟨x, y, rfl, hb⟩
theorem drawEpact (W : World) (a : Option Addr) (len cap : Nat) (hlen : len ≤ maxLen) (hcode : CodeAt W.heap.size W a len) :
    Calls Tryd.prog 52 #[.slice a len cap] W fun e W' => ∃ x y : Int, e = .returned (.tuple #[.int .i64 x, .int .i64 y]) ∧ Below W.heap.size W W' := by
  have HC := hideP hcode
  clear hcode
  go_enter Tryd.func52, Tryd.ntmps52
  go_wp2_with fail
  refine (l03Two W a len cap hlen HC.out).mono ?_
  rintro e W1 ⟨x, y, rfl, hb⟩
  go_wp2
  go_ret2
  exact ⟨x, y, rfl, hb⟩
theorem drawLetter (W : World) (a : Option Addr) (len cap : Nat) (hlen : len ≤ maxLen) (hcode : CodeAt W.heap.size W a len) :
    Calls Tryd.prog 54 #[.slice a len cap] W fun e W' => ∃ x y : Int, e = .returned (.tuple #[.int .i64 x, .int .i64 y]) ∧ Below W.heap.size W W' := by
  have HC := hideP hcode
  clear hcode
  go_enter Tryd.func54, Tryd.ntmps54
  go_wp2_with fail
  refine (l03Two W a len cap hlen HC.out).mono ?_
  rintro e W1 ⟨x, y, rfl, hb⟩
  go_wp2
  go_ret2
  exact ⟨x, y, rfl, hb⟩
theorem drawEasterDays (W : World) (a : Option Addr) (len cap : Nat) (hlen : len ≤ maxLen) (hcode : CodeAt W.heap.size W a len) :
    Calls Tryd.prog 55 #[.slice a len cap] W fun e W' => ∃ x y : Int, e = .returned (.tuple #[.int .i64 x, .int .i64 y]) ∧ Below W.heap.size W W' := by
  have HC := hideP hcode
  clear hcode
  go_enter Tryd.func55, Tryd.ntmps55
  go_wp2_with fail
  refine (l03Two W a len cap hlen HC.out).mono ?_
  rintro e W1 ⟨x, y, rfl, hb⟩
  go_wp2
  go_ret2
  exact ⟨x, y, rfl, hb⟩
theorem drawEaster (W : World) (a : Option Addr) (len cap : Nat) (hlen : len ≤ maxLen) (hcode : CodeAt W.heap.size W a len) :
    Calls Tryd.prog 48 #[.slice a len cap] W fun e W' => ∃ x y : Int, e = .returned (.tuple #[.int .i64 x, .int .i64 y]) ∧ Below W.heap.size W W' := by
  have HC := hideP hcode
  clear hcode
  go_enter Tryd.func48, Tryd.ntmps48
  go_wp2_with fail
  refine (l03Two W a len cap hlen HC.out).mono ?_
  rintro e W1 ⟨x, y, rfl, hb⟩
  go_wp2
  go_ret2
  exact ⟨x, y, rfl, hb⟩
theorem drawGolden (W : World) (a : Option Addr) (len cap : Nat) (hlen : len ≤ maxLen) (hcode : CodeAt W.heap.size W a len) :
    Calls Tryd.prog 53 #[.slice a len cap] W fun e W' => ∃ y : Int, e = .returned (.int .i64 y) ∧ Below W.heap.size W W' := by
  have HC := hideP hcode
  clear hcode
  go_enter Tryd.func53, Tryd.ntmps53
  go_wp2_with fail
  refine (l03Two W a len cap hlen HC.out).mono ?_
  rintro e W1 ⟨x, y, rfl, hb⟩
  go_wp2
  go_ret
  exact ⟨y, rfl, hb⟩
def stepsIn : List Int := [0, 1, 19, 60, -1, 1000]
set_option maxHeartbeats 1000000 in
theorem drawMoves (W : World) (a : Option Addr) (len cap : Nat) (hlen : len ≤ maxLen) (hcode : CodeAt W.heap.size W a len) :
    Calls Tryd.prog 56 #[.slice a len cap] W fun e W' => ∃ x y z : Int, e = .returned (.tuple #[.int .i64 x, .int .i64 y, .int .i64 z]) ∧ Below W.heap.size W W' := by
  have HC := hideP hcode
  clear hcode
  go_enter Tryd.func56, Tryd.ntmps56
  go_wp2_with fail
  refine (l01New W a len cap hlen HC.out).mono ?_
  rintro e W1 ⟨B, rfl, hC1, hb1⟩
  have HK1 : Hid (Cur W.heap.size W1 a len cap B) := hC1
  have HB1 : Hid (Below W.heap.size W W1) := hb1
  clear hC1 hb1
  have HC1 : Hid (CodeAt W1.heap.size W1 a len) := by
    unfold Hid
    rcases HC.out with h | ⟨b, off, zs, ha, hlt, hc, hz⟩
    · exact .inl h
    · exact .inr ⟨b, off, zs, ha, Nat.lt_of_lt_of_le hlt HB1.out.size, fun i hi => by rw [HB1.out.cell (p := ⟨b, off + i, none⟩) hlt]; exact hc i hi, hz⟩
  go_wp2_with fail
  refine (l03Two W1 a len cap hlen HC1.out).mono ?_
  rintro e W2 ⟨x, y, rfl, hb2⟩
  have HK2 : Hid (Cur W.heap.size W2 a len cap B) := HK1.out.below hb2
  have HB2 : Hid (Below W.heap.size W W2) := HB1.out.trans (hb2.mono HB1.out.size)
  clear hb2
  go_wp2_with fail
  refine (l01PickInt _ _ a len cap B W2.heap.size 6 6 (fun j => stepsIn.getD j 0) hlen (by omega) (by omega) (by rw [size_new]; omega) (Nat.ne_of_gt HK2.out.hi) (fun j hj => alloc_ints W2 stepsIn _ j hj) (HK2.out.alloc _)).mono ?_
  rintro e W3 ⟨j, hj, rfl, hC3, hG3⟩
  have HB3 : Hid (Below W.heap.size W W3) := below_grownBy (HB2.out.alloc HB2.out.size _) hG3 (Nat.le_trans HB2.out.size (by rw [size_new]; omega)) HK2.out.lo
  clear hC3 hG3
  generalize stepsIn.getD j 0 = s at *
  go_wp2
  go_ret3
  exact ⟨_, _, _, rfl, HB3.out⟩
end Go.Proofs.YtckjcaloofjeoaaDoor.ctr
