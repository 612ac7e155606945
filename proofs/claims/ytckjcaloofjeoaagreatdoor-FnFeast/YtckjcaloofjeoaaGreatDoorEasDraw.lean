/- Contracts of the model's draws for FnEaster: l03Two and the eight draws upon it: each call returns numbers, and nothing that was there turns. -/
import Derived.Test.YtckjcaloofjeoaaGreatDoorWeekDraw
namespace Go.Proofs.YtckjcaloofjeoaaGreatDoor.ctr
open Go.RowKit

def calsIn : List Int := [0, 1, 0, 1, 0, 1, 0, 1, 2, -1]
def oddYears : List Int := [0, 3001, -5, 9223372036854775807]
set_option maxHeartbeats 1000000 in
theorem l03Two (W : World) (a : Option Addr) (len cap : Nat) (hlen : len ≤ maxLen) (hcode : CodeAt W.heap.size W a len) :
    Calls Tryz.prog 31 #[.slice a len cap] W fun e W' => ∃ x y : Int, e = .returned (.tuple #[.int .i64 x, .int .i64 y]) ∧ Below W.heap.size W W' := by
  have HC := hideP hcode
  clear hcode
  go_enter Tryz.func31, Tryz.ntmps31
  go_wp2_with fail
  refine (l01New W a len cap hlen HC.out).mono ?_
  rintro e W1 ⟨B, rfl, hC1, hb1⟩
  have HK1 : Hid (Cur W.heap.size W1 a len cap B) := hC1
  have HB1 : Hid (Below W.heap.size W W1) := hb1
  clear hC1 hb1
  go_wp2_with fail
  refine (l01PickInt _ _ a len cap B W1.heap.size 10 10 (fun j => calsIn.getD j 0) hlen (by omega) (by omega) (by rw [size_new]; omega) (Nat.ne_of_gt HK1.out.hi) (fun j hj => alloc_ints W1 calsIn _ j hj) (HK1.out.alloc _)).mono ?_
  rintro e W2 ⟨j, hj, rfl, hC2, hG2⟩
  have HK2 : Hid (Cur W.heap.size W2 a len cap B) := hC2
  have HB2 : Hid (Below W.heap.size W W2) := below_grownBy (HB1.out.alloc HB1.out.size _) hG2 (Nat.le_trans HB1.out.size (by rw [size_new]; omega)) HK1.out.lo
  clear hC2 hG2
  generalize calsIn.getD j 0 = x at *
  go_wp2_with fail
  refine (l01Once _ _ a len cap B 12 hlen (by omega) HK2.out).mono ?_
  rintro e W3 ⟨o, rfl, hC3, hG3⟩
  have HK3 : Hid (Cur W.heap.size W3 a len cap B) := hC3
  have HB3 : Hid (Below W.heap.size W W3) := below_grownBy HB2.out hG3 HB2.out.size HK2.out.lo
  clear hC3 hG3
  cases o
  · go_wp2_with fail
    refine (l02AnyYear _ _ a len cap B hlen HK3.out).mono ?_
    rintro e W4 ⟨y, rfl, hC4, hG4⟩
    have HB4 : Hid (Below W.heap.size W W4) := below_grownBy HB3.out hG4 HB3.out.size HK3.out.lo
    clear hC4 hG4
    go_wp2
    go_ret2
    exact ⟨x, y, rfl, HB4.out⟩
  · go_wp2_with fail
    refine (l01PickInt _ _ a len cap B W3.heap.size 4 4 (fun j => oddYears.getD j 0) hlen (by omega) (by omega) (by rw [size_new]; omega) (Nat.ne_of_gt HK3.out.hi) (fun j hj => alloc_ints W3 oddYears _ j hj) (HK3.out.alloc _)).mono ?_
    rintro e W4 ⟨i, hi, rfl, hC4, hG4⟩
    have HB4 : Hid (Below W.heap.size W W4) := below_grownBy (HB3.out.alloc HB3.out.size _) hG4 (Nat.le_trans HB3.out.size (by rw [size_new]; omega)) HK3.out.lo
    clear hC4 hG4
    generalize oddYears.getD i 0 = y at *
    go_wp2
    go_ret2
    exact ⟨x, y, rfl, HB4.out⟩
def stepsIn : List Int := [0, 1, 19, 60, -1, 1000]
end Go.Proofs.YtckjcaloofjeoaaGreatDoor.ctr
