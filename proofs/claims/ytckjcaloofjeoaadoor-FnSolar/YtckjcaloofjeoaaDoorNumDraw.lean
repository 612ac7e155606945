/- Contracts of the model's draws for numbers and numerals (l01Raw, DrawFloorDiv, DrawFloorMod, DrawDecText, DrawPutRoman): each call returns a number of 64 bits, and nothing that was there turns. -/
import Derived.Test.YtckjcaloofjeoaaDoorDrawKit
namespace Go.Proofs.YtckjcaloofjeoaaDoor.ctr
open Go.RowKit

set_option maxHeartbeats 1000000 in
theorem l01Raw (n0 : Nat) (W : World) (a : Option Addr) (len cap B : Nat) (hlen : len ≤ maxLen) (hC : Cur n0 W a len cap B) :
    Calls Tryd.prog 88 #[.pointer (some ⟨B, 0, none⟩)] W fun e W' => ∃ z : Int, e = .returned (.int .i64 z) ∧ I64 z ∧ Cur n0 W' a len cap B ∧ W.grownBy W' (some B) := by
  have HK : Hid (Cur n0 W a len cap B) := hC
  clear hC
  go_enter Tryd.func88, Tryd.ntmps88
  go_wp2_with fail
  refine (l01Below n0 _ a len cap B 5000 hlen (by omega) HK.out).mono ?_
  rintro e W1 ⟨x, rfl, x0, x1, hC1, hG1⟩
  have HK1 : Hid (Cur n0 W1 a len cap B) := hC1
  have HG1 : Hid (W.grownBy W1 (some B)) := hG1
  clear hC1 hG1
  go_wp2_with fail
  refine (l01PickInt n0 _ a len cap B W1.heap.size 9 9 (fun j => ([0, 1, -1, 7, -8, 100, 9223372036854775807, -9223372036854775808, x - 500] : List Int).getD j 0) hlen (by omega) (by omega) (by rw [size_new]; omega) (Nat.ne_of_gt HK1.out.hi) (fun j hj => alloc_ints W1 [0, 1, -1, 7, -8, 100, 9223372036854775807, -9223372036854775808, x - 500] _ j hj) (HK1.out.alloc _)).mono ?_
  rintro e W2 ⟨j, hj, rfl, hC2, hG2⟩
  have HK2 : Hid (Cur n0 W2 a len cap B) := hC2
  have HG2 : Hid (W.grownBy W2 (some B)) := grown_trans (grown_alloc HG1.out _) hG2
  clear hC2 hG2
  have HI : Hid (I64 (([0, 1, -1, 7, -8, 100, 9223372036854775807, -9223372036854775808, x - 500] : List Int).getD j 0)) := by
    have : j = 0 ∨ j = 1 ∨ j = 2 ∨ j = 3 ∨ j = 4 ∨ j = 5 ∨ j = 6 ∨ j = 7 ∨ j = 8 := by omega
    unfold Hid I64
    rcases this with rfl | rfl | rfl | rfl | rfl | rfl | rfl | rfl | rfl <;> simp <;> omega
  generalize ([0, 1, -1, 7, -8, 100, 9223372036854775807, -9223372036854775808, x - 500] : List Int).getD j 0 = z at *
  go_wp2
  go_ret
  exact ⟨z, rfl, HI.out, HK2.out, HG2.out⟩

end Go.Proofs.YtckjcaloofjeoaaDoor.ctr
