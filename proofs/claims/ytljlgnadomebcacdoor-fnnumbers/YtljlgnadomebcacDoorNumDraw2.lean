/- Contracts of the model's draws DrawFloorMod, DrawDecText, DrawPutRoman and DrawReadDec: each call returns a number of 64 bits or a text of at most 20 bytes, and nothing that was there turns. -/
import Derived.Test.YtljlgnadomebcacDoorNumDraw
import Derived.Test.YtljlgnadomebcacDoorDecCtr
namespace Go.Proofs.YtljlgnadomebcacDoor.ctr
open Go.RowKit

set_option maxHeartbeats 1000000 in
theorem drawFloorMod (W : World) (a : Option Addr) (len cap : Nat) (hlen : len ≤ maxLen) (hcode : CodeAt W.heap.size W a len) :
    Calls Tryd.prog 7 #[.slice a len cap] W fun e W' => ∃ x y : Int, e = .returned (.tuple #[.int .i64 x, .int .i64 y]) ∧ I64 x ∧ I64 y ∧ Below W.heap.size W W' := by
  have HC : Hid (CodeAt W.heap.size W a len) := hcode
  clear hcode
  go_enter Tryd.func7, Tryd.ntmps7
  go_wp2_with fail
  refine (drawFloorDiv W a len cap hlen HC.out).mono ?_
  rintro e W1 ⟨x, y, rfl, hx, hy, hb⟩
  have HX : Hid (I64 x ∧ I64 y ∧ Below W.heap.size W W1) := ⟨hx, hy, hb⟩
  clear hx hy hb
  go_wp2
  go_ret2
  exact ⟨x, y, rfl, HX.out⟩

set_option maxHeartbeats 1000000 in
theorem drawDecText (W : World) (a : Option Addr) (len cap : Nat) (hlen : len ≤ maxLen) (hcode : CodeAt W.heap.size W a len) :
    Calls Tryd.prog 8 #[.slice a len cap] W fun e W' => ∃ x : Int, e = .returned (.int .i64 x) ∧ I64 x ∧ Below W.heap.size W W' := by
  have HC : Hid (CodeAt W.heap.size W a len) := hcode
  clear hcode
  go_enter Tryd.func8, Tryd.ntmps8
  go_wp2_with fail
  refine (l01New W a len cap hlen HC.out).mono ?_
  rintro e W1 ⟨B, rfl, hC1, hb1⟩
  have HK1 : Hid (Cur W.heap.size W1 a len cap B) := hC1
  have HB1 : Hid (Below W.heap.size W W1) := hb1
  clear hC1 hb1
  go_wp2_with fail
  refine (l01Raw _ _ a len cap B hlen HK1.out).mono ?_
  rintro e W2 ⟨x, rfl, hx, hC2, hG2⟩
  have HX : Hid (I64 x) := hx
  have HB2 : Hid (Below W.heap.size W W2) := below_grownBy HB1.out hG2 HB1.out.size HK1.out.lo
  clear hC2 hG2 hx
  go_wp2
  go_ret
  exact ⟨x, rfl, HX.out, HB2.out⟩

set_option maxHeartbeats 1000000 in
theorem drawPutRoman (W : World) (a : Option Addr) (len cap : Nat) (hlen : len ≤ maxLen) (hcode : CodeAt W.heap.size W a len) :
    Calls Tryd.prog 10 #[.slice a len cap] W fun e W' => ∃ x : Int, e = .returned (.int .i64 x) ∧ I64 x ∧ Below W.heap.size W W' := by
  have HC : Hid (CodeAt W.heap.size W a len) := hcode
  clear hcode
  go_enter Tryd.func10, Tryd.ntmps10
  go_wp2_with fail
  refine (l01New W a len cap hlen HC.out).mono ?_
  rintro e W1 ⟨B, rfl, hC1, hb1⟩
  have HK1 : Hid (Cur W.heap.size W1 a len cap B) := hC1
  have HB1 : Hid (Below W.heap.size W W1) := hb1
  clear hC1 hb1
  go_wp2_with fail
  refine (l01Below _ _ a len cap B 4000 hlen (by omega) HK1.out).mono ?_
  rintro e W2 ⟨x, rfl, x0, x1, hC2, hG2⟩
  have HK2 : Hid (Cur W.heap.size W2 a len cap B) := hC2
  have HB2 : Hid (Below W.heap.size W W2) := below_grownBy HB1.out hG2 HB1.out.size HK1.out.lo
  clear hC2 hG2
  go_wp2_with fail
  refine (l01PickInt _ _ a len cap B W2.heap.size 9 9 (fun j => ([1, 4, 9, 1999, 3999, 4000, 0, -5, x] : List Int).getD j 0) hlen (by omega) (by omega) (by rw [size_new]; omega) (Nat.ne_of_gt HK2.out.hi) (fun j hj => alloc_ints W2 [1, 4, 9, 1999, 3999, 4000, 0, -5, x] _ j hj) (HK2.out.alloc _)).mono ?_
  rintro e W3 ⟨j, hj, rfl, hC3, hG3⟩
  have HB3 : Hid (Below W.heap.size W W3) := below_grownBy (HB2.out.alloc HB2.out.size _) hG3 (by rw [size_new]; have := HB2.out.size; omega) HK2.out.lo
  clear hC3 hG3
  have HI : Hid (I64 (([1, 4, 9, 1999, 3999, 4000, 0, -5, x] : List Int).getD j 0)) := by
    have : j = 0 ∨ j = 1 ∨ j = 2 ∨ j = 3 ∨ j = 4 ∨ j = 5 ∨ j = 6 ∨ j = 7 ∨ j = 8 := by omega
    unfold Hid I64
    rcases this with rfl | rfl | rfl | rfl | rfl | rfl | rfl | rfl | rfl <;> simp <;> omega
  generalize ([1, 4, 9, 1999, 3999, 4000, 0, -5, x] : List Int).getD j 0 = y at *
  go_wp2
  go_ret
  exact ⟨y, rfl, HI.out, HB3.out⟩

def readTexts : List ByteArray := [⟨#[]⟩, ⟨#[45, 49]⟩, ⟨#[48, 48]⟩, ⟨#[48, 49]⟩, ⟨#[49, 120]⟩, ⟨#[57, 57, 57, 57, 57, 57, 57, 57, 57]⟩, ⟨#[49, 48, 48, 48, 48, 48, 48, 48, 48, 48]⟩, ⟨#[49, 56, 52, 52, 54, 55, 52, 52, 48, 55, 51, 55, 48, 57, 53, 53, 49, 54, 49, 55]⟩]
theorem readTexts_len : ∀ j : Fin 8, (readTexts.getD j.val ⟨#[]⟩).size ≤ 20 := by decide
theorem itoa_len (n : Int) (h0 : -9223372036854775808 ≤ n) (h1 : n ≤ 9223372036854775807) : (Lib.itoa n).length ≤ 21 := by
  by_cases hz : n = 0
  · subst hz
    unfold Lib.itoa
    rw [if_neg (by decide), Lib.decDigits]
    simp
  · rw [itoa_left n hz]
    have := left_len n h0 h1
    split
    · simp; omega
    · omega

set_option maxHeartbeats 1000000 in
theorem drawReadDec (W : World) (a : Option Addr) (len cap : Nat) (hlen : len ≤ maxLen) (hcode : CodeAt W.heap.size W a len) :
    Calls Tryd.prog 9 #[.slice a len cap] W fun e W' => ∃ s : ByteArray, e = .returned (.string s) ∧ s.size ≤ 100 ∧ Below W.heap.size W W' := by
  have HC : Hid (CodeAt W.heap.size W a len) := hcode
  clear hcode
  go_enter Tryd.func9, Tryd.ntmps9
  go_wp2_with fail
  refine (l01New W a len cap hlen HC.out).mono ?_
  rintro e W1 ⟨B, rfl, hC1, hb1⟩
  have HK1 : Hid (Cur W.heap.size W1 a len cap B) := hC1
  have HB1 : Hid (Below W.heap.size W W1) := hb1
  clear hC1 hb1
  go_wp2_with fail
  refine (l01Once _ _ a len cap B 2 hlen (by omega) HK1.out).mono ?_
  rintro e W2 ⟨o, rfl, hC2, hG2⟩
  have HK2 : Hid (Cur W.heap.size W2 a len cap B) := hC2
  have HB2 : Hid (Below W.heap.size W W2) := below_grownBy HB1.out hG2 HB1.out.size HK1.out.lo
  clear hC2 hG2
  cases o
  · go_wp2_with fail
    refine (l01Below _ _ a len cap B 5000 hlen (by omega) HK2.out).mono ?_
    rintro e W3 ⟨x, rfl, x0, x1, hC3, hG3⟩
    have HB3 : Hid (Below W.heap.size W W3) := below_grownBy HB2.out hG3 HB2.out.size HK2.out.lo
    clear hC3 hG3
    go_wp2_with fail
    refine (specDecText x _ (by omega) (by omega)).mono ?_
    rintro e W4 ⟨rfl, rfl⟩
    go_wp2
    go_ret
    exact ⟨_, rfl, Nat.le_trans (show (Lib.itoa x).length ≤ 21 from itoa_len x (by omega) (by omega)) (by omega), HB3.out⟩
  · go_wp2_with fail
    refine (l01Pick _ _ a len cap B W2.heap.size 8 8 (fun j => readTexts.getD j ⟨#[]⟩) hlen (by omega) (by omega) (by rw [size_new]; omega) (Nat.ne_of_gt HK2.out.hi) (fun j hj => alloc_strs W2 readTexts _ j hj) (HK2.out.alloc _)).mono ?_
    rintro e W3 ⟨j, hj, rfl, hC3, hG3⟩
    have HB3 : Hid (Below W.heap.size W W3) := below_grownBy (HB2.out.alloc HB2.out.size _) hG3 (by rw [size_new]; have := HB2.out.size; omega) HK2.out.lo
    clear hC3 hG3
    have HL : Hid ((readTexts.getD j ⟨#[]⟩).size ≤ 20) := readTexts_len ⟨j, hj⟩
    generalize readTexts.getD j ⟨#[]⟩ = r at *
    go_wp2
    go_ret
    exact ⟨r, rfl, Nat.le_trans HL.out (by omega), HB3.out⟩
end Go.Proofs.YtljlgnadomebcacDoor.ctr
