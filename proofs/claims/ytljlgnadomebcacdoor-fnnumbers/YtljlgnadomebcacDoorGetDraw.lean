/- Contract of the model's DrawGetRoman: it returns a text of at most 100 bytes, and nothing that was there turns. -/
import Derived.Test.YtljlgnadomebcacDoorBentDraw
import Derived.Test.YtljlgnadomebcacDoorGetCtr
namespace Go.Proofs.YtljlgnadomebcacDoor.ctr
open Go.RowKit

def getTexts : List ByteArray := [⟨#[]⟩, ⟨#[73, 73, 73, 73]⟩, ⟨#[73, 67]⟩, ⟨#[86, 88]⟩, ⟨#[73, 88, 88]⟩, ⟨#[77, 77, 77, 77]⟩, ⟨#[105]⟩, ⟨#[73, 73, 88]⟩, ⟨#[76, 76]⟩, ⟨#[77, 77, 77, 68, 67, 67, 67, 76, 88, 88, 88, 86, 73, 73, 73]⟩, ⟨#[88, 73, 88, 73]⟩]
theorem getTexts_len : ∀ j : Fin 11, (getTexts.getD j.val ⟨#[]⟩).size ≤ 20 := by decide

set_option maxHeartbeats 1000000 in
theorem drawGetRoman (W : World) (a : Option Addr) (len cap : Nat) (hlen : len ≤ maxLen) (hcode : CodeAt W.heap.size W a len) :
    Calls Tryd.prog 12 #[.slice a len cap] W fun e W' => ∃ s : ByteArray, e = .returned (.string s) ∧ s.size ≤ 100 ∧ Below W.heap.size W W' := by
  have HC : Hid (CodeAt W.heap.size W a len) := hcode
  clear hcode
  go_enter Tryd.func12, Tryd.ntmps12
  go_wp2_with fail
  refine (l01New W a len cap hlen HC.out).mono ?_
  rintro e W1 ⟨B, rfl, hC1, hb1⟩
  have HK1 : Hid (Cur W.heap.size W1 a len cap B) := hC1
  have HB1 : Hid (Below W.heap.size W W1) := hb1
  clear hC1 hb1
  go_wp2_with fail
  refine (l01Once _ _ a len cap B 4 hlen (by omega) HK1.out).mono ?_
  rintro e W2 ⟨o, rfl, hC2, hG2⟩
  have HK2 : Hid (Cur W.heap.size W2 a len cap B) := hC2
  have HB2 : Hid (Below W.heap.size W W2) := below_grownBy HB1.out hG2 HB1.out.size HK1.out.lo
  clear hC2 hG2
  cases o
  · go_wp2_with fail
    refine (l01Below _ _ a len cap B 3999 hlen (by omega) HK2.out).mono ?_
    rintro e W3 ⟨x, rfl, x0, x1, hC3, hG3⟩
    have HK3 : Hid (Cur W.heap.size W3 a len cap B) := hC3
    have HB3 : Hid (Below W.heap.size W W3) := below_grownBy HB2.out hG3 HB2.out.size HK2.out.lo
    clear hC3 hG3
    go_wp2_with fail
    refine (specPutRoman _ _).mono ?_
    rintro e W4 ⟨rfl, rfl⟩
    have HS : Hid ((putRoman (1 + x)).size ≤ 15) := (roman_good _).2
    generalize putRoman (1 + x) = p at *
    go_wp2_with fail
    refine (l01Bent _ _ a len cap B p hlen (by have := HS.out; omega) HK3.out).mono ?_
    rintro e W5 ⟨r, rfl, hr, hC5, hG5⟩
    have HB5 : Hid (Below W.heap.size W W5) := below_grownBy HB3.out hG5 HB3.out.size HK3.out.lo
    clear hC5 hG5
    go_wp2
    go_ret
    exact ⟨r, rfl, by have := HS.out; omega, HB5.out⟩
  · go_wp2_with fail
    refine (l01Pick _ _ a len cap B W2.heap.size 11 11 (fun j => getTexts.getD j ⟨#[]⟩) hlen (by omega) (by omega) (by rw [size_new]; omega) (Nat.ne_of_gt HK2.out.hi) (fun j hj => alloc_strs W2 getTexts _ j hj) (HK2.out.alloc _)).mono ?_
    rintro e W3 ⟨j, hj, rfl, hC3, hG3⟩
    have HB3 : Hid (Below W.heap.size W W3) := below_grownBy (HB2.out.alloc HB2.out.size _) hG3 (by rw [size_new]; have := HB2.out.size; omega) HK2.out.lo
    clear hC3 hG3
    have HL : Hid ((getTexts.getD j ⟨#[]⟩).size ≤ 20) := getTexts_len ⟨j, hj⟩
    generalize getTexts.getD j ⟨#[]⟩ = r at *
    go_wp2
    go_ret
    exact ⟨r, rfl, Nat.le_trans HL.out (by omega), HB3.out⟩
end Go.Proofs.YtljlgnadomebcacDoor.ctr
