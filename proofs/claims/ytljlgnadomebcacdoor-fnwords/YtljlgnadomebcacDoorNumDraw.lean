/- Contracts of the model's draws for numbers and numerals (l01Raw, DrawFloorDiv, DrawFloorMod, DrawDecText, DrawPutRoman): each call returns a number of 64 bits, and nothing that was there turns. -/
import Derived.Test.YtljlgnadomebcacDoorDrawCtr
namespace Go.Proofs.YtljlgnadomebcacDoor.ctr
open Go.RowKit

theorem cell_new (W : World) (c : Array Value) (t : TypeId) (i : Nat) : (W.alloc (.cells c t)).cell? ⟨W.heap.size, i, none⟩ = c[i]? := by simp [World.alloc, World.cell?, -World.alloc_eq]
theorem size_new (W : World) (o : Obj) : (W.alloc o).heap.size = W.heap.size + 1 := by simp [World.alloc, -World.alloc_eq]
theorem alloc_ints (W : World) (l : List Int) (t : TypeId) (j : Nat) (hj : j < l.length) : (W.alloc (.cells (l.map (Value.int .i64)).toArray t)).cell? ⟨W.heap.size, j, none⟩ = some (.int .i64 (l.getD j 0)) := by
  rw [cell_new]
  simp [List.getD, hj]
theorem alloc_strs (W : World) (l : List ByteArray) (t : TypeId) (j : Nat) (hj : j < l.length) : (W.alloc (.cells (l.map Value.string).toArray t)).cell? ⟨W.heap.size, j, none⟩ = some (.string (l.getD j ⟨#[]⟩)) := by
  rw [cell_new]
  simp [List.getD, hj]
theorem grown_alloc {W W1 : World} {r : Option Nat} (h : W.grownBy W1 r) (o : Obj) : W.grownBy (W1.alloc o) r := by
  refine ⟨h.os, h.tape, h.output, Nat.le_trans h.size (by rw [size_new]; omega), fun k hk hr => ?_⟩
  rw [Below.heap_alloc W1 o k (Nat.lt_of_lt_of_le hk h.size)]
  exact h.block k hk hr
theorem grown_refl (W : World) (r : Option Nat) : W.grownBy W r := ⟨rfl, rfl, rfl, Nat.le_refl _, fun _ _ _ => rfl⟩
theorem grown_of_below {W W1 : World} {r : Option Nat} (h : Below W.heap.size W W1) : W.grownBy W1 r := ⟨h.os, h.tape, h.output, h.size, fun k hk _ => h.block k hk⟩
theorem below_grownBy {n0 B : Nat} {W W1 W2 : World} (h : Below n0 W W1) (g : W1.grownBy W2 (some B)) (h0 : n0 ≤ W1.heap.size) (hB : n0 ≤ B) : Below n0 W W2 :=
  h.grown g h0 (fun k e => by cases e; exact hB)
/-- A number of 64 bits. -/
def I64 (z : Int) : Prop := -9223372036854775808 ≤ z ∧ z ≤ 9223372036854775807

set_option maxHeartbeats 1000000 in
theorem l01Raw (n0 : Nat) (W : World) (a : Option Addr) (len cap B : Nat) (hlen : len ≤ maxLen) (hC : Cur n0 W a len cap B) :
    Calls Tryd.prog 41 #[.pointer (some ⟨B, 0, none⟩)] W fun e W' => ∃ z : Int, e = .returned (.int .i64 z) ∧ I64 z ∧ Cur n0 W' a len cap B ∧ W.grownBy W' (some B) := by
  have HK : Hid (Cur n0 W a len cap B) := hC
  clear hC
  go_enter Tryd.func41, Tryd.ntmps41
  go_wp2_with fail
  refine (l01Below n0 _ a len cap B 5000 hlen (by omega) HK.out).mono ?_
  rintro e W1 ⟨x, rfl, x0, x1, hC1, hG1⟩
  have HK1 : Hid (Cur n0 W1 a len cap B) := hC1
  have HG1 : Hid (W.grownBy W1 (some B)) := hG1
  clear hC1 hG1
  go_wp2_with fail
  refine (l01PickInt n0 _ a len cap B W1.heap.size 9 9 (fun j => ([0, 1, -1, 7, -8, 100, 9223372036854775807, -9223372036854775808, x - 500] : List Int).getD j 0) hlen (by omega) (by omega) (by rw [size_new]; omega) (Nat.ne_of_gt HK1.out.hi) (fun j hj => alloc_ints W1 [0, 1, -1, 7, -8, 100, 9223372036854775807, -9223372036854775808, x - 500] _ j hj) (HK1.out.alloc _)).mono ?_
  rintro e W2 ⟨j, hj, rfl, hC2, hG2⟩
  have HK2 : Hid (Cur n0 W2 a len cap B) := hC2
  have HG2 : Hid (W.grownBy W2 (some B)) := grown_trans (grown_alloc HG1.out _) hG2
  clear hC2 hG2
  have HI : Hid (I64 (([0, 1, -1, 7, -8, 100, 9223372036854775807, -9223372036854775808, x - 500] : List Int).getD j 0)) := by
    have : j = 0 ∨ j = 1 ∨ j = 2 ∨ j = 3 ∨ j = 4 ∨ j = 5 ∨ j = 6 ∨ j = 7 ∨ j = 8 := by omega
    unfold Hid I64
    rcases this with rfl | rfl | rfl | rfl | rfl | rfl | rfl | rfl | rfl <;> simp <;> omega
  generalize ([0, 1, -1, 7, -8, 100, 9223372036854775807, -9223372036854775808, x - 500] : List Int).getD j 0 = z at *
  go_wp2
  go_ret
  exact ⟨z, rfl, HI.out, HK2.out, HG2.out⟩

set_option maxHeartbeats 1000000 in
theorem drawFloorDiv (W : World) (a : Option Addr) (len cap : Nat) (hlen : len ≤ maxLen) (hcode : CodeAt W.heap.size W a len) :
    Calls Tryd.prog 6 #[.slice a len cap] W fun e W' => ∃ x y : Int, e = .returned (.tuple #[.int .i64 x, .int .i64 y]) ∧ I64 x ∧ I64 y ∧ Below W.heap.size W W' := by
  have HC : Hid (CodeAt W.heap.size W a len) := hcode
  clear hcode
  go_enter Tryd.func6, Tryd.ntmps6
  go_wp2_with fail
  refine (l01New W a len cap hlen HC.out).mono ?_
  rintro e W1 ⟨B, rfl, hC1, hb1⟩
  have HK1 : Hid (Cur W.heap.size W1 a len cap B) := hC1
  have HB1 : Hid (Below W.heap.size W W1) := hb1
  clear hC1 hb1
  go_wp2_with fail
  refine (l01Raw _ _ a len cap B hlen HK1.out).mono ?_
  rintro e W2 ⟨x, rfl, hx, hC2, hG2⟩
  have HX : Hid (I64 x) := hx
  have HK2 : Hid (Cur W.heap.size W2 a len cap B) := hC2
  have HB2 : Hid (Below W.heap.size W W2) := below_grownBy HB1.out hG2 HB1.out.size HK1.out.lo
  clear hC2 hG2 hx
  go_wp2_with fail
  refine (l01PickInt _ _ a len cap B W2.heap.size 10 10 (fun j => ([1, 2, 3, 7, 19, 400, 0, -1, 9223372036854775807, -9223372036854775808] : List Int).getD j 0) hlen (by omega) (by omega) (by rw [size_new]; omega) (Nat.ne_of_gt HK2.out.hi) (fun j hj => alloc_ints W2 [1, 2, 3, 7, 19, 400, 0, -1, 9223372036854775807, -9223372036854775808] _ j hj) (HK2.out.alloc _)).mono ?_
  rintro e W3 ⟨j, hj, rfl, hC3, hG3⟩
  have HB3 : Hid (Below W.heap.size W W3) := below_grownBy (HB2.out.alloc HB2.out.size _) hG3 (by rw [size_new]; have := HB2.out.size; omega) HK2.out.lo
  clear hC3 hG3
  have HI : Hid (I64 (([1, 2, 3, 7, 19, 400, 0, -1, 9223372036854775807, -9223372036854775808] : List Int).getD j 0)) := by
    have : j = 0 ∨ j = 1 ∨ j = 2 ∨ j = 3 ∨ j = 4 ∨ j = 5 ∨ j = 6 ∨ j = 7 ∨ j = 8 ∨ j = 9 := by omega
    unfold Hid I64
    rcases this with rfl | rfl | rfl | rfl | rfl | rfl | rfl | rfl | rfl | rfl <;> simp
  generalize ([1, 2, 3, 7, 19, 400, 0, -1, 9223372036854775807, -9223372036854775808] : List Int).getD j 0 = y at *
  go_wp2
  go_ret2
  exact ⟨x, y, rfl, HX.out, HI.out, HB3.out⟩
end Go.Proofs.YtljlgnadomebcacDoor.ctr
