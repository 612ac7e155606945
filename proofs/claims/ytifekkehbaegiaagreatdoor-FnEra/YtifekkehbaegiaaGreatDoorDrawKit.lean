/- Plain laws on what a draw leaves of a world. -/
import Derived.Test.YtifekkehbaegiaaGreatDoorDrawCtr
namespace Go.Proofs.YtifekkehbaegiaaGreatDoor.ctr
open Go.RowKit

theorem cell_new (W : World) (c : Array Value) (t : TypeId) (i : Nat) : (W.alloc (.cells c t)).cell? ⟨W.heap.size, i, none⟩ = c[i]? := by simp [World.alloc, World.cell?, -World.alloc_eq]
theorem size_new (W : World) (o : Obj) : (W.alloc o).heap.size = W.heap.size + 1 := by simp [World.alloc, -World.alloc_eq]
theorem alloc_ints (W : World) (l : List Int) (t : TypeId) (j : Nat) (hj : j < l.length) : (W.alloc (.cells (l.map (Value.int .i64)).toArray t)).cell? ⟨W.heap.size, j, none⟩ = some (.int .i64 (l.getD j 0)) := by
  rw [cell_new]
  simp [List.getD, hj]
theorem alloc_strs (W : World) (l : List ByteArray) (t : TypeId) (j : Nat) (hj : j < l.length) : (W.alloc (.cells (l.map Value.string).toArray t)).cell? ⟨W.heap.size, j, none⟩ = some (.string (l.getD j ⟨#[]⟩)) := by
  rw [cell_new]
  simp [List.getD, hj]
theorem grown_alloc {W W1 : World} {r : Option Nat} (h : W.grownBy W1 r) (o : Obj) : W.grownBy (W1.alloc o) r := by
  refine ⟨h.os, h.tape, h.output, Nat.le_trans h.size (by rw [size_new]; omega), fun k hk hr => ?_⟩
  rw [Below.heap_alloc W1 o k (Nat.lt_of_lt_of_le hk h.size)]
  exact h.block k hk hr
theorem grown_refl (W : World) (r : Option Nat) : W.grownBy W r := ⟨rfl, rfl, rfl, Nat.le_refl _, fun _ _ _ => rfl⟩
theorem grown_of_below {W W1 : World} {r : Option Nat} (h : Below W.heap.size W W1) : W.grownBy W1 r := ⟨h.os, h.tape, h.output, h.size, fun k hk _ => h.block k hk⟩
theorem below_grownBy {n0 B : Nat} {W W1 W2 : World} (h : Below n0 W W1) (g : W1.grownBy W2 (some B)) (h0 : n0 ≤ W1.heap.size) (hB : n0 ≤ B) : Below n0 W W2 :=
  h.grown g h0 (fun k e => by cases e; exact hB)
/-- A number of 64 bits. -/
def I64 (z : Int) : Prop := -9223372036854775808 ≤ z ∧ z ≤ 9223372036854775807

end Go.Proofs.YtifekkehbaegiaaGreatDoor.ctr
