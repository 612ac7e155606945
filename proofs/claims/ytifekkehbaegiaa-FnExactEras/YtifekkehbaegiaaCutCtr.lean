/- Contracts of the model's l01Cut and Words: each answers, in new memory, the plain list cut of the parts between a byte, at every text of at most 1048576 bytes; nothing that was there turns. -/
import Derived.Test.YtifekkehbaegiaaBase
import Derived.Handy
import Derived.Laws.AppendOwn
import Derived.Laws.OwnMore
import Derived.OwnWalk
import Derived.RangeFuncBox
import Derived.Maps.AppendAt
namespace Go.Proofs.Ytifekkehbaegiaa.ctr
open Go.RowKit

def bAt (s : ByteArray) (k : Nat) : Int := ((s.data.toList.getD k 0).toNat : Int)
theorem bAt_eq (s : ByteArray) (k : Nat) (h : k < s.size) : (s[k].toNat : Int) = bAt s k := by
  have h' : k < s.data.toList.length := h
  unfold bAt
  rw [List.getD, List.getElem?_eq_getElem h']
  rfl
def startAt (s : ByteArray) (g : Int) : Nat → Nat
  | 0 => 0
  | k + 1 => if bAt s k = g then k + 1 else startAt s g k
def partsTo (s : ByteArray) (g : Int) : Nat → List ByteArray
  | 0 => []
  | k + 1 => if bAt s k = g then partsTo s g k ++ [s.extract (startAt s g k) k] else partsTo s g k
def cut (s : ByteArray) (g : Int) : List ByteArray := partsTo s g s.size ++ [s.extract (startAt s g s.size) s.size]
theorem start_le (s : ByteArray) (g : Int) : ∀ k, startAt s g k ≤ k
  | 0 => Nat.le_refl _
  | k + 1 => by
    have := start_le s g k
    unfold startAt
    split <;> omega
theorem parts_len (s : ByteArray) (g : Int) : ∀ k, (partsTo s g k).length ≤ k
  | 0 => Nat.le_refl _
  | k + 1 => by
    have := parts_len s g k
    unfold partsTo
    split
    · rw [List.length_append]; simp; omega
    · omega
theorem parts_hit (s : ByteArray) (g : Int) (k : Nat) (h : bAt s k = g) : partsTo s g (k + 1) = partsTo s g k ++ [s.extract (startAt s g k) k] ∧ startAt s g (k + 1) = k + 1 := by
  constructor
  · rw [partsTo, if_pos h]
  · rw [startAt, if_pos h]
theorem parts_miss (s : ByteArray) (g : Int) (k : Nat) (h : bAt s k ≠ g) : partsTo s g (k + 1) = partsTo s g k ∧ startAt s g (k + 1) = startAt s g k := by
  constructor
  · rw [partsTo, if_neg h]
  · rw [startAt, if_neg h]
theorem own_base {w : World} {base e size : Nat} {v : Value} {n : Nat} {xs : List Value} (h : w.ownsRow base e size v n xs) : ∀ k, v.ownBlock = some k → base ≤ k := by
  obtain ⟨_, h | ⟨g, cap, cur, rfl, hb, _⟩⟩ := h
  · obtain ⟨rfl, _⟩ := h
    intro k hk
    cases hk
  · intro k hk
    cases hk
    exact hb
theorem size_new' (W : World) (o : Obj) : (W.alloc o).heap.size = W.heap.size + 1 := by simp [World.alloc, -World.alloc_eq]
theorem own_empty (w : World) (e : TypeId) : (w.alloc (.cells #[] e)).ownsRow w.heap.size e 1 (.slice (some ⟨w.heap.size, 0, none⟩) 0 0) 0 [] :=
  ⟨rfl, .inr ⟨w.heap.size, 0, #[], rfl, Nat.le_refl _, by simp [World.alloc, -World.alloc_eq], Nat.le_refl _, Nat.zero_le _, rfl, rfl⟩⟩
theorem info_str : (Try.prog.info? 9).map (fun i => (i.zero, i.size, i.bytes)) = some (some (.string ⟨#[]⟩), 1, 16) := by kernel_rfl

end Go.Proofs.Ytifekkehbaegiaa.ctr
