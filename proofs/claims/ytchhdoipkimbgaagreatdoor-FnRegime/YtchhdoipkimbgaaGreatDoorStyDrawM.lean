/- Contracts of the model's draws for FnStyle: l06Style, l06Three and the seven draws of chapter 6: each call returns numbers or a text, and nothing that was there turns. -/
import Derived.Test.YtchhdoipkimbgaaGreatDoorEasDrawM
import Derived.Test.YtchhdoipkimbgaaGreatDoorDrwA
import Derived.Test.YtchhdoipkimbgaaGreatDoorWeekDraw2M
import Derived.Test.YtchhdoipkimbgaaGreatDoorStySpecM
import Derived.Test.YtchhdoipkimbgaaGreatDoorCutCtrM
import Derived.Test.YtchhdoipkimbgaaGreatDoorRowBaseM
namespace Go.Proofs.YtchhdoipkimbgaaGreatDoor.ctr
open Go.RowKit

theorem cell_two_new (w : World) (x y : Value) (t : TypeId) : ∀ j u, [x, y][j]? = some u → (w.alloc (.cells #[x, y] t)).cell? ((⟨w.heap.size, 0, none⟩ : Addr).add j) = some u := by
  intro j u hj
  have ha : (⟨w.heap.size, 0, none⟩ : Addr).add j = ⟨w.heap.size, j, none⟩ := by unfold Addr.add; split <;> simp_all
  rw [ha, cell_new]
  simpa using hj
def styOdd : List Int := [-1, 7]
def styCals : List Int := [0, 1, 0, 1, 0, 1, 2]
/-- The texts that are drawn from. -/
def styTexts : List ByteArray := (stys.map fun s => (⟨s.toArray⟩ : ByteArray)) ++ [⟨#[]⟩, ⟨#[74, 97, 110]⟩]
theorem styTexts_short : ∀ j : Fin 9, (styTexts.getD j.val ⟨#[]⟩).size ≤ 6 := by decide
theorem own_names (w : World) : (w.alloc (.cells styVals 9)).ownsRow w.heap.size 9 1 (.slice (some ⟨w.heap.size, 0, none⟩) 7 7) 7 styVals.toList :=
  ⟨rfl, .inr ⟨w.heap.size, 7, styVals, rfl, Nat.le_refl _, by simp [World.alloc, -World.alloc_eq], Nat.le_refl _, by unfold maxLen; omega, rfl, rfl⟩⟩
theorem styVals_app : styVals.toList ++ [.string ⟨#[]⟩, .string ⟨#[74, 97, 110]⟩] = styTexts.map Value.string := rfl
end Go.Proofs.YtchhdoipkimbgaaGreatDoor.ctr
