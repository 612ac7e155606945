/- Marks stay where nothing below turns. -/
import Derived.Test.YtckjcaloofjeoabDoorMarkCtr
namespace Go.Proofs.YtckjcaloofjeoabDoor.ctr
open Go.RowKit

theorem marks_below {W W' : World} {g n k0 : Nat} (h : ∀ j, j < n → W.cell? ⟨g, j, none⟩ = some (.string (mk (k0 + j)))) {B : Nat} (hb : Below B W W') (hg : g < B) : ∀ j, j < n → W'.cell? ⟨g, j, none⟩ = some (.string (mk (k0 + j))) := fun j hj => (hb.cell (p := ⟨g, j, none⟩) hg).trans (h j hj)
end Go.Proofs.YtckjcaloofjeoabDoor.ctr
