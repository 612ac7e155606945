/- Contracts of both Eras: each answers the nine eras' cells, in a row of its own; nothing that was there turns. -/
import Derived.Test.YtifekkehbaegiaaGreatDoorEraList
namespace Go.Proofs.YtifekkehbaegiaaGreatDoor.ctr
open Go.RowKit

set_option maxRecDepth 100000 in
set_option maxHeartbeats 4000000 in
theorem specEras (w : World) : Calls Tryz.prog 49 #[] w fun e w' => ∃ v, e = .returned v ∧ EraOwn w w' v ∧ Below w.heap.size w w' := by
  go_enter Tryz.func49, Tryz.ntmps49
  go_wp2
  go_ret
  exact ⟨_, rfl, row_new4 (Nat.le_refl _) (by unfold maxLen; omega) rfl rfl, (Below.refl _ _).alloc (Nat.le_refl _) _⟩
set_option maxRecDepth 100000 in
set_option maxHeartbeats 4000000 in
theorem implEras (w : World) : Calls Tryz.prog 32 #[] w fun e w' => ∃ v, e = .returned v ∧ EraOwn w w' v ∧ Below w.heap.size w w' := by
  go_enter Tryz.func32, Tryz.ntmps32
  go_wp2
  go_ret
  exact ⟨_, rfl, row_new4 (Nat.le_refl _) (by unfold maxLen; omega) rfl rfl, (Below.refl _ _).alloc (Nat.le_refl _) _⟩
end Go.Proofs.YtifekkehbaegiaaGreatDoor.ctr
