/- Contracts of both Eras: each answers the nine eras' cells, in a row of its own; nothing that was there turns. -/
import Derived.Test.YtifekkehbaegiaaEraList
namespace Go.Proofs.Ytifekkehbaegiaa.ctr
open Go.RowKit

set_option maxRecDepth 100000 in
set_option maxHeartbeats 4000000 in
theorem specEras (w : World) : Calls Try.prog 10 #[] w fun e w' => ∃ v, e = .returned v ∧ EraOwn w w' v ∧ Below w.heap.size w w' := by
  go_enter Try.func10, Try.ntmps10
  go_wp2
  go_ret
  exact ⟨_, rfl, row_new4 (Nat.le_refl _) (by unfold maxLen; omega) rfl rfl, (Below.refl _ _).alloc (Nat.le_refl _) _⟩
set_option maxRecDepth 100000 in
set_option maxHeartbeats 4000000 in
theorem implEras (w : World) : Calls Try.prog 11 #[] w fun e w' => ∃ v, e = .returned v ∧ EraOwn w w' v ∧ Below w.heap.size w w' := by
  go_enter Try.func11, Try.ntmps11
  go_wp2
  go_ret
  exact ⟨_, rfl, row_new4 (Nat.le_refl _) (by unfold maxLen; omega) rfl rfl, (Below.refl _ _).alloc (Nat.le_refl _) _⟩
end Go.Proofs.Ytifekkehbaegiaa.ctr
