/- A closed fact of the card of FnExactMarked: no goroutine is started on its road. -/
import Derived.Test.YtdmlhiailjnhcaaGreatDoorCards
import Derived.KernelRfl
namespace Go.Proofs.YtdmlhiailjnhcaaGreatDoor.fnExactMarked
open Go
theorem goesnot : false = Rows.fnExactMarkedRow.goesBy Tryz.pinned.checked.prog := by kernel_rfl
end Go.Proofs.YtdmlhiailjnhcaaGreatDoor.fnExactMarked
