/- A closed fact of the card of FnExactMarks: no goroutine is started on its road. -/
import Derived.Test.YtdmlhiailjnhcaaGreatDoorCards
import Derived.KernelRfl
namespace Go.Proofs.YtdmlhiailjnhcaaGreatDoor.fnExactMarks
open Go
theorem goesnot : false = Rows.fnExactMarksRow.goesBy Tryz.pinned.checked.prog := by kernel_rfl
end Go.Proofs.YtdmlhiailjnhcaaGreatDoor.fnExactMarks
