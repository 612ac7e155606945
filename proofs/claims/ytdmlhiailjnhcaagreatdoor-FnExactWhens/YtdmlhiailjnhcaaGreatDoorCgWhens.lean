/- A closed fact of the card of FnExactWhens: no goroutine is started on its road. -/
import Derived.Test.YtdmlhiailjnhcaaGreatDoorCards
import Derived.KernelRfl
namespace Go.Proofs.YtdmlhiailjnhcaaGreatDoor.fnExactWhens
open Go
theorem goesnot : false = Rows.fnExactWhensRow.goesBy Tryz.pinned.checked.prog := by kernel_rfl
end Go.Proofs.YtdmlhiailjnhcaaGreatDoor.fnExactWhens
