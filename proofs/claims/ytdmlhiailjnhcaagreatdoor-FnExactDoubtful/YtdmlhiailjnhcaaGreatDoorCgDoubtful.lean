/- A closed fact of the card of FnExactDoubtful: no goroutine is started on its road. -/
import Derived.Test.YtdmlhiailjnhcaaGreatDoorCards
import Derived.KernelRfl
namespace Go.Proofs.YtdmlhiailjnhcaaGreatDoor.fnExactDoubtful
open Go
theorem goesnot : false = Rows.fnExactDoubtfulRow.goesBy Tryz.pinned.checked.prog := by kernel_rfl
end Go.Proofs.YtdmlhiailjnhcaaGreatDoor.fnExactDoubtful
