/- A closed fact of the card of FnExactDaysOf: no goroutine is started on its road. -/
import Derived.Test.YtilpencbbdpgfaaGreatDoorCards
import Derived.KernelRfl
namespace Go.Proofs.YtilpencbbdpgfaaGreatDoor.fnExactDaysOf
open Go
theorem goesnot : false = Rows.fnExactDaysOfRow.goesBy Tryz.pinned.checked.prog := by kernel_rfl
end Go.Proofs.YtilpencbbdpgfaaGreatDoor.fnExactDaysOf
