/- A closed fact of the card of FnExactShift: no goroutine is started on its road. -/
import Derived.Test.YtilpencbbdpgfaaGreatDoorCards
import Derived.KernelRfl
namespace Go.Proofs.YtilpencbbdpgfaaGreatDoor.fnExactShift
open Go
theorem goesnot : false = Rows.fnExactShiftRow.goesBy Tryz.pinned.checked.prog := by kernel_rfl
end Go.Proofs.YtilpencbbdpgfaaGreatDoor.fnExactShift
