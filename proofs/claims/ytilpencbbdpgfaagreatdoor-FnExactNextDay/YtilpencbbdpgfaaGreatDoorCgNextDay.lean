/- A closed fact of the card of FnExactNextDay: no goroutine is started on its road. -/
import Derived.Test.YtilpencbbdpgfaaGreatDoorCards
import Derived.KernelRfl
namespace Go.Proofs.YtilpencbbdpgfaaGreatDoor.fnExactNextDay
open Go
theorem goesnot : false = Rows.fnExactNextDayRow.goesBy Tryz.pinned.checked.prog := by kernel_rfl
end Go.Proofs.YtilpencbbdpgfaaGreatDoor.fnExactNextDay
