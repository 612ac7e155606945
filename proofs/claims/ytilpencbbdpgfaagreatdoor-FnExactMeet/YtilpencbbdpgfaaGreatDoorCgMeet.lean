/- A closed fact of the card of FnExactMeet: no goroutine is started on its road. -/
import Derived.Test.YtilpencbbdpgfaaGreatDoorCards
import Derived.KernelRfl
namespace Go.Proofs.YtilpencbbdpgfaaGreatDoor.fnExactMeet
open Go
theorem goesnot : false = Rows.fnExactMeetRow.goesBy Tryz.pinned.checked.prog := by kernel_rfl
end Go.Proofs.YtilpencbbdpgfaaGreatDoor.fnExactMeet
