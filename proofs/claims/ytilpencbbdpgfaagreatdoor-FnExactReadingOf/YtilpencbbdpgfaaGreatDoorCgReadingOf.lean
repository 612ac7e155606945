/- A closed fact of the card of FnExactReadingOf: no goroutine is started on its road. -/
import Derived.Test.YtilpencbbdpgfaaGreatDoorCards
import Derived.KernelRfl
namespace Go.Proofs.YtilpencbbdpgfaaGreatDoor.fnExactReadingOf
open Go
theorem goesnot : false = Rows.fnExactReadingOfRow.goesBy Tryz.pinned.checked.prog := by kernel_rfl
end Go.Proofs.YtilpencbbdpgfaaGreatDoor.fnExactReadingOf
