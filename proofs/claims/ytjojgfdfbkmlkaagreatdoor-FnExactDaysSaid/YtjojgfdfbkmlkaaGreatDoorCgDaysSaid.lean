/- A closed fact of the card of FnExactDaysSaid: no goroutine is started on its road. -/
import Derived.Test.YtjojgfdfbkmlkaaGreatDoorCards
import Derived.KernelRfl
namespace Go.Proofs.YtjojgfdfbkmlkaaGreatDoor.fnExactDaysSaid
open Go
theorem goesnot : false = Rows.fnExactDaysSaidRow.goesBy Tryz.pinned.checked.prog := by kernel_rfl
end Go.Proofs.YtjojgfdfbkmlkaaGreatDoor.fnExactDaysSaid
