/- A closed fact of the card of FnExactMonth: no goroutine is started on its road. -/
import Derived.Test.YtjojgfdfbkmlkaaGreatDoorCards
import Derived.KernelRfl
namespace Go.Proofs.YtjojgfdfbkmlkaaGreatDoor.fnExactMonth
open Go
theorem goesnot : false = Rows.fnExactMonthRow.goesBy Tryz.pinned.checked.prog := by kernel_rfl
end Go.Proofs.YtjojgfdfbkmlkaaGreatDoor.fnExactMonth
