/- A closed fact of the card of FnExactMeans: no goroutine is started on its road. -/
import Derived.Test.YtjojgfdfbkmlkaaGreatDoorCards
import Derived.KernelRfl
namespace Go.Proofs.YtjojgfdfbkmlkaaGreatDoor.fnExactMeans
open Go
theorem goesnot : false = Rows.fnExactMeansRow.goesBy Tryz.pinned.checked.prog := by kernel_rfl
end Go.Proofs.YtjojgfdfbkmlkaaGreatDoor.fnExactMeans
