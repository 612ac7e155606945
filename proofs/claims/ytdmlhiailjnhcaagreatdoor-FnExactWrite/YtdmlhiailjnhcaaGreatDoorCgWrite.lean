/- A closed fact of the card of FnExactWrite: no goroutine is started on its road. -/
import Derived.Test.YtdmlhiailjnhcaaGreatDoorCards
import Derived.KernelRfl
namespace Go.Proofs.YtdmlhiailjnhcaaGreatDoor.fnExactWrite
open Go
theorem goesnot : false = Rows.fnExactWriteRow.goesBy Tryz.pinned.checked.prog := by kernel_rfl
end Go.Proofs.YtdmlhiailjnhcaaGreatDoor.fnExactWrite
