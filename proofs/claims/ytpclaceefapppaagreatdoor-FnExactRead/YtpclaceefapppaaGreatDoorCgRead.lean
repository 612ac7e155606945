/- A closed fact of the card of FnExactRead: no goroutine is started on its road. -/
import Derived.Test.YtpclaceefapppaaGreatDoorCards
import Derived.KernelRfl
namespace Go.Proofs.YtpclaceefapppaaGreatDoor.fnExactRead
open Go
theorem goesnot : false = Rows.fnExactReadRow.goesBy Tryz.pinned.checked.prog := by kernel_rfl
end Go.Proofs.YtpclaceefapppaaGreatDoor.fnExactRead
