/- Two closed facts of the card of FnExactRead: how the program is begun; no goroutine is started on its road. -/
import Derived.Test.YtpclaceefapppaaGreatDoorCards
import Derived.KernelRfl
namespace Go.Proofs.YtpclaceefapppaaGreatDoor.kit
open Go
theorem mainis : Tryz.pinned.checked.prog.mainIs = some (true, "4986af289bd95e985ef5deb4f7cd84e44d5c1a4f9da879ba3138153a73dab2d8".toList) := by kernel_rfl
end Go.Proofs.YtpclaceefapppaaGreatDoor.kit
namespace Go.Proofs.YtpclaceefapppaaGreatDoor.fnExactRead
open Go
theorem goesnot : false = Rows.fnExactReadRow.goesBy Tryz.pinned.checked.prog := by kernel_rfl
end Go.Proofs.YtpclaceefapppaaGreatDoor.fnExactRead
