/- The three closed facts over the whole table of types, out of the check of each of its rows. -/
import Derived.Test.YtpclaceefapppaaGreatDoorChecked
import Derived.ClosedOfChecked
namespace Go.Proofs.YtpclaceefapppaaGreatDoor.kit
open Go
theorem closed3 : laidOutB Tryz.prog = true ∧ mapsRowed Tryz.prog = true ∧ Program.plainKeys Tryz.prog = true := Go.ClosedOfChecked.closed_of_checked Tryz.checked (by kernel_rfl) (by kernel_rfl) (by kernel_rfl)
end Go.Proofs.YtpclaceefapppaaGreatDoor.kit
