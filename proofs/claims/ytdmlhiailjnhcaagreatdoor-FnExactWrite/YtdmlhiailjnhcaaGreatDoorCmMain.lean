/- A closed fact of every card of this seat: how the program is begun. -/
import Derived.Test.YtdmlhiailjnhcaaGreatDoorCards
import Derived.KernelRfl
namespace Go.Proofs.YtdmlhiailjnhcaaGreatDoor.kit
open Go
theorem mainis : Tryz.pinned.checked.prog.mainIs = some (true, "761ad25f6f31aab6151ae1311724b7e77d8503c73ee2ad5bee6ea4f9f806a01f".toList) := by kernel_rfl
end Go.Proofs.YtdmlhiailjnhcaaGreatDoor.kit
