/- A closed fact of every card of this seat: how the program is begun. -/
import Derived.Test.YtilpencbbdpgfaaGreatDoorCards
import Derived.KernelRfl
namespace Go.Proofs.YtilpencbbdpgfaaGreatDoor.kit
open Go
theorem mainis : Tryz.pinned.checked.prog.mainIs = some (true, "173b41b08ee1ae10981a36fc2fdf0e32333858a43107a9054ce86f7876580b1a".toList) := by kernel_rfl
end Go.Proofs.YtilpencbbdpgfaaGreatDoor.kit
