/- A closed fact of every card of this seat: how the program is begun. -/
import Derived.Test.YtjojgfdfbkmlkaaGreatDoorCards
import Derived.KernelRfl
namespace Go.Proofs.YtjojgfdfbkmlkaaGreatDoor.kit
open Go
theorem mainis : Tryz.pinned.checked.prog.mainIs = some (true, "d24feb56bd00316a2e0b1bf1e7c73794bda390079352e79d3ddf9e695a3f3660".toList) := by kernel_rfl
end Go.Proofs.YtjojgfdfbkmlkaaGreatDoor.kit
