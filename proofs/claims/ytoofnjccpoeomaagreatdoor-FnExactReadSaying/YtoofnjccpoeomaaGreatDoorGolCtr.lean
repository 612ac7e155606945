/- Contracts of the golden number: the model's and the program's Golden answer the plain function at every int. -/
import Derived.Test.YtoofnjccpoeomaaGreatDoorBase
namespace Go.Proofs.YtoofnjccpoeomaaGreatDoor.ctr
open Go.RowKit

def golden (y : Int) : Int := if 1 ≤ y ∧ y ≤ 3000 then y % 19 + 1 else 0
end Go.Proofs.YtoofnjccpoeomaaGreatDoor.ctr
