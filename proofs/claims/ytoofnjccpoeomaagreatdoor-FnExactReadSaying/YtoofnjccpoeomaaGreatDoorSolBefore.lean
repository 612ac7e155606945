/- Contracts of the days ahead of a month: the model's l02Before, DayInYear; the program's daysUpTo, DayInYear: each answers its plain function. -/
import Derived.Test.YtoofnjccpoeomaaGreatDoorSolOkImpl
namespace Go.Proofs.YtoofnjccpoeomaaGreatDoor.ctr
open Go.RowKit

theorem before_next (c y : Int) (k : Nat) : before c y (k + 1) = before c y k + monthDays c y ((k : Int) + 1) := by
  simp [before]

end Go.Proofs.YtoofnjccpoeomaaGreatDoor.ctr
