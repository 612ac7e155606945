/- Contracts of a year's first day and of a date's day: the model's l02First, l02Day, DayOf; the program's yearEve, lineDay, DayOf. -/
import Derived.Test.YtoofnjccpoeomaaGreatDoorSolBefore
namespace Go.Proofs.YtoofnjccpoeomaaGreatDoor.ctr
open Go.RowKit

end Go.Proofs.YtoofnjccpoeomaaGreatDoor.ctr
