/- Plain laws of the texts of days counted back, of no program: a text, what is read of one, and that each comes back. -/
import Derived.Test.YtjojgfdfbkmlkaaGreatDoorJnDaa
import Derived.Test.YtjojgfdfbkmlkaaGreatDoorJnDag
import Derived.Test.YtjojgfdfbkmlkaaGreatDoorJnDah
namespace Go.Proofs.YtjojgfdfbkmlkaaGreatDoor.ctr
open Go.RowKit
end Go.Proofs.YtjojgfdfbkmlkaaGreatDoor.ctr
