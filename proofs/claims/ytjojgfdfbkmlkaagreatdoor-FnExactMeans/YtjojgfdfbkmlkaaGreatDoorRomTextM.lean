/- Plain laws of the texts of days counted back, of no program: a text, what is read of one, and that each comes back. -/
import Derived.Test.YtjojgfdfbkmlkaaGreatDoorJnMaa
import Derived.Test.YtjojgfdfbkmlkaaGreatDoorJnMag
import Derived.Test.YtjojgfdfbkmlkaaGreatDoorJnMah
namespace Go.Proofs.YtjojgfdfbkmlkaaGreatDoor.ctr
open Go.RowKit
end Go.Proofs.YtjojgfdfbkmlkaaGreatDoor.ctr
