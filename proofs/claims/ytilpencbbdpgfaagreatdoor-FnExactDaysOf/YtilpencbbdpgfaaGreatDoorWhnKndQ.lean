/- Contracts of the program's kindOf and of both WhenOk. -/
import Derived.Test.YtilpencbbdpgfaaGreatDoorJnQbh
namespace Go.Proofs.YtilpencbbdpgfaaGreatDoor.ctr
open Go.RowKit
end Go.Proofs.YtilpencbbdpgfaaGreatDoor.ctr
