/- Contracts of both FeastDay: each answers its plain function at every calendar, year and feast. -/
import Derived.Test.YtilpencbbdpgfaaGreatDoorJnQbg
import Derived.Test.YtilpencbbdpgfaaGreatDoorJnQaw
import Derived.Test.YtilpencbbdpgfaaGreatDoorJnQai
namespace Go.Proofs.YtilpencbbdpgfaaGreatDoor.ctr
open Go.RowKit
end Go.Proofs.YtilpencbbdpgfaaGreatDoor.ctr
