/- Contracts of both WhenOk: the same plain function. The model's WhenOk. What a saying is; contracts of both SayingOk: the same plain function. -/
import Derived.Test.YtilpencbbdpgfaaGreatDoorWhnKndQ
import Derived.Deep.DeepCutAuto
import Derived.Deep.CutBlock
import Derived.Test.YtilpencbbdpgfaaGreatDoorJnQah
namespace Go.Proofs.YtilpencbbdpgfaaGreatDoor.ctr
open Go.RowKit
end Go.Proofs.YtilpencbbdpgfaaGreatDoor.ctr
namespace Go.Proofs.YtilpencbbdpgfaaGreatDoor.ctr
open Go.RowKit
end Go.Proofs.YtilpencbbdpgfaaGreatDoor.ctr
namespace Go.Proofs.YtilpencbbdpgfaaGreatDoor.ctr
open Go.RowKit
structure Say where
  whn : Whn
  year : Int
  sol : Int
  cal : Int
end Go.Proofs.YtilpencbbdpgfaaGreatDoor.ctr
