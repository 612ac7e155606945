/- Contracts of both FindFeast: the first feast's number that has the name, -1 for none. What a When is, and what is right; contracts of the program's kindOf, WhenOk and of what they call, and of the model's WhenOk. -/
import Derived.Test.YtilpencbbdpgfaaGreatDoorJnQbg
import Derived.Test.YtilpencbbdpgfaaGreatDoorJnQbf
namespace Go.Proofs.YtilpencbbdpgfaaGreatDoor.ctr
open Go.RowKit
end Go.Proofs.YtilpencbbdpgfaaGreatDoor.ctr
namespace Go.Proofs.YtilpencbbdpgfaaGreatDoor.ctr
open Go.RowKit
structure Whn where
  kind : Int
  mon : Int
  day : Int
  rom : Rom
  feast : ByteArray
  plus : Int
def feaOf (s : ByteArray) : Fea := if findFeast s < 0 then fea0 else feaAt (findFeast s).toNat
end Go.Proofs.YtilpencbbdpgfaaGreatDoor.ctr
