/- Contracts of the model's draws for FnEaster: l03Two and the eight draws upon it: each call returns numbers, and nothing that was there turns. -/
import Derived.Test.YtchhdoipkimbgaaGreatDoorWeekDrawM
namespace Go.Proofs.YtchhdoipkimbgaaGreatDoor.ctr
open Go.RowKit

def calsIn : List Int := [0, 1, 0, 1, 0, 1, 0, 1, 2, -1]
def oddYears : List Int := [0, 3001, -5, 9223372036854775807]
def stepsIn : List Int := [0, 1, 19, 60, -1, 1000]
end Go.Proofs.YtchhdoipkimbgaaGreatDoor.ctr
