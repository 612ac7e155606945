/- Contract of the program's DateOk: it answers its plain function at every argument, where its table holds its numbers. -/
import Derived.Test.YtkinapfoigibcaaGreatDoorSolImpl
import Derived.Test.YtkinapfoigibcaaGreatDoorSolOk
namespace Go.Proofs.YtkinapfoigibcaaGreatDoor.ctr
open Go.RowKit

/-- A date, as a value. -/
abbrev dateV (c y m d : Int) : Value := .agg #[.int .i64 c, .int .i64 y, .int .i64 m, .int .i64 d]
abbrev dateO (c y m d : Int) : Obj := .cells #[.int .i64 c, .int .i64 y, .int .i64 m, .int .i64 d] 104

end Go.Proofs.YtkinapfoigibcaaGreatDoor.ctr
