/- Contract of the laws' toDate: the same four numbers. -/
import Derived.Test.YteejnegimmmpkaaDoorSolDay
namespace Go.Proofs.YteejnegimmmpkaaDoor.ctr
open Go.RowKit

theorem toDate (a b c d : Int) (w : World) : Calls Tryd.prog 31 #[.agg #[.int .i64 a, .int .i64 b, .int .i64 c, .int .i64 d]] w fun e w' => e = .returned (.agg #[.int .i64 a, .int .i64 b, .int .i64 c, .int .i64 d]) ∧ Below w.heap.size w w' := by
  go_enter Tryd.func31, Tryd.ntmps31
  go_wp2
  go_returns
  refine ⟨rfl, ?_⟩
  go_grown
end Go.Proofs.YteejnegimmmpkaaDoor.ctr
