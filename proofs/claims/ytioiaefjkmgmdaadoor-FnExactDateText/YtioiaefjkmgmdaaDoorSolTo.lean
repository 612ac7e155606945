/- Contract of the laws' toDate: the same four numbers. -/
import Derived.Test.YtioiaefjkmgmdaaDoorSolDay
namespace Go.Proofs.YtioiaefjkmgmdaaDoor.ctr
open Go.RowKit

theorem toDate (a b c d : Int) (w : World) : Calls Tryd.prog 7 #[.agg #[.int .i64 a, .int .i64 b, .int .i64 c, .int .i64 d]] w fun e w' => e = .returned (.agg #[.int .i64 a, .int .i64 b, .int .i64 c, .int .i64 d]) ∧ Below w.heap.size w w' := by
  go_enter Tryd.func7, Tryd.ntmps7
  go_wp2
  go_returns
  refine ⟨rfl, ?_⟩
  go_grown
end Go.Proofs.YtioiaefjkmgmdaaDoor.ctr
