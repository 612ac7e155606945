/- The walk of the law FnExactMoves: at every three ints it returns true, and nothing that was there turns, where the table of months holds its numbers. -/
import Derived.Test.YtckjcaloofjeoaaDoorMovCtr
namespace Go.Proofs.YtckjcaloofjeoaaDoor.ctr
open Go.RowKit

theorem moves_len (c a b : Int) : (moves c a b).length ≤ 36 := by
  unfold moves
  split
  · rw [cnt_len]; exact Nat.le_refl _
  · simp
end Go.Proofs.YtckjcaloofjeoaaDoor.ctr
