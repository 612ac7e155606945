/- Contracts of the kinds' own methods: whether a reading or a date is one of theirs. -/
import Derived.Test.YtilpencbbdpgfaaGreatDoorJnQbj
import Derived.Test.YtilpencbbdpgfaaGreatDoorJnQbc
import Derived.Test.YtilpencbbdpgfaaGreatDoorJnQbb
import Derived.Test.YtilpencbbdpgfaaGreatDoorFeaDayCtrQ
import Derived.Test.YtilpencbbdpgfaaGreatDoorJnQat
import Derived.Test.YtilpencbbdpgfaaGreatDoorJnQau
import Derived.Laws.StructEq
import Derived.KernelRfl
namespace Go.Proofs.YtilpencbbdpgfaaGreatDoor.ctr
open Go.RowKit
def romEq (p q : Rom) : Bool := p.count == q.count && (p.mark == q.mark && (p.month == q.month && p.twice == q.twice))
@[go_sem] theorem eqRomB (a b c : Int) (t : Bool) (a' b' c' : Int) (t' : Bool) (w : World) : (Op.equalIn 10000 55 (.agg #[.int .i64 a, .int .i64 b, .int .i64 c, .bool t]) (.agg #[.int .i64 a', .int .i64 b', .int .i64 c', .bool t'])).run Tryz.prog w = .ok (romEq ⟨a, b, c, t⟩ ⟨a', b', c', t'⟩) w := by
  unfold romEq
  cases hA : (a == a') <;> cases hB : (b == b') <;> cases hC : (c == c') <;> cases hD : (t == t')
  all_goals first | (go_simp; done) | (go_simp; simp [hA, hB, hC, hD])
end Go.Proofs.YtilpencbbdpgfaaGreatDoor.ctr
