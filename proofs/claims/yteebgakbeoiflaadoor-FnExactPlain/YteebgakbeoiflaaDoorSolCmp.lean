/- Contracts of Apart and CompareDates, the model's and the program's. -/
import Derived.Test.YteebgakbeoiflaaDoorSolDay
namespace Go.Proofs.YteebgakbeoiflaaDoor.ctr
open Go.RowKit

theorem two_a {w W0 : World} {cs : Array Value} {t : TypeId} {o : Obj} (e : W0 = (w.alloc (.cells cs t)).alloc o) (i : Nat) {v : Value} (h : cs[i]? = some v) (x : Later W0) : x.w.cell? ⟨w.heap.size, i, none⟩ = some v :=
  Later.new rfl i h ⟨x.w, below_of_alloc e x.below⟩
theorem two_b {w W0 : World} {cs : Array Value} {t : TypeId} {o : Obj} (e : W0 = (w.alloc o).alloc (.cells cs t)) (i : Nat) {v : Value} (h : cs[i]? = some v) (x : Later W0) : x.w.cell? ⟨w.heap.size + 1, i, none⟩ = some v := by
  have := Later.new e i h x
  rwa [World.size_alloc] at this
theorem two_below {w w1 W0 : World} {o o' : Obj} (e : W0 = (w.alloc o).alloc o') (h : Below W0.heap.size W0 w1) : Below w.heap.size w w1 := below_alloc (below_of_alloc e h)

def apart (y m d : Int) : Int := if dateP 0 y m d ∧ dateP 1 y m d then dayOf 0 y m d - dayOf 1 y m d else 0
theorem apart_no {y m d : Int} (h : ¬ (dateP 0 y m d ∧ dateP 1 y m d)) : apart y m d = 0 := by unfold apart; rw [if_neg h]
def cmpI (x y : Int) : Int := if x < y then -1 else if x = y then 0 else 1
def compareD (a b c d a' b' c' d' : Int) : Int := if dateP a b c d ∧ dateP a' b' c' d' then cmpI (dayOf a b c d) (dayOf a' b' c' d') else 0
theorem compare_no {a b c d a' b' c' d' : Int} (h : ¬ (dateP a b c d ∧ dateP a' b' c' d')) : compareD a b c d a' b' c' d' = 0 := by unfold compareD; rw [if_neg h]

end Go.Proofs.YteebgakbeoiflaaDoor.ctr
