/- Plain laws of days counted back, of no program: nones and ides, a date's count, the one date of a year that has a count. Contracts of both Nones and Ides, and of the program's markDay, monthBehind, monthAhead: each answers its plain function and writes nothing. A scope that is left by a goto ahead; a date's box with a result's box behind it; regions that draw their order and end in a store. Contract of the model's RomanOf: it answers its plain function. -/
import Derived.Test.YtilpencbbdpgfaaGreatDoorJnQac
import Derived.Test.YtilpencbbdpgfaaGreatDoorJnQaa
import Derived.Test.YtilpencbbdpgfaaGreatDoorJnQai
import Derived.Test.YtilpencbbdpgfaaGreatDoorJnQal
import Derived.ScopeJumps
import Derived.WalkMore
import Derived.Deep.DeepCutAuto
namespace Go.Proofs.YtilpencbbdpgfaaGreatDoor.ctr
open Go.RowKit
def nones (m : Int) : Int := if 1 ≤ m ∧ m ≤ 12 then (if m = 3 ∨ m = 5 ∨ m = 7 ∨ m = 10 then 7 else 5) else 0
def ides (m : Int) : Int := if 1 ≤ m ∧ m ≤ 12 then nones m + 8 else 0
structure Rom where
  count : Int
  mark : Int
  month : Int
  twice : Bool
instance : DecidableEq Rom := fun a b =>
  if h : a.count = b.count ∧ a.mark = b.mark ∧ a.month = b.month ∧ a.twice = b.twice then .isTrue (by cases a; cases b; simp at h; simp [h]) else .isFalse (fun e => h (by subst e; exact ⟨rfl, rfl, rfl, rfl⟩))
def countDays (c y m d : Int) : Int := if m = 2 ∧ d ≤ 24 then 28 else monthDays c y m
def romanIn (c y m d : Int) : Rom :=
  if d = 1 then ⟨1, 0, m, false⟩
  else if d ≤ nones m then ⟨nones m - d + 1, 1, m, false⟩
  else if d ≤ ides m then ⟨ides m - d + 1, 2, m, false⟩
  else ⟨countDays c y m d - d + 2, 0, m % 12 + 1, decide (m = 2 ∧ d = 24 ∧ leapP c y)⟩
def romanOf (c y m d : Int) : Rom := if dateP c y m d then romanIn c y m d else ⟨0, 0, 0, false⟩
def monAhead (m : Int) : Int := if m = 1 then 12 else m - 1
def invM (r : Rom) : Int := if r.mark = 0 ∧ r.count ≠ 1 then monAhead r.month else r.month
def invD (c y : Int) (r : Rom) : Int :=
  if r.mark = 0 then
    if r.count = 1 then 1
    else if monAhead r.month = 2 ∧ leapP c y ∧ (6 < r.count ∨ r.twice = true) then 30 - r.count
    else monthDays c y (monAhead r.month) + 2 - r.count
  else if r.mark = 1 then nones r.month + 1 - r.count
  else ides r.month + 1 - r.count
def isDay (c y : Int) (r : Rom) (m d : Int) : Prop := dateP c y m d ∧ romanOf c y m d = r
def dayR (c y : Int) (r : Rom) : Bool := decide (dateP c y (invM r) (invD c y r) ∧ romanOf c y (invM r) (invD c y r) = r)
instance (c y : Int) (r : Rom) (m d : Int) : Decidable (isDay c y r m d) := by unfold isDay; infer_instance
def dayOfRoman (c y : Int) (r : Rom) : Int × Int × Int × Int := if dayR c y r = true then (c, y, invM r, invD c y r) else (0, 0, 0, 0)
end Go.Proofs.YtilpencbbdpgfaaGreatDoor.ctr
namespace Go.Proofs.YtilpencbbdpgfaaGreatDoor.ctr
open Go.RowKit
end Go.Proofs.YtilpencbbdpgfaaGreatDoor.ctr
namespace Go.Proofs.YtilpencbbdpgfaaGreatDoor.ctr
open Go.RowKit
theorem box_size (W : World) (o : Obj) : (W.alloc o).heap.size = W.heap.size + 1 := by simp [World.alloc, -World.alloc_eq]
theorem two_box (w : World) (us vs : Array Value) (s t : TypeId) : ∃ W0, W0 = (w.alloc (.cells us s)).alloc (.cells vs t) ∧ (∀ x : Later W0, Blk x.w w.heap.size us s) ∧ (∀ x : Later W0, Blk x.w (w.heap.size + 1) vs t) ∧ (∀ x : Later W0, Below w.heap.size w x.w) := by
  refine ⟨_, rfl, fun x => ((Blk.new w us s).alloc _).later x, fun x => ?_, fun x => ?_⟩
  · have h := Blk.new (w.alloc (.cells us s)) vs t
    rw [box_size] at h
    exact h.later x
  · exact below_alloc (below_alloc x.below)
end Go.Proofs.YtilpencbbdpgfaaGreatDoor.ctr
namespace Go.Proofs.YtilpencbbdpgfaaGreatDoor.ctr
open Go.RowKit
end Go.Proofs.YtilpencbbdpgfaaGreatDoor.ctr
