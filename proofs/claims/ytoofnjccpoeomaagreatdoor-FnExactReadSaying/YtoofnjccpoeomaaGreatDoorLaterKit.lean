/- Worlds that come behind a world W: nothing of W's own blocks has turned, new ones may have come ('Later W'). A region that draws its order, each of whose operations yields one value in every such world and leaves such a world, is walked once, in the order of the text. -/
import Derived.Test.YtoofnjccpoeomaaGreatDoorBase
import Derived.Deep.QuietTactic
import Derived.BigQuiet
import Derived.Handy
namespace Go.Proofs.YtoofnjccpoeomaaGreatDoor.ctr
open Go.RowKit

theorem hideP {p : Prop} (h : p) : Hid p := h
structure Later (W : World) where
  w : World
  below : Below W.heap.size W w
instance (W : World) : Nonempty (Later W) := ⟨⟨W, Below.refl _ _⟩⟩
theorem Later.of {W w' : World} (h : Below W.heap.size W w') : ∃ x : Later W, w' = x.w := ⟨⟨w', h⟩, rfl⟩
theorem Later.on {W w' : World} (x : Later W) (h : Below x.w.heap.size x.w w') : Below W.heap.size W w' := x.below.trans (h.mono x.below.size)
theorem Later.next {W w' : World} (x : Later W) (h : Below x.w.heap.size x.w w') : ∃ y : Later W, w' = y.w := ⟨⟨w', x.on h⟩, rfl⟩
theorem Later.cell {W : World} (x : Later W) {p : Addr} (hp : p.block < W.heap.size) : x.w.cell? p = W.cell? p := x.below.cell hp
/-- A cell that is there stays as it is. -/
theorem Later.at {W : World} {p : Addr} {v : Value} (h : W.cell? p = some v) (x : Later W) : x.w.cell? p = some v := by
  have hp : p.block < W.heap.size := by
    unfold World.cell? at h
    by_cases hp : p.block < W.heap.size
    · exact hp
    · rw [Array.getElem?_eq_none (by omega)] at h
      simp at h
  rw [x.cell hp, h]
theorem calls_later {P : Program} {f : FuncId} {args : Array Value} {W : World} {x : Later W} {v : Value}
    (h : Calls P f args x.w fun e w' => e = .returned v ∧ Below x.w.heap.size x.w w') : Calls P f args x.w fun e w'' => e = .returned v ∧ ∃ y : Later W, w'' = y.w :=
  h.mono fun _ _ ⟨he, hm⟩ => ⟨he, x.next hm⟩
theorem calls_same {P : Program} {f : FuncId} {args : Array Value} {W : World} {x : Later W} {v : Value}
    (h : Calls P f args x.w fun e w' => e = .returned v ∧ w' = x.w) : Calls P f args x.w fun e w'' => e = .returned v ∧ ∃ y : Later W, w'' = y.w :=
  h.mono fun _ _ ⟨he, hm⟩ => ⟨he, x, hm⟩
theorem wp_region_later {P : Program} {id : Nat} {Q : Exit → Act → World → Prop} {a : Act} {W w : World} {l : List Oper} (hw : Below W.heap.size W w) (hm : P.follows .mixedOrders = true) (hB : Region.lexB .any l.toArray = true)
    (h : wpQuiet P l.toArray (fun w' => ∃ x : Later W, w' = x.w) (fun a' => ∀ w', (∃ x : Later W, w' = x.w) → Q .normal a' w') l a) : (Code.region id l.toArray true).wp P Q a w :=
  wp_region_quiet (C := fun w' => ∃ x : Later W, w' = x.w) hm hB (Later.of hw.drew) (by simpa using h)
theorem Below_drewN {B : Nat} {a w : World} (h : Below B a w) (n : Nat) : Below B a (w.drewN n) := ⟨h.os, h.tape, h.output, h.size, h.block⟩
theorem below_alloc {w w1 : World} {o : Obj} (h : Below (w.alloc o).heap.size (w.alloc o) w1) : Below w.heap.size w w1 :=
  ((Below.refl w.heap.size w).alloc (Nat.le_refl _) o).trans (h.mono (by rw [World.size_alloc]; omega))
theorem below_of_alloc {w w1 W0 : World} {o : Obj} (e : W0 = w.alloc o) (h : Below W0.heap.size W0 w1) : Below w.heap.size w w1 := by
  subst e
  exact below_alloc h
/-- The cells of a block that has just come stay. -/
theorem Later.new {w W0 : World} {cs : Array Value} {t : TypeId} (e : W0 = w.alloc (.cells cs t)) (i : Nat) {v : Value} (h : cs[i]? = some v) (x : Later W0) : x.w.cell? ⟨w.heap.size, i, none⟩ = some v :=
  Later.at (by rw [e, World.cell?_alloc_at _ _ _ _ rfl]; exact h) x
end Go.Proofs.YtoofnjccpoeomaaGreatDoor.ctr
