/- Contracts of SolarYears of both sides: each answers, in a row of its own, the years of 1 January in which a month's day of a year of a style stands; nothing that was there turns. -/
import Derived.Test.YtcdcniniafejbaaDoorStyFun
import Derived.Test.YtcdcniniafejbaaDoorIntKit
namespace Go.Proofs.YtcdcniniafejbaaDoor.ctr
open Go.RowKit

theorem ibase {w : World} {base e size : Nat} {v : Value} {n : Nat} {xs : List Value} (h : w.ownsRow base e size v n xs) : ∀ k, v.ownBlock = some k → base ≤ k := by
  intro k hk
  rcases h.2 with ⟨rfl, _⟩ | ⟨g, cap, cur, rfl, hb, _⟩
  · cases hk
  · have : k = g := by simpa [Value.ownBlock] using hk.symm
    omega
theorem inew (W : World) (o : Obj) : (W.alloc o).heap.size = W.heap.size + 1 := by simp [World.alloc, -World.alloc_eq]
theorem iown_empty (w : World) (e : TypeId) : (w.alloc (.cells #[] e)).ownsRow w.heap.size e 1 (.slice (some ⟨w.heap.size, 0, none⟩) 0 0) 0 [] :=
  ⟨rfl, .inr ⟨w.heap.size, 0, #[], rfl, Nat.le_refl _, by simp [World.alloc, -World.alloc_eq], Nat.le_refl _, Nat.zero_le _, rfl, rfl⟩⟩
theorem iown_later {w w' : World} {base e size : Nat} {v : Value} {n : Nat} {xs : List Value} (h : w.ownsRow base e size v n xs) (hb : Below w.heap.size w w') : w'.ownsRow base e size v n xs :=
  h.kept (row := none) ⟨hb.os, hb.tape, hb.output, hb.size, fun k hk _ => hb.block k hk⟩ (Classical.em _)
/-- The state of a loop that puts ints together: they lie in a row of their own. -/
structure ISt (w : World) (o : Value) (xs : List Int) (W : World) : Prop where
  row : W.ownsRow w.heap.size 3 1 o xs.length (xs.map (Value.int .i64))
  below : Below w.heap.size w W
theorem ISt.later {w : World} {o : Value} {xs : List Int} {W W' : World} (h : ISt w o xs W) (hb : Below W.heap.size W W') : ISt w o xs W' := ⟨iown_later h.row hb, h.below.trans (hb.mono h.below.size)⟩
theorem ISt.app {w : World} {o o' : Value} {xs : List Int} {W W' : World} {ob : Obj} (h : ISt w o xs W) (z : Int) (hr : W'.ownsRow w.heap.size 3 1 o' (xs.length + 1) (xs.map (Value.int .i64) ++ [.int .i64 z])) (hg : (W.alloc ob).grownBy W' o.ownBlock) : ISt w o' (xs ++ [z]) W' := by
  refine ⟨?_, (h.below.alloc h.below.size ob).grown hg (by have := h.below.size; rw [inew]; omega) (ibase h.row)⟩
  rw [List.length_append, List.map_append]
  exact hr
theorem ISt.nil (w : World) : ISt w (.slice none 0 0) [] w := ⟨World.ownsRow_nil _ _ _ _, Below.refl _ _⟩

/-- The first k of the three years that are told. -/
def solTo (c s y m d : Int) (k : Nat) : List Int := ([y - 1, y, y + 1].take k).filter (solB c s y m d)
theorem solTo_all (c s y m d : Int) : solTo c s y m d 3 = solarYears c s y m d := rfl
theorem solTo_len (c s y m d : Int) (k : Nat) (h : k ≤ 3) : (solTo c s y m d k).length ≤ 3 := by
  unfold solTo
  refine Nat.le_trans (List.length_filter_le _ _) ?_
  simp
  omega
theorem solTo_step (c s y m d : Int) (k : Nat) (h : k < 3) : solTo c s y m d (k + 1) = solTo c s y m d k ++ (if solB c s y m d (y - 1 + k) = true then [y - 1 + k] else []) := by
  have : k = 0 ∨ k = 1 ∨ k = 2 := by omega
  rcases this with rfl | rfl | rfl
  · unfold solTo
    rw [show y - 1 + ((0 : Nat) : Int) = y - 1 by simp]
    by_cases h : solB c s y m d (y - 1) = true <;> simp [List.filter, h]
  · unfold solTo
    rw [show y - 1 + ((1 : Nat) : Int) = y by omega]
    by_cases h0 : solB c s y m d (y - 1) = true <;> by_cases h : solB c s y m d y = true <;> simp [h, h0]
  · unfold solTo
    rw [show y - 1 + ((2 : Nat) : Int) = y + 1 by omega]
    by_cases h0 : solB c s y m d (y - 1) = true <;> by_cases h1 : solB c s y m d y = true <;> by_cases h : solB c s y m d (y + 1) = true <;> simp [h, h0, h1]
theorem solTo_hit {c s y m d : Int} {k : Nat} (h : k < 3) (hb : solB c s y m d (y - 1 + k) = true) : solTo c s y m d (k + 1) = solTo c s y m d k ++ [y - 1 + k] := by rw [solTo_step c s y m d k h, if_pos hb]
theorem solTo_miss {c s y m d : Int} {k : Nat} (h : k < 3) (hb : solB c s y m d (y - 1 + k) = false) : solTo c s y m d (k + 1) = solTo c s y m d k := by rw [solTo_step c s y m d k h, if_neg (by rw [hb]; simp)]; simp
theorem sol_date {c s y m d z : Int} (h : ¬ dateP c z m d) : solB c s y m d z = false := decide_eq_false (fun k => h k.2.2.1)
theorem sol_year {c s y m d z : Int} (h : ¬ (yearP c y ∧ styleP s)) : solB c s y m d z = false := decide_eq_false (fun k => h ⟨k.1, k.2.1⟩)
theorem sol_inB {c s y m d z : Int} (hy : yearP c y) (hs : styleP s) (h : dateP c z m d) : solB c s y m d z = inB (lineD c z m d) (start c s y) (start c s (y + 1) - 1) := by
  unfold solB
  by_cases k : solP c s y m d z
  · rw [decide_eq_true k, inB_true k.2.2.2.1 (by have := k.2.2.2.2; omega)]
  · rw [decide_eq_false k]
    symm
    apply inB_false
    by_cases a : lineD c z m d < start c s y
    · exact .inl a
    · right
      by_cases b : start c s (y + 1) - 1 < lineD c z m d
      · exact b
      · exact absurd ⟨hy, hs, h, by omega, by omega⟩ k
theorem sol_in {c s y m d z : Int} (h : dateP c z m d) : inYearB c s y (dayOf c z m d) = solB c s y m d z := by
  unfold inYearB solB
  have k := sol_iff (s := s) (y := y) h
  generalize styYear c s (dayOf c z m d) = p at *
  obtain ⟨a, b⟩ := p
  cases b
  · have e : ¬ solP c s y m d z := fun g => by have := k.2 g; simp at this
    rw [decide_eq_false e]
    rfl
  · simp only [Bool.true_and]
    congr 1
    apply propext
    rw [← k]
    simp

end Go.Proofs.YtcdcniniafejbaaDoor.ctr
