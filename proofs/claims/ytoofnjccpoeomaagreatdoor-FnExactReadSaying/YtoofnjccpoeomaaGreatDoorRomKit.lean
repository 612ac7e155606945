/- A scope that is left by a goto ahead; a date's box with a result's box behind it; regions that draw their order and end in a store. -/
import Derived.Test.YtoofnjccpoeomaaGreatDoorRomSmall
import Derived.Test.YtoofnjccpoeomaaGreatDoorSolOkImpl
import Derived.Test.YtoofnjccpoeomaaGreatDoorBlkKit
import Derived.Test.YtoofnjccpoeomaaGreatDoorRegSplit
import Derived.ScopeJumps
import Derived.WalkMore
namespace Go.Proofs.YtoofnjccpoeomaaGreatDoor.ctr
open Go.RowKit

/-- A scope whose one goto jumps ahead, to a label behind which none comes. -/
theorem wp_scope_fwd {P : Program} {Q : Exit → Act → World → Prop} {a : Act} {w : World} {c rest : Code} (l : Nat) (hf : findLabel c l = some rest) (first : c.wp P (Exit.jump l (fun a w => rest.wp P (Exit.noGoto Q) a w) Q) a w) : (Code.scope c).wp P Q a w :=
  wp_scope_jumps l (fun a w => rest.wp P (Exit.noGoto Q) a w) (fun _ _ => 0) hf first fun a w h => wp_mono h fun e a w hq => by
    cases e with
    | goto l' => exact hq.elim
    | normal => exact hq
    | exit id => exact hq
    | ret => exact hq
    | panic ch => exact hq
    | outgrown => exact hq
theorem jump_ret {l : Nat} {J : Act → World → Prop} {Q : Exit → Act → World → Prop} {a : Act} {w : World} (h : Q .ret a w) : Exit.jump l J Q .ret a w := h
theorem jump_goto {l : Nat} {J : Act → World → Prop} {Q : Exit → Act → World → Prop} {a : Act} {w : World} (h : J a w) : Exit.jump l J Q (.goto l) a w := ⟨rfl, h⟩

/-- A day counted back, as a value. -/
abbrev romV (r : Rom) : Value := .agg #[.int .i64 r.count, .int .i64 r.mark, .int .i64 r.month, .bool r.twice]
abbrev romZ : Array Value := #[.int .i64 0, .int .i64 0, .int .i64 0, .bool false]
abbrev romO (a b c : Int) (t : Bool) : Obj := .cells #[.int .i64 a, .int .i64 b, .int .i64 c, .bool t] 28
theorem date_box (w : World) (c y m d : Int) : ∃ W0, W0 = w.alloc (dateO c y m d) ∧ (∀ x : Later W0, x.w.cell? ⟨w.heap.size, 0, none⟩ = some (.int .i64 c)) ∧ (∀ x : Later W0, x.w.cell? ⟨w.heap.size, 1, none⟩ = some (.int .i64 y)) ∧ (∀ x : Later W0, x.w.cell? ⟨w.heap.size, 2, none⟩ = some (.int .i64 m)) ∧ (∀ x : Later W0, x.w.cell? ⟨w.heap.size, 3, none⟩ = some (.int .i64 d)) ∧ (∀ x : Later W0, Below w.heap.size w x.w) :=
  ⟨_, rfl, Later.new rfl 0 rfl, Later.new rfl 1 rfl, Later.new rfl 2 rfl, Later.new rfl 3 rfl, fun x => below_of_alloc rfl x.below⟩
theorem rom_box (w : World) (a b c : Int) (t : Bool) : ∃ W0, W0 = w.alloc (romO a b c t) ∧ (∀ x : Later W0, x.w.cell? ⟨w.heap.size, 0, none⟩ = some (.int .i64 a)) ∧ (∀ x : Later W0, x.w.cell? ⟨w.heap.size, 1, none⟩ = some (.int .i64 b)) ∧ (∀ x : Later W0, x.w.cell? ⟨w.heap.size, 2, none⟩ = some (.int .i64 c)) ∧ (∀ x : Later W0, x.w.cell? ⟨w.heap.size, 3, none⟩ = some (.bool t)) ∧ (∀ x : Later W0, Below w.heap.size w x.w) :=
  ⟨_, rfl, Later.new rfl 0 rfl, Later.new rfl 1 rfl, Later.new rfl 2 rfl, Later.new rfl 3 rfl, fun x => below_of_alloc rfl x.below⟩
theorem box_size (W : World) (o : Obj) : (W.alloc o).heap.size = W.heap.size + 1 := by simp [World.alloc, -World.alloc_eq]
/-- A box and a second one behind it. -/
theorem two_box (w : World) (us vs : Array Value) (s t : TypeId) : ∃ W0, W0 = (w.alloc (.cells us s)).alloc (.cells vs t) ∧ (∀ x : Later W0, Blk x.w w.heap.size us s) ∧ (∀ x : Later W0, Blk x.w (w.heap.size + 1) vs t) ∧ (∀ x : Later W0, Below w.heap.size w x.w) := by
  refine ⟨_, rfl, fun x => ((Blk.new w us s).alloc _).later x, fun x => ?_, fun x => ?_⟩
  · have h := Blk.new (w.alloc (.cells us s)) vs t
    rw [box_size] at h
    exact h.later x
  · exact below_alloc (below_alloc x.below)
/-- Four cells stored one after the other. -/
def put4 (W : World) (b : Nat) (v0 v1 v2 v3 : Value) : World := (((W.setCell ⟨b, 0, none⟩ v0).setCell ⟨b, 1, none⟩ v1).setCell ⟨b, 2, none⟩ v2).setCell ⟨b, 3, none⟩ v3
theorem put4_blk {W : World} {b : Nat} {u0 u1 u2 u3 v0 v1 v2 v3 : Value} {t : TypeId} (h : Blk W b #[u0, u1, u2, u3] t) : Blk (put4 W b v0 v1 v2 v3) b #[v0, v1, v2, v3] t := (((h.set 0 v0).set 1 v1).set 2 v2).set 3 v3
theorem put4_below {w W : World} {n b : Nat} {v0 v1 v2 v3 : Value} (h : Below n w W) (hb : n ≤ b) : Below n w (put4 W b v0 v1 v2 v3) := (((h.setCell (p := ⟨b, 0, none⟩) hb v0).setCell (p := ⟨b, 1, none⟩) hb v1).setCell (p := ⟨b, 2, none⟩) hb v2).setCell (p := ⟨b, 3, none⟩) hb v3
theorem put4_eq (W : World) (b : Nat) (v0 v1 v2 v3 : Value) : (((W.setCell ⟨b, 0, none⟩ v0).setCell ⟨b, 1, none⟩ v1).setCell ⟨b, 2, none⟩ v2).setCell ⟨b, 3, none⟩ v3 = put4 W b v0 v1 v2 v3 := rfl

set_option maxHeartbeats 1000000 in
theorem implIsTwice (c y m d : Int) (w : World) : Calls Tryz.prog 127 #[.agg #[.int .i64 c, .int .i64 y, .int .i64 m, .int .i64 d]] w fun e w' => e = .returned (.bool (decide (m = 2 ∧ d = 24 ∧ leapP c y))) ∧ Below w.heap.size w w' := by
  obtain ⟨W0, hW0, c0, c1, c2, c3, hBl⟩ := date_box w c y m d
  have HW0 := hideP hW0
  have HBl := hideP hBl
  obtain ⟨x0, hx0⟩ := Later.of (Below.refl W0.heap.size W0)
  have KL : ∀ W, Calls Tryz.prog 122 #[.int .i64 c, .int .i64 y] W fun e w' => e = .returned (.bool (leapB c y)) ∧ Below W.heap.size W w' := implLeap c y
  have k0 := c0 x0
  have k1 := c1 x0
  have k2 := c2 x0
  have k3 := c3 x0
  have HX0 := hideP hx0
  rw [← hx0] at k0 k1 k2 k3
  clear hW0 hBl hx0 c0 c1 c2 c3
  by_cases h1 : m = 2
  case neg =>
    have hm : (m == 2) = false := by simp [h1]
    rw [show decide (m = 2 ∧ d = 24 ∧ leapP c y) = false from by simp [h1]]
    clear KL
    go_enter Tryz.func127, Tryz.ntmps127
    go_wp2_with fail
    rw [← HW0.out]
    go_wp2
    go_ret
    rw [HX0.out]
    exact ⟨rfl, HBl.out x0⟩
  have hm : (m == 2) = true := by simp [h1]
  by_cases h2 : d = 24
  case neg =>
    have hd : (d == 24) = false := by simp [h2]
    rw [show decide (m = 2 ∧ d = 24 ∧ leapP c y) = false from by simp [h2]]
    clear KL h1
    go_enter Tryz.func127, Tryz.ntmps127
    go_wp2_with fail
    rw [← HW0.out]
    go_wp2
    go_ret
    rw [HX0.out]
    exact ⟨rfl, HBl.out x0⟩
  have hd : (d == 24) = true := by simp [h2]
  rw [show decide (m = 2 ∧ d = 24 ∧ leapP c y) = leapB c y from by simp [h1, h2, leapB]]
  clear h1 h2
  generalize leapB c y = lb at *
  go_enter Tryz.func127, Tryz.ntmps127
  go_wp2_with fail
  rw [← HW0.out]
  go_wp2_with fail
  refine (KL _).mono ?_
  rintro e w1 ⟨rfl, hb⟩
  obtain ⟨x1, rfl⟩ := Later.of hb
  clear hb
  go_wp2
  go_ret
  exact ⟨rfl, HBl.out x1⟩
end Go.Proofs.YtoofnjccpoeomaaGreatDoor.ctr
