/- Contract of the laws' eqDate at two dates alike: true. -/
import Derived.Test.YteebgakbeoiflaaDoorSolCmp
namespace Go.Proofs.YteebgakbeoiflaaDoor.ctr
open Go.RowKit

theorem eqDateSame (a b c d : Int) (w : World) : Calls Tryd.prog 8 #[.agg #[.int .i64 a, .int .i64 b, .int .i64 c, .int .i64 d], .agg #[.int .i64 a, .int .i64 b, .int .i64 c, .int .i64 d]] w fun e w' => e = .returned (.bool true) ∧ Below w.heap.size w w' := by
  obtain ⟨W0, hW0⟩ : ∃ W0, W0 = (w.alloc (.cells #[.int .i64 a, .int .i64 b, .int .i64 c, .int .i64 d] 25)).alloc (.cells #[.int .i64 a, .int .i64 b, .int .i64 c, .int .i64 d] 25) := ⟨_, rfl⟩
  have c0 : ∀ x : Later W0, x.w.cell? ⟨w.heap.size, 0, none⟩ = some (.int .i64 a) := two_a hW0 0 rfl
  have c1 : ∀ x : Later W0, x.w.cell? ⟨w.heap.size, 1, none⟩ = some (.int .i64 b) := two_a hW0 1 rfl
  have c2 : ∀ x : Later W0, x.w.cell? ⟨w.heap.size, 2, none⟩ = some (.int .i64 c) := two_a hW0 2 rfl
  have c3 : ∀ x : Later W0, x.w.cell? ⟨w.heap.size, 3, none⟩ = some (.int .i64 d) := two_a hW0 3 rfl
  have g0 : ∀ x : Later W0, x.w.cell? ⟨w.heap.size + 1, 0, none⟩ = some (.int .i64 a) := two_b hW0 0 rfl
  have g1 : ∀ x : Later W0, x.w.cell? ⟨w.heap.size + 1, 1, none⟩ = some (.int .i64 b) := two_b hW0 1 rfl
  have g2 : ∀ x : Later W0, x.w.cell? ⟨w.heap.size + 1, 2, none⟩ = some (.int .i64 c) := two_b hW0 2 rfl
  have g3 : ∀ x : Later W0, x.w.cell? ⟨w.heap.size + 1, 3, none⟩ = some (.int .i64 d) := two_b hW0 3 rfl
  have HW0 : Hid (W0 = _) := hW0
  clear hW0
  go_enter Tryd.func8, Tryd.ntmps8
  go_wp2_with fail
  rw [← HW0.out]
  go_ret
  exact ⟨rfl, two_below HW0.out (Below.refl _ _)⟩
end Go.Proofs.YteebgakbeoiflaaDoor.ctr
