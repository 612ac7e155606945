/- Contract of the program's DateOk: it answers its plain function at every argument, where its table holds its numbers. -/
import Derived.Test.YtoofnjccpoeomaaGreatDoorSolImpl
import Derived.Test.YtoofnjccpoeomaaGreatDoorSolOk
namespace Go.Proofs.YtoofnjccpoeomaaGreatDoor.ctr
open Go.RowKit

/-- A date, as a value. -/
abbrev dateV (c y m d : Int) : Value := .agg #[.int .i64 c, .int .i64 y, .int .i64 m, .int .i64 d]
abbrev dateO (c y m d : Int) : Obj := .cells #[.int .i64 c, .int .i64 y, .int .i64 m, .int .i64 d] 101

set_option maxHeartbeats 1000000 in
theorem implDateOk (c y m d : Int) (w : World) (hT : Tab w) : Calls Tryz.prog 90 #[.agg #[.int .i64 c, .int .i64 y, .int .i64 m, .int .i64 d]] w fun e w' => e = .returned (.bool (dateOk c y m d)) ∧ Below w.heap.size w w' := by
  obtain ⟨W0, hW0⟩ : ∃ W0, W0 = w.alloc (.cells #[.int .i64 c, .int .i64 y, .int .i64 m, .int .i64 d] 101) := ⟨_, rfl⟩
  have c0 : ∀ x : Later W0, x.w.cell? ⟨w.heap.size, 0, none⟩ = some (.int .i64 c) := Later.new hW0 0 rfl
  have c1 : ∀ x : Later W0, x.w.cell? ⟨w.heap.size, 1, none⟩ = some (.int .i64 y) := Later.new hW0 1 rfl
  have c2 : ∀ x : Later W0, x.w.cell? ⟨w.heap.size, 2, none⟩ = some (.int .i64 m) := Later.new hW0 2 rfl
  have c3 : ∀ x : Later W0, x.w.cell? ⟨w.heap.size, 3, none⟩ = some (.int .i64 d) := Later.new hW0 3 rfl
  have HW0 : Hid (W0 = _) := hW0
  have KM : ∀ x : Later W0, Calls Tryz.prog 103 #[.int .i64 c, .int .i64 y, .int .i64 m] x.w fun e w' => e = .returned (.int .i64 (monthDays c y m)) ∧ Below x.w.heap.size x.w w' :=
    fun x => implMonthDays c y m x.w (hT.later (below_of_alloc HW0.out x.below))
  clear hW0 hT
  by_cases h1 : y < 1
  · rw [dateOk_false (fun h => by have := h.2.1; omega)]
    clear KM
    have g1 : decide (1 ≤ y) = false := decide_eq_false (by omega)
    go_enter Tryz.func90, Tryz.ntmps90
    go_wp2
    rw [← HW0.out]
    refine wp_region_later (W := W0) (Below.refl _ _) (by kernel_rfl) (by kernel_rfl) ?_
    repeat (go_big_quiet_step (fail))
    refine wpQuiet_nil ?_
    intro _ hw'
    obtain ⟨x, rfl⟩ := hw'
    go_wp2
    go_ret
    exact ⟨by first | rfl | exact ret_bool (by simp [*]), below_of_alloc HW0.out x.below⟩
  by_cases h2 : 3000 < y
  · rw [dateOk_false (fun h => by have := h.2.2.1; omega)]
    clear KM
    have g1 : decide (1 ≤ y) = true := decide_eq_true (by omega)
    have g2 : decide (y ≤ 3000) = false := decide_eq_false (by omega)
    go_enter Tryz.func90, Tryz.ntmps90
    go_wp2
    rw [← HW0.out]
    refine wp_region_later (W := W0) (Below.refl _ _) (by kernel_rfl) (by kernel_rfl) ?_
    repeat (go_big_quiet_step (fail))
    refine wpQuiet_nil ?_
    intro _ hw'
    obtain ⟨x, rfl⟩ := hw'
    go_wp2
    go_ret
    exact ⟨by first | rfl | exact ret_bool (by simp [*]), below_of_alloc HW0.out x.below⟩
  by_cases h3 : d < 1
  · rw [dateOk_false (fun h => by have := h.2.2.2.1; omega)]
    clear KM
    have g1 : decide (1 ≤ y) = true := decide_eq_true (by omega)
    have g2 : decide (y ≤ 3000) = true := decide_eq_true (by omega)
    have g3 : decide (1 ≤ d) = false := decide_eq_false (by omega)
    go_enter Tryz.func90, Tryz.ntmps90
    go_wp2
    rw [← HW0.out]
    refine wp_region_later (W := W0) (Below.refl _ _) (by kernel_rfl) (by kernel_rfl) ?_
    repeat (go_big_quiet_step (fail))
    refine wpQuiet_nil ?_
    intro _ hw'
    obtain ⟨x, rfl⟩ := hw'
    go_wp2
    go_ret
    exact ⟨by first | rfl | exact ret_bool (by simp [*]), below_of_alloc HW0.out x.below⟩
  have hD : dateOk c y m d = decide (d ≤ monthDays c y m) := by
    by_cases h : d ≤ monthDays c y m
    · have hc : c = 0 ∨ c = 1 := by
        by_cases hc : c = 0 ∨ c = 1
        · exact hc
        · rw [monthDays_no (fun h => hc h.1)] at h
          omega
      rw [dateOk_true ⟨hc, by omega, by omega, by omega, h⟩, decide_eq_true h]
    · rw [dateOk_false (fun k => h k.2.2.2.2), decide_eq_false h]
  rw [hD]
  clear hD
  generalize monthDays c y m = md at *
  have g1 : decide (1 ≤ y) = true := decide_eq_true (by omega)
  have g2 : decide (y ≤ 3000) = true := decide_eq_true (by omega)
  have g3 : decide (1 ≤ d) = true := decide_eq_true (by omega)
  go_enter Tryz.func90, Tryz.ntmps90
  go_wp2
  rw [← HW0.out]
  refine wp_region_later (W := W0) (Below.refl _ _) (by kernel_rfl) (by kernel_rfl) ?_
  repeat (go_big_quiet_step ((go_at_call 103; exact calls_later (KM _))))
  refine wpQuiet_nil ?_
  intro _ hw'
  obtain ⟨x, rfl⟩ := hw'
  go_wp2
  go_ret
  exact ⟨by first | rfl | exact ret_bool (by simp [*]), below_of_alloc HW0.out x.below⟩
end Go.Proofs.YtoofnjccpoeomaaGreatDoor.ctr
