/- Contracts of the model's MonthDays and DateOk: each answers its plain function at every argument. Contract of the model's DateOk: it answers its plain function at every argument. Contract of the program's DateOk: it answers its plain function at every argument, where its table holds its numbers. -/
import Derived.Test.YtilpencbbdpgfaaGreatDoorJnPad
import Derived.Deep.RegionWith
import Derived.Test.YtilpencbbdpgfaaGreatDoorJnPaa
import Derived.Test.YtilpencbbdpgfaaGreatDoorJnPai
namespace Go.Proofs.YtilpencbbdpgfaaGreatDoor.ctr
open Go.RowKit
set_option maxHeartbeats 2000000 in
theorem specMonthDays (c y m : Int) (w : World) : Calls Tryz.prog 121 #[.int .i64 c, .int .i64 y, .int .i64 m] w fun e w' => e = .returned (.int .i64 (monthDays c y m)) ∧ Below w.heap.size w w' := by
  by_cases hc : c = 0 ∨ c = 1
  · have hC : calB c = true := calB_iff.2 hc
    by_cases hm : 1 ≤ m ∧ m ≤ 12
    · have hI : inB m 1 12 = true := inB_true hm.1 hm.2
      by_cases h2 : m = 2
      · subst h2
        by_cases hl : leapP c y
        · rw [monthDays_leap hc hl]
          have hL := leapB_true hl
          clear hl hc hm
          go_enter Tryz.func121, Tryz.ntmps121
          go_wp2_with fail
          refine (specCal _ _).mono ?_
          rintro e w1 ⟨rfl, rfl⟩
          rw [hC]
          go_wp2_with fail
          refine (l01In _ _ _ _).mono ?_
          rintro e w1 ⟨rfl, rfl⟩
          rw [hI]
          go_wp2_with fail
          refine (specLeap _ _ _).mono ?_
          rintro e w1 ⟨rfl, rfl⟩
          rw [hL]
          go_wp2
          go_ret
          exact ⟨rfl, Below.refl _ _⟩
        · have hL := leapB_false hl
          rw [monthDays_plain hc hm.1 hm.2 (fun h => hl h.2)]
          clear hl hc hm
          go_enter Tryz.func121, Tryz.ntmps121
          go_wp2_with fail
          refine (specCal _ _).mono ?_
          rintro e w1 ⟨rfl, rfl⟩
          rw [hC]
          go_wp2_with fail
          refine (l01In _ _ _ _).mono ?_
          rintro e w1 ⟨rfl, rfl⟩
          rw [hI]
          go_wp2_with fail
          refine (specLeap _ _ _).mono ?_
          rintro e w1 ⟨rfl, rfl⟩
          rw [hL]
          go_wp2
          go_ret
          exact ⟨rfl, (Below.refl _ _).alloc (Nat.le_refl _) _⟩
      · rw [monthDays_plain hc hm.1 hm.2 (fun h => h2 h.1)]
        have hm1 := hm.1
        have hm2 := hm.2
        clear hm hc
        rcases month_cases hm1 hm2 with rfl | rfl | rfl | rfl | rfl | rfl | rfl | rfl | rfl | rfl | rfl | rfl
        all_goals first
          | exact absurd rfl h2
          | (clear hm1 hm2 h2
             go_enter Tryz.func121, Tryz.ntmps121
             go_wp2_with fail
             refine (specCal _ _).mono ?_
             rintro e w1 ⟨rfl, rfl⟩
             rw [hC]
             go_wp2_with fail
             refine (l01In _ _ _ _).mono ?_
             rintro e w1 ⟨rfl, rfl⟩
             rw [hI]
             go_wp2
             go_ret
             exact ⟨rfl, (Below.refl _ _).alloc (Nat.le_refl _) _⟩)
    · have hI : inB m 1 12 = false := inB_false (by omega)
      rw [monthDays_no (fun h => hm h.2)]
      go_enter Tryz.func121, Tryz.ntmps121
      go_wp2_with fail
      refine (specCal _ _).mono ?_
      rintro e w1 ⟨rfl, rfl⟩
      rw [hC]
      go_wp2_with fail
      refine (l01In _ _ _ _).mono ?_
      rintro e w1 ⟨rfl, rfl⟩
      rw [hI]
      go_wp2
      go_ret
      exact ⟨rfl, Below.refl _ _⟩
  · have hC : calB c = false := calB_no hc
    rw [monthDays_no (fun h => hc h.1)]
    go_enter Tryz.func121, Tryz.ntmps121
    go_wp2_with fail
    refine (specCal _ _).mono ?_
    rintro e w1 ⟨rfl, rfl⟩
    rw [hC]
    go_wp2
    go_ret
    exact ⟨rfl, Below.refl _ _⟩
end Go.Proofs.YtilpencbbdpgfaaGreatDoor.ctr
namespace Go.Proofs.YtilpencbbdpgfaaGreatDoor.ctr
open Go.RowKit
theorem dateOk_true {c y m d : Int} (h : dateP c y m d) : dateOk c y m d = true := decide_eq_true h
theorem dateOk_false {c y m d : Int} (h : ¬ dateP c y m d) : dateOk c y m d = false := decide_eq_false h
set_option maxHeartbeats 400000 in
theorem specDateOk (c y m d : Int) (w : World) : Calls Tryz.prog 67 #[.agg #[.int .i64 c, .int .i64 y, .int .i64 m, .int .i64 d]] w fun e w' => e = .returned (.bool (dateOk c y m d)) ∧ Below w.heap.size w w' := by
  have hD : dateOk c y m d = (calB c && (inB y 1 3000 && inB d 1 (monthDays c y m))) := by
    by_cases hc : c = 0 ∨ c = 1
    · rw [calB_iff.2 hc]
      by_cases hp : dateP c y m d
      · rw [dateOk_true hp, inB_true hp.2.1 hp.2.2.1, inB_true hp.2.2.2.1 hp.2.2.2.2]; rfl
      · rw [dateOk_false hp]
        by_cases hy : 1 ≤ y ∧ y ≤ 3000
        · rw [inB_true hy.1 hy.2, inB_false (x := d)]; rfl
          by_cases h1 : d < 1
          · exact .inl h1
          · refine .inr ?_
            by_cases h2 : monthDays c y m < d
            · exact h2
            · exact absurd ⟨hc, hy.1, hy.2, by omega, by omega⟩ hp
        · rw [inB_false (x := y) (by omega)]; rfl
    · rw [calB_no hc, dateOk_false (fun h => hc h.1)]; rfl
  rw [hD]
  clear hD
  cases hC : calB c
  · have KC : ∀ W, Calls Tryz.prog 120 #[.int .i64 c] W fun e w' => e = .returned (.bool false) ∧ w' = W := fun W => by rw [← hC]; exact specCal c W
    go_enter Tryz.func67, Tryz.ntmps67
    go_wp2
    go_quiet ((go_at_call 120; exact Calls.quiet_of_same (KC _)))
    go_wp2
    go_ret
    exact ⟨rfl, Below_drewN ((Below.refl _ _).alloc (Nat.le_refl _) _) _⟩
  have KC : ∀ W, Calls Tryz.prog 120 #[.int .i64 c] W fun e w' => e = .returned (.bool true) ∧ w' = W := fun W => by rw [← hC]; exact specCal c W
  cases hY : inB y 1 3000
  · have KY : ∀ W, Calls Tryz.prog 88 #[.int .i64 y, .int .i64 1, .int .i64 3000] W fun e w' => e = .returned (.bool false) ∧ w' = W := fun W => by rw [← hY]; exact l01In y 1 3000 W
    go_enter Tryz.func67, Tryz.ntmps67
    go_wp2
    go_quiet (first | (go_at_call 120; exact Calls.quiet_of_same (KC _)) | (go_at_call 88; exact Calls.quiet_of_same (KY _)))
    go_wp2
    go_ret
    exact ⟨rfl, Below_drewN ((Below.refl _ _).alloc (Nat.le_refl _) _) _⟩
  have KY : ∀ W, Calls Tryz.prog 88 #[.int .i64 y, .int .i64 1, .int .i64 3000] W fun e w' => e = .returned (.bool true) ∧ w' = W := fun W => by rw [← hY]; exact l01In y 1 3000 W
  have W0 : ∃ W0, W0 = w.alloc (.cells #[.int .i64 c, .int .i64 y, .int .i64 m, .int .i64 d] 92) := ⟨_, rfl⟩
  obtain ⟨W0, hW0⟩ := W0
  have c0 : ∀ x : Later W0, x.w.cell? ⟨w.heap.size, 0, none⟩ = some (.int .i64 c) := Later.new hW0 0 rfl
  have c1 : ∀ x : Later W0, x.w.cell? ⟨w.heap.size, 1, none⟩ = some (.int .i64 y) := Later.new hW0 1 rfl
  have c2 : ∀ x : Later W0, x.w.cell? ⟨w.heap.size, 2, none⟩ = some (.int .i64 m) := Later.new hW0 2 rfl
  have c3 : ∀ x : Later W0, x.w.cell? ⟨w.heap.size, 3, none⟩ = some (.int .i64 d) := Later.new hW0 3 rfl
  have HW0 : Hid (W0 = _) := hW0
  clear hW0
  have KM : ∀ W, Calls Tryz.prog 121 #[.int .i64 c, .int .i64 y, .int .i64 m] W fun e w' => e = .returned (.int .i64 (monthDays c y m)) ∧ Below W.heap.size W w' := specMonthDays c y m
  have KD : ∀ W, Calls Tryz.prog 88 #[.int .i64 d, .int .i64 1, .int .i64 (monthDays c y m)] W fun e w' => e = .returned (.bool (inB d 1 (monthDays c y m))) ∧ w' = W := l01In d 1 (monthDays c y m)
  clear hC hY
  generalize inB d 1 (monthDays c y m) = bd at *
  generalize monthDays c y m = md at *
  go_enter Tryz.func67, Tryz.ntmps67
  go_wp2
  rw [← HW0.out]
  refine wp_region_later (W := W0) (Below.refl _ _) (by kernel_rfl) (by kernel_rfl) ?_
  repeat (go_big_quiet_step (first | (go_at_call 120; exact calls_same (KC _)) | (go_at_call_of 88 y; exact calls_same (KY _)) | (go_at_call_of 88 d; exact calls_same (KD _)) | (go_at_call 121; exact calls_later (KM _))))
  refine wpQuiet_nil ?_
  intro _ hw'
  obtain ⟨x, rfl⟩ := hw'
  go_wp2
  go_ret
  exact ⟨rfl, below_of_alloc HW0.out x.below⟩
end Go.Proofs.YtilpencbbdpgfaaGreatDoor.ctr
namespace Go.Proofs.YtilpencbbdpgfaaGreatDoor.ctr
open Go.RowKit
set_option maxHeartbeats 1000000 in
theorem implDateOk (c y m d : Int) (w : World) (hT : Tab w) : Calls Tryz.prog 190 #[.agg #[.int .i64 c, .int .i64 y, .int .i64 m, .int .i64 d]] w fun e w' => e = .returned (.bool (dateOk c y m d)) ∧ Below w.heap.size w w' := by
  obtain ⟨W0, hW0⟩ : ∃ W0, W0 = w.alloc (.cells #[.int .i64 c, .int .i64 y, .int .i64 m, .int .i64 d] 92) := ⟨_, rfl⟩
  have c0 : ∀ x : Later W0, x.w.cell? ⟨w.heap.size, 0, none⟩ = some (.int .i64 c) := Later.new hW0 0 rfl
  have c1 : ∀ x : Later W0, x.w.cell? ⟨w.heap.size, 1, none⟩ = some (.int .i64 y) := Later.new hW0 1 rfl
  have c2 : ∀ x : Later W0, x.w.cell? ⟨w.heap.size, 2, none⟩ = some (.int .i64 m) := Later.new hW0 2 rfl
  have c3 : ∀ x : Later W0, x.w.cell? ⟨w.heap.size, 3, none⟩ = some (.int .i64 d) := Later.new hW0 3 rfl
  have HW0 : Hid (W0 = _) := hW0
  have KM : ∀ x : Later W0, Calls Tryz.prog 178 #[.int .i64 c, .int .i64 y, .int .i64 m] x.w fun e w' => e = .returned (.int .i64 (monthDays c y m)) ∧ Below x.w.heap.size x.w w' :=
    fun x => implMonthDays c y m x.w (hT.later (below_of_alloc HW0.out x.below))
  clear hW0 hT
  by_cases h1 : y < 1
  · rw [dateOk_false (fun h => by have := h.2.1; omega)]
    clear KM
    have g1 : decide (1 ≤ y) = false := decide_eq_false (by omega)
    go_enter Tryz.func190, Tryz.ntmps190
    go_wp2
    rw [← HW0.out]
    refine wp_region_later (W := W0) (Below.refl _ _) (by kernel_rfl) (by kernel_rfl) ?_
    repeat (go_big_quiet_step (fail))
    refine wpQuiet_nil ?_
    intro _ hw'
    obtain ⟨x, rfl⟩ := hw'
    go_wp2
    go_ret
    exact ⟨by first | rfl | exact ret_bool (by simp [*]), below_of_alloc HW0.out x.below⟩
  by_cases h2 : 3000 < y
  · rw [dateOk_false (fun h => by have := h.2.2.1; omega)]
    clear KM
    have g1 : decide (1 ≤ y) = true := decide_eq_true (by omega)
    have g2 : decide (y ≤ 3000) = false := decide_eq_false (by omega)
    go_enter Tryz.func190, Tryz.ntmps190
    go_wp2
    rw [← HW0.out]
    refine wp_region_later (W := W0) (Below.refl _ _) (by kernel_rfl) (by kernel_rfl) ?_
    repeat (go_big_quiet_step (fail))
    refine wpQuiet_nil ?_
    intro _ hw'
    obtain ⟨x, rfl⟩ := hw'
    go_wp2
    go_ret
    exact ⟨by first | rfl | exact ret_bool (by simp [*]), below_of_alloc HW0.out x.below⟩
  by_cases h3 : d < 1
  · rw [dateOk_false (fun h => by have := h.2.2.2.1; omega)]
    clear KM
    have g1 : decide (1 ≤ y) = true := decide_eq_true (by omega)
    have g2 : decide (y ≤ 3000) = true := decide_eq_true (by omega)
    have g3 : decide (1 ≤ d) = false := decide_eq_false (by omega)
    go_enter Tryz.func190, Tryz.ntmps190
    go_wp2
    rw [← HW0.out]
    refine wp_region_later (W := W0) (Below.refl _ _) (by kernel_rfl) (by kernel_rfl) ?_
    repeat (go_big_quiet_step (fail))
    refine wpQuiet_nil ?_
    intro _ hw'
    obtain ⟨x, rfl⟩ := hw'
    go_wp2
    go_ret
    exact ⟨by first | rfl | exact ret_bool (by simp [*]), below_of_alloc HW0.out x.below⟩
  have hD : dateOk c y m d = decide (d ≤ monthDays c y m) := by
    by_cases h : d ≤ monthDays c y m
    · have hc : c = 0 ∨ c = 1 := by
        by_cases hc : c = 0 ∨ c = 1
        · exact hc
        · rw [monthDays_no (fun h => hc h.1)] at h
          omega
      rw [dateOk_true ⟨hc, by omega, by omega, by omega, h⟩, decide_eq_true h]
    · rw [dateOk_false (fun k => h k.2.2.2.2), decide_eq_false h]
  rw [hD]
  clear hD
  generalize monthDays c y m = md at *
  have g1 : decide (1 ≤ y) = true := decide_eq_true (by omega)
  have g2 : decide (y ≤ 3000) = true := decide_eq_true (by omega)
  have g3 : decide (1 ≤ d) = true := decide_eq_true (by omega)
  go_enter Tryz.func190, Tryz.ntmps190
  go_wp2
  rw [← HW0.out]
  refine wp_region_later (W := W0) (Below.refl _ _) (by kernel_rfl) (by kernel_rfl) ?_
  repeat (go_big_quiet_step ((go_at_call 178; exact calls_later (KM _))))
  refine wpQuiet_nil ?_
  intro _ hw'
  obtain ⟨x, rfl⟩ := hw'
  go_wp2
  go_ret
  exact ⟨by first | rfl | exact ret_bool (by simp [*]), below_of_alloc HW0.out x.below⟩
end Go.Proofs.YtilpencbbdpgfaaGreatDoor.ctr
