/- Contract of the model's DateOk: it answers its plain function at every argument. Contract of the program's DateOk: it answers its plain function at every argument, where its table holds its numbers. Contracts of the days ahead of a month: the model's l02Before, DayInYear; the program's daysUpTo, DayInYear: each answers its plain function. Contracts of a year's first day and of a date's day: the model's l02First, l02Day, DayOf; the program's yearEve, lineDay, DayOf. -/
import Derived.Test.YtilpencbbdpgfaaGreatDoorJnQah
import Derived.Test.YtilpencbbdpgfaaGreatDoorJnQaa
namespace Go.Proofs.YtilpencbbdpgfaaGreatDoor.ctr
open Go.RowKit
theorem dateOk_true {c y m d : Int} (h : dateP c y m d) : dateOk c y m d = true := decide_eq_true h
theorem dateOk_false {c y m d : Int} (h : ¬ dateP c y m d) : dateOk c y m d = false := decide_eq_false h
set_option maxHeartbeats 400000 in
theorem specDateOk (c y m d : Int) (w : World) : Calls Tryz.prog 67 #[.agg #[.int .i64 c, .int .i64 y, .int .i64 m, .int .i64 d]] w fun e w' => e = .returned (.bool (dateOk c y m d)) ∧ Below w.heap.size w w' := by
  have hD : dateOk c y m d = (calB c && (inB y 1 3000 && inB d 1 (monthDays c y m))) := by
    by_cases hc : c = 0 ∨ c = 1
    · rw [calB_iff.2 hc]
      by_cases hp : dateP c y m d
      · rw [dateOk_true hp, inB_true hp.2.1 hp.2.2.1, inB_true hp.2.2.2.1 hp.2.2.2.2]; rfl
      · rw [dateOk_false hp]
        by_cases hy : 1 ≤ y ∧ y ≤ 3000
        · rw [inB_true hy.1 hy.2, inB_false (x := d)]; rfl
          by_cases h1 : d < 1
          · exact .inl h1
          · refine .inr ?_
            by_cases h2 : monthDays c y m < d
            · exact h2
            · exact absurd ⟨hc, hy.1, hy.2, by omega, by omega⟩ hp
        · rw [inB_false (x := y) (by omega)]; rfl
    · rw [calB_no hc, dateOk_false (fun h => hc h.1)]; rfl
  rw [hD]
  clear hD
  cases hC : calB c
  · have KC : ∀ W, Calls Tryz.prog 120 #[.int .i64 c] W fun e w' => e = .returned (.bool false) ∧ w' = W := fun W => by rw [← hC]; exact specCal c W
    go_enter Tryz.func67, Tryz.ntmps67
    go_wp2
    go_quiet ((go_at_call 120; exact Calls.quiet_of_same (KC _)))
    go_wp2
    go_ret
    exact ⟨rfl, Below_drewN ((Below.refl _ _).alloc (Nat.le_refl _) _) _⟩
  have KC : ∀ W, Calls Tryz.prog 120 #[.int .i64 c] W fun e w' => e = .returned (.bool true) ∧ w' = W := fun W => by rw [← hC]; exact specCal c W
  cases hY : inB y 1 3000
  · have KY : ∀ W, Calls Tryz.prog 88 #[.int .i64 y, .int .i64 1, .int .i64 3000] W fun e w' => e = .returned (.bool false) ∧ w' = W := fun W => by rw [← hY]; exact l01In y 1 3000 W
    go_enter Tryz.func67, Tryz.ntmps67
    go_wp2
    go_quiet (first | (go_at_call 120; exact Calls.quiet_of_same (KC _)) | (go_at_call 88; exact Calls.quiet_of_same (KY _)))
    go_wp2
    go_ret
    exact ⟨rfl, Below_drewN ((Below.refl _ _).alloc (Nat.le_refl _) _) _⟩
  have KY : ∀ W, Calls Tryz.prog 88 #[.int .i64 y, .int .i64 1, .int .i64 3000] W fun e w' => e = .returned (.bool true) ∧ w' = W := fun W => by rw [← hY]; exact l01In y 1 3000 W
  have W0 : ∃ W0, W0 = w.alloc (.cells #[.int .i64 c, .int .i64 y, .int .i64 m, .int .i64 d] 92) := ⟨_, rfl⟩
  obtain ⟨W0, hW0⟩ := W0
  have c0 : ∀ x : Later W0, x.w.cell? ⟨w.heap.size, 0, none⟩ = some (.int .i64 c) := Later.new hW0 0 rfl
  have c1 : ∀ x : Later W0, x.w.cell? ⟨w.heap.size, 1, none⟩ = some (.int .i64 y) := Later.new hW0 1 rfl
  have c2 : ∀ x : Later W0, x.w.cell? ⟨w.heap.size, 2, none⟩ = some (.int .i64 m) := Later.new hW0 2 rfl
  have c3 : ∀ x : Later W0, x.w.cell? ⟨w.heap.size, 3, none⟩ = some (.int .i64 d) := Later.new hW0 3 rfl
  have HW0 : Hid (W0 = _) := hW0
  clear hW0
  have KM : ∀ W, Calls Tryz.prog 121 #[.int .i64 c, .int .i64 y, .int .i64 m] W fun e w' => e = .returned (.int .i64 (monthDays c y m)) ∧ Below W.heap.size W w' := specMonthDays c y m
  have KD : ∀ W, Calls Tryz.prog 88 #[.int .i64 d, .int .i64 1, .int .i64 (monthDays c y m)] W fun e w' => e = .returned (.bool (inB d 1 (monthDays c y m))) ∧ w' = W := l01In d 1 (monthDays c y m)
  clear hC hY
  generalize inB d 1 (monthDays c y m) = bd at *
  generalize monthDays c y m = md at *
  go_enter Tryz.func67, Tryz.ntmps67
  go_wp2
  rw [← HW0.out]
  refine wp_region_later (W := W0) (Below.refl _ _) (by kernel_rfl) (by kernel_rfl) ?_
  repeat (go_big_quiet_step (first | (go_at_call 120; exact calls_same (KC _)) | (go_at_call_of 88 y; exact calls_same (KY _)) | (go_at_call_of 88 d; exact calls_same (KD _)) | (go_at_call 121; exact calls_later (KM _))))
  refine wpQuiet_nil ?_
  intro _ hw'
  obtain ⟨x, rfl⟩ := hw'
  go_wp2
  go_ret
  exact ⟨rfl, below_of_alloc HW0.out x.below⟩
end Go.Proofs.YtilpencbbdpgfaaGreatDoor.ctr
namespace Go.Proofs.YtilpencbbdpgfaaGreatDoor.ctr
open Go.RowKit
set_option maxHeartbeats 1000000 in
theorem implDateOk (c y m d : Int) (w : World) (hT : Tab w) : Calls Tryz.prog 190 #[.agg #[.int .i64 c, .int .i64 y, .int .i64 m, .int .i64 d]] w fun e w' => e = .returned (.bool (dateOk c y m d)) ∧ Below w.heap.size w w' := by
  obtain ⟨W0, hW0⟩ : ∃ W0, W0 = w.alloc (.cells #[.int .i64 c, .int .i64 y, .int .i64 m, .int .i64 d] 92) := ⟨_, rfl⟩
  have c0 : ∀ x : Later W0, x.w.cell? ⟨w.heap.size, 0, none⟩ = some (.int .i64 c) := Later.new hW0 0 rfl
  have c1 : ∀ x : Later W0, x.w.cell? ⟨w.heap.size, 1, none⟩ = some (.int .i64 y) := Later.new hW0 1 rfl
  have c2 : ∀ x : Later W0, x.w.cell? ⟨w.heap.size, 2, none⟩ = some (.int .i64 m) := Later.new hW0 2 rfl
  have c3 : ∀ x : Later W0, x.w.cell? ⟨w.heap.size, 3, none⟩ = some (.int .i64 d) := Later.new hW0 3 rfl
  have HW0 : Hid (W0 = _) := hW0
  have KM : ∀ x : Later W0, Calls Tryz.prog 178 #[.int .i64 c, .int .i64 y, .int .i64 m] x.w fun e w' => e = .returned (.int .i64 (monthDays c y m)) ∧ Below x.w.heap.size x.w w' :=
    fun x => implMonthDays c y m x.w (hT.later (below_of_alloc HW0.out x.below))
  clear hW0 hT
  by_cases h1 : y < 1
  · rw [dateOk_false (fun h => by have := h.2.1; omega)]
    clear KM
    have g1 : decide (1 ≤ y) = false := decide_eq_false (by omega)
    go_enter Tryz.func190, Tryz.ntmps190
    go_wp2
    rw [← HW0.out]
    refine wp_region_later (W := W0) (Below.refl _ _) (by kernel_rfl) (by kernel_rfl) ?_
    repeat (go_big_quiet_step (fail))
    refine wpQuiet_nil ?_
    intro _ hw'
    obtain ⟨x, rfl⟩ := hw'
    go_wp2
    go_ret
    exact ⟨by first | rfl | exact ret_bool (by simp [*]), below_of_alloc HW0.out x.below⟩
  by_cases h2 : 3000 < y
  · rw [dateOk_false (fun h => by have := h.2.2.1; omega)]
    clear KM
    have g1 : decide (1 ≤ y) = true := decide_eq_true (by omega)
    have g2 : decide (y ≤ 3000) = false := decide_eq_false (by omega)
    go_enter Tryz.func190, Tryz.ntmps190
    go_wp2
    rw [← HW0.out]
    refine wp_region_later (W := W0) (Below.refl _ _) (by kernel_rfl) (by kernel_rfl) ?_
    repeat (go_big_quiet_step (fail))
    refine wpQuiet_nil ?_
    intro _ hw'
    obtain ⟨x, rfl⟩ := hw'
    go_wp2
    go_ret
    exact ⟨by first | rfl | exact ret_bool (by simp [*]), below_of_alloc HW0.out x.below⟩
  by_cases h3 : d < 1
  · rw [dateOk_false (fun h => by have := h.2.2.2.1; omega)]
    clear KM
    have g1 : decide (1 ≤ y) = true := decide_eq_true (by omega)
    have g2 : decide (y ≤ 3000) = true := decide_eq_true (by omega)
    have g3 : decide (1 ≤ d) = false := decide_eq_false (by omega)
    go_enter Tryz.func190, Tryz.ntmps190
    go_wp2
    rw [← HW0.out]
    refine wp_region_later (W := W0) (Below.refl _ _) (by kernel_rfl) (by kernel_rfl) ?_
    repeat (go_big_quiet_step (fail))
    refine wpQuiet_nil ?_
    intro _ hw'
    obtain ⟨x, rfl⟩ := hw'
    go_wp2
    go_ret
    exact ⟨by first | rfl | exact ret_bool (by simp [*]), below_of_alloc HW0.out x.below⟩
  have hD : dateOk c y m d = decide (d ≤ monthDays c y m) := by
    by_cases h : d ≤ monthDays c y m
    · have hc : c = 0 ∨ c = 1 := by
        by_cases hc : c = 0 ∨ c = 1
        · exact hc
        · rw [monthDays_no (fun h => hc h.1)] at h
          omega
      rw [dateOk_true ⟨hc, by omega, by omega, by omega, h⟩, decide_eq_true h]
    · rw [dateOk_false (fun k => h k.2.2.2.2), decide_eq_false h]
  rw [hD]
  clear hD
  generalize monthDays c y m = md at *
  have g1 : decide (1 ≤ y) = true := decide_eq_true (by omega)
  have g2 : decide (y ≤ 3000) = true := decide_eq_true (by omega)
  have g3 : decide (1 ≤ d) = true := decide_eq_true (by omega)
  go_enter Tryz.func190, Tryz.ntmps190
  go_wp2
  rw [← HW0.out]
  refine wp_region_later (W := W0) (Below.refl _ _) (by kernel_rfl) (by kernel_rfl) ?_
  repeat (go_big_quiet_step ((go_at_call 178; exact calls_later (KM _))))
  refine wpQuiet_nil ?_
  intro _ hw'
  obtain ⟨x, rfl⟩ := hw'
  go_wp2
  go_ret
  exact ⟨by first | rfl | exact ret_bool (by simp [*]), below_of_alloc HW0.out x.below⟩
end Go.Proofs.YtilpencbbdpgfaaGreatDoor.ctr
namespace Go.Proofs.YtilpencbbdpgfaaGreatDoor.ctr
open Go.RowKit
theorem before_next (c y : Int) (k : Nat) : before c y (k + 1) = before c y k + monthDays c y ((k : Int) + 1) := by
  simp [before]
set_option maxHeartbeats 400000 in
theorem specBefore (c y m : Int) (w : World) (hm : m ≤ 13) : Calls Tryz.prog 183 #[.int .i64 c, .int .i64 y, .int .i64 m] w fun e w' => e = .returned (.int .i64 (before c y (m - 1).toNat)) ∧ Below w.heap.size w w' := by
  obtain ⟨R, hR⟩ : ∃ R, R = before c y (m - 1).toNat := ⟨_, rfl⟩
  rw [← hR]
  have HR := hideP hR
  clear hR
  go_enter Tryz.func183, Tryz.ntmps183
  go_wp2
  go_loopw [7, 8] (fun n i wr => ∃ k : Nat, (k = 0 ∨ (k : Int) + 1 ≤ m) ∧ i = .int .i64 ((k : Int) + 1) ∧ n = .int .i64 (before c y k) ∧ Below w.heap.size w wr) (fun _ i _ => 14 - (intOf i).toNat)
  case atStart => exact ⟨0, by omega, rfl, rfl, Below.refl _ _⟩
  case round =>
    obtain ⟨k, hk, rfl, rfl, hb⟩ := hrel
    have h1 := before_bound c y k
    have h2 := monthDays_le c y ((k : Int) + 1)
    have HN := hideP (before_next c y k)
    have KM : ∀ W, Calls Tryz.prog 121 #[.int .i64 c, .int .i64 y, .int .i64 ((k : Int) + 1)] W fun e w' => e = .returned (.int .i64 (monthDays c y ((k : Int) + 1))) ∧ Below W.heap.size W w' := specMonthDays c y _
    generalize monthDays c y ((k : Int) + 1) = md at *
    by_cases hlt : (k : Int) + 1 < m
    · go_wp2_with (go_at_call 121; refine (KM _).mono ?_; rintro e w' ⟨rfl, hb'⟩)
      exact ⟨⟨k + 1, by omega, by go_num, by first | (rw [HN.out]; done) | (rw [HN.out]; go_num), hb.trans (hb'.mono hb.size)⟩, by simp [intOf]; omega⟩
    · have HK : Hid ((m - 1).toNat = k) := by unfold Hid; omega
      go_wp2_with fail
      go_ret
      exact ⟨ret_int (by rw [HR.out, HK.out]), hb⟩
set_option maxHeartbeats 400000 in
theorem implUpTo (c y m d : Int) (w : World) (hT : Tab w) (hm1 : 1 ≤ m) (hm2 : m ≤ 13) (hd1 : -100 ≤ d) (hd2 : d ≤ 1000) : Calls Tryz.prog 251 #[.agg #[.int .i64 c, .int .i64 y, .int .i64 m, .int .i64 d]] w fun e w' => e = .returned (.int .i64 (before c y (m - 1).toNat + d)) ∧ Below w.heap.size w w' := by
  obtain ⟨W0, hW0⟩ : ∃ W0, W0 = w.alloc (.cells #[.int .i64 c, .int .i64 y, .int .i64 m, .int .i64 d] 92) := ⟨_, rfl⟩
  have c0 : ∀ x : Later W0, x.w.cell? ⟨w.heap.size, 0, none⟩ = some (.int .i64 c) := Later.new hW0 0 rfl
  have c1 : ∀ x : Later W0, x.w.cell? ⟨w.heap.size, 1, none⟩ = some (.int .i64 y) := Later.new hW0 1 rfl
  have c2 : ∀ x : Later W0, x.w.cell? ⟨w.heap.size, 2, none⟩ = some (.int .i64 m) := Later.new hW0 2 rfl
  have c3 : ∀ x : Later W0, x.w.cell? ⟨w.heap.size, 3, none⟩ = some (.int .i64 d) := Later.new hW0 3 rfl
  have HW0 : Hid (W0 = _) := hW0
  have HT : Hid (∀ x : Later W0, Tab x.w) := fun x => hT.later (below_of_alloc HW0.out x.below)
  clear hW0 hT
  obtain ⟨R, hR⟩ : ∃ R, R = before c y (m - 1).toNat + d := ⟨_, rfl⟩
  rw [← hR]
  have HD := hideP hR
  clear hR
  obtain ⟨x0, e0⟩ : ∃ x : Later W0, W0 = x.w := ⟨⟨W0, Below.refl _ _⟩, rfl⟩
  have E0 := hideP e0
  clear e0
  go_enter Tryz.func251, Tryz.ntmps251
  go_wp2_with fail
  go_loopw [3, 4] (fun n i wr => ∃ (k : Nat) (x : Later W0), (k : Int) + 1 ≤ m ∧ i = .int .i64 ((k : Int) + 1) ∧ n = .int .i64 (before c y k + d) ∧ wr = x.w) (fun _ i _ => 14 - (intOf i).toNat)
  case atStart => exact ⟨0, x0, by omega, rfl, by simp [before], by rw [← HW0.out]; exact E0.out⟩
  case round =>
    obtain ⟨k, x, hk, rfl, rfl, rfl⟩ := hrel
    have h1 := before_bound c y k
    have h2 := monthDays_le c y ((k : Int) + 1)
    have HN := hideP (before_next c y k)
    have KM : Calls Tryz.prog 178 #[.int .i64 c, .int .i64 y, .int .i64 ((k : Int) + 1)] x.w fun e w' => e = .returned (.int .i64 (monthDays c y ((k : Int) + 1))) ∧ Below x.w.heap.size x.w w' := implMonthDays c y _ _ (HT.out x)
    generalize monthDays c y ((k : Int) + 1) = md at *
    by_cases hlt : (k : Int) + 1 < m
    · go_wp2_with (go_at_call 178; refine KM.mono ?_; rintro e w' ⟨rfl, hb'⟩; obtain ⟨x', rfl⟩ := x.next hb')
      exact ⟨⟨k + 1, x', by omega, by go_num, by first | (rw [HN.out]; done) | (rw [HN.out]; go_num), rfl⟩, by simp [intOf]; omega⟩
    · have HK : Hid ((m - 1).toNat = k) := by unfold Hid; omega
      go_wp2_with fail
      go_ret
      exact ⟨ret_int (by rw [HD.out, HK.out]), below_of_alloc HW0.out x.below⟩
end Go.Proofs.YtilpencbbdpgfaaGreatDoor.ctr
namespace Go.Proofs.YtilpencbbdpgfaaGreatDoor.ctr
open Go.RowKit
set_option maxHeartbeats 400000 in
theorem specFirst (c y : Int) (w : World) (hc : c = 0 ∨ c = 1) (hy1 : -5 ≤ y) (hy2 : y ≤ 4000) : Calls Tryz.prog 170 #[.int .i64 c, .int .i64 y] w fun e w' => e = .returned (.int .i64 (first c y)) ∧ w' = w := by
  have K4 : ∀ W, Calls Tryz.prog 232 #[.int .i64 (y - 1), .int .i64 4] W fun e w' => e = .returned (.int .i64 ((y - 1) / 4)) ∧ w' = W := fun W => by rw [← floorDiv_small (by omega) (by omega) (by omega)]; exact specFloorDiv _ _ W
  have K100 : ∀ W, Calls Tryz.prog 232 #[.int .i64 (y - 1), .int .i64 100] W fun e w' => e = .returned (.int .i64 ((y - 1) / 100)) ∧ w' = W := fun W => by rw [← floorDiv_small (by omega) (by omega) (by omega)]; exact specFloorDiv _ _ W
  have K400 : ∀ W, Calls Tryz.prog 232 #[.int .i64 (y - 1), .int .i64 400] W fun e w' => e = .returned (.int .i64 ((y - 1) / 400)) ∧ w' = W := fun W => by rw [← floorDiv_small (by omega) (by omega) (by omega)]; exact specFloorDiv _ _ W
  have b4 : -2 ≤ (y - 1) / 4 ∧ (y - 1) / 4 ≤ 1000 := by omega
  have b100 : -2 ≤ (y - 1) / 100 ∧ (y - 1) / 100 ≤ 1000 := by omega
  have b400 : -2 ≤ (y - 1) / 400 ∧ (y - 1) / 400 ≤ 1000 := by omega
  obtain ⟨R, hR⟩ : ∃ R, R = first c y := ⟨_, rfl⟩
  rw [← hR]
  rcases hc with rfl | rfl
  · rw [first_jul] at hR
    have HR := hideP hR
    clear hR K100 K400 b100 b400
    generalize (y - 1) / 4 = q4 at *
    go_enter Tryz.func170, Tryz.ntmps170
    go_wp2_with (go_at_call 232; refine (K4 _).mono ?_; rintro e w1 ⟨rfl, rfl⟩)
    go_ret
    exact ⟨ret_int (by rw [HR.out]), rfl⟩
  · rw [first_gre] at hR
    have HR := hideP hR
    clear hR
    generalize (y - 1) / 4 = q4 at *
    generalize (y - 1) / 100 = q100 at *
    generalize (y - 1) / 400 = q400 at *
    go_enter Tryz.func170, Tryz.ntmps170
    go_wp2_with (first | (go_at_call_of 232 (4 : Int); refine (K4 _).mono ?_; rintro e w1 ⟨rfl, rfl⟩) | (go_at_call_of 232 (100 : Int); refine (K100 _).mono ?_; rintro e w1 ⟨rfl, rfl⟩) | (go_at_call_of 232 (400 : Int); refine (K400 _).mono ?_; rintro e w1 ⟨rfl, rfl⟩))
    go_ret
    exact ⟨ret_int (by rw [HR.out]), rfl⟩
set_option maxHeartbeats 400000 in
theorem specDay (c y m d : Int) (w : World) (hc : c = 0 ∨ c = 1) (hy1 : -5 ≤ y) (hy2 : y ≤ 4000) (hm : m ≤ 13) (hd1 : -100 ≤ d) (hd2 : d ≤ 1000) : Calls Tryz.prog 119 #[.int .i64 c, .int .i64 y, .int .i64 m, .int .i64 d] w fun e w' => e = .returned (.int .i64 (first c y + before c y (m - 1).toNat + d - 1)) ∧ Below w.heap.size w w' := by
  have KF : ∀ W, Calls Tryz.prog 170 #[.int .i64 c, .int .i64 y] W fun e w' => e = .returned (.int .i64 (first c y)) ∧ w' = W := fun W => specFirst c y W hc hy1 hy2
  have KB : ∀ W, Calls Tryz.prog 183 #[.int .i64 c, .int .i64 y, .int .i64 m] W fun e w' => e = .returned (.int .i64 (before c y (m - 1).toNat)) ∧ Below W.heap.size W w' := fun W => specBefore c y m W hm
  have b1 := first_bound hc hy1 hy2
  have b2 := before_bound c y (m - 1).toNat
  have b3 : before c y (m - 1).toNat ≤ 372 := by omega
  have b4 := b2.1
  clear b2
  generalize first c y = F at *
  generalize before c y (m - 1).toNat = B at *
  go_enter Tryz.func119, Tryz.ntmps119
  go_wp2_with (first | (go_at_call 170; refine (KF _).mono ?_; rintro e w1 ⟨rfl, rfl⟩) | (go_at_call 183; refine (KB _).mono ?_; rintro e w1 ⟨rfl, hb⟩))
  go_ret
  exact ⟨rfl, hb⟩
set_option maxHeartbeats 400000 in
theorem specDayOf (c y m d : Int) (w : World) : Calls Tryz.prog 66 #[.agg #[.int .i64 c, .int .i64 y, .int .i64 m, .int .i64 d]] w fun e w' => e = .returned (.int .i64 (dayOf c y m d)) ∧ Below w.heap.size w w' := by
  obtain ⟨W0, hW0⟩ : ∃ W0, W0 = w.alloc (.cells #[.int .i64 c, .int .i64 y, .int .i64 m, .int .i64 d] 92) := ⟨_, rfl⟩
  have c0 : ∀ x : Later W0, x.w.cell? ⟨w.heap.size, 0, none⟩ = some (.int .i64 c) := Later.new hW0 0 rfl
  have c1 : ∀ x : Later W0, x.w.cell? ⟨w.heap.size, 1, none⟩ = some (.int .i64 y) := Later.new hW0 1 rfl
  have c2 : ∀ x : Later W0, x.w.cell? ⟨w.heap.size, 2, none⟩ = some (.int .i64 m) := Later.new hW0 2 rfl
  have c3 : ∀ x : Later W0, x.w.cell? ⟨w.heap.size, 3, none⟩ = some (.int .i64 d) := Later.new hW0 3 rfl
  have HW0 : Hid (W0 = _) := hW0
  have K0 : Calls Tryz.prog 67 #[.agg #[.int .i64 c, .int .i64 y, .int .i64 m, .int .i64 d]] W0 fun e w' => e = .returned (.bool (dateOk c y m d)) ∧ Below W0.heap.size W0 w' := specDateOk c y m d W0
  clear hW0
  by_cases hp : dateP c y m d
  · rw [dateOk_true hp] at K0
    have hm := dateP_month hp
    have hd := dateP_day hp
    have KD : ∀ W, Calls Tryz.prog 119 #[.int .i64 c, .int .i64 y, .int .i64 m, .int .i64 d] W fun e w' => e = .returned (.int .i64 (dayOf c y m d)) ∧ Below W.heap.size W w' := fun W => by
      unfold dayOf
      rw [if_pos hp]
      exact specDay c y m d W hp.1 (by have := hp.2.1; omega) (by have := hp.2.2.1; omega) (by omega) (by omega) (by omega)
    clear hp
    generalize dayOf c y m d = R at *
    go_enter Tryz.func66, Tryz.ntmps66
    go_wp2_with (go_at_call 67; rw [← HW0.out]; refine K0.mono ?_; rintro e w1 ⟨rfl, hb⟩; obtain ⟨x0, rfl⟩ := Later.of hb)
    first
      | (refine wp_region_later (W := W0) x0.below (by kernel_rfl) (by kernel_rfl) ?_
         repeat (go_big_quiet_step ((go_at_call 119; exact calls_later (KD _))))
         refine wpQuiet_nil ?_
         intro _ hw'
         obtain ⟨x, rfl⟩ := hw'
         go_wp2
         go_ret
         exact ⟨rfl, below_of_alloc HW0.out x.below⟩)
      | (refine (KD _).mono ?_
         rintro e w1 ⟨rfl, hb1⟩
         go_wp2
         go_ret
         exact ⟨rfl, below_of_alloc HW0.out (x0.on hb1)⟩)
  · rw [dateOk_false hp] at K0
    have HD : Hid (dayOf c y m d = 0) := by unfold Hid dayOf; rw [if_neg hp]
    clear hp
    go_enter Tryz.func66, Tryz.ntmps66
    go_wp2_with (go_at_call 67; rw [← HW0.out]; refine K0.mono ?_; rintro e w1 ⟨rfl, hb⟩)
    go_ret
    exact ⟨ret_int HD.out.symm, below_of_alloc HW0.out hb⟩
set_option maxHeartbeats 400000 in
theorem implEve (c y : Int) (w : World) (hc : c = 0 ∨ c = 1) (hy1 : -5 ≤ y) (hy2 : y ≤ 4000) : Calls Tryz.prog 176 #[.iface (calT c) (.agg #[]), .int .i64 y] w fun e w' => e = .returned (.int .i64 (first c y - 1)) ∧ w' = w := by
  have K4 : ∀ W, Calls Tryz.prog 235 #[.int .i64 (y - 1), .int .i64 4] W fun e w' => e = .returned (.int .i64 ((y - 1) / 4)) ∧ w' = W := fun W => by rw [← floorDiv_small (by omega) (by omega) (by omega)]; exact implFloorDiv _ _ W
  have K100 : ∀ W, Calls Tryz.prog 235 #[.int .i64 (y - 1), .int .i64 100] W fun e w' => e = .returned (.int .i64 ((y - 1) / 100)) ∧ w' = W := fun W => by rw [← floorDiv_small (by omega) (by omega) (by omega)]; exact implFloorDiv _ _ W
  have K400 : ∀ W, Calls Tryz.prog 235 #[.int .i64 (y - 1), .int .i64 400] W fun e w' => e = .returned (.int .i64 ((y - 1) / 400)) ∧ w' = W := fun W => by rw [← floorDiv_small (by omega) (by omega) (by omega)]; exact implFloorDiv _ _ W
  have b4 : -2 ≤ (y - 1) / 4 ∧ (y - 1) / 4 ≤ 1000 := by omega
  have b100 : -2 ≤ (y - 1) / 100 ∧ (y - 1) / 100 ≤ 1000 := by omega
  have b400 : -2 ≤ (y - 1) / 400 ∧ (y - 1) / 400 ≤ 1000 := by omega
  obtain ⟨R, hR⟩ : ∃ R, R = first c y - 1 := ⟨_, rfl⟩
  rw [← hR]
  rcases hc with rfl | rfl
  · rw [first_jul] at hR
    have HR := hideP hR
    clear hR K100 K400 b100 b400
    generalize (y - 1) / 4 = q4 at *
    have q1 := isJulJul
    rw [show calT 0 = 232 from rfl]
    go_enter Tryz.func176, Tryz.ntmps176
    go_wp2_with (go_at_call 235; refine (K4 _).mono ?_; rintro e w1 ⟨rfl, rfl⟩)
    go_ret
    exact ⟨ret_int (by rw [HR.out]; omega), rfl⟩
  · rw [first_gre] at hR
    have HR := hideP hR
    clear hR
    generalize (y - 1) / 4 = q4 at *
    generalize (y - 1) / 100 = q100 at *
    generalize (y - 1) / 400 = q400 at *
    have q1 := isJulGre
    have q2 := isGreGre
    rw [show calT 1 = 233 from rfl]
    go_enter Tryz.func176, Tryz.ntmps176
    go_wp2_with (first | (go_at_call_of 235 (4 : Int); refine (K4 _).mono ?_; rintro e w1 ⟨rfl, rfl⟩) | (go_at_call_of 235 (100 : Int); refine (K100 _).mono ?_; rintro e w1 ⟨rfl, rfl⟩) | (go_at_call_of 235 (400 : Int); refine (K400 _).mono ?_; rintro e w1 ⟨rfl, rfl⟩))
    go_ret
    exact ⟨ret_int (by rw [HR.out]; omega), rfl⟩
set_option maxHeartbeats 400000 in
theorem implLine (c y m d : Int) (w : World) (hT : Tab w) (hc : c = 0 ∨ c = 1) (hy1 : -5 ≤ y) (hy2 : y ≤ 4000) (hm1 : 1 ≤ m) (hm2 : m ≤ 13) (hd1 : -100 ≤ d) (hd2 : d ≤ 1000) : Calls Tryz.prog 191 #[.agg #[.int .i64 c, .int .i64 y, .int .i64 m, .int .i64 d]] w fun e w' => e = .returned (.int .i64 (first c y + before c y (m - 1).toNat + d - 1)) ∧ Below w.heap.size w w' := by
  obtain ⟨W0, hW0⟩ : ∃ W0, W0 = w.alloc (.cells #[.int .i64 c, .int .i64 y, .int .i64 m, .int .i64 d] 92) := ⟨_, rfl⟩
  have c0 : ∀ x : Later W0, x.w.cell? ⟨w.heap.size, 0, none⟩ = some (.int .i64 c) := Later.new hW0 0 rfl
  have c1 : ∀ x : Later W0, x.w.cell? ⟨w.heap.size, 1, none⟩ = some (.int .i64 y) := Later.new hW0 1 rfl
  have c2 : ∀ x : Later W0, x.w.cell? ⟨w.heap.size, 2, none⟩ = some (.int .i64 m) := Later.new hW0 2 rfl
  have c3 : ∀ x : Later W0, x.w.cell? ⟨w.heap.size, 3, none⟩ = some (.int .i64 d) := Later.new hW0 3 rfl
  have HW0 : Hid (W0 = _) := hW0
  have HT : Hid (∀ x : Later W0, Tab x.w) := fun x => hT.later (below_of_alloc HW0.out x.below)
  clear hW0 hT
  have KC := fun W => implCal c hc W
  have KE : ∀ W, Calls Tryz.prog 176 #[.iface (calT c) (.agg #[]), .int .i64 y] W fun e w' => e = .returned (.int .i64 (first c y - 1)) ∧ w' = W := fun W => implEve c y W hc hy1 hy2
  have KY : ∀ x : Later W0, Calls Tryz.prog 251 #[.agg #[.int .i64 c, .int .i64 y, .int .i64 m, .int .i64 d]] x.w fun e w' => e = .returned (.int .i64 (before c y (m - 1).toNat + d)) ∧ Below x.w.heap.size x.w w' := fun x => implUpTo c y m d x.w (HT.out x) hm1 hm2 hd1 hd2
  have b1 := first_bound hc hy1 hy2
  have b2 := before_bound c y (m - 1).toNat
  have b3 : -100 ≤ before c y (m - 1).toNat + d ∧ before c y (m - 1).toNat + d ≤ 2000 := by omega
  obtain ⟨R, hR⟩ : ∃ R, R = first c y + before c y (m - 1).toNat + d - 1 := ⟨_, rfl⟩
  rw [← hR]
  have hR' : R = first c y - 1 + (before c y (m - 1).toNat + d) := by omega
  have HR := hideP hR'
  clear hR hR' b2 hc
  generalize before c y (m - 1).toNat + d = Y at *
  generalize first c y = F at *
  generalize calT c = T at *
  go_enter Tryz.func191, Tryz.ntmps191
  go_wp2_with fail
  rw [← HW0.out]
  refine wp_region_later (W := W0) (Below.refl _ _) (by kernel_rfl) (by kernel_rfl) ?_
  repeat (go_big_quiet_step (first | (go_at_call 175; exact calls_same (KC _)) | (go_at_call 176; exact calls_same (KE _)) | (go_at_call 251; exact calls_later (KY _))))
  refine wpQuiet_nil ?_
  intro _ hw'
  obtain ⟨x, rfl⟩ := hw'
  go_wp2
  go_ret
  exact ⟨ret_int HR.out.symm, below_of_alloc HW0.out x.below⟩
set_option maxHeartbeats 400000 in
theorem implDayOf (c y m d : Int) (w : World) (hT : Tab w) : Calls Tryz.prog 129 #[.agg #[.int .i64 c, .int .i64 y, .int .i64 m, .int .i64 d]] w fun e w' => e = .returned (.int .i64 (dayOf c y m d)) ∧ Below w.heap.size w w' := by
  obtain ⟨W0, hW0⟩ : ∃ W0, W0 = w.alloc (.cells #[.int .i64 c, .int .i64 y, .int .i64 m, .int .i64 d] 92) := ⟨_, rfl⟩
  have c0 : ∀ x : Later W0, x.w.cell? ⟨w.heap.size, 0, none⟩ = some (.int .i64 c) := Later.new hW0 0 rfl
  have c1 : ∀ x : Later W0, x.w.cell? ⟨w.heap.size, 1, none⟩ = some (.int .i64 y) := Later.new hW0 1 rfl
  have c2 : ∀ x : Later W0, x.w.cell? ⟨w.heap.size, 2, none⟩ = some (.int .i64 m) := Later.new hW0 2 rfl
  have c3 : ∀ x : Later W0, x.w.cell? ⟨w.heap.size, 3, none⟩ = some (.int .i64 d) := Later.new hW0 3 rfl
  have HW0 : Hid (W0 = _) := hW0
  have HT : Hid (∀ x : Later W0, Tab x.w) := fun x => hT.later (below_of_alloc HW0.out x.below)
  have K0 : Calls Tryz.prog 190 #[.agg #[.int .i64 c, .int .i64 y, .int .i64 m, .int .i64 d]] W0 fun e w' => e = .returned (.bool (dateOk c y m d)) ∧ Below W0.heap.size W0 w' := implDateOk c y m d W0 (HT.out ⟨W0, Below.refl _ _⟩)
  clear hW0 hT
  by_cases hp : dateP c y m d
  · rw [dateOk_true hp] at K0
    have hm := dateP_month hp
    have hd := dateP_day hp
    have KU : ∀ x : Later W0, Calls Tryz.prog 191 #[.agg #[.int .i64 c, .int .i64 y, .int .i64 m, .int .i64 d]] x.w fun e w' => e = .returned (.int .i64 (first c y + before c y (m - 1).toNat + d - 1)) ∧ Below x.w.heap.size x.w w' := fun x => implLine c y m d x.w (HT.out x) hp.1 (by have := hp.2.1; omega) (by have := hp.2.2.1; omega) (by omega) (by omega) (by omega) (by omega)
    have e1 : dayOf c y m d = first c y + before c y (m - 1).toNat + d - 1 := by unfold dayOf; rw [if_pos hp]
    rw [e1]
    clear hp e1 hm hd
    generalize first c y + before c y (m - 1).toNat + d - 1 = R at *
    go_enter Tryz.func129, Tryz.ntmps129
    go_wp2_with (go_at_call 190; rw [← HW0.out]; refine K0.mono ?_; rintro e w1 ⟨rfl, hb⟩; obtain ⟨x0, rfl⟩ := Later.of hb)
    refine (KU x0).mono ?_
    rintro e w1 ⟨rfl, hb1⟩
    go_wp2
    go_ret
    exact ⟨rfl, below_of_alloc HW0.out (x0.on hb1)⟩
  · rw [dateOk_false hp] at K0
    have HD : Hid (dayOf c y m d = 0) := by unfold Hid dayOf; rw [if_neg hp]
    clear hp
    go_enter Tryz.func129, Tryz.ntmps129
    go_wp2_with (go_at_call 190; rw [← HW0.out]; refine K0.mono ?_; rintro e w1 ⟨rfl, hb⟩)
    go_ret
    exact ⟨ret_int HD.out.symm, below_of_alloc HW0.out hb⟩
end Go.Proofs.YtilpencbbdpgfaaGreatDoor.ctr
