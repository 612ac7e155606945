/- Contracts of CompareDates, the model's and the program's. -/
import Derived.Test.YtckjcaloofjeoaaDoorSolCmp
namespace Go.Proofs.YtckjcaloofjeoaaDoor.ctr
open Go.RowKit

theorem cmp_lt {x y : Int} (h : x < y) : cmpI x y = -1 := by unfold cmpI; rw [if_pos h]
theorem cmp_eq {x y : Int} (h : x = y) : cmpI x y = 0 := by unfold cmpI; rw [if_neg (by omega), if_pos h]
theorem cmp_gt {x y : Int} (h : y < x) : cmpI x y = 1 := by unfold cmpI; rw [if_neg (by omega), if_neg (by omega)]

theorem isNaN (x : Int) (w : World) : Calls Tryd.prog 106 #[.int .i64 x] w fun e w' => e = .returned (.bool false) ∧ w' = w := by
  go_enter Tryd.func106, Tryd.ntmps106
  go_wp2
  go_ret
  exact ⟨by first | rfl | exact ret_bool (by simp), rfl⟩
theorem cmpCompare (x y : Int) (w : World) : Calls Tryd.prog 93 #[.int .i64 x, .int .i64 y] w fun e w' => e = .returned (.int .i64 (cmpI x y)) ∧ w' = w := by
  by_cases h1 : x < y
  · rw [cmp_lt h1]
    go_enter Tryd.func93, Tryd.ntmps93
    go_wp2_with (go_at_call 106; refine (isNaN _ _).mono ?_; rintro e w1 ⟨rfl, rfl⟩)
    go_ret
    exact ⟨rfl, rfl⟩
  by_cases h2 : y < x
  · rw [cmp_gt h2]
    go_enter Tryd.func93, Tryd.ntmps93
    go_wp2_with (go_at_call 106; refine (isNaN _ _).mono ?_; rintro e w1 ⟨rfl, rfl⟩)
    go_ret
    exact ⟨rfl, rfl⟩
  rw [cmp_eq (by omega)]
  go_enter Tryd.func93, Tryd.ntmps93
  go_wp2_with (go_at_call 106; refine (isNaN _ _).mono ?_; rintro e w1 ⟨rfl, rfl⟩)
  go_ret
  exact ⟨rfl, rfl⟩

set_option maxHeartbeats 1000000 in
theorem specCompare (a b c d a' b' c' d' : Int) (w : World) : Calls Tryd.prog 47 #[.agg #[.int .i64 a, .int .i64 b, .int .i64 c, .int .i64 d], .agg #[.int .i64 a', .int .i64 b', .int .i64 c', .int .i64 d']] w fun e w' => e = .returned (.int .i64 (compareD a b c d a' b' c' d')) ∧ Below w.heap.size w w' := by
  obtain ⟨W0, hW0⟩ : ∃ W0, W0 = (w.alloc (.cells #[.int .i64 a, .int .i64 b, .int .i64 c, .int .i64 d] 25)).alloc (.cells #[.int .i64 a', .int .i64 b', .int .i64 c', .int .i64 d'] 25) := ⟨_, rfl⟩
  have c0 : ∀ x : Later W0, x.w.cell? ⟨w.heap.size, 0, none⟩ = some (.int .i64 a) := two_a hW0 0 rfl
  have c1 : ∀ x : Later W0, x.w.cell? ⟨w.heap.size, 1, none⟩ = some (.int .i64 b) := two_a hW0 1 rfl
  have c2 : ∀ x : Later W0, x.w.cell? ⟨w.heap.size, 2, none⟩ = some (.int .i64 c) := two_a hW0 2 rfl
  have c3 : ∀ x : Later W0, x.w.cell? ⟨w.heap.size, 3, none⟩ = some (.int .i64 d) := two_a hW0 3 rfl
  have g0 : ∀ x : Later W0, x.w.cell? ⟨w.heap.size + 1, 0, none⟩ = some (.int .i64 a') := two_b hW0 0 rfl
  have g1 : ∀ x : Later W0, x.w.cell? ⟨w.heap.size + 1, 1, none⟩ = some (.int .i64 b') := two_b hW0 1 rfl
  have g2 : ∀ x : Later W0, x.w.cell? ⟨w.heap.size + 1, 2, none⟩ = some (.int .i64 c') := two_b hW0 2 rfl
  have g3 : ∀ x : Later W0, x.w.cell? ⟨w.heap.size + 1, 3, none⟩ = some (.int .i64 d') := two_b hW0 3 rfl
  have HW0 : Hid (W0 = _) := hW0
  have K1 : ∀ x : Later W0, Calls Tryd.prog 25 #[.agg #[.int .i64 a, .int .i64 b, .int .i64 c, .int .i64 d]] x.w fun e w' => e = .returned (.bool (dateOk a b c d)) ∧ Below x.w.heap.size x.w w' := fun x => specDateOk a b c d x.w
  have K2 : ∀ x : Later W0, Calls Tryd.prog 25 #[.agg #[.int .i64 a', .int .i64 b', .int .i64 c', .int .i64 d']] x.w fun e w' => e = .returned (.bool (dateOk a' b' c' d')) ∧ Below x.w.heap.size x.w w' := fun x => specDateOk a' b' c' d' x.w
  have K3 : ∀ x : Later W0, Calls Tryd.prog 26 #[.agg #[.int .i64 a, .int .i64 b, .int .i64 c, .int .i64 d]] x.w fun e w' => e = .returned (.int .i64 (dayOf a b c d)) ∧ Below x.w.heap.size x.w w' := fun x => specDayOf a b c d x.w
  have K4 : ∀ x : Later W0, Calls Tryd.prog 26 #[.agg #[.int .i64 a', .int .i64 b', .int .i64 c', .int .i64 d']] x.w fun e w' => e = .returned (.int .i64 (dayOf a' b' c' d')) ∧ Below x.w.heap.size x.w w' := fun x => specDayOf a' b' c' d' x.w
  clear hW0
  by_cases h1 : dateP a b c d
  · simp only [dateOk_true h1] at K1
    by_cases h2 : dateP a' b' c' d'
    · simp only [dateOk_true h2] at K2
      have e1 : compareD a b c d a' b' c' d' = cmpI (dayOf a b c d) (dayOf a' b' c' d') := by unfold compareD; rw [if_pos ⟨h1, h2⟩]
      rw [e1]
      clear h1 h2 e1
      generalize dayOf a b c d = X at *
      generalize dayOf a' b' c' d' = Y at *
      by_cases h1 : X < Y
      · rw [cmp_lt h1]
        go_enter Tryd.func47, Tryd.ntmps47
        go_wp2_with fail
        rw [← HW0.out]
        refine wp_region_later (W := W0) (Below.refl _ _) (by kernel_rfl) (by kernel_rfl) ?_
        repeat (go_big_quiet_step (first | (go_at_call_of 26 a; exact calls_later (K3 _)) | (go_at_call_of 26 a'; exact calls_later (K4 _))))
        refine wpQuiet_nil ?_
        intro _ hw'
        obtain ⟨x1, rfl⟩ := hw'
        go_wp2_with fail
        refine (K1 x1).mono ?_
        rintro e w1 ⟨rfl, hb⟩
        obtain ⟨x2, rfl⟩ := x1.next hb
        clear hb
        go_wp2_with fail
        refine (K2 x2).mono ?_
        rintro e w1 ⟨rfl, hb⟩
        obtain ⟨x3, rfl⟩ := x2.next hb
        clear hb
        go_wp2
        go_ret
        exact ⟨rfl, two_below HW0.out x3.below⟩
      by_cases h2 : Y < X
      · rw [cmp_gt h2]
        go_enter Tryd.func47, Tryd.ntmps47
        go_wp2_with fail
        rw [← HW0.out]
        refine wp_region_later (W := W0) (Below.refl _ _) (by kernel_rfl) (by kernel_rfl) ?_
        repeat (go_big_quiet_step (first | (go_at_call_of 26 a; exact calls_later (K3 _)) | (go_at_call_of 26 a'; exact calls_later (K4 _))))
        refine wpQuiet_nil ?_
        intro _ hw'
        obtain ⟨x1, rfl⟩ := hw'
        go_wp2_with fail
        refine (K1 x1).mono ?_
        rintro e w1 ⟨rfl, hb⟩
        obtain ⟨x2, rfl⟩ := x1.next hb
        clear hb
        go_wp2_with fail
        refine (K2 x2).mono ?_
        rintro e w1 ⟨rfl, hb⟩
        obtain ⟨x3, rfl⟩ := x2.next hb
        clear hb
        go_wp2
        go_ret
        exact ⟨rfl, two_below HW0.out x3.below⟩
      obtain rfl : X = Y := by omega
      rw [cmp_eq rfl]
      clear h1 h2
      go_enter Tryd.func47, Tryd.ntmps47
      go_wp2_with fail
      rw [← HW0.out]
      refine wp_region_later (W := W0) (Below.refl _ _) (by kernel_rfl) (by kernel_rfl) ?_
      repeat (go_big_quiet_step (first | (go_at_call_of 26 a; exact calls_later (K3 _)) | (go_at_call_of 26 a'; exact calls_later (K4 _))))
      refine wpQuiet_nil ?_
      intro _ hw'
      obtain ⟨x1, rfl⟩ := hw'
      go_wp2_with fail
      refine (K1 x1).mono ?_
      rintro e w1 ⟨rfl, hb⟩
      obtain ⟨x2, rfl⟩ := x1.next hb
      clear hb
      go_wp2_with fail
      refine (K2 x2).mono ?_
      rintro e w1 ⟨rfl, hb⟩
      obtain ⟨x3, rfl⟩ := x2.next hb
      clear hb
      go_wp2
      go_ret
      exact ⟨rfl, two_below HW0.out x3.below⟩
    · simp only [dateOk_false h2] at K2
      rw [compare_no (fun h => h2 h.2)]
      clear h1 h2
      generalize dayOf a b c d = X at *
      generalize dayOf a' b' c' d' = Y at *
      go_enter Tryd.func47, Tryd.ntmps47
      go_wp2_with fail
      rw [← HW0.out]
      refine wp_region_later (W := W0) (Below.refl _ _) (by kernel_rfl) (by kernel_rfl) ?_
      repeat (go_big_quiet_step (first | (go_at_call_of 26 a; exact calls_later (K3 _)) | (go_at_call_of 26 a'; exact calls_later (K4 _))))
      refine wpQuiet_nil ?_
      intro _ hw'
      obtain ⟨x1, rfl⟩ := hw'
      go_wp2_with fail
      refine (K1 x1).mono ?_
      rintro e w1 ⟨rfl, hb⟩
      obtain ⟨x2, rfl⟩ := x1.next hb
      clear hb
      go_wp2_with fail
      refine (K2 x2).mono ?_
      rintro e w1 ⟨rfl, hb⟩
      obtain ⟨x3, rfl⟩ := x2.next hb
      clear hb
      go_wp2
      go_ret
      exact ⟨rfl, two_below HW0.out x3.below⟩
  · simp only [dateOk_false h1] at K1
    rw [compare_no (fun h => h1 h.1)]
    clear h1 K2
    generalize dayOf a b c d = X at *
    generalize dayOf a' b' c' d' = Y at *
    go_enter Tryd.func47, Tryd.ntmps47
    go_wp2_with fail
    rw [← HW0.out]
    refine wp_region_later (W := W0) (Below.refl _ _) (by kernel_rfl) (by kernel_rfl) ?_
    repeat (go_big_quiet_step (first | (go_at_call_of 26 a; exact calls_later (K3 _)) | (go_at_call_of 26 a'; exact calls_later (K4 _))))
    refine wpQuiet_nil ?_
    intro _ hw'
    obtain ⟨x1, rfl⟩ := hw'
    go_wp2_with fail
    refine (K1 x1).mono ?_
    rintro e w1 ⟨rfl, hb⟩
    obtain ⟨x2, rfl⟩ := x1.next hb
    clear hb
    go_wp2
    go_ret
    exact ⟨rfl, two_below HW0.out x2.below⟩

set_option maxHeartbeats 400000 in
theorem implCompare (a b c d a' b' c' d' : Int) (w : World) (hT : Tab w) : Calls Tryd.prog 38 #[.agg #[.int .i64 a, .int .i64 b, .int .i64 c, .int .i64 d], .agg #[.int .i64 a', .int .i64 b', .int .i64 c', .int .i64 d']] w fun e w' => e = .returned (.int .i64 (compareD a b c d a' b' c' d')) ∧ Below w.heap.size w w' := by
  obtain ⟨W0, hW0⟩ : ∃ W0, W0 = (w.alloc (.cells #[.int .i64 a, .int .i64 b, .int .i64 c, .int .i64 d] 25)).alloc (.cells #[.int .i64 a', .int .i64 b', .int .i64 c', .int .i64 d'] 25) := ⟨_, rfl⟩
  have c0 : ∀ x : Later W0, x.w.cell? ⟨w.heap.size, 0, none⟩ = some (.int .i64 a) := two_a hW0 0 rfl
  have c1 : ∀ x : Later W0, x.w.cell? ⟨w.heap.size, 1, none⟩ = some (.int .i64 b) := two_a hW0 1 rfl
  have c2 : ∀ x : Later W0, x.w.cell? ⟨w.heap.size, 2, none⟩ = some (.int .i64 c) := two_a hW0 2 rfl
  have c3 : ∀ x : Later W0, x.w.cell? ⟨w.heap.size, 3, none⟩ = some (.int .i64 d) := two_a hW0 3 rfl
  have g0 : ∀ x : Later W0, x.w.cell? ⟨w.heap.size + 1, 0, none⟩ = some (.int .i64 a') := two_b hW0 0 rfl
  have g1 : ∀ x : Later W0, x.w.cell? ⟨w.heap.size + 1, 1, none⟩ = some (.int .i64 b') := two_b hW0 1 rfl
  have g2 : ∀ x : Later W0, x.w.cell? ⟨w.heap.size + 1, 2, none⟩ = some (.int .i64 c') := two_b hW0 2 rfl
  have g3 : ∀ x : Later W0, x.w.cell? ⟨w.heap.size + 1, 3, none⟩ = some (.int .i64 d') := two_b hW0 3 rfl
  have HW0 : Hid (W0 = _) := hW0
  have HT : Hid (∀ x : Later W0, Tab x.w) := fun x => hT.later (two_below HW0.out x.below)
  have K1 : ∀ x : Later W0, Calls Tryd.prog 24 #[.agg #[.int .i64 a, .int .i64 b, .int .i64 c, .int .i64 d]] x.w fun e w' => e = .returned (.bool (dateOk a b c d)) ∧ Below x.w.heap.size x.w w' := fun x => implDateOk a b c d x.w (HT.out x)
  have K2 : ∀ x : Later W0, Calls Tryd.prog 24 #[.agg #[.int .i64 a', .int .i64 b', .int .i64 c', .int .i64 d']] x.w fun e w' => e = .returned (.bool (dateOk a' b' c' d')) ∧ Below x.w.heap.size x.w w' := fun x => implDateOk a' b' c' d' x.w (HT.out x)
  have K3 : ∀ x : Later W0, Calls Tryd.prog 17 #[.agg #[.int .i64 a, .int .i64 b, .int .i64 c, .int .i64 d]] x.w fun e w' => e = .returned (.int .i64 (dayOf a b c d)) ∧ Below x.w.heap.size x.w w' := fun x => implDayOf a b c d x.w (HT.out x)
  have K4 : ∀ x : Later W0, Calls Tryd.prog 17 #[.agg #[.int .i64 a', .int .i64 b', .int .i64 c', .int .i64 d']] x.w fun e w' => e = .returned (.int .i64 (dayOf a' b' c' d')) ∧ Below x.w.heap.size x.w w' := fun x => implDayOf a' b' c' d' x.w (HT.out x)
  clear hW0 hT
  by_cases h1 : dateP a b c d
  · simp only [dateOk_true h1] at K1
    by_cases h2 : dateP a' b' c' d'
    · simp only [dateOk_true h2] at K2
      have e1 : compareD a b c d a' b' c' d' = cmpI (dayOf a b c d) (dayOf a' b' c' d') := by unfold compareD; rw [if_pos ⟨h1, h2⟩]
      rw [e1]
      clear h1 h2 e1
      generalize dayOf a b c d = X at *
      generalize dayOf a' b' c' d' = Y at *
      have KX := fun W => cmpCompare X Y W
      generalize cmpI X Y = R at *
      go_enter Tryd.func38, Tryd.ntmps38
      go_wp2_with fail
      rw [← HW0.out]
      refine (K1 ⟨W0, Below.refl _ _⟩).mono ?_
      rintro e w1 ⟨rfl, hb⟩
      obtain ⟨x1, rfl⟩ := Later.of hb
      clear hb
      go_wp2_with fail
      refine (K2 x1).mono ?_
      rintro e w1 ⟨rfl, hb⟩
      obtain ⟨x2, rfl⟩ := x1.next hb
      clear hb
      go_wp2_with fail
      refine wp_region_later (W := W0) x2.below (by kernel_rfl) (by kernel_rfl) ?_
      repeat (go_big_quiet_step (first | (go_at_call_of 17 a; exact calls_later (K3 _)) | (go_at_call_of 17 a'; exact calls_later (K4 _)) | (go_at_call 93; exact calls_same (KX _))))
      refine wpQuiet_nil ?_
      intro _ hw'
      obtain ⟨x3, rfl⟩ := hw'
      go_wp2
      go_ret
      exact ⟨rfl, two_below HW0.out x3.below⟩
    · simp only [dateOk_false h2] at K2
      rw [compare_no (fun h => h2 h.2)]
      clear h1 h2 K3 K4
      go_enter Tryd.func38, Tryd.ntmps38
      go_wp2_with fail
      rw [← HW0.out]
      refine (K1 ⟨W0, Below.refl _ _⟩).mono ?_
      rintro e w1 ⟨rfl, hb⟩
      obtain ⟨x2, rfl⟩ := Later.of hb
      clear hb
      go_wp2_with fail
      refine (K2 x2).mono ?_
      rintro e w1 ⟨rfl, hb⟩
      obtain ⟨x3, rfl⟩ := x2.next hb
      clear hb
      go_wp2
      go_ret
      exact ⟨rfl, two_below HW0.out x3.below⟩
  · simp only [dateOk_false h1] at K1
    rw [compare_no (fun h => h1 h.1)]
    clear h1 K2 K3 K4
    go_enter Tryd.func38, Tryd.ntmps38
    go_wp2_with fail
    rw [← HW0.out]
    refine (K1 ⟨W0, Below.refl _ _⟩).mono ?_
    rintro e w1 ⟨rfl, hb⟩
    obtain ⟨x2, rfl⟩ := Later.of hb
    clear hb
    go_wp2
    go_ret
    exact ⟨rfl, two_below HW0.out x2.below⟩
end Go.Proofs.YtckjcaloofjeoaaDoor.ctr
