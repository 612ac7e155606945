/- Contracts of the days ahead of a month: the model's l02Before, DayInYear; the program's daysUpTo, DayInYear: each answers its plain function. Contracts of a year's first day and of a date's day: the model's l02First, l02Day, DayOf; the program's yearEve, lineDay, DayOf. Contracts of the year that holds a day: the model's l02Year and the program's yearHolding. -/
import Derived.Test.YtilpencbbdpgfaaGreatDoorJnPaj
namespace Go.Proofs.YtilpencbbdpgfaaGreatDoor.ctr
open Go.RowKit
theorem before_next (c y : Int) (k : Nat) : before c y (k + 1) = before c y k + monthDays c y ((k : Int) + 1) := by
  simp [before]
set_option maxHeartbeats 400000 in
theorem specBefore (c y m : Int) (w : World) (hm : m ≤ 13) : Calls Tryz.prog 183 #[.int .i64 c, .int .i64 y, .int .i64 m] w fun e w' => e = .returned (.int .i64 (before c y (m - 1).toNat)) ∧ Below w.heap.size w w' := by
  obtain ⟨R, hR⟩ : ∃ R, R = before c y (m - 1).toNat := ⟨_, rfl⟩
  rw [← hR]
  have HR := hideP hR
  clear hR
  go_enter Tryz.func183, Tryz.ntmps183
  go_wp2
  go_loopw [7, 8] (fun n i wr => ∃ k : Nat, (k = 0 ∨ (k : Int) + 1 ≤ m) ∧ i = .int .i64 ((k : Int) + 1) ∧ n = .int .i64 (before c y k) ∧ Below w.heap.size w wr) (fun _ i _ => 14 - (intOf i).toNat)
  case atStart => exact ⟨0, by omega, rfl, rfl, Below.refl _ _⟩
  case round =>
    obtain ⟨k, hk, rfl, rfl, hb⟩ := hrel
    have h1 := before_bound c y k
    have h2 := monthDays_le c y ((k : Int) + 1)
    have HN := hideP (before_next c y k)
    have KM : ∀ W, Calls Tryz.prog 121 #[.int .i64 c, .int .i64 y, .int .i64 ((k : Int) + 1)] W fun e w' => e = .returned (.int .i64 (monthDays c y ((k : Int) + 1))) ∧ Below W.heap.size W w' := specMonthDays c y _
    generalize monthDays c y ((k : Int) + 1) = md at *
    by_cases hlt : (k : Int) + 1 < m
    · go_wp2_with (go_at_call 121; refine (KM _).mono ?_; rintro e w' ⟨rfl, hb'⟩)
      exact ⟨⟨k + 1, by omega, by go_num, by first | (rw [HN.out]; done) | (rw [HN.out]; go_num), hb.trans (hb'.mono hb.size)⟩, by simp [intOf]; omega⟩
    · have HK : Hid ((m - 1).toNat = k) := by unfold Hid; omega
      go_wp2_with fail
      go_ret
      exact ⟨ret_int (by rw [HR.out, HK.out]), hb⟩
set_option maxHeartbeats 400000 in
theorem implUpTo (c y m d : Int) (w : World) (hT : Tab w) (hm1 : 1 ≤ m) (hm2 : m ≤ 13) (hd1 : -100 ≤ d) (hd2 : d ≤ 1000) : Calls Tryz.prog 251 #[.agg #[.int .i64 c, .int .i64 y, .int .i64 m, .int .i64 d]] w fun e w' => e = .returned (.int .i64 (before c y (m - 1).toNat + d)) ∧ Below w.heap.size w w' := by
  obtain ⟨W0, hW0⟩ : ∃ W0, W0 = w.alloc (.cells #[.int .i64 c, .int .i64 y, .int .i64 m, .int .i64 d] 92) := ⟨_, rfl⟩
  have c0 : ∀ x : Later W0, x.w.cell? ⟨w.heap.size, 0, none⟩ = some (.int .i64 c) := Later.new hW0 0 rfl
  have c1 : ∀ x : Later W0, x.w.cell? ⟨w.heap.size, 1, none⟩ = some (.int .i64 y) := Later.new hW0 1 rfl
  have c2 : ∀ x : Later W0, x.w.cell? ⟨w.heap.size, 2, none⟩ = some (.int .i64 m) := Later.new hW0 2 rfl
  have c3 : ∀ x : Later W0, x.w.cell? ⟨w.heap.size, 3, none⟩ = some (.int .i64 d) := Later.new hW0 3 rfl
  have HW0 : Hid (W0 = _) := hW0
  have HT : Hid (∀ x : Later W0, Tab x.w) := fun x => hT.later (below_of_alloc HW0.out x.below)
  clear hW0 hT
  obtain ⟨R, hR⟩ : ∃ R, R = before c y (m - 1).toNat + d := ⟨_, rfl⟩
  rw [← hR]
  have HD := hideP hR
  clear hR
  obtain ⟨x0, e0⟩ : ∃ x : Later W0, W0 = x.w := ⟨⟨W0, Below.refl _ _⟩, rfl⟩
  have E0 := hideP e0
  clear e0
  go_enter Tryz.func251, Tryz.ntmps251
  go_wp2_with fail
  go_loopw [3, 4] (fun n i wr => ∃ (k : Nat) (x : Later W0), (k : Int) + 1 ≤ m ∧ i = .int .i64 ((k : Int) + 1) ∧ n = .int .i64 (before c y k + d) ∧ wr = x.w) (fun _ i _ => 14 - (intOf i).toNat)
  case atStart => exact ⟨0, x0, by omega, rfl, by simp [before], by rw [← HW0.out]; exact E0.out⟩
  case round =>
    obtain ⟨k, x, hk, rfl, rfl, rfl⟩ := hrel
    have h1 := before_bound c y k
    have h2 := monthDays_le c y ((k : Int) + 1)
    have HN := hideP (before_next c y k)
    have KM : Calls Tryz.prog 178 #[.int .i64 c, .int .i64 y, .int .i64 ((k : Int) + 1)] x.w fun e w' => e = .returned (.int .i64 (monthDays c y ((k : Int) + 1))) ∧ Below x.w.heap.size x.w w' := implMonthDays c y _ _ (HT.out x)
    generalize monthDays c y ((k : Int) + 1) = md at *
    by_cases hlt : (k : Int) + 1 < m
    · go_wp2_with (go_at_call 178; refine KM.mono ?_; rintro e w' ⟨rfl, hb'⟩; obtain ⟨x', rfl⟩ := x.next hb')
      exact ⟨⟨k + 1, x', by omega, by go_num, by first | (rw [HN.out]; done) | (rw [HN.out]; go_num), rfl⟩, by simp [intOf]; omega⟩
    · have HK : Hid ((m - 1).toNat = k) := by unfold Hid; omega
      go_wp2_with fail
      go_ret
      exact ⟨ret_int (by rw [HD.out, HK.out]), below_of_alloc HW0.out x.below⟩
end Go.Proofs.YtilpencbbdpgfaaGreatDoor.ctr
namespace Go.Proofs.YtilpencbbdpgfaaGreatDoor.ctr
open Go.RowKit
set_option maxHeartbeats 400000 in
theorem specFirst (c y : Int) (w : World) (hc : c = 0 ∨ c = 1) (hy1 : -5 ≤ y) (hy2 : y ≤ 4000) : Calls Tryz.prog 170 #[.int .i64 c, .int .i64 y] w fun e w' => e = .returned (.int .i64 (first c y)) ∧ w' = w := by
  have K4 : ∀ W, Calls Tryz.prog 232 #[.int .i64 (y - 1), .int .i64 4] W fun e w' => e = .returned (.int .i64 ((y - 1) / 4)) ∧ w' = W := fun W => by rw [← floorDiv_small (by omega) (by omega) (by omega)]; exact specFloorDiv _ _ W
  have K100 : ∀ W, Calls Tryz.prog 232 #[.int .i64 (y - 1), .int .i64 100] W fun e w' => e = .returned (.int .i64 ((y - 1) / 100)) ∧ w' = W := fun W => by rw [← floorDiv_small (by omega) (by omega) (by omega)]; exact specFloorDiv _ _ W
  have K400 : ∀ W, Calls Tryz.prog 232 #[.int .i64 (y - 1), .int .i64 400] W fun e w' => e = .returned (.int .i64 ((y - 1) / 400)) ∧ w' = W := fun W => by rw [← floorDiv_small (by omega) (by omega) (by omega)]; exact specFloorDiv _ _ W
  have b4 : -2 ≤ (y - 1) / 4 ∧ (y - 1) / 4 ≤ 1000 := by omega
  have b100 : -2 ≤ (y - 1) / 100 ∧ (y - 1) / 100 ≤ 1000 := by omega
  have b400 : -2 ≤ (y - 1) / 400 ∧ (y - 1) / 400 ≤ 1000 := by omega
  obtain ⟨R, hR⟩ : ∃ R, R = first c y := ⟨_, rfl⟩
  rw [← hR]
  rcases hc with rfl | rfl
  · rw [first_jul] at hR
    have HR := hideP hR
    clear hR K100 K400 b100 b400
    generalize (y - 1) / 4 = q4 at *
    go_enter Tryz.func170, Tryz.ntmps170
    go_wp2_with (go_at_call 232; refine (K4 _).mono ?_; rintro e w1 ⟨rfl, rfl⟩)
    go_ret
    exact ⟨ret_int (by rw [HR.out]), rfl⟩
  · rw [first_gre] at hR
    have HR := hideP hR
    clear hR
    generalize (y - 1) / 4 = q4 at *
    generalize (y - 1) / 100 = q100 at *
    generalize (y - 1) / 400 = q400 at *
    go_enter Tryz.func170, Tryz.ntmps170
    go_wp2_with (first | (go_at_call_of 232 (4 : Int); refine (K4 _).mono ?_; rintro e w1 ⟨rfl, rfl⟩) | (go_at_call_of 232 (100 : Int); refine (K100 _).mono ?_; rintro e w1 ⟨rfl, rfl⟩) | (go_at_call_of 232 (400 : Int); refine (K400 _).mono ?_; rintro e w1 ⟨rfl, rfl⟩))
    go_ret
    exact ⟨ret_int (by rw [HR.out]), rfl⟩
set_option maxHeartbeats 400000 in
theorem specDay (c y m d : Int) (w : World) (hc : c = 0 ∨ c = 1) (hy1 : -5 ≤ y) (hy2 : y ≤ 4000) (hm : m ≤ 13) (hd1 : -100 ≤ d) (hd2 : d ≤ 1000) : Calls Tryz.prog 119 #[.int .i64 c, .int .i64 y, .int .i64 m, .int .i64 d] w fun e w' => e = .returned (.int .i64 (first c y + before c y (m - 1).toNat + d - 1)) ∧ Below w.heap.size w w' := by
  have KF : ∀ W, Calls Tryz.prog 170 #[.int .i64 c, .int .i64 y] W fun e w' => e = .returned (.int .i64 (first c y)) ∧ w' = W := fun W => specFirst c y W hc hy1 hy2
  have KB : ∀ W, Calls Tryz.prog 183 #[.int .i64 c, .int .i64 y, .int .i64 m] W fun e w' => e = .returned (.int .i64 (before c y (m - 1).toNat)) ∧ Below W.heap.size W w' := fun W => specBefore c y m W hm
  have b1 := first_bound hc hy1 hy2
  have b2 := before_bound c y (m - 1).toNat
  have b3 : before c y (m - 1).toNat ≤ 372 := by omega
  have b4 := b2.1
  clear b2
  generalize first c y = F at *
  generalize before c y (m - 1).toNat = B at *
  go_enter Tryz.func119, Tryz.ntmps119
  go_wp2_with (first | (go_at_call 170; refine (KF _).mono ?_; rintro e w1 ⟨rfl, rfl⟩) | (go_at_call 183; refine (KB _).mono ?_; rintro e w1 ⟨rfl, hb⟩))
  go_ret
  exact ⟨rfl, hb⟩
set_option maxHeartbeats 400000 in
theorem specDayOf (c y m d : Int) (w : World) : Calls Tryz.prog 66 #[.agg #[.int .i64 c, .int .i64 y, .int .i64 m, .int .i64 d]] w fun e w' => e = .returned (.int .i64 (dayOf c y m d)) ∧ Below w.heap.size w w' := by
  obtain ⟨W0, hW0⟩ : ∃ W0, W0 = w.alloc (.cells #[.int .i64 c, .int .i64 y, .int .i64 m, .int .i64 d] 92) := ⟨_, rfl⟩
  have c0 : ∀ x : Later W0, x.w.cell? ⟨w.heap.size, 0, none⟩ = some (.int .i64 c) := Later.new hW0 0 rfl
  have c1 : ∀ x : Later W0, x.w.cell? ⟨w.heap.size, 1, none⟩ = some (.int .i64 y) := Later.new hW0 1 rfl
  have c2 : ∀ x : Later W0, x.w.cell? ⟨w.heap.size, 2, none⟩ = some (.int .i64 m) := Later.new hW0 2 rfl
  have c3 : ∀ x : Later W0, x.w.cell? ⟨w.heap.size, 3, none⟩ = some (.int .i64 d) := Later.new hW0 3 rfl
  have HW0 : Hid (W0 = _) := hW0
  have K0 : Calls Tryz.prog 67 #[.agg #[.int .i64 c, .int .i64 y, .int .i64 m, .int .i64 d]] W0 fun e w' => e = .returned (.bool (dateOk c y m d)) ∧ Below W0.heap.size W0 w' := specDateOk c y m d W0
  clear hW0
  by_cases hp : dateP c y m d
  · rw [dateOk_true hp] at K0
    have hm := dateP_month hp
    have hd := dateP_day hp
    have KD : ∀ W, Calls Tryz.prog 119 #[.int .i64 c, .int .i64 y, .int .i64 m, .int .i64 d] W fun e w' => e = .returned (.int .i64 (dayOf c y m d)) ∧ Below W.heap.size W w' := fun W => by
      unfold dayOf
      rw [if_pos hp]
      exact specDay c y m d W hp.1 (by have := hp.2.1; omega) (by have := hp.2.2.1; omega) (by omega) (by omega) (by omega)
    clear hp
    generalize dayOf c y m d = R at *
    go_enter Tryz.func66, Tryz.ntmps66
    go_wp2_with (go_at_call 67; rw [← HW0.out]; refine K0.mono ?_; rintro e w1 ⟨rfl, hb⟩; obtain ⟨x0, rfl⟩ := Later.of hb)
    first
      | (refine wp_region_later (W := W0) x0.below (by kernel_rfl) (by kernel_rfl) ?_
         repeat (go_big_quiet_step ((go_at_call 119; exact calls_later (KD _))))
         refine wpQuiet_nil ?_
         intro _ hw'
         obtain ⟨x, rfl⟩ := hw'
         go_wp2
         go_ret
         exact ⟨rfl, below_of_alloc HW0.out x.below⟩)
      | (refine (KD _).mono ?_
         rintro e w1 ⟨rfl, hb1⟩
         go_wp2
         go_ret
         exact ⟨rfl, below_of_alloc HW0.out (x0.on hb1)⟩)
  · rw [dateOk_false hp] at K0
    have HD : Hid (dayOf c y m d = 0) := by unfold Hid dayOf; rw [if_neg hp]
    clear hp
    go_enter Tryz.func66, Tryz.ntmps66
    go_wp2_with (go_at_call 67; rw [← HW0.out]; refine K0.mono ?_; rintro e w1 ⟨rfl, hb⟩)
    go_ret
    exact ⟨ret_int HD.out.symm, below_of_alloc HW0.out hb⟩
set_option maxHeartbeats 400000 in
theorem implEve (c y : Int) (w : World) (hc : c = 0 ∨ c = 1) (hy1 : -5 ≤ y) (hy2 : y ≤ 4000) : Calls Tryz.prog 176 #[.iface (calT c) (.agg #[]), .int .i64 y] w fun e w' => e = .returned (.int .i64 (first c y - 1)) ∧ w' = w := by
  have K4 : ∀ W, Calls Tryz.prog 235 #[.int .i64 (y - 1), .int .i64 4] W fun e w' => e = .returned (.int .i64 ((y - 1) / 4)) ∧ w' = W := fun W => by rw [← floorDiv_small (by omega) (by omega) (by omega)]; exact implFloorDiv _ _ W
  have K100 : ∀ W, Calls Tryz.prog 235 #[.int .i64 (y - 1), .int .i64 100] W fun e w' => e = .returned (.int .i64 ((y - 1) / 100)) ∧ w' = W := fun W => by rw [← floorDiv_small (by omega) (by omega) (by omega)]; exact implFloorDiv _ _ W
  have K400 : ∀ W, Calls Tryz.prog 235 #[.int .i64 (y - 1), .int .i64 400] W fun e w' => e = .returned (.int .i64 ((y - 1) / 400)) ∧ w' = W := fun W => by rw [← floorDiv_small (by omega) (by omega) (by omega)]; exact implFloorDiv _ _ W
  have b4 : -2 ≤ (y - 1) / 4 ∧ (y - 1) / 4 ≤ 1000 := by omega
  have b100 : -2 ≤ (y - 1) / 100 ∧ (y - 1) / 100 ≤ 1000 := by omega
  have b400 : -2 ≤ (y - 1) / 400 ∧ (y - 1) / 400 ≤ 1000 := by omega
  obtain ⟨R, hR⟩ : ∃ R, R = first c y - 1 := ⟨_, rfl⟩
  rw [← hR]
  rcases hc with rfl | rfl
  · rw [first_jul] at hR
    have HR := hideP hR
    clear hR K100 K400 b100 b400
    generalize (y - 1) / 4 = q4 at *
    have q1 := isJulJul
    rw [show calT 0 = 232 from rfl]
    go_enter Tryz.func176, Tryz.ntmps176
    go_wp2_with (go_at_call 235; refine (K4 _).mono ?_; rintro e w1 ⟨rfl, rfl⟩)
    go_ret
    exact ⟨ret_int (by rw [HR.out]; omega), rfl⟩
  · rw [first_gre] at hR
    have HR := hideP hR
    clear hR
    generalize (y - 1) / 4 = q4 at *
    generalize (y - 1) / 100 = q100 at *
    generalize (y - 1) / 400 = q400 at *
    have q1 := isJulGre
    have q2 := isGreGre
    rw [show calT 1 = 233 from rfl]
    go_enter Tryz.func176, Tryz.ntmps176
    go_wp2_with (first | (go_at_call_of 235 (4 : Int); refine (K4 _).mono ?_; rintro e w1 ⟨rfl, rfl⟩) | (go_at_call_of 235 (100 : Int); refine (K100 _).mono ?_; rintro e w1 ⟨rfl, rfl⟩) | (go_at_call_of 235 (400 : Int); refine (K400 _).mono ?_; rintro e w1 ⟨rfl, rfl⟩))
    go_ret
    exact ⟨ret_int (by rw [HR.out]; omega), rfl⟩
set_option maxHeartbeats 400000 in
theorem implLine (c y m d : Int) (w : World) (hT : Tab w) (hc : c = 0 ∨ c = 1) (hy1 : -5 ≤ y) (hy2 : y ≤ 4000) (hm1 : 1 ≤ m) (hm2 : m ≤ 13) (hd1 : -100 ≤ d) (hd2 : d ≤ 1000) : Calls Tryz.prog 191 #[.agg #[.int .i64 c, .int .i64 y, .int .i64 m, .int .i64 d]] w fun e w' => e = .returned (.int .i64 (first c y + before c y (m - 1).toNat + d - 1)) ∧ Below w.heap.size w w' := by
  obtain ⟨W0, hW0⟩ : ∃ W0, W0 = w.alloc (.cells #[.int .i64 c, .int .i64 y, .int .i64 m, .int .i64 d] 92) := ⟨_, rfl⟩
  have c0 : ∀ x : Later W0, x.w.cell? ⟨w.heap.size, 0, none⟩ = some (.int .i64 c) := Later.new hW0 0 rfl
  have c1 : ∀ x : Later W0, x.w.cell? ⟨w.heap.size, 1, none⟩ = some (.int .i64 y) := Later.new hW0 1 rfl
  have c2 : ∀ x : Later W0, x.w.cell? ⟨w.heap.size, 2, none⟩ = some (.int .i64 m) := Later.new hW0 2 rfl
  have c3 : ∀ x : Later W0, x.w.cell? ⟨w.heap.size, 3, none⟩ = some (.int .i64 d) := Later.new hW0 3 rfl
  have HW0 : Hid (W0 = _) := hW0
  have HT : Hid (∀ x : Later W0, Tab x.w) := fun x => hT.later (below_of_alloc HW0.out x.below)
  clear hW0 hT
  have KC := fun W => implCal c hc W
  have KE : ∀ W, Calls Tryz.prog 176 #[.iface (calT c) (.agg #[]), .int .i64 y] W fun e w' => e = .returned (.int .i64 (first c y - 1)) ∧ w' = W := fun W => implEve c y W hc hy1 hy2
  have KY : ∀ x : Later W0, Calls Tryz.prog 251 #[.agg #[.int .i64 c, .int .i64 y, .int .i64 m, .int .i64 d]] x.w fun e w' => e = .returned (.int .i64 (before c y (m - 1).toNat + d)) ∧ Below x.w.heap.size x.w w' := fun x => implUpTo c y m d x.w (HT.out x) hm1 hm2 hd1 hd2
  have b1 := first_bound hc hy1 hy2
  have b2 := before_bound c y (m - 1).toNat
  have b3 : -100 ≤ before c y (m - 1).toNat + d ∧ before c y (m - 1).toNat + d ≤ 2000 := by omega
  obtain ⟨R, hR⟩ : ∃ R, R = first c y + before c y (m - 1).toNat + d - 1 := ⟨_, rfl⟩
  rw [← hR]
  have hR' : R = first c y - 1 + (before c y (m - 1).toNat + d) := by omega
  have HR := hideP hR'
  clear hR hR' b2 hc
  generalize before c y (m - 1).toNat + d = Y at *
  generalize first c y = F at *
  generalize calT c = T at *
  go_enter Tryz.func191, Tryz.ntmps191
  go_wp2_with fail
  rw [← HW0.out]
  refine wp_region_later (W := W0) (Below.refl _ _) (by kernel_rfl) (by kernel_rfl) ?_
  repeat (go_big_quiet_step (first | (go_at_call 175; exact calls_same (KC _)) | (go_at_call 176; exact calls_same (KE _)) | (go_at_call 251; exact calls_later (KY _))))
  refine wpQuiet_nil ?_
  intro _ hw'
  obtain ⟨x, rfl⟩ := hw'
  go_wp2
  go_ret
  exact ⟨ret_int HR.out.symm, below_of_alloc HW0.out x.below⟩
set_option maxHeartbeats 400000 in
theorem implDayOf (c y m d : Int) (w : World) (hT : Tab w) : Calls Tryz.prog 129 #[.agg #[.int .i64 c, .int .i64 y, .int .i64 m, .int .i64 d]] w fun e w' => e = .returned (.int .i64 (dayOf c y m d)) ∧ Below w.heap.size w w' := by
  obtain ⟨W0, hW0⟩ : ∃ W0, W0 = w.alloc (.cells #[.int .i64 c, .int .i64 y, .int .i64 m, .int .i64 d] 92) := ⟨_, rfl⟩
  have c0 : ∀ x : Later W0, x.w.cell? ⟨w.heap.size, 0, none⟩ = some (.int .i64 c) := Later.new hW0 0 rfl
  have c1 : ∀ x : Later W0, x.w.cell? ⟨w.heap.size, 1, none⟩ = some (.int .i64 y) := Later.new hW0 1 rfl
  have c2 : ∀ x : Later W0, x.w.cell? ⟨w.heap.size, 2, none⟩ = some (.int .i64 m) := Later.new hW0 2 rfl
  have c3 : ∀ x : Later W0, x.w.cell? ⟨w.heap.size, 3, none⟩ = some (.int .i64 d) := Later.new hW0 3 rfl
  have HW0 : Hid (W0 = _) := hW0
  have HT : Hid (∀ x : Later W0, Tab x.w) := fun x => hT.later (below_of_alloc HW0.out x.below)
  have K0 : Calls Tryz.prog 190 #[.agg #[.int .i64 c, .int .i64 y, .int .i64 m, .int .i64 d]] W0 fun e w' => e = .returned (.bool (dateOk c y m d)) ∧ Below W0.heap.size W0 w' := implDateOk c y m d W0 (HT.out ⟨W0, Below.refl _ _⟩)
  clear hW0 hT
  by_cases hp : dateP c y m d
  · rw [dateOk_true hp] at K0
    have hm := dateP_month hp
    have hd := dateP_day hp
    have KU : ∀ x : Later W0, Calls Tryz.prog 191 #[.agg #[.int .i64 c, .int .i64 y, .int .i64 m, .int .i64 d]] x.w fun e w' => e = .returned (.int .i64 (first c y + before c y (m - 1).toNat + d - 1)) ∧ Below x.w.heap.size x.w w' := fun x => implLine c y m d x.w (HT.out x) hp.1 (by have := hp.2.1; omega) (by have := hp.2.2.1; omega) (by omega) (by omega) (by omega) (by omega)
    have e1 : dayOf c y m d = first c y + before c y (m - 1).toNat + d - 1 := by unfold dayOf; rw [if_pos hp]
    rw [e1]
    clear hp e1 hm hd
    generalize first c y + before c y (m - 1).toNat + d - 1 = R at *
    go_enter Tryz.func129, Tryz.ntmps129
    go_wp2_with (go_at_call 190; rw [← HW0.out]; refine K0.mono ?_; rintro e w1 ⟨rfl, hb⟩; obtain ⟨x0, rfl⟩ := Later.of hb)
    refine (KU x0).mono ?_
    rintro e w1 ⟨rfl, hb1⟩
    go_wp2
    go_ret
    exact ⟨rfl, below_of_alloc HW0.out (x0.on hb1)⟩
  · rw [dateOk_false hp] at K0
    have HD : Hid (dayOf c y m d = 0) := by unfold Hid dayOf; rw [if_neg hp]
    clear hp
    go_enter Tryz.func129, Tryz.ntmps129
    go_wp2_with (go_at_call 190; rw [← HW0.out]; refine K0.mono ?_; rintro e w1 ⟨rfl, hb⟩)
    go_ret
    exact ⟨ret_int HD.out.symm, below_of_alloc HW0.out hb⟩
end Go.Proofs.YtilpencbbdpgfaaGreatDoor.ctr
namespace Go.Proofs.YtilpencbbdpgfaaGreatDoor.ctr
open Go.RowKit
theorem year_low {c n : Int} (hc : c = 0 ∨ c = 1) (h1 : -1000 ≤ n) (h2 : n ≤ 1200000) : first c (n / 366) ≤ n ∧ -5 ≤ n / 366 ∧ n / 366 ≤ 3300 := by
  rcases hc with rfl | rfl
  · rw [first_jul]; omega
  · rw [first_gre]; omega
theorem year_top {c y n : Int} (hc : c = 0 ∨ c = 1) (h1 : first c y ≤ n) (h2 : n ≤ 1200000) : y ≤ 3300 := by
  rcases hc with rfl | rfl
  · rw [first_jul] at h1; omega
  · rw [first_gre] at h1; omega
theorem year_mean {c n q : Int} (hc : c = 0 ∨ c = 1) (h2 : n ≤ 1200000) (hq : q = (n * 400).tdiv 146097) (h1 : 1 ≤ q) : first c q ≤ n := by
  have hn : 0 ≤ n := by
    by_cases hn : 0 ≤ n
    · exact hn
    · have e := Int.neg_tdiv (n * 400) 146097
      have e2 : (-(n * 400)).tdiv 146097 = -(n * 400) / 146097 := Int.tdiv_eq_ediv_of_nonneg (by omega)
      omega
  have e : (n * 400).tdiv 146097 = n * 400 / 146097 := Int.tdiv_eq_ediv_of_nonneg (by omega)
  rw [e] at hq
  rcases hc with rfl | rfl
  · rw [first_jul]; omega
  · rw [first_gre]; omega
set_option maxHeartbeats 400000 in
theorem specYear (c n : Int) (w : World) (hc : c = 0 ∨ c = 1) (h1 : -1000 ≤ n) (h2 : n ≤ 1200000) : Calls Tryz.prog 169 #[.int .i64 c, .int .i64 n] w fun e w' => e = .returned (.int .i64 (yearOf c n)) ∧ w' = w ∧ first c (yearOf c n) ≤ n ∧ n < first c (yearOf c n + 1) ∧ -5 ≤ yearOf c n ∧ yearOf c n ≤ 3300 := by
  have HL := hideP (year_low hc h1 h2)
  have HC := hideP hc
  have KD : ∀ W, Calls Tryz.prog 232 #[.int .i64 n, .int .i64 366] W fun e w' => e = .returned (.int .i64 (n / 366)) ∧ w' = W := fun W => by rw [← floorDiv_small (by omega) (by omega) (by omega)]; exact specFloorDiv _ _ W
  obtain ⟨R, hR⟩ : ∃ R, R = yearOf c n := ⟨_, rfl⟩
  rw [← hR]
  have HR := hideP hR
  clear hR hc
  generalize n / 366 = q at *
  go_enter Tryz.func169, Tryz.ntmps169
  go_wp2_with (go_at_call 232; refine (KD _).mono ?_; rintro e w1 ⟨rfl, rfl⟩)
  rename_i w
  go_loop [5] (fun v => ∃ y : Int, v = .int .i64 y ∧ Hid (first c y ≤ n) ∧ -5 ≤ y ∧ y ≤ 3300) (fun v => (4000 - intOf v).toNat)
  case atStart => exact ⟨q, rfl, HL.out.1, HL.out.2.1, HL.out.2.2⟩
  case round =>
    obtain ⟨y, rfl, HY, y1, y2⟩ := hrel
    have KF : ∀ W, Calls Tryz.prog 170 #[.int .i64 c, .int .i64 (y + 1)] W fun e w' => e = .returned (.int .i64 (first c (y + 1))) ∧ w' = W := fun W => specFirst c (y + 1) W HC.out (by omega) (by omega)
    by_cases h : first c (y + 1) ≤ n
    · have ht := year_top HC.out h h2
      have HN := hideP h
      obtain ⟨F, eF⟩ : ∃ F, first c (y + 1) = F := ⟨_, rfl⟩
      rw [eF] at KF h
      clear eF
      go_wp2_with (go_at_call 170; refine (KF _).mono ?_; rintro e w1 ⟨rfl, rfl⟩)
      exact ⟨⟨y + 1, by go_num, HN, by omega, by omega⟩, by simp [intOf]; omega⟩
    · have HE : Hid (R = y) := by unfold Hid; rw [HR.out]; exact yearOf_eq HC.out HY.out (by omega)
      have HF : Hid (n < first c (y + 1)) := by unfold Hid; omega
      have h' : n < first c (y + 1) := by omega
      clear h
      obtain ⟨F, eF⟩ : ∃ F, first c (y + 1) = F := ⟨_, rfl⟩
      rw [eF] at KF h'
      clear eF
      go_wp2_with (go_at_call 170; refine (KF _).mono ?_; rintro e w1 ⟨rfl, rfl⟩)
      go_ret
      obtain rfl : R = y := HE.out
      exact ⟨rfl, rfl, HY.out, HF.out, y1, y2⟩
set_option maxHeartbeats 400000 in
theorem implYear (c n : Int) (w : World) (hc : c = 0 ∨ c = 1) (h1 : first c 1 ≤ n) (h2 : n ≤ 1200000) : Calls Tryz.prog 177 #[.iface (calT c) (.agg #[]), .int .i64 n] w fun e w' => e = .returned (.int .i64 (yearOf c n)) ∧ w' = w := by
  have hl : -1000 ≤ n := by
    rcases hc with rfl | rfl
    · rw [first_jul] at h1; omega
    · rw [first_gre] at h1; omega
  have HC := hideP hc
  have H1 := hideP h1
  obtain ⟨R, hR⟩ : ∃ R, R = yearOf c n := ⟨_, rfl⟩
  rw [← hR]
  have HR := hideP hR
  have KE : ∀ y : Int, Hid (-6 ≤ y ∧ y ≤ 3900) → ∀ W, Calls Tryz.prog 176 #[.iface (calT c) (.agg #[]), .int .i64 (y + 1)] W fun e w' => e = .returned (.int .i64 (first c (y + 1) - 1)) ∧ w' = W := fun y hy W => implEve c (y + 1) W HC.out (by have := hy.out; omega) (by have := hy.out; omega)
  obtain ⟨q, hq⟩ : ∃ q, q = (n * 400).tdiv 146097 := ⟨_, rfl⟩
  have HM : Hid (1 ≤ q → first c q ≤ n) := fun h => year_mean HC.out h2 hq h
  have HT : Hid (∀ y, first c y ≤ n → y ≤ 3300) := fun y h => year_top HC.out h h2
  generalize calT c = T at *
  clear hR hc h1
  by_cases hq1 : q < 1
  · go_enter Tryz.func177, Tryz.ntmps177
    go_wp2_with fail
    go_loop [5] (fun v => ∃ y : Int, v = .int .i64 y ∧ Hid (first c y ≤ n) ∧ 1 ≤ y ∧ y ≤ 3300) (fun v => (4000 - intOf v).toNat)
    case atStart => exact ⟨1, rfl, H1, by omega, by omega⟩
    case round =>
      obtain ⟨y, rfl, HY, y1, y2⟩ := hrel
      have KF := KE y (by unfold Hid; omega)
      by_cases h : first c (y + 1) ≤ n
      · have ht := HT.out _ h
        have HN := hideP h
        have b1 := first_bound HC.out (show -5 ≤ y + 1 by omega) (show y + 1 ≤ 4000 by omega)
        obtain ⟨F, eF⟩ : ∃ F, first c (y + 1) = F := ⟨_, rfl⟩
        rw [eF] at KF h b1
        clear eF
        go_wp2_with (go_at_call 176; refine (KF _).mono ?_; rintro e w1 ⟨rfl, rfl⟩)
        exact ⟨⟨y + 1, by go_num, HN, by omega, by omega⟩, by simp [intOf]; omega⟩
      · have HE : Hid (R = y) := by unfold Hid; rw [HR.out]; exact yearOf_eq HC.out HY.out (by omega)
        have b1 := first_bound HC.out (show -5 ≤ y + 1 by omega) (show y + 1 ≤ 4000 by omega)
        obtain ⟨F, eF⟩ : ∃ F, first c (y + 1) = F := ⟨_, rfl⟩
        rw [eF] at KF h b1
        clear eF
        go_wp2_with (go_at_call 176; refine (KF _).mono ?_; rintro e w1 ⟨rfl, rfl⟩)
        go_ret
        exact ⟨ret_int HE.out.symm, rfl⟩
  · have hb : 1 ≤ q ∧ q ≤ 3300 := ⟨by omega, HT.out _ (HM.out (by omega))⟩
    go_enter Tryz.func177, Tryz.ntmps177
    go_wp2_with fail
    go_loop [5] (fun v => ∃ y : Int, v = .int .i64 y ∧ Hid (first c y ≤ n) ∧ 1 ≤ y ∧ y ≤ 3300) (fun v => (4000 - intOf v).toNat)
    case atStart => exact ⟨q, by rw [hq], HM.out hb.1, hb.1, hb.2⟩
    case round =>
      obtain ⟨y, rfl, HY, y1, y2⟩ := hrel
      have KF := KE y (by unfold Hid; omega)
      by_cases h : first c (y + 1) ≤ n
      · have ht := HT.out _ h
        have HN := hideP h
        have b1 := first_bound HC.out (show -5 ≤ y + 1 by omega) (show y + 1 ≤ 4000 by omega)
        obtain ⟨F, eF⟩ : ∃ F, first c (y + 1) = F := ⟨_, rfl⟩
        rw [eF] at KF h b1
        clear eF
        go_wp2_with (go_at_call 176; refine (KF _).mono ?_; rintro e w1 ⟨rfl, rfl⟩)
        exact ⟨⟨y + 1, by go_num, HN, by omega, by omega⟩, by simp [intOf]; omega⟩
      · have HE : Hid (R = y) := by unfold Hid; rw [HR.out]; exact yearOf_eq HC.out HY.out (by omega)
        have b1 := first_bound HC.out (show -5 ≤ y + 1 by omega) (show y + 1 ≤ 4000 by omega)
        obtain ⟨F, eF⟩ : ∃ F, first c (y + 1) = F := ⟨_, rfl⟩
        rw [eF] at KF h b1
        clear eF
        go_wp2_with (go_at_call 176; refine (KF _).mono ?_; rintro e w1 ⟨rfl, rfl⟩)
        go_ret
        exact ⟨ret_int HE.out.symm, rfl⟩
end Go.Proofs.YtilpencbbdpgfaaGreatDoor.ctr
