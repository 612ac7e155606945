/- Contracts of a year's first day and of a date's day: the model's l02First, l02Day, DayOf; the program's yearEve, lineDay, DayOf. Contracts of the year that holds a day: the model's l02Year and the program's yearHolding. Contract of the model's DateOf: it answers its plain function at every argument. -/
import Derived.Test.YtdgolaaheakfoaaGreatDoorJnSar
import Derived.Test.YtdgolaaheakfoaaGreatDoorJnSaa
namespace Go.Proofs.YtdgolaaheakfoaaGreatDoor.ctr
open Go.RowKit
set_option maxHeartbeats 400000 in
theorem specFirst (c y : Int) (w : World) (hc : c = 0 ∨ c = 1) (hy1 : -5 ≤ y) (hy2 : y ≤ 4000) : Calls Tryz.prog 102 #[.int .i64 c, .int .i64 y] w fun e w' => e = .returned (.int .i64 (first c y)) ∧ w' = w := by
  have K4 : ∀ W, Calls Tryz.prog 134 #[.int .i64 (y - 1), .int .i64 4] W fun e w' => e = .returned (.int .i64 ((y - 1) / 4)) ∧ w' = W := fun W => by rw [← floorDiv_small (by omega) (by omega) (by omega)]; exact specFloorDiv _ _ W
  have K100 : ∀ W, Calls Tryz.prog 134 #[.int .i64 (y - 1), .int .i64 100] W fun e w' => e = .returned (.int .i64 ((y - 1) / 100)) ∧ w' = W := fun W => by rw [← floorDiv_small (by omega) (by omega) (by omega)]; exact specFloorDiv _ _ W
  have K400 : ∀ W, Calls Tryz.prog 134 #[.int .i64 (y - 1), .int .i64 400] W fun e w' => e = .returned (.int .i64 ((y - 1) / 400)) ∧ w' = W := fun W => by rw [← floorDiv_small (by omega) (by omega) (by omega)]; exact specFloorDiv _ _ W
  have b4 : -2 ≤ (y - 1) / 4 ∧ (y - 1) / 4 ≤ 1000 := by omega
  have b100 : -2 ≤ (y - 1) / 100 ∧ (y - 1) / 100 ≤ 1000 := by omega
  have b400 : -2 ≤ (y - 1) / 400 ∧ (y - 1) / 400 ≤ 1000 := by omega
  obtain ⟨R, hR⟩ : ∃ R, R = first c y := ⟨_, rfl⟩
  rw [← hR]
  rcases hc with rfl | rfl
  · rw [first_jul] at hR
    have HR := hideP hR
    clear hR K100 K400 b100 b400
    generalize (y - 1) / 4 = q4 at *
    go_enter Tryz.func102, Tryz.ntmps102
    go_wp2_with (go_at_call 134; refine (K4 _).mono ?_; rintro e w1 ⟨rfl, rfl⟩)
    go_ret
    exact ⟨ret_int (by rw [HR.out]), rfl⟩
  · rw [first_gre] at hR
    have HR := hideP hR
    clear hR
    generalize (y - 1) / 4 = q4 at *
    generalize (y - 1) / 100 = q100 at *
    generalize (y - 1) / 400 = q400 at *
    go_enter Tryz.func102, Tryz.ntmps102
    go_wp2_with (first | (go_at_call_of 134 (4 : Int); refine (K4 _).mono ?_; rintro e w1 ⟨rfl, rfl⟩) | (go_at_call_of 134 (100 : Int); refine (K100 _).mono ?_; rintro e w1 ⟨rfl, rfl⟩) | (go_at_call_of 134 (400 : Int); refine (K400 _).mono ?_; rintro e w1 ⟨rfl, rfl⟩))
    go_ret
    exact ⟨ret_int (by rw [HR.out]), rfl⟩
set_option maxHeartbeats 400000 in
theorem specDay (c y m d : Int) (w : World) (hc : c = 0 ∨ c = 1) (hy1 : -5 ≤ y) (hy2 : y ≤ 4000) (hm : m ≤ 13) (hd1 : -100 ≤ d) (hd2 : d ≤ 1000) : Calls Tryz.prog 100 #[.int .i64 c, .int .i64 y, .int .i64 m, .int .i64 d] w fun e w' => e = .returned (.int .i64 (first c y + before c y (m - 1).toNat + d - 1)) ∧ Below w.heap.size w w' := by
  have KF : ∀ W, Calls Tryz.prog 102 #[.int .i64 c, .int .i64 y] W fun e w' => e = .returned (.int .i64 (first c y)) ∧ w' = W := fun W => specFirst c y W hc hy1 hy2
  have KB : ∀ W, Calls Tryz.prog 133 #[.int .i64 c, .int .i64 y, .int .i64 m] W fun e w' => e = .returned (.int .i64 (before c y (m - 1).toNat)) ∧ Below W.heap.size W w' := fun W => specBefore c y m W hm
  have b1 := first_bound hc hy1 hy2
  have b2 := before_bound c y (m - 1).toNat
  have b3 : before c y (m - 1).toNat ≤ 372 := by omega
  have b4 := b2.1
  clear b2
  generalize first c y = F at *
  generalize before c y (m - 1).toNat = B at *
  go_enter Tryz.func100, Tryz.ntmps100
  go_wp2_with (first | (go_at_call 102; refine (KF _).mono ?_; rintro e w1 ⟨rfl, rfl⟩) | (go_at_call 133; refine (KB _).mono ?_; rintro e w1 ⟨rfl, hb⟩))
  go_ret
  exact ⟨rfl, hb⟩
set_option maxHeartbeats 400000 in
theorem implEve (c y : Int) (w : World) (hc : c = 0 ∨ c = 1) (hy1 : -5 ≤ y) (hy2 : y ≤ 4000) : Calls Tryz.prog 128 #[.iface (calT c) (.agg #[]), .int .i64 y] w fun e w' => e = .returned (.int .i64 (first c y - 1)) ∧ w' = w := by
  have K4 : ∀ W, Calls Tryz.prog 155 #[.int .i64 (y - 1), .int .i64 4] W fun e w' => e = .returned (.int .i64 ((y - 1) / 4)) ∧ w' = W := fun W => by rw [← floorDiv_small (by omega) (by omega) (by omega)]; exact implFloorDiv _ _ W
  have K100 : ∀ W, Calls Tryz.prog 155 #[.int .i64 (y - 1), .int .i64 100] W fun e w' => e = .returned (.int .i64 ((y - 1) / 100)) ∧ w' = W := fun W => by rw [← floorDiv_small (by omega) (by omega) (by omega)]; exact implFloorDiv _ _ W
  have K400 : ∀ W, Calls Tryz.prog 155 #[.int .i64 (y - 1), .int .i64 400] W fun e w' => e = .returned (.int .i64 ((y - 1) / 400)) ∧ w' = W := fun W => by rw [← floorDiv_small (by omega) (by omega) (by omega)]; exact implFloorDiv _ _ W
  have b4 : -2 ≤ (y - 1) / 4 ∧ (y - 1) / 4 ≤ 1000 := by omega
  have b100 : -2 ≤ (y - 1) / 100 ∧ (y - 1) / 100 ≤ 1000 := by omega
  have b400 : -2 ≤ (y - 1) / 400 ∧ (y - 1) / 400 ≤ 1000 := by omega
  obtain ⟨R, hR⟩ : ∃ R, R = first c y - 1 := ⟨_, rfl⟩
  rw [← hR]
  rcases hc with rfl | rfl
  · rw [first_jul] at hR
    have HR := hideP hR
    clear hR K100 K400 b100 b400
    generalize (y - 1) / 4 = q4 at *
    have q1 := isJulJul
    rw [show calT 0 = 164 from rfl]
    go_enter Tryz.func128, Tryz.ntmps128
    go_wp2_with (go_at_call 155; refine (K4 _).mono ?_; rintro e w1 ⟨rfl, rfl⟩)
    go_ret
    exact ⟨ret_int (by rw [HR.out]; omega), rfl⟩
  · rw [first_gre] at hR
    have HR := hideP hR
    clear hR
    generalize (y - 1) / 4 = q4 at *
    generalize (y - 1) / 100 = q100 at *
    generalize (y - 1) / 400 = q400 at *
    have q1 := isJulGre
    have q2 := isGreGre
    rw [show calT 1 = 165 from rfl]
    go_enter Tryz.func128, Tryz.ntmps128
    go_wp2_with (first | (go_at_call_of 155 (4 : Int); refine (K4 _).mono ?_; rintro e w1 ⟨rfl, rfl⟩) | (go_at_call_of 155 (100 : Int); refine (K100 _).mono ?_; rintro e w1 ⟨rfl, rfl⟩) | (go_at_call_of 155 (400 : Int); refine (K400 _).mono ?_; rintro e w1 ⟨rfl, rfl⟩))
    go_ret
    exact ⟨ret_int (by rw [HR.out]; omega), rfl⟩
set_option maxHeartbeats 400000 in
theorem implLine (c y m d : Int) (w : World) (hT : Tab w) (hc : c = 0 ∨ c = 1) (hy1 : -5 ≤ y) (hy2 : y ≤ 4000) (hm1 : 1 ≤ m) (hm2 : m ≤ 13) (hd1 : -100 ≤ d) (hd2 : d ≤ 1000) : Calls Tryz.prog 141 #[.agg #[.int .i64 c, .int .i64 y, .int .i64 m, .int .i64 d]] w fun e w' => e = .returned (.int .i64 (first c y + before c y (m - 1).toNat + d - 1)) ∧ Below w.heap.size w w' := by
  obtain ⟨W0, hW0⟩ : ∃ W0, W0 = w.alloc (.cells #[.int .i64 c, .int .i64 y, .int .i64 m, .int .i64 d] 92) := ⟨_, rfl⟩
  have c0 : ∀ x : Later W0, x.w.cell? ⟨w.heap.size, 0, none⟩ = some (.int .i64 c) := Later.new hW0 0 rfl
  have c1 : ∀ x : Later W0, x.w.cell? ⟨w.heap.size, 1, none⟩ = some (.int .i64 y) := Later.new hW0 1 rfl
  have c2 : ∀ x : Later W0, x.w.cell? ⟨w.heap.size, 2, none⟩ = some (.int .i64 m) := Later.new hW0 2 rfl
  have c3 : ∀ x : Later W0, x.w.cell? ⟨w.heap.size, 3, none⟩ = some (.int .i64 d) := Later.new hW0 3 rfl
  have HW0 : Hid (W0 = _) := hW0
  have HT : Hid (∀ x : Later W0, Tab x.w) := fun x => hT.later (below_of_alloc HW0.out x.below)
  clear hW0 hT
  have KC := fun W => implCal c hc W
  have KE : ∀ W, Calls Tryz.prog 128 #[.iface (calT c) (.agg #[]), .int .i64 y] W fun e w' => e = .returned (.int .i64 (first c y - 1)) ∧ w' = W := fun W => implEve c y W hc hy1 hy2
  have KY : ∀ x : Later W0, Calls Tryz.prog 171 #[.agg #[.int .i64 c, .int .i64 y, .int .i64 m, .int .i64 d]] x.w fun e w' => e = .returned (.int .i64 (before c y (m - 1).toNat + d)) ∧ Below x.w.heap.size x.w w' := fun x => implUpTo c y m d x.w (HT.out x) hm1 hm2 hd1 hd2
  have b1 := first_bound hc hy1 hy2
  have b2 := before_bound c y (m - 1).toNat
  have b3 : -100 ≤ before c y (m - 1).toNat + d ∧ before c y (m - 1).toNat + d ≤ 2000 := by omega
  obtain ⟨R, hR⟩ : ∃ R, R = first c y + before c y (m - 1).toNat + d - 1 := ⟨_, rfl⟩
  rw [← hR]
  have hR' : R = first c y - 1 + (before c y (m - 1).toNat + d) := by omega
  have HR := hideP hR'
  clear hR hR' b2 hc
  generalize before c y (m - 1).toNat + d = Y at *
  generalize first c y = F at *
  generalize calT c = T at *
  go_enter Tryz.func141, Tryz.ntmps141
  go_wp2_with fail
  rw [← HW0.out]
  refine wp_region_later (W := W0) (Below.refl _ _) (by kernel_rfl) (by kernel_rfl) ?_
  repeat (go_big_quiet_step (first | (go_at_call 84; exact calls_same (KC _)) | (go_at_call 128; exact calls_same (KE _)) | (go_at_call 171; exact calls_later (KY _))))
  refine wpQuiet_nil ?_
  intro _ hw'
  obtain ⟨x, rfl⟩ := hw'
  go_wp2
  go_ret
  exact ⟨ret_int HR.out.symm, below_of_alloc HW0.out x.below⟩
set_option maxHeartbeats 400000 in
theorem implDayOf (c y m d : Int) (w : World) (hT : Tab w) : Calls Tryz.prog 110 #[.agg #[.int .i64 c, .int .i64 y, .int .i64 m, .int .i64 d]] w fun e w' => e = .returned (.int .i64 (dayOf c y m d)) ∧ Below w.heap.size w w' := by
  obtain ⟨W0, hW0⟩ : ∃ W0, W0 = w.alloc (.cells #[.int .i64 c, .int .i64 y, .int .i64 m, .int .i64 d] 92) := ⟨_, rfl⟩
  have c0 : ∀ x : Later W0, x.w.cell? ⟨w.heap.size, 0, none⟩ = some (.int .i64 c) := Later.new hW0 0 rfl
  have c1 : ∀ x : Later W0, x.w.cell? ⟨w.heap.size, 1, none⟩ = some (.int .i64 y) := Later.new hW0 1 rfl
  have c2 : ∀ x : Later W0, x.w.cell? ⟨w.heap.size, 2, none⟩ = some (.int .i64 m) := Later.new hW0 2 rfl
  have c3 : ∀ x : Later W0, x.w.cell? ⟨w.heap.size, 3, none⟩ = some (.int .i64 d) := Later.new hW0 3 rfl
  have HW0 : Hid (W0 = _) := hW0
  have HT : Hid (∀ x : Later W0, Tab x.w) := fun x => hT.later (below_of_alloc HW0.out x.below)
  have K0 : Calls Tryz.prog 109 #[.agg #[.int .i64 c, .int .i64 y, .int .i64 m, .int .i64 d]] W0 fun e w' => e = .returned (.bool (dateOk c y m d)) ∧ Below W0.heap.size W0 w' := implDateOk c y m d W0 (HT.out ⟨W0, Below.refl _ _⟩)
  clear hW0 hT
  by_cases hp : dateP c y m d
  · rw [dateOk_true hp] at K0
    have hm := dateP_month hp
    have hd := dateP_day hp
    have KU : ∀ x : Later W0, Calls Tryz.prog 141 #[.agg #[.int .i64 c, .int .i64 y, .int .i64 m, .int .i64 d]] x.w fun e w' => e = .returned (.int .i64 (first c y + before c y (m - 1).toNat + d - 1)) ∧ Below x.w.heap.size x.w w' := fun x => implLine c y m d x.w (HT.out x) hp.1 (by have := hp.2.1; omega) (by have := hp.2.2.1; omega) (by omega) (by omega) (by omega) (by omega)
    have e1 : dayOf c y m d = first c y + before c y (m - 1).toNat + d - 1 := by unfold dayOf; rw [if_pos hp]
    rw [e1]
    clear hp e1 hm hd
    generalize first c y + before c y (m - 1).toNat + d - 1 = R at *
    go_enter Tryz.func110, Tryz.ntmps110
    go_wp2_with (go_at_call 109; rw [← HW0.out]; refine K0.mono ?_; rintro e w1 ⟨rfl, hb⟩; obtain ⟨x0, rfl⟩ := Later.of hb)
    refine (KU x0).mono ?_
    rintro e w1 ⟨rfl, hb1⟩
    go_wp2
    go_ret
    exact ⟨rfl, below_of_alloc HW0.out (x0.on hb1)⟩
  · rw [dateOk_false hp] at K0
    have HD : Hid (dayOf c y m d = 0) := by unfold Hid dayOf; rw [if_neg hp]
    clear hp
    go_enter Tryz.func110, Tryz.ntmps110
    go_wp2_with (go_at_call 109; rw [← HW0.out]; refine K0.mono ?_; rintro e w1 ⟨rfl, hb⟩)
    go_ret
    exact ⟨ret_int HD.out.symm, below_of_alloc HW0.out hb⟩
end Go.Proofs.YtdgolaaheakfoaaGreatDoor.ctr
namespace Go.Proofs.YtdgolaaheakfoaaGreatDoor.ctr
open Go.RowKit
theorem year_low {c n : Int} (hc : c = 0 ∨ c = 1) (h1 : -1000 ≤ n) (h2 : n ≤ 1200000) : first c (n / 366) ≤ n ∧ -5 ≤ n / 366 ∧ n / 366 ≤ 3300 := by
  rcases hc with rfl | rfl
  · rw [first_jul]; omega
  · rw [first_gre]; omega
theorem year_top {c y n : Int} (hc : c = 0 ∨ c = 1) (h1 : first c y ≤ n) (h2 : n ≤ 1200000) : y ≤ 3300 := by
  rcases hc with rfl | rfl
  · rw [first_jul] at h1; omega
  · rw [first_gre] at h1; omega
theorem year_mean {c n q : Int} (hc : c = 0 ∨ c = 1) (h2 : n ≤ 1200000) (hq : q = (n * 400).tdiv 146097) (h1 : 1 ≤ q) : first c q ≤ n := by
  have hn : 0 ≤ n := by
    by_cases hn : 0 ≤ n
    · exact hn
    · have e := Int.neg_tdiv (n * 400) 146097
      have e2 : (-(n * 400)).tdiv 146097 = -(n * 400) / 146097 := Int.tdiv_eq_ediv_of_nonneg (by omega)
      omega
  have e : (n * 400).tdiv 146097 = n * 400 / 146097 := Int.tdiv_eq_ediv_of_nonneg (by omega)
  rw [e] at hq
  rcases hc with rfl | rfl
  · rw [first_jul]; omega
  · rw [first_gre]; omega
set_option maxHeartbeats 400000 in
theorem specYear (c n : Int) (w : World) (hc : c = 0 ∨ c = 1) (h1 : -1000 ≤ n) (h2 : n ≤ 1200000) : Calls Tryz.prog 101 #[.int .i64 c, .int .i64 n] w fun e w' => e = .returned (.int .i64 (yearOf c n)) ∧ w' = w ∧ first c (yearOf c n) ≤ n ∧ n < first c (yearOf c n + 1) ∧ -5 ≤ yearOf c n ∧ yearOf c n ≤ 3300 := by
  have HL := hideP (year_low hc h1 h2)
  have HC := hideP hc
  have KD : ∀ W, Calls Tryz.prog 134 #[.int .i64 n, .int .i64 366] W fun e w' => e = .returned (.int .i64 (n / 366)) ∧ w' = W := fun W => by rw [← floorDiv_small (by omega) (by omega) (by omega)]; exact specFloorDiv _ _ W
  obtain ⟨R, hR⟩ : ∃ R, R = yearOf c n := ⟨_, rfl⟩
  rw [← hR]
  have HR := hideP hR
  clear hR hc
  generalize n / 366 = q at *
  go_enter Tryz.func101, Tryz.ntmps101
  go_wp2_with (go_at_call 134; refine (KD _).mono ?_; rintro e w1 ⟨rfl, rfl⟩)
  rename_i w
  go_loop [5] (fun v => ∃ y : Int, v = .int .i64 y ∧ Hid (first c y ≤ n) ∧ -5 ≤ y ∧ y ≤ 3300) (fun v => (4000 - intOf v).toNat)
  case atStart => exact ⟨q, rfl, HL.out.1, HL.out.2.1, HL.out.2.2⟩
  case round =>
    obtain ⟨y, rfl, HY, y1, y2⟩ := hrel
    have KF : ∀ W, Calls Tryz.prog 102 #[.int .i64 c, .int .i64 (y + 1)] W fun e w' => e = .returned (.int .i64 (first c (y + 1))) ∧ w' = W := fun W => specFirst c (y + 1) W HC.out (by omega) (by omega)
    by_cases h : first c (y + 1) ≤ n
    · have ht := year_top HC.out h h2
      have HN := hideP h
      obtain ⟨F, eF⟩ : ∃ F, first c (y + 1) = F := ⟨_, rfl⟩
      rw [eF] at KF h
      clear eF
      go_wp2_with (go_at_call 102; refine (KF _).mono ?_; rintro e w1 ⟨rfl, rfl⟩)
      exact ⟨⟨y + 1, by go_num, HN, by omega, by omega⟩, by simp [intOf]; omega⟩
    · have HE : Hid (R = y) := by unfold Hid; rw [HR.out]; exact yearOf_eq HC.out HY.out (by omega)
      have HF : Hid (n < first c (y + 1)) := by unfold Hid; omega
      have h' : n < first c (y + 1) := by omega
      clear h
      obtain ⟨F, eF⟩ : ∃ F, first c (y + 1) = F := ⟨_, rfl⟩
      rw [eF] at KF h'
      clear eF
      go_wp2_with (go_at_call 102; refine (KF _).mono ?_; rintro e w1 ⟨rfl, rfl⟩)
      go_ret
      obtain rfl : R = y := HE.out
      exact ⟨rfl, rfl, HY.out, HF.out, y1, y2⟩
set_option maxHeartbeats 400000 in
theorem implYear (c n : Int) (w : World) (hc : c = 0 ∨ c = 1) (h1 : first c 1 ≤ n) (h2 : n ≤ 1200000) : Calls Tryz.prog 129 #[.iface (calT c) (.agg #[]), .int .i64 n] w fun e w' => e = .returned (.int .i64 (yearOf c n)) ∧ w' = w := by
  have hl : -1000 ≤ n := by
    rcases hc with rfl | rfl
    · rw [first_jul] at h1; omega
    · rw [first_gre] at h1; omega
  have HC := hideP hc
  have H1 := hideP h1
  obtain ⟨R, hR⟩ : ∃ R, R = yearOf c n := ⟨_, rfl⟩
  rw [← hR]
  have HR := hideP hR
  have KE : ∀ y : Int, Hid (-6 ≤ y ∧ y ≤ 3900) → ∀ W, Calls Tryz.prog 128 #[.iface (calT c) (.agg #[]), .int .i64 (y + 1)] W fun e w' => e = .returned (.int .i64 (first c (y + 1) - 1)) ∧ w' = W := fun y hy W => implEve c (y + 1) W HC.out (by have := hy.out; omega) (by have := hy.out; omega)
  obtain ⟨q, hq⟩ : ∃ q, q = (n * 400).tdiv 146097 := ⟨_, rfl⟩
  have HM : Hid (1 ≤ q → first c q ≤ n) := fun h => year_mean HC.out h2 hq h
  have HT : Hid (∀ y, first c y ≤ n → y ≤ 3300) := fun y h => year_top HC.out h h2
  generalize calT c = T at *
  clear hR hc h1
  by_cases hq1 : q < 1
  · go_enter Tryz.func129, Tryz.ntmps129
    go_wp2_with fail
    go_loop [5] (fun v => ∃ y : Int, v = .int .i64 y ∧ Hid (first c y ≤ n) ∧ 1 ≤ y ∧ y ≤ 3300) (fun v => (4000 - intOf v).toNat)
    case atStart => exact ⟨1, rfl, H1, by omega, by omega⟩
    case round =>
      obtain ⟨y, rfl, HY, y1, y2⟩ := hrel
      have KF := KE y (by unfold Hid; omega)
      by_cases h : first c (y + 1) ≤ n
      · have ht := HT.out _ h
        have HN := hideP h
        have b1 := first_bound HC.out (show -5 ≤ y + 1 by omega) (show y + 1 ≤ 4000 by omega)
        obtain ⟨F, eF⟩ : ∃ F, first c (y + 1) = F := ⟨_, rfl⟩
        rw [eF] at KF h b1
        clear eF
        go_wp2_with (go_at_call 128; refine (KF _).mono ?_; rintro e w1 ⟨rfl, rfl⟩)
        exact ⟨⟨y + 1, by go_num, HN, by omega, by omega⟩, by simp [intOf]; omega⟩
      · have HE : Hid (R = y) := by unfold Hid; rw [HR.out]; exact yearOf_eq HC.out HY.out (by omega)
        have b1 := first_bound HC.out (show -5 ≤ y + 1 by omega) (show y + 1 ≤ 4000 by omega)
        obtain ⟨F, eF⟩ : ∃ F, first c (y + 1) = F := ⟨_, rfl⟩
        rw [eF] at KF h b1
        clear eF
        go_wp2_with (go_at_call 128; refine (KF _).mono ?_; rintro e w1 ⟨rfl, rfl⟩)
        go_ret
        exact ⟨ret_int HE.out.symm, rfl⟩
  · have hb : 1 ≤ q ∧ q ≤ 3300 := ⟨by omega, HT.out _ (HM.out (by omega))⟩
    go_enter Tryz.func129, Tryz.ntmps129
    go_wp2_with fail
    go_loop [5] (fun v => ∃ y : Int, v = .int .i64 y ∧ Hid (first c y ≤ n) ∧ 1 ≤ y ∧ y ≤ 3300) (fun v => (4000 - intOf v).toNat)
    case atStart => exact ⟨q, by rw [hq], HM.out hb.1, hb.1, hb.2⟩
    case round =>
      obtain ⟨y, rfl, HY, y1, y2⟩ := hrel
      have KF := KE y (by unfold Hid; omega)
      by_cases h : first c (y + 1) ≤ n
      · have ht := HT.out _ h
        have HN := hideP h
        have b1 := first_bound HC.out (show -5 ≤ y + 1 by omega) (show y + 1 ≤ 4000 by omega)
        obtain ⟨F, eF⟩ : ∃ F, first c (y + 1) = F := ⟨_, rfl⟩
        rw [eF] at KF h b1
        clear eF
        go_wp2_with (go_at_call 128; refine (KF _).mono ?_; rintro e w1 ⟨rfl, rfl⟩)
        exact ⟨⟨y + 1, by go_num, HN, by omega, by omega⟩, by simp [intOf]; omega⟩
      · have HE : Hid (R = y) := by unfold Hid; rw [HR.out]; exact yearOf_eq HC.out HY.out (by omega)
        have b1 := first_bound HC.out (show -5 ≤ y + 1 by omega) (show y + 1 ≤ 4000 by omega)
        obtain ⟨F, eF⟩ : ∃ F, first c (y + 1) = F := ⟨_, rfl⟩
        rw [eF] at KF h b1
        clear eF
        go_wp2_with (go_at_call 128; refine (KF _).mono ?_; rintro e w1 ⟨rfl, rfl⟩)
        go_ret
        exact ⟨ret_int HE.out.symm, rfl⟩
end Go.Proofs.YtdgolaaheakfoaaGreatDoor.ctr
namespace Go.Proofs.YtdgolaaheakfoaaGreatDoor.ctr
open Go.RowKit
abbrev z4 : Array Value := #[.int .i64 0, .int .i64 0, .int .i64 0, .int .i64 0]
theorem dateOf_no {c n : Int} (h : ¬ ((c = 0 ∨ c = 1) ∧ 1 ≤ yearOf c n ∧ yearOf c n ≤ 3000 ∧ -1000 ≤ n ∧ n ≤ 1200000)) : dateOf c n = (0, 0, 0, 0, false) := by unfold dateOf; rw [if_neg h]
theorem dateOf_yes {c n y : Int} {k : Nat} (hc : c = 0 ∨ c = 1) (h1 : -1000 ≤ n) (h2 : n ≤ 1200000) (hy : yearOf c n = y) (hk : monthOf c y (n - first c y) = k) (y1 : 1 ≤ y) (y2 : y ≤ 3000) : dateOf c n = (c, y, (k : Int) + 1, n - first c y - before c y k + 1, true) := by
  unfold dateOf
  rw [hy, hk, if_pos ⟨hc, y1, y2, h1, h2⟩]
noncomputable def dateR (c n : Int) : Value := .tuple #[.agg #[.int .i64 (dateOf c n).1, .int .i64 (dateOf c n).2.1, .int .i64 (dateOf c n).2.2.1, .int .i64 (dateOf c n).2.2.2.1], .bool (dateOf c n).2.2.2.2]
theorem dateR_no {c n : Int} (h : dateOf c n = (0, 0, 0, 0, false)) : dateR c n = .tuple #[.agg z4, .bool false] := by unfold dateR; rw [h]
theorem dateR_yes {c n y m d : Int} (h : dateOf c n = (c, y, m, d, true)) : dateR c n = .tuple #[.agg #[.int .i64 c, .int .i64 y, .int .i64 m, .int .i64 d], .bool true] := by unfold dateR; rw [h]
set_option maxHeartbeats 1000000 in
theorem specDateOf (c n : Int) (w : World) : Calls Tryz.prog 57 #[.int .i64 c, .int .i64 n] w fun e w' => e = .returned (dateR c n) ∧ Below w.heap.size w w' := by
  by_cases hc : c = 0 ∨ c = 1
  case neg =>
    rw [dateR_no (dateOf_no (fun h => hc h.1))]
    have KC := fun W => specCal c W
    rw [calB_no hc] at KC
    clear hc
    go_enter Tryz.func57, Tryz.ntmps57
    go_wp2_with (go_at_call 75; refine (KC _).mono ?_; rintro e w1 ⟨rfl, rfl⟩)
    go_returns
    refine ⟨rfl, ?_⟩
    go_grown
  have KC := fun W => specCal c W
  rw [calB_iff.2 hc] at KC
  have KI := fun W => l01In n (-1000) 1200000 W
  by_cases hn : -1000 ≤ n ∧ n ≤ 1200000
  case neg =>
    rw [dateR_no (dateOf_no (fun h => hn h.2.2.2))]
    rw [inB_false (by omega)] at KI
    clear hc hn
    go_enter Tryz.func57, Tryz.ntmps57
    go_wp2_with (first | (go_at_call 75; refine (KC _).mono ?_; rintro e w1 ⟨rfl, rfl⟩) | (go_at_call 54; refine (KI _).mono ?_; rintro e w1 ⟨rfl, rfl⟩))
    go_returns
    refine ⟨rfl, ?_⟩
    go_grown
  obtain ⟨h1, h2⟩ := hn
  rw [inB_true h1 h2] at KI
  have KY := fun W => specYear c n W hc h1 h2
  obtain ⟨y, hy⟩ : ∃ y, yearOf c n = y := ⟨_, rfl⟩
  rw [hy] at KY
  have KF := fun a b W => specFirst c y W hc a b
  obtain ⟨F, hF⟩ : ∃ F, first c y = F := ⟨_, rfl⟩
  have hs := first_step hc y
  rw [hF] at KF hs
  obtain ⟨V, hV⟩ : ∃ V, dateR c n = V := ⟨_, rfl⟩
  rw [hV]
  have HH : Hid ((c = 0 ∨ c = 1) ∧ yearOf c n = y ∧ first c y = F ∧ first c (y + 1) = F + before c y 12 ∧ dateR c n = V) := ⟨hc, hy, hF, hs, hV⟩
  have hb0 := fun (hh : -5 ≤ y) (hh2 : y ≤ 3300) => first_bound hc hh (show y ≤ 4000 by omega)
  rw [hF] at hb0
  clear hc hy hF hs hV
  go_enter Tryz.func57, Tryz.ntmps57
  go_wp2_with (first | (go_at_call 75; refine (KC _).mono ?_; rintro e w1 ⟨rfl, rfl⟩) | (go_at_call 54; refine (KI _).mono ?_; rintro e w1 ⟨rfl, rfl⟩) | (go_at_call 101; refine (KY _).mono ?_; rintro e w1 ⟨rfl, rfl, q1, q2, q3, q4⟩; have b0 := hb0 q3 q4; rw [HH.out.2.2.1] at q1; rw [HH.out.2.2.2.1] at q2; have Q2 := hideP q2; clear q2) | (go_at_call 102; refine (KF (by omega) (by omega) _).mono ?_; rintro e w1 ⟨rfl, rfl⟩))
  go_loopw [7] (fun v wr => ∃ k : Nat, k < 12 ∧ v = .int .i64 (n - F - before c y k) ∧ before c y k ≤ n - F ∧ Below w.heap.size w wr ∧ Blk wr w.heap.size z4 92 ∧ Blk wr (w.heap.size + 1) #[.int .i64 c, .int .i64 y, .int .i64 ((k : Int) + 1), .int .i64 0] 92) (fun v _ => (intOf v).toNat)
  case atStart =>
    refine ⟨0, by omega, by simp [before], by simp [before]; omega, ?_, ?_, ?_⟩
    · exact ((Below.refl _ _).alloc (Nat.le_refl _) _).alloc (by rw [World.size_alloc]; omega) _
    · exact (Blk.new w _ _).alloc _
    · have := Blk.new (w.alloc (.cells z4 92)) #[.int .i64 c, .int .i64 y, .int .i64 (((0 : Nat) : Int) + 1), .int .i64 0] 92
      rw [World.size_alloc] at this
      exact this
  case round =>
    obtain ⟨k, hk, rfl, hle, hb, hz, hd⟩ := hrel
    have c1 : ∀ x : Later wr, x.w.cell? ⟨w.heap.size + 1, 1, none⟩ = some (.int .i64 y) := fun x => (hd.later x).cell 1 rfl
    have c2 : ∀ x : Later wr, x.w.cell? ⟨w.heap.size + 1, 2, none⟩ = some (.int .i64 ((k : Int) + 1)) := fun x => (hd.later x).cell 2 rfl
    have c0 : ∀ x : Later wr, x.w.cell? ⟨w.heap.size + 1, 0, none⟩ = some (.int .i64 c) := fun x => (hd.later x).cell 0 rfl
    have c3 : ∀ x : Later wr, x.w.cell? ⟨w.heap.size + 1, 3, none⟩ = some (.int .i64 0) := fun x => (hd.later x).cell 3 rfl
    have f3 : ∀ x : Later wr, x.w.frozen? ⟨w.heap.size + 1, 3, none⟩ = false := fun x => (hd.later x).thaw 3
    have c10 := hd.cell 1 rfl
    have c20 := hd.cell 2 rfl
    have f2 : ∀ x : Later wr, x.w.frozen? ⟨w.heap.size + 1, 2, none⟩ = false := fun x => (hd.later x).thaw 2
    have KM : ∀ W, Calls Tryz.prog 103 #[.int .i64 c, .int .i64 y, .int .i64 ((k : Int) + 1)] W fun e w' => e = .returned (.int .i64 (monthDays c y ((k : Int) + 1))) ∧ Below W.heap.size W w' := specMonthDays c y _
    have b1 := before_bound c y k
    have b2 := monthDays_le c y ((k : Int) + 1)
    have b3 := monthDays_ge (y := y) HH.out.1 (show 1 ≤ (k : Int) + 1 by omega) (show (k : Int) + 1 ≤ 12 by omega)
    have HN := hideP (before_next c y k)
    have HD := hideP hd
    have HZ := hideP hz
    have HB := hideP hb
    clear hd hz hb
    obtain ⟨md, em⟩ : ∃ md, monthDays c y ((k : Int) + 1) = md := ⟨_, rfl⟩
    rw [em] at KM b2 b3 HN
    have HE := hideP em
    clear em
    obtain ⟨B, eB⟩ : ∃ B, before c y k = B := ⟨_, rfl⟩
    have HBk := hideP eB
    rw [eB] at HN b1 hle
    rw [eB]
    clear eB
    by_cases hge : md ≤ n - F - B
    · go_wp2_with fail
      refine (KM _).mono ?_
      rintro e w1 ⟨rfl, hb1⟩
      obtain ⟨x1, rfl⟩ := Later.of hb1
      clear hb1
      go_wp2_with fail
      refine (KM _).mono ?_
      rintro e w1 ⟨rfl, hb1⟩
      obtain ⟨x2, rfl⟩ := x1.next hb1
      clear hb1
      go_wp2_with fail
      refine ⟨⟨k + 1, ?_, ?_, ?_, below_store (HB.out.trans (x2.below.mono HB.out.size)) _ (by omega), ((HZ.out.later x2).other (by omega)), ?_⟩, ?_⟩
      · by_cases hq : k + 1 < 12
        · exact hq
        · obtain rfl : k = 11 := by omega
          have := HN.out
          have := Q2.out
          simp only [Nat.reduceAdd] at *
          omega
      · exact congrArg (Value.int .i64) (by rw [HN.out]; omega)
      · rw [HN.out]; omega
      · rw [show ((k + 1 : Nat) : Int) + 1 = (k : Int) + 1 + 1 by omega]
        exact (HD.out.later x2).set 2 _
      · simp [intOf]; omega
    · go_wp2_with fail
      refine (KM _).mono ?_
      rintro e w1 ⟨rfl, hb1⟩
      obtain ⟨x1, rfl⟩ := Later.of hb1
      clear hb1
      go_wp2_with fail
      obtain ⟨W3, e3⟩ : ∃ W3, W3 = x1.w.setCell ⟨w.heap.size + 1, 3, none⟩ (.int .i64 (n - F - B + 1)) := ⟨_, rfl⟩
      have D3 : Blk W3 (w.heap.size + 1) #[.int .i64 c, .int .i64 y, .int .i64 ((k : Int) + 1), .int .i64 (n - F - B + 1)] 92 := by rw [e3]; exact (HD.out.later x1).set 3 _
      have Z3 : Blk W3 w.heap.size z4 92 := by rw [e3]; exact (HZ.out.later x1).other (by omega)
      have B3 : Below w.heap.size w W3 := by rw [e3]; exact below_store (HB.out.trans (x1.below.mono HB.out.size)) _ (by omega)
      rw [← e3]
      have HB3 := hideP B3
      have HZ3 := hideP Z3
      clear e3 c0 c1 c2 c3 c10 c20 f2 f3
      have c0 : ∀ x : Later W3, x.w.cell? ⟨w.heap.size + 1, 0, none⟩ = some (.int .i64 c) := fun x => (D3.later x).cell 0 rfl
      have c1 : ∀ x : Later W3, x.w.cell? ⟨w.heap.size + 1, 1, none⟩ = some (.int .i64 y) := fun x => (D3.later x).cell 1 rfl
      have c2 : ∀ x : Later W3, x.w.cell? ⟨w.heap.size + 1, 2, none⟩ = some (.int .i64 ((k : Int) + 1)) := fun x => (D3.later x).cell 2 rfl
      have c3 : ∀ x : Later W3, x.w.cell? ⟨w.heap.size + 1, 3, none⟩ = some (.int .i64 (n - F - B + 1)) := fun x => (D3.later x).cell 3 rfl
      have g0 : ∀ x : Later W3, x.w.cell? ⟨w.heap.size, 0, none⟩ = some (.int .i64 0) := fun x => (Z3.later x).cell 0 rfl
      have f0 : ∀ x : Later W3, x.w.frozen? ⟨w.heap.size, 0, none⟩ = false := fun x => (Z3.later x).thaw 0
      have g1 : ∀ x : Later W3, x.w.cell? ⟨w.heap.size, 1, none⟩ = some (.int .i64 0) := fun x => (Z3.later x).cell 1 rfl
      have f1 : ∀ x : Later W3, x.w.frozen? ⟨w.heap.size, 1, none⟩ = false := fun x => (Z3.later x).thaw 1
      have g2 : ∀ x : Later W3, x.w.cell? ⟨w.heap.size, 2, none⟩ = some (.int .i64 0) := fun x => (Z3.later x).cell 2 rfl
      have f2 : ∀ x : Later W3, x.w.frozen? ⟨w.heap.size, 2, none⟩ = false := fun x => (Z3.later x).thaw 2
      have g3 : ∀ x : Later W3, x.w.cell? ⟨w.heap.size, 3, none⟩ = some (.int .i64 0) := fun x => (Z3.later x).cell 3 rfl
      have f3 : ∀ x : Later W3, x.w.frozen? ⟨w.heap.size, 3, none⟩ = false := fun x => (Z3.later x).thaw 3
      have hmon : monthOf c y (n - first c y) = k := by rw [HH.out.2.2.1]; exact monthOf_eq (by rw [HBk.out]; exact hle) (by rw [HN.out]; omega)
      have K0 := specDateOk c y ((k : Int) + 1) (n - F - B + 1) W3
      by_cases hyr : 1 ≤ y ∧ y ≤ 3000
      · have hp : dateP c y ((k : Int) + 1) (n - F - B + 1) := ⟨HH.out.1, hyr.1, hyr.2, by omega, by rw [HE.out]; omega⟩
        rw [dateOk_true hp] at K0
        have eV := dateR_yes (dateOf_yes HH.out.1 h1 h2 HH.out.2.1 hmon hyr.1 hyr.2)
        rw [HH.out.2.2.1, HBk.out, HH.out.2.2.2.2] at eV
        have HV := hideP eV
        clear eV hp hmon hyr D3 Z3 B3
        refine K0.mono ?_
        rintro e w1 ⟨rfl, hb1⟩
        obtain ⟨x4, rfl⟩ := Later.of hb1
        clear hb1 K0
        go_wp2_with fail
        obtain ⟨W5, e5⟩ : ∃ W5, W5 = ((((x4.w.setCell ⟨w.heap.size, 0, none⟩ (.int .i64 c)).setCell ⟨w.heap.size, 1, none⟩ (.int .i64 y)).setCell ⟨w.heap.size, 2, none⟩ (.int .i64 ((k : Int) + 1))).setCell ⟨w.heap.size, 3, none⟩ (.int .i64 (n - F - B + 1))) := ⟨_, rfl⟩
        have Z5 : Blk W5 w.heap.size #[.int .i64 c, .int .i64 y, .int .i64 ((k : Int) + 1), .int .i64 (n - F - B + 1)] 92 := by rw [e5]; exact ((((HZ3.out.later x4).set 0 _).set 1 _).set 2 _).set 3 _
        have B5 : Below w.heap.size w W5 := by
          rw [e5]
          have hw := HB3.out.trans (x4.below.mono HB3.out.size)
          exact below_store (below_store (below_store (below_store hw _ (Nat.le_refl _)) _ (Nat.le_refl _)) _ (Nat.le_refl _)) _ (Nat.le_refl _)
        rw [← e5]
        clear e5
        have r0 : W5.cell? ⟨w.heap.size, 0, none⟩ = some (.int .i64 c) := Z5.cell 0 rfl
        have r1 : W5.cell? ⟨w.heap.size, 1, none⟩ = some (.int .i64 y) := Z5.cell 1 rfl
        have r2 : W5.cell? ⟨w.heap.size, 2, none⟩ = some (.int .i64 ((k : Int) + 1)) := Z5.cell 2 rfl
        have r3 : W5.cell? ⟨w.heap.size, 3, none⟩ = some (.int .i64 (n - F - B + 1)) := Z5.cell 3 rfl
        refine bodyPost_ret (by simp [results, Tryz.results57, go_sem, r0, r1, r2, r3]; try rfl) rfl ?_
        exact ⟨by rw [HV.out], B5⟩
      · have hp : ¬ dateP c y ((k : Int) + 1) (n - F - B + 1) := fun h => hyr ⟨h.2.1, h.2.2.1⟩
        rw [dateOk_false hp] at K0
        have eV : V = .tuple #[.agg z4, .bool false] := by rw [← HH.out.2.2.2.2]; exact dateR_no (dateOf_no (fun h => hyr ⟨HH.out.2.1 ▸ h.2.1, HH.out.2.1 ▸ h.2.2.1⟩))
        have HV := hideP eV
        clear eV hp hmon hyr D3 Z3 B3
        refine K0.mono ?_
        rintro e w1 ⟨rfl, hb1⟩
        obtain ⟨x4, rfl⟩ := Later.of hb1
        clear hb1 K0
        go_wp2_with fail
        obtain ⟨W5, e5⟩ : ∃ W5, W5 = ((((x4.w.setCell ⟨w.heap.size, 0, none⟩ (.int .i64 0)).setCell ⟨w.heap.size, 1, none⟩ (.int .i64 0)).setCell ⟨w.heap.size, 2, none⟩ (.int .i64 0)).setCell ⟨w.heap.size, 3, none⟩ (.int .i64 0)) := ⟨_, rfl⟩
        have Z5 : Blk W5 w.heap.size #[.int .i64 0, .int .i64 0, .int .i64 0, .int .i64 0] 92 := by rw [e5]; exact ((((HZ3.out.later x4).set 0 _).set 1 _).set 2 _).set 3 _
        have B5 : Below w.heap.size w W5 := by
          rw [e5]
          have hw := HB3.out.trans (x4.below.mono HB3.out.size)
          exact below_store (below_store (below_store (below_store hw _ (Nat.le_refl _)) _ (Nat.le_refl _)) _ (Nat.le_refl _)) _ (Nat.le_refl _)
        rw [← e5]
        clear e5
        have r0 : W5.cell? ⟨w.heap.size, 0, none⟩ = some (.int .i64 0) := Z5.cell 0 rfl
        have r1 : W5.cell? ⟨w.heap.size, 1, none⟩ = some (.int .i64 0) := Z5.cell 1 rfl
        have r2 : W5.cell? ⟨w.heap.size, 2, none⟩ = some (.int .i64 0) := Z5.cell 2 rfl
        have r3 : W5.cell? ⟨w.heap.size, 3, none⟩ = some (.int .i64 0) := Z5.cell 3 rfl
        refine bodyPost_ret (by simp [results, Tryz.results57, go_sem, r0, r1, r2, r3]; try rfl) rfl ?_
        exact ⟨by rw [HV.out], B5⟩
end Go.Proofs.YtdgolaaheakfoaaGreatDoor.ctr
