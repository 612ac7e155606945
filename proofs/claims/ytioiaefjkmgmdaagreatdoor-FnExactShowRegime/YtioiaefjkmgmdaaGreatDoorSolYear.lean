/- Contracts of the year that holds a day: the model's l02Year and the program's yearHolding. -/
import Derived.Test.YtioiaefjkmgmdaaGreatDoorSolDay
namespace Go.Proofs.YtioiaefjkmgmdaaGreatDoor.ctr
open Go.RowKit

theorem year_low {c n : Int} (hc : c = 0 ∨ c = 1) (h1 : -1000 ≤ n) (h2 : n ≤ 1200000) : first c (n / 366) ≤ n ∧ -5 ≤ n / 366 ∧ n / 366 ≤ 3300 := by
  rcases hc with rfl | rfl
  · rw [first_jul]; omega
  · rw [first_gre]; omega
theorem year_top {c y n : Int} (hc : c = 0 ∨ c = 1) (h1 : first c y ≤ n) (h2 : n ≤ 1200000) : y ≤ 3300 := by
  rcases hc with rfl | rfl
  · rw [first_jul] at h1; omega
  · rw [first_gre] at h1; omega
theorem year_mean {c n q : Int} (hc : c = 0 ∨ c = 1) (h2 : n ≤ 1200000) (hq : q = (n * 400).tdiv 146097) (h1 : 1 ≤ q) : first c q ≤ n := by
  have hn : 0 ≤ n := by
    by_cases hn : 0 ≤ n
    · exact hn
    · have e := Int.neg_tdiv (n * 400) 146097
      have e2 : (-(n * 400)).tdiv 146097 = -(n * 400) / 146097 := Int.tdiv_eq_ediv_of_nonneg (by omega)
      omega
  have e : (n * 400).tdiv 146097 = n * 400 / 146097 := Int.tdiv_eq_ediv_of_nonneg (by omega)
  rw [e] at hq
  rcases hc with rfl | rfl
  · rw [first_jul]; omega
  · rw [first_gre]; omega

set_option maxHeartbeats 400000 in
theorem specYear (c n : Int) (w : World) (hc : c = 0 ∨ c = 1) (h1 : -1000 ≤ n) (h2 : n ≤ 1200000) : Calls Tryz.prog 190 #[.int .i64 c, .int .i64 n] w fun e w' => e = .returned (.int .i64 (yearOf c n)) ∧ w' = w ∧ first c (yearOf c n) ≤ n ∧ n < first c (yearOf c n + 1) ∧ -5 ≤ yearOf c n ∧ yearOf c n ≤ 3300 := by
  have HL := hideP (year_low hc h1 h2)
  have HC := hideP hc
  have KD : ∀ W, Calls Tryz.prog 226 #[.int .i64 n, .int .i64 366] W fun e w' => e = .returned (.int .i64 (n / 366)) ∧ w' = W := fun W => by rw [← floorDiv_small (by omega) (by omega) (by omega)]; exact specFloorDiv _ _ W
  obtain ⟨R, hR⟩ : ∃ R, R = yearOf c n := ⟨_, rfl⟩
  rw [← hR]
  have HR := hideP hR
  clear hR hc
  generalize n / 366 = q at *
  go_enter Tryz.func190, Tryz.ntmps190
  go_wp2_with (go_at_call 226; refine (KD _).mono ?_; rintro e w1 ⟨rfl, rfl⟩)
  rename_i w
  go_loop [5] (fun v => ∃ y : Int, v = .int .i64 y ∧ Hid (first c y ≤ n) ∧ -5 ≤ y ∧ y ≤ 3300) (fun v => (4000 - intOf v).toNat)
  case atStart => exact ⟨q, rfl, HL.out.1, HL.out.2.1, HL.out.2.2⟩
  case round =>
    obtain ⟨y, rfl, HY, y1, y2⟩ := hrel
    have KF : ∀ W, Calls Tryz.prog 191 #[.int .i64 c, .int .i64 (y + 1)] W fun e w' => e = .returned (.int .i64 (first c (y + 1))) ∧ w' = W := fun W => specFirst c (y + 1) W HC.out (by omega) (by omega)
    by_cases h : first c (y + 1) ≤ n
    · have ht := year_top HC.out h h2
      have HN := hideP h
      obtain ⟨F, eF⟩ : ∃ F, first c (y + 1) = F := ⟨_, rfl⟩
      rw [eF] at KF h
      clear eF
      go_wp2_with (go_at_call 191; refine (KF _).mono ?_; rintro e w1 ⟨rfl, rfl⟩)
      exact ⟨⟨y + 1, by go_num, HN, by omega, by omega⟩, by simp [intOf]; omega⟩
    · have HE : Hid (R = y) := by unfold Hid; rw [HR.out]; exact yearOf_eq HC.out HY.out (by omega)
      have HF : Hid (n < first c (y + 1)) := by unfold Hid; omega
      have h' : n < first c (y + 1) := by omega
      clear h
      obtain ⟨F, eF⟩ : ∃ F, first c (y + 1) = F := ⟨_, rfl⟩
      rw [eF] at KF h'
      clear eF
      go_wp2_with (go_at_call 191; refine (KF _).mono ?_; rintro e w1 ⟨rfl, rfl⟩)
      go_ret
      obtain rfl : R = y := HE.out
      exact ⟨rfl, rfl, HY.out, HF.out, y1, y2⟩

set_option maxHeartbeats 400000 in
theorem implYear (c n : Int) (w : World) (hc : c = 0 ∨ c = 1) (h1 : first c 1 ≤ n) (h2 : n ≤ 1200000) : Calls Tryz.prog 221 #[.iface (calT c) (.agg #[]), .int .i64 n] w fun e w' => e = .returned (.int .i64 (yearOf c n)) ∧ w' = w := by
  have hl : -1000 ≤ n := by
    rcases hc with rfl | rfl
    · rw [first_jul] at h1; omega
    · rw [first_gre] at h1; omega
  have HC := hideP hc
  have H1 := hideP h1
  obtain ⟨R, hR⟩ : ∃ R, R = yearOf c n := ⟨_, rfl⟩
  rw [← hR]
  have HR := hideP hR
  have KE : ∀ y : Int, Hid (-6 ≤ y ∧ y ≤ 3900) → ∀ W, Calls Tryz.prog 220 #[.iface (calT c) (.agg #[]), .int .i64 (y + 1)] W fun e w' => e = .returned (.int .i64 (first c (y + 1) - 1)) ∧ w' = W := fun y hy W => implEve c (y + 1) W HC.out (by have := hy.out; omega) (by have := hy.out; omega)
  obtain ⟨q, hq⟩ : ∃ q, q = (n * 400).tdiv 146097 := ⟨_, rfl⟩
  have HM : Hid (1 ≤ q → first c q ≤ n) := fun h => year_mean HC.out h2 hq h
  have HT : Hid (∀ y, first c y ≤ n → y ≤ 3300) := fun y h => year_top HC.out h h2
  generalize calT c = T at *
  clear hR hc h1
  by_cases hq1 : q < 1
  · go_enter Tryz.func221, Tryz.ntmps221
    go_wp2_with fail
    go_loop [5] (fun v => ∃ y : Int, v = .int .i64 y ∧ Hid (first c y ≤ n) ∧ 1 ≤ y ∧ y ≤ 3300) (fun v => (4000 - intOf v).toNat)
    case atStart => exact ⟨1, rfl, H1, by omega, by omega⟩
    case round =>
      obtain ⟨y, rfl, HY, y1, y2⟩ := hrel
      have KF := KE y (by unfold Hid; omega)
      by_cases h : first c (y + 1) ≤ n
      · have ht := HT.out _ h
        have HN := hideP h
        have b1 := first_bound HC.out (show -5 ≤ y + 1 by omega) (show y + 1 ≤ 4000 by omega)
        obtain ⟨F, eF⟩ : ∃ F, first c (y + 1) = F := ⟨_, rfl⟩
        rw [eF] at KF h b1
        clear eF
        go_wp2_with (go_at_call 220; refine (KF _).mono ?_; rintro e w1 ⟨rfl, rfl⟩)
        exact ⟨⟨y + 1, by go_num, HN, by omega, by omega⟩, by simp [intOf]; omega⟩
      · have HE : Hid (R = y) := by unfold Hid; rw [HR.out]; exact yearOf_eq HC.out HY.out (by omega)
        have b1 := first_bound HC.out (show -5 ≤ y + 1 by omega) (show y + 1 ≤ 4000 by omega)
        obtain ⟨F, eF⟩ : ∃ F, first c (y + 1) = F := ⟨_, rfl⟩
        rw [eF] at KF h b1
        clear eF
        go_wp2_with (go_at_call 220; refine (KF _).mono ?_; rintro e w1 ⟨rfl, rfl⟩)
        go_ret
        exact ⟨ret_int HE.out.symm, rfl⟩
  · have hb : 1 ≤ q ∧ q ≤ 3300 := ⟨by omega, HT.out _ (HM.out (by omega))⟩
    go_enter Tryz.func221, Tryz.ntmps221
    go_wp2_with fail
    go_loop [5] (fun v => ∃ y : Int, v = .int .i64 y ∧ Hid (first c y ≤ n) ∧ 1 ≤ y ∧ y ≤ 3300) (fun v => (4000 - intOf v).toNat)
    case atStart => exact ⟨q, by rw [hq], HM.out hb.1, hb.1, hb.2⟩
    case round =>
      obtain ⟨y, rfl, HY, y1, y2⟩ := hrel
      have KF := KE y (by unfold Hid; omega)
      by_cases h : first c (y + 1) ≤ n
      · have ht := HT.out _ h
        have HN := hideP h
        have b1 := first_bound HC.out (show -5 ≤ y + 1 by omega) (show y + 1 ≤ 4000 by omega)
        obtain ⟨F, eF⟩ : ∃ F, first c (y + 1) = F := ⟨_, rfl⟩
        rw [eF] at KF h b1
        clear eF
        go_wp2_with (go_at_call 220; refine (KF _).mono ?_; rintro e w1 ⟨rfl, rfl⟩)
        exact ⟨⟨y + 1, by go_num, HN, by omega, by omega⟩, by simp [intOf]; omega⟩
      · have HE : Hid (R = y) := by unfold Hid; rw [HR.out]; exact yearOf_eq HC.out HY.out (by omega)
        have b1 := first_bound HC.out (show -5 ≤ y + 1 by omega) (show y + 1 ≤ 4000 by omega)
        obtain ⟨F, eF⟩ : ∃ F, first c (y + 1) = F := ⟨_, rfl⟩
        rw [eF] at KF h b1
        clear eF
        go_wp2_with (go_at_call 220; refine (KF _).mono ?_; rintro e w1 ⟨rfl, rfl⟩)
        go_ret
        exact ⟨ret_int HE.out.symm, rfl⟩
end Go.Proofs.YtioiaefjkmgmdaaGreatDoor.ctr
