/- Contracts of the model's functions of Easter: each answers its plain function. -/
import Derived.Test.YtaakgidndjoocaaGreatDoorEasPlainM
namespace Go.Proofs.YtaakgidndjoocaaGreatDoor.ctr
open Go.RowKit

theorem specYearOk (c y : Int) (w : World) : Calls Tryz.prog 114 #[.int .i64 c, .int .i64 y] w fun e w' => e = .returned (.bool (yearB c y)) ∧ w' = w := by
  by_cases hc : c = 0 ∨ c = 1
  · have hC : calB c = true := calB_iff.2 hc
    rw [yearB_cal hc]
    clear hc
    cases hI : inB y 1 3000
    all_goals
      go_enter Tryz.func114, Tryz.ntmps114
      go_wp2_with fail
      refine (specCal _ _).mono ?_
      rintro e w1 ⟨rfl, rfl⟩
      rw [hC]
      go_wp2_with fail
      refine (l01In _ _ _ _).mono ?_
      rintro e w1 ⟨rfl, rfl⟩
      rw [hI]
      go_wp2
      go_ret
      exact ⟨rfl, rfl⟩
  · have hC : calB c = false := calB_no hc
    rw [yearB_no hc]
    clear hc
    go_enter Tryz.func114, Tryz.ntmps114
    go_wp2_with fail
    refine (specCal _ _).mono ?_
    rintro e w1 ⟨rfl, rfl⟩
    rw [hC]
    go_wp2
    go_ret
    exact ⟨rfl, rfl⟩

theorem golden_year {c y : Int} (h : yearP c y) : golden y = y % 19 + 1 := by unfold golden; rw [if_pos h.2]

theorem specJulian (y : Int) (w : World) (h1 : 1 ≤ y) (h2 : y ≤ 4000) : Calls Tryz.prog 221 #[.int .i64 y] w fun e w' => e = .returned (.int .i64 (sumJ y)) ∧ w' = w := by
  obtain ⟨R, hR⟩ : ∃ R, R = sumJ y := ⟨_, rfl⟩
  rw [← hR]
  have HR := hideP hR
  clear hR
  have hd := dJ_b y
  unfold sumJ at HR
  go_enter Tryz.func221, Tryz.ntmps221
  go_wp2
  go_ret
  exact ⟨ret_int (by rw [HR.out]; unfold dJ; omega), rfl⟩
theorem specGregorian (y : Int) (w : World) (h1 : 1 ≤ y) (h2 : y ≤ 4000) : Calls Tryz.prog 220 #[.int .i64 y] w fun e w' => e = .returned (.int .i64 (sumG y)) ∧ w' = w := by
  obtain ⟨R, hR⟩ : ∃ R, R = sumG y := ⟨_, rfl⟩
  rw [← hR]
  have HR := hideP hR
  clear hR
  go_enter Tryz.func220, Tryz.ntmps220
  go_wp2
  go_ret
  exact ⟨ret_int (by rw [HR.out]; unfold sumG mG lG hG gG; rw [show y % 100 % 4 = y % 4 by omega]), rfl⟩

theorem fullMoon_b {c y : Int} (h : yearP c y) : 0 < fullMoon c y ∧ fullMoon c y ≤ 3000000 := by
  have h1 := march_b h
  have h2 := moonOff_b h
  unfold fullMoon
  rw [if_pos h]
  omega
theorem easter_day {c y : Int} (h : yearP c y) : easter c y = first c y + before c y (sumE c y / 31 - 1).toNat + (sumE c y % 31 + 1) - 1 := by
  unfold easter dayOf
  rw [if_pos h, if_pos (sum_month h)]
set_option maxHeartbeats 1000000 in
theorem specL03 (c y : Int) (w : World) (hc : c = 0 ∨ c = 1) (hy1 : 1 ≤ y) (hy2 : y ≤ 4000) : Calls Tryz.prog 170 #[.int .i64 c, .int .i64 y] w fun e w' => e = .returned (.int .i64 (easL c y)) ∧ Below w.heap.size w w' := by
  have k := easter_fact_at hc hy1 hy2
  have KJ : ∀ W, Calls Tryz.prog 221 #[.int .i64 y] W fun e w' => e = .returned (.int .i64 (sumJ y)) ∧ w' = W := fun W => specJulian y W hy1 hy2
  have KG : ∀ W, Calls Tryz.prog 220 #[.int .i64 y] W fun e w' => e = .returned (.int .i64 (sumG y)) ∧ w' = W := fun W => specGregorian y W hy1 hy2
  have KD : ∀ W, Calls Tryz.prog 105 #[.int .i64 c, .int .i64 y, .int .i64 (sumE c y / 31), .int .i64 (sumE c y % 31 + 1)] W fun e w' => e = .returned (.int .i64 (easL c y)) ∧ Below W.heap.size W w' := fun W => by
    exact specDay c y _ _ W hc (by omega) (by omega) (by omega) (by omega) (by omega)
  have k1 := k.1
  have k2 := k.2.1
  clear k
  generalize easL c y = R at *
  rcases hc with rfl | rfl
  · rw [show sumE 0 y = sumJ y from by unfold sumE; rw [if_pos rfl]] at *
    generalize sumJ y = s at *
    generalize sumG y = s' at *
    go_enter Tryz.func170, Tryz.ntmps170
    go_wp2_with fail
    refine (KG _).mono ?_
    rintro e w1 ⟨rfl, rfl⟩
    go_wp2_with fail
    refine (KJ _).mono ?_
    rintro e w1 ⟨rfl, rfl⟩
    go_wp2_with fail
    refine (KD _).mono ?_
    rintro e w1 ⟨rfl, hb⟩
    go_wp2
    go_ret
    exact ⟨rfl, hb⟩
  · rw [show sumE 1 y = sumG y from by unfold sumE; rw [if_neg (by omega)]] at *
    generalize sumG y = s at *
    go_enter Tryz.func170, Tryz.ntmps170
    go_wp2_with fail
    refine (KG _).mono ?_
    rintro e w1 ⟨rfl, rfl⟩
    go_wp2_with fail
    refine (KD _).mono ?_
    rintro e w1 ⟨rfl, hb⟩
    go_wp2
    go_ret
    exact ⟨rfl, hb⟩
theorem specL03Easter (c y : Int) (w : World) (h : yearP c y) : Calls Tryz.prog 170 #[.int .i64 c, .int .i64 y] w fun e w' => e = .returned (.int .i64 (easter c y)) ∧ Below w.heap.size w w' := by
  rw [show easter c y = easL c y from easter_day h]
  exact specL03 c y w h.1 h.2.1 (by have := h.2.2; omega)
theorem specEaster (c y : Int) (w : World) : Calls Tryz.prog 226 #[.int .i64 c, .int .i64 y] w fun e w' => e = .returned (.int .i64 (easter c y)) ∧ Below w.heap.size w w' := by
  have KY : ∀ W, Calls Tryz.prog 114 #[.int .i64 c, .int .i64 y] W fun e w' => e = .returned (.bool (yearB c y)) ∧ w' = W := specYearOk c y
  by_cases h : yearP c y
  · rw [yearB_true h] at KY
    have KE : ∀ W, Calls Tryz.prog 170 #[.int .i64 c, .int .i64 y] W fun e w' => e = .returned (.int .i64 (easter c y)) ∧ Below W.heap.size W w' := fun W => specL03Easter c y W h
    clear h
    generalize easter c y = R at *
    go_enter Tryz.func226, Tryz.ntmps226
    go_wp2_with fail
    refine (KY _).mono ?_
    rintro e w1 ⟨rfl, rfl⟩
    go_wp2_with fail
    refine (KE _).mono ?_
    rintro e w1 ⟨rfl, hb⟩
    go_wp2
    go_ret
    exact ⟨rfl, hb⟩
  · rw [yearB_false h] at KY
    have HR : Hid (easter c y = 0) := by unfold Hid easter; rw [if_neg h]
    clear h
    go_enter Tryz.func226, Tryz.ntmps226
    go_wp2_with fail
    refine (KY _).mono ?_
    rintro e w1 ⟨rfl, rfl⟩
    go_wp2
    go_ret
    exact ⟨ret_int HR.out.symm, Below.refl _ _⟩

theorem easter_b {c y : Int} (h : yearP c y) : 0 < easter c y ∧ easter c y ≤ 3000000 := by
  have h1 := march_b h
  have h2 := easter_fact h
  rw [easter_eq h]
  omega
end Go.Proofs.YtaakgidndjoocaaGreatDoor.ctr
