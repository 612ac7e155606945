/- Contracts of the model's functions of Easter: each answers its plain function. -/
import Derived.Test.YtckjcaloofjeoaaDoorEasPlain
namespace Go.Proofs.YtckjcaloofjeoaaDoor.ctr
open Go.RowKit

theorem specYearOk (c y : Int) (w : World) : Calls Tryd.prog 99 #[.int .i64 c, .int .i64 y] w fun e w' => e = .returned (.bool (yearB c y)) ∧ w' = w := by
  by_cases hc : c = 0 ∨ c = 1
  · have hC : calB c = true := calB_iff.2 hc
    rw [yearB_cal hc]
    clear hc
    cases hI : inB y 1 3000
    all_goals
      go_enter Tryd.func99, Tryd.ntmps99
      go_wp2_with fail
      refine (specCal _ _).mono ?_
      rintro e w1 ⟨rfl, rfl⟩
      rw [hC]
      go_wp2_with fail
      refine (l01In _ _ _ _).mono ?_
      rintro e w1 ⟨rfl, rfl⟩
      rw [hI]
      go_wp2
      go_ret
      exact ⟨rfl, rfl⟩
  · have hC : calB c = false := calB_no hc
    rw [yearB_no hc]
    clear hc
    go_enter Tryd.func99, Tryd.ntmps99
    go_wp2_with fail
    refine (specCal _ _).mono ?_
    rintro e w1 ⟨rfl, rfl⟩
    rw [hC]
    go_wp2
    go_ret
    exact ⟨rfl, rfl⟩

theorem golden_year {c y : Int} (h : yearP c y) : golden y = y % 19 + 1 := by unfold golden; rw [if_pos h.2]

set_option maxHeartbeats 1000000 in
theorem specEpact (c y : Int) (w : World) : Calls Tryd.prog 64 #[.int .i64 c, .int .i64 y] w fun e w' => e = .returned (.int .i64 (epact c y)) ∧ w' = w := by
  have KY : ∀ W, Calls Tryd.prog 99 #[.int .i64 c, .int .i64 y] W fun e w' => e = .returned (.bool (yearB c y)) ∧ w' = W := specYearOk c y
  by_cases h : yearP c y
  · rw [yearB_true h] at KY
    have KG : ∀ W, Calls Tryd.prog 66 #[.int .i64 y] W fun e w' => e = .returned (.int .i64 (y % 19 + 1)) ∧ w' = W := by rw [← golden_year h]; exact specGolden y
    have HR : Hid (epact c y = ep c (y % 19 + 1) y) := by unfold Hid epact; rw [if_pos h]
    have hg : 1 ≤ y % 19 + 1 ∧ y % 19 + 1 ≤ 19 := by omega
    obtain ⟨hc, hy1, hy2⟩ := h
    rw [HR.out]
    clear HR
    generalize y % 19 + 1 = g at *
    rcases hc with rfl | rfl
    · have HR : Hid (ep 0 g y = 11 * (g - 1) % 30) := by unfold Hid ep; rw [if_pos rfl]
      go_enter Tryd.func64, Tryd.ntmps64
      go_wp2_with fail
      refine (KY _).mono ?_
      rintro e w1 ⟨rfl, rfl⟩
      go_wp2_with fail
      refine (KG _).mono ?_
      rintro e w1 ⟨rfl, rfl⟩
      go_wp2
      go_ret
      exact ⟨ret_int HR.out.symm, rfl⟩
    · have HR : Hid (ep 1 g y = adjG (e0G g y) g) := by unfold Hid ep; rw [if_neg (by omega)]
      obtain ⟨E, hE⟩ : ∃ E, E = e0G g y := ⟨_, rfl⟩
      have hE1 : 0 ≤ E ∧ E ≤ 29 := by rw [hE]; unfold e0G; omega
      have HE : Hid (E = e0G g y) := hE
      rw [← hE] at HR
      clear hE
      go_enter Tryd.func64, Tryd.ntmps64
      go_wp2_with fail
      refine (KY _).mono ?_
      rintro e w1 ⟨rfl, rfl⟩
      go_wp2_with fail
      refine (KG _).mono ?_
      rintro e w1 ⟨rfl, rfl⟩
      go_wp2_with fail
      refine (specFloorMod _ _ _).mono ?_
      rintro e w1 ⟨rfl, rfl⟩
      rw [floorMod_pos _ (by omega) (by omega), show (11 * g + 20 + (8 * (y / 100 + 1) + 5) / 25 - 5 - (3 * (y / 100 + 1) / 4 - 12)) % 30 = E from HE.out.symm]
      clear HE
      by_cases h24 : E = 24
      · subst h24
        have HA : Hid (adjG 24 g = 25) := by unfold Hid adjG; rw [if_pos (.inl rfl)]; rfl
        go_wp2
        go_ret
        exact ⟨ret_int (by rw [HR.out, HA.out]), rfl⟩
      by_cases h25 : E = 25
      · subst h25
        by_cases hg11 : 11 < g
        · have HA : Hid (adjG 25 g = 26) := by unfold Hid adjG; rw [if_pos (.inr ⟨rfl, hg11⟩)]; rfl
          go_wp2
          go_ret
          exact ⟨ret_int (by rw [HR.out, HA.out]), rfl⟩
        · have HA : Hid (adjG 25 g = 25) := by unfold Hid adjG; rw [if_neg (by omega)]
          go_wp2
          go_ret
          exact ⟨ret_int (by rw [HR.out, HA.out]), rfl⟩
      · have HA : Hid (adjG E g = E) := by unfold Hid adjG; rw [if_neg (by omega)]
        go_wp2
        go_ret
        exact ⟨ret_int (by rw [HR.out, HA.out]), rfl⟩
  · rw [yearB_false h] at KY
    have HR : Hid (epact c y = 0) := by unfold Hid epact; rw [if_neg h]
    clear h
    go_enter Tryd.func64, Tryd.ntmps64
    go_wp2_with fail
    refine (KY _).mono ?_
    rintro e w1 ⟨rfl, rfl⟩
    go_wp2
    go_ret
    exact ⟨ret_int HR.out.symm, rfl⟩

theorem specJulian (y : Int) (w : World) (h1 : 1 ≤ y) (h2 : y ≤ 4000) : Calls Tryd.prog 110 #[.int .i64 y] w fun e w' => e = .returned (.int .i64 (sumJ y)) ∧ w' = w := by
  obtain ⟨R, hR⟩ : ∃ R, R = sumJ y := ⟨_, rfl⟩
  rw [← hR]
  have HR := hideP hR
  clear hR
  have hd := dJ_b y
  unfold sumJ at HR
  go_enter Tryd.func110, Tryd.ntmps110
  go_wp2
  go_ret
  exact ⟨ret_int (by rw [HR.out]; unfold dJ; omega), rfl⟩
theorem specGregorian (y : Int) (w : World) (h1 : 1 ≤ y) (h2 : y ≤ 4000) : Calls Tryd.prog 109 #[.int .i64 y] w fun e w' => e = .returned (.int .i64 (sumG y)) ∧ w' = w := by
  obtain ⟨R, hR⟩ : ∃ R, R = sumG y := ⟨_, rfl⟩
  rw [← hR]
  have HR := hideP hR
  clear hR
  go_enter Tryd.func109, Tryd.ntmps109
  go_wp2
  go_ret
  exact ⟨ret_int (by rw [HR.out]; unfold sumG mG lG hG gG; rw [show y % 100 % 4 = y % 4 by omega]), rfl⟩

set_option maxHeartbeats 1000000 in
theorem specFullMoon (c y : Int) (w : World) : Calls Tryd.prog 62 #[.int .i64 c, .int .i64 y] w fun e w' => e = .returned (.int .i64 (fullMoon c y)) ∧ Below w.heap.size w w' := by
  have KY : ∀ W, Calls Tryd.prog 99 #[.int .i64 c, .int .i64 y] W fun e w' => e = .returned (.bool (yearB c y)) ∧ w' = W := specYearOk c y
  by_cases h : yearP c y
  · rw [yearB_true h] at KY
    have HR : Hid (fullMoon c y = march c y + moonOff c y) := by unfold Hid fullMoon; rw [if_pos h]
    have hm := march_b h
    have ho := moonOff_b h
    obtain ⟨R, hR⟩ : ∃ R, R = fullMoon c y := ⟨_, rfl⟩
    rw [← hR]
    rw [← hR] at HR
    clear hR
    have hc := h.1
    rcases hc with rfl | rfl
    · have KG : ∀ W, Calls Tryd.prog 66 #[.int .i64 y] W fun e w' => e = .returned (.int .i64 (y % 19 + 1)) ∧ w' = W := by rw [← golden_year h]; exact specGolden y
      have KD : ∀ W, Calls Tryd.prog 90 #[.int .i64 0, .int .i64 y, .int .i64 3, .int .i64 21] W fun e w' => e = .returned (.int .i64 (march 0 y + 20)) ∧ Below W.heap.size W w' := fun W => by
        have k := specDay 0 y 3 21 W h.1 (by have := h.2.1; omega) (by have := h.2.2; omega) (by omega) (by omega) (by omega)
        rw [show first 0 y + before 0 y ((3 : Int) - 1).toNat + 21 - 1 = march 0 y + 20 from by unfold march; rw [show ((3 : Int) - 1).toNat = 2 from rfl]; omega] at k
        exact k
      have hg : 1 ≤ y % 19 + 1 ∧ y % 19 + 1 ≤ 19 := by omega
      have HO : Hid (moonOff 0 y = 20 + (19 * (y % 19 + 1 - 1) + 15) % 30) := by unfold Hid moonOff moonN; rw [if_pos rfl]
      clear h ho
      generalize y % 19 + 1 = g at *
      generalize march 0 y = M at *
      go_enter Tryd.func62, Tryd.ntmps62
      go_wp2_with fail
      refine (KY _).mono ?_
      rintro e w1 ⟨rfl, rfl⟩
      go_wp2_with (first | (go_at_call 90; refine (KD _).mono ?_; rintro e w1 ⟨rfl, hb⟩) | (go_at_call 66; refine (KG _).mono ?_; rintro e w1 ⟨rfl, rfl⟩))
      go_ret
      exact ⟨ret_int (by rw [HR.out, HO.out]; omega), hb⟩
    · have KE : ∀ W, Calls Tryd.prog 64 #[.int .i64 1, .int .i64 y] W fun e w' => e = .returned (.int .i64 (ep 1 (y % 19 + 1) y)) ∧ w' = W := fun W => by
        have k := specEpact 1 y W
        unfold epact at k
        rw [if_pos h] at k
        exact k
      have KD : ∀ W, Calls Tryd.prog 90 #[.int .i64 1, .int .i64 y, .int .i64 3, .int .i64 1] W fun e w' => e = .returned (.int .i64 (march 1 y)) ∧ Below W.heap.size W w' := fun W => by
        have k := specDay 1 y 3 1 W h.1 (by have := h.2.1; omega) (by have := h.2.2; omega) (by omega) (by omega) (by omega)
        rw [show first 1 y + before 1 y ((3 : Int) - 1).toNat + 1 - 1 = march 1 y from by unfold march; rw [show ((3 : Int) - 1).toNat = 2 from rfl]; omega] at k
        exact k
      have HO : Hid (moonOff 1 y = if 43 - ep 1 (y % 19 + 1) y < 20 then 43 - ep 1 (y % 19 + 1) y + 30 else 43 - ep 1 (y % 19 + 1) y) := by unfold Hid moonOff moonN; rw [if_neg (show ¬ (1 : Int) = 0 by omega)]
      have he := HO.out
      clear h
      generalize ep 1 (y % 19 + 1) y = E at *
      generalize moonOff 1 y = O at *
      generalize march 1 y = M at *
      have hE : -1000 ≤ E ∧ E ≤ 1000 := by
        split at he <;> omega
      clear he
      by_cases hl : 43 - E < 20
      · have HO' : Hid (O = 43 - E + 30) := by unfold Hid; rw [HO.out, if_pos hl]
        clear HO
        go_enter Tryd.func62, Tryd.ntmps62
        go_wp2_with fail
        refine (KY _).mono ?_
        rintro e w1 ⟨rfl, rfl⟩
        go_wp2_with (first | (go_at_call 90; refine (KD _).mono ?_; rintro e w1 ⟨rfl, hb⟩) | (go_at_call 64; refine (KE _).mono ?_; rintro e w1 ⟨rfl, rfl⟩))
        go_ret
        exact ⟨ret_int (by rw [HR.out, HO'.out]), hb⟩
      · have HO' : Hid (O = 43 - E) := by unfold Hid; rw [HO.out, if_neg hl]
        clear HO
        go_enter Tryd.func62, Tryd.ntmps62
        go_wp2_with fail
        refine (KY _).mono ?_
        rintro e w1 ⟨rfl, rfl⟩
        go_wp2_with (first | (go_at_call 90; refine (KD _).mono ?_; rintro e w1 ⟨rfl, hb⟩) | (go_at_call 64; refine (KE _).mono ?_; rintro e w1 ⟨rfl, rfl⟩))
        go_ret
        exact ⟨ret_int (by rw [HR.out, HO'.out]), hb⟩
  · rw [yearB_false h] at KY
    have HR : Hid (fullMoon c y = 0) := by unfold Hid fullMoon; rw [if_neg h]
    clear h
    go_enter Tryd.func62, Tryd.ntmps62
    go_wp2_with fail
    refine (KY _).mono ?_
    rintro e w1 ⟨rfl, rfl⟩
    go_wp2
    go_ret
    exact ⟨ret_int HR.out.symm, Below.refl _ _⟩

theorem fullMoon_b {c y : Int} (h : yearP c y) : 0 < fullMoon c y ∧ fullMoon c y ≤ 3000000 := by
  have h1 := march_b h
  have h2 := moonOff_b h
  unfold fullMoon
  rw [if_pos h]
  omega
theorem specWeek (n : Int) (w : World) : Calls Tryd.prog 40 #[.int .i64 n] w fun e w' => e = .returned (.int .i64 (n % 7)) ∧ w' = w := by
  rw [← floorMod_pos n (b := 7) (by omega) (by omega)]
  exact specWeekday n w
set_option maxHeartbeats 1000000 in
theorem specEasterTable (c y : Int) (w : World) : Calls Tryd.prog 60 #[.int .i64 c, .int .i64 y] w fun e w' => e = .returned (.int .i64 (easterTable c y)) ∧ Below w.heap.size w w' := by
  have KY : ∀ W, Calls Tryd.prog 99 #[.int .i64 c, .int .i64 y] W fun e w' => e = .returned (.bool (yearB c y)) ∧ w' = W := specYearOk c y
  have KF : ∀ W, Calls Tryd.prog 62 #[.int .i64 c, .int .i64 y] W fun e w' => e = .returned (.int .i64 (fullMoon c y)) ∧ Below W.heap.size W w' := specFullMoon c y
  by_cases h : yearP c y
  · rw [yearB_true h] at KY
    have HR : Hid (easterTable c y = fullMoon c y + 7 - fullMoon c y % 7) := by unfold Hid easterTable; rw [if_pos h]
    have hm := fullMoon_b h
    clear h
    rw [HR.out]
    clear HR
    have KW : ∀ W, Calls Tryd.prog 40 #[.int .i64 (fullMoon c y)] W fun e w' => e = .returned (.int .i64 (fullMoon c y % 7)) ∧ w' = W := specWeek _
    have hw : 0 ≤ fullMoon c y % 7 ∧ fullMoon c y % 7 ≤ 6 := by omega
    generalize fullMoon c y % 7 = D at *
    generalize fullMoon c y = M at *
    go_enter Tryd.func60, Tryd.ntmps60
    go_wp2_with fail
    refine (KY _).mono ?_
    rintro e w1 ⟨rfl, rfl⟩
    go_wp2_with fail
    refine (KF _).mono ?_
    rintro e w1 ⟨rfl, hb⟩
    go_wp2_with fail
    refine (KW _).mono ?_
    rintro e w1 ⟨rfl, rfl⟩
    go_wp2
    go_ret
    exact ⟨rfl, hb⟩
  · rw [yearB_false h] at KY
    have HR : Hid (easterTable c y = 0) := by unfold Hid easterTable; rw [if_neg h]
    clear h KF
    go_enter Tryd.func60, Tryd.ntmps60
    go_wp2_with fail
    refine (KY _).mono ?_
    rintro e w1 ⟨rfl, rfl⟩
    go_wp2
    go_ret
    exact ⟨ret_int HR.out.symm, Below.refl _ _⟩

theorem easter_day {c y : Int} (h : yearP c y) : easter c y = first c y + before c y (sumE c y / 31 - 1).toNat + (sumE c y % 31 + 1) - 1 := by
  unfold easter dayOf
  rw [if_pos h, if_pos (sum_month h)]
set_option maxHeartbeats 1000000 in
theorem specL03 (c y : Int) (w : World) (hc : c = 0 ∨ c = 1) (hy1 : 1 ≤ y) (hy2 : y ≤ 4000) : Calls Tryd.prog 100 #[.int .i64 c, .int .i64 y] w fun e w' => e = .returned (.int .i64 (easL c y)) ∧ Below w.heap.size w w' := by
  have k := easter_fact_at hc hy1 hy2
  have KJ : ∀ W, Calls Tryd.prog 110 #[.int .i64 y] W fun e w' => e = .returned (.int .i64 (sumJ y)) ∧ w' = W := fun W => specJulian y W hy1 hy2
  have KG : ∀ W, Calls Tryd.prog 109 #[.int .i64 y] W fun e w' => e = .returned (.int .i64 (sumG y)) ∧ w' = W := fun W => specGregorian y W hy1 hy2
  have KD : ∀ W, Calls Tryd.prog 90 #[.int .i64 c, .int .i64 y, .int .i64 (sumE c y / 31), .int .i64 (sumE c y % 31 + 1)] W fun e w' => e = .returned (.int .i64 (easL c y)) ∧ Below W.heap.size W w' := fun W => by
    exact specDay c y _ _ W hc (by omega) (by omega) (by omega) (by omega) (by omega)
  have k1 := k.1
  have k2 := k.2.1
  clear k
  generalize easL c y = R at *
  rcases hc with rfl | rfl
  · rw [show sumE 0 y = sumJ y from by unfold sumE; rw [if_pos rfl]] at *
    generalize sumJ y = s at *
    generalize sumG y = s' at *
    go_enter Tryd.func100, Tryd.ntmps100
    go_wp2_with fail
    refine (KG _).mono ?_
    rintro e w1 ⟨rfl, rfl⟩
    go_wp2_with fail
    refine (KJ _).mono ?_
    rintro e w1 ⟨rfl, rfl⟩
    go_wp2_with fail
    refine (KD _).mono ?_
    rintro e w1 ⟨rfl, hb⟩
    go_wp2
    go_ret
    exact ⟨rfl, hb⟩
  · rw [show sumE 1 y = sumG y from by unfold sumE; rw [if_neg (by omega)]] at *
    generalize sumG y = s at *
    go_enter Tryd.func100, Tryd.ntmps100
    go_wp2_with fail
    refine (KG _).mono ?_
    rintro e w1 ⟨rfl, rfl⟩
    go_wp2_with fail
    refine (KD _).mono ?_
    rintro e w1 ⟨rfl, hb⟩
    go_wp2
    go_ret
    exact ⟨rfl, hb⟩
theorem specL03Easter (c y : Int) (w : World) (h : yearP c y) : Calls Tryd.prog 100 #[.int .i64 c, .int .i64 y] w fun e w' => e = .returned (.int .i64 (easter c y)) ∧ Below w.heap.size w w' := by
  rw [show easter c y = easL c y from easter_day h]
  exact specL03 c y w h.1 h.2.1 (by have := h.2.2; omega)
theorem specEaster (c y : Int) (w : World) : Calls Tryd.prog 58 #[.int .i64 c, .int .i64 y] w fun e w' => e = .returned (.int .i64 (easter c y)) ∧ Below w.heap.size w w' := by
  have KY : ∀ W, Calls Tryd.prog 99 #[.int .i64 c, .int .i64 y] W fun e w' => e = .returned (.bool (yearB c y)) ∧ w' = W := specYearOk c y
  by_cases h : yearP c y
  · rw [yearB_true h] at KY
    have KE : ∀ W, Calls Tryd.prog 100 #[.int .i64 c, .int .i64 y] W fun e w' => e = .returned (.int .i64 (easter c y)) ∧ Below W.heap.size W w' := fun W => specL03Easter c y W h
    clear h
    generalize easter c y = R at *
    go_enter Tryd.func58, Tryd.ntmps58
    go_wp2_with fail
    refine (KY _).mono ?_
    rintro e w1 ⟨rfl, rfl⟩
    go_wp2_with fail
    refine (KE _).mono ?_
    rintro e w1 ⟨rfl, hb⟩
    go_wp2
    go_ret
    exact ⟨rfl, hb⟩
  · rw [yearB_false h] at KY
    have HR : Hid (easter c y = 0) := by unfold Hid easter; rw [if_neg h]
    clear h
    go_enter Tryd.func58, Tryd.ntmps58
    go_wp2_with fail
    refine (KY _).mono ?_
    rintro e w1 ⟨rfl, rfl⟩
    go_wp2
    go_ret
    exact ⟨ret_int HR.out.symm, Below.refl _ _⟩

theorem easter_b {c y : Int} (h : yearP c y) : 0 < easter c y ∧ easter c y ≤ 3000000 := by
  have h1 := march_b h
  have h2 := easter_fact h
  rw [easter_eq h]
  omega
set_option maxHeartbeats 1000000 in
theorem specEasterDays (c y : Int) (w : World) : Calls Tryd.prog 70 #[.int .i64 c, .int .i64 y] w fun e w' => e = .returned (.int .i64 (easterDays c y)) ∧ Below w.heap.size w w' := by
  have KY : ∀ W, Calls Tryd.prog 99 #[.int .i64 c, .int .i64 y] W fun e w' => e = .returned (.bool (yearB c y)) ∧ w' = W := specYearOk c y
  by_cases h : yearP c y
  · rw [yearB_true h] at KY
    have KE : ∀ W, Calls Tryd.prog 58 #[.int .i64 c, .int .i64 y] W fun e w' => e = .returned (.int .i64 (easter c y)) ∧ Below W.heap.size W w' := specEaster c y
    have KD : ∀ W, Calls Tryd.prog 90 #[.int .i64 c, .int .i64 y, .int .i64 3, .int .i64 21] W fun e w' => e = .returned (.int .i64 (march c y + 20)) ∧ Below W.heap.size W w' := fun W => by
      have k := specDay c y 3 21 W h.1 (by have := h.2.1; omega) (by have := h.2.2; omega) (by omega) (by omega) (by omega)
      rw [show first c y + before c y ((3 : Int) - 1).toNat + 21 - 1 = march c y + 20 from by unfold march; rw [show ((3 : Int) - 1).toNat = 2 from rfl]; omega] at k
      exact k
    have HR : Hid (easterDays c y = easter c y - (march c y + 20)) := by unfold Hid easterDays; rw [if_pos h]
    have b1 := easter_b h
    have b2 := march_b h
    rw [HR.out]
    clear h HR
    generalize easter c y = R at *
    generalize march c y = M at *
    go_enter Tryd.func70, Tryd.ntmps70
    go_wp2_with fail
    refine (KY _).mono ?_
    rintro e w1 ⟨rfl, rfl⟩
    go_wp2_with fail
    refine (KE _).mono ?_
    rintro e w1 ⟨rfl, hb⟩
    go_wp2_with fail
    refine (KD _).mono ?_
    rintro e w2 ⟨rfl, hb2⟩
    go_wp2
    go_ret
    exact ⟨rfl, hb.trans (hb2.mono hb.size)⟩
  · rw [yearB_false h] at KY
    have HR : Hid (easterDays c y = 0) := by unfold Hid easterDays; rw [if_neg h]
    clear h
    go_enter Tryd.func70, Tryd.ntmps70
    go_wp2_with fail
    refine (KY _).mono ?_
    rintro e w1 ⟨rfl, rfl⟩
    go_wp2
    go_ret
    exact ⟨ret_int HR.out.symm, Below.refl _ _⟩
end Go.Proofs.YtckjcaloofjeoaaDoor.ctr
