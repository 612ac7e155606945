/- A date comes back from its day, a day from its date; the day behind is the next day of the month, or a first one. Plain laws of where a year begins, of no program: the day on which a year of a style begins, which year holds a day, which days come twice in a year, in which years of 1 January a month's day of a year stands. Contracts of the model's functions of Easter: each answers its plain function. Contracts of the model's l06Start, l06Year, YearStart, YearDays, StyleYear: each answers its plain function. -/
import Derived.Test.YtilpencbbdpgfaaGreatDoorJnQaj
import Derived.Test.YtilpencbbdpgfaaGreatDoorJnQat
import Derived.Test.YtilpencbbdpgfaaGreatDoorJnQad
namespace Go.Proofs.YtilpencbbdpgfaaGreatDoor.ctr
open Go.RowKit
theorem month_ex {c y n : Int} (h0 : 0 ≤ n) : ∀ j : Nat, n < before c y j → ∃ k, k < j ∧ before c y k ≤ n ∧ n < before c y (k + 1)
  | 0, h => by
    have hz : before c y 0 = 0 := rfl
    omega
  | j + 1, h => by
    by_cases hj : n < before c y j
    · obtain ⟨k, hk, h1, h2⟩ := month_ex h0 j hj
      exact ⟨k, by omega, h1, h2⟩
    · exact ⟨j, by omega, by omega, h⟩
theorem date_back {c n a y m d : Int} (h : dateOf c n = (a, y, m, d, true)) : a = c ∧ dateP c y m d ∧ dayOf c y m d = n := by
  by_cases hp : (c = 0 ∨ c = 1) ∧ 1 ≤ yearOf c n ∧ yearOf c n ≤ 3000 ∧ -1000 ≤ n ∧ n ≤ 1200000
  · obtain ⟨hc, h2, h3, h4, h5⟩ := hp
    obtain ⟨e1, e2⟩ := year_ex hc h4 h5
    have hs := first_step hc (yearOf c n)
    obtain ⟨k, hk, k1, k2⟩ := month_ex (c := c) (y := yearOf c n) (n := n - first c (yearOf c n)) (by omega) 12 (by omega)
    have hm := monthOf_eq k1 k2
    have hd := dateOf_yes hc h4 h5 rfl hm h2 h3
    rw [hd] at h
    simp only [Prod.mk.injEq] at h
    obtain ⟨rfl, rfl, rfl, rfl, _⟩ := h
    have hb := before_next c (yearOf c n) k
    have hP : dateP c (yearOf c n) ((k : Int) + 1) (n - first c (yearOf c n) - before c (yearOf c n) k + 1) := ⟨hc, h2, h3, by omega, by omega⟩
    refine ⟨rfl, hP, ?_⟩
    unfold dayOf
    rw [if_pos hP, show ((k : Int) + 1 - 1).toNat = k by omega]
    omega
  · rw [dateOf_no hp] at h
    simp at h
theorem day_back {c y m d : Int} (h : dateP c y m d) : dateOf c (dayOf c y m d) = (c, y, m, d, true) := by
  obtain ⟨hm1, hm2⟩ := dateP_month h
  obtain ⟨hc, hy1, hy2, hd1, hd2⟩ := h
  obtain ⟨k, hk⟩ := Int.eq_ofNat_of_zero_le (show 0 ≤ m - 1 by omega)
  have hm : m = (k : Int) + 1 := by omega
  subst hm
  have hP : dateP c y ((k : Int) + 1) d := ⟨hc, hy1, hy2, hd1, hd2⟩
  have hb := before_next c y k
  have hmono := before_mono c y (k + 1) (12 - (k + 1))
  rw [show k + 1 + (12 - (k + 1)) = 12 by omega] at hmono
  have h0 := (before_bound c y k).1
  have hs := first_step hc y
  have hD : dayOf c y ((k : Int) + 1) d = first c y + before c y k + d - 1 := by
    unfold dayOf
    rw [if_pos hP, show ((k : Int) + 1 - 1).toNat = k by omega]
  have hbd := dayOf_bound c y ((k : Int) + 1) d
  have hy3 : yearOf c (dayOf c y ((k : Int) + 1) d) = y := yearOf_eq hc (by omega) (by omega)
  have hmo : monthOf c y (dayOf c y ((k : Int) + 1) d - first c y) = k := monthOf_eq (by omega) (by omega)
  have hfb : first c (y + 1) ≤ 1200000 := by
    have h1 := first_le (c := c) (y := y + 1) (z := 3001) hc (by omega)
    have h2 : first c 3001 ≤ 1200000 := by
      rcases hc with rfl | rfl
      · rw [first_jul]; omega
      · rw [first_gre]; omega
    omega
  have hf1 : -1000 ≤ first c y := by
    have h1 := first_le (c := c) (y := 1) (z := y) hc (by omega)
    have h2 : -1000 ≤ first c 1 := by
      rcases hc with rfl | rfl
      · rw [first_jul]; omega
      · rw [first_gre]; omega
    omega
  rw [dateOf_yes hc (by omega) (by omega) hy3 hmo hy1 hy2]
  simp only [Prod.mk.injEq]
  refine ⟨trivial, trivial, trivial, ?_, trivial⟩
  omega
end Go.Proofs.YtilpencbbdpgfaaGreatDoor.ctr
namespace Go.Proofs.YtilpencbbdpgfaaGreatDoor.ctr
open Go.RowKit
def lineD (c y m d : Int) : Int := first c y + before c y (m - 1).toNat + d - 1
theorem lineD_dayOf {c y m d : Int} (h : dateP c y m d) : dayOf c y m d = lineD c y m d := by unfold dayOf lineD; rw [if_pos h]
def start (c s y : Int) : Int :=
  if s = 1 then lineD c y 3 1
  else if s = 2 then lineD c y 3 25
  else if s = 3 then lineD c (y - 1) 3 25
  else if s = 4 then easL c y
  else if s = 5 then lineD c (y - 1) 9 1
  else if s = 6 then lineD c (y - 1) 12 25
  else first c y
theorem start_0 (c y : Int) : start c 0 y = lineD c y 1 1 := by
  unfold start lineD
  rw [if_neg (by omega), if_neg (by omega), if_neg (by omega), if_neg (by omega), if_neg (by omega), if_neg (by omega), show ((1 : Int) - 1).toNat = 0 from rfl]
  simp only [before]
  omega
theorem start_1 (c y : Int) : start c 1 y = lineD c y 3 1 := by unfold start; rw [if_pos rfl]
theorem start_2 (c y : Int) : start c 2 y = lineD c y 3 25 := by unfold start; rw [if_neg (by omega), if_pos rfl]
theorem start_3 (c y : Int) : start c 3 y = lineD c (y - 1) 3 25 := by unfold start; rw [if_neg (by omega), if_neg (by omega), if_pos rfl]
theorem start_4 (c y : Int) : start c 4 y = easL c y := by unfold start; rw [if_neg (by omega), if_neg (by omega), if_neg (by omega), if_pos rfl]
theorem start_5 (c y : Int) : start c 5 y = lineD c (y - 1) 9 1 := by unfold start; rw [if_neg (by omega), if_neg (by omega), if_neg (by omega), if_neg (by omega), if_pos rfl]
theorem start_6 (c y : Int) : start c 6 y = lineD c (y - 1) 12 25 := by unfold start; rw [if_neg (by omega), if_neg (by omega), if_neg (by omega), if_neg (by omega), if_neg (by omega), if_pos rfl]
theorem line_in {c y m d : Int} (hc : c = 0 ∨ c = 1) (h1 : 1 ≤ m) (h2 : m ≤ 12) (d1 : 1 ≤ d) (d2 : d ≤ monthDays c y m) : first c y ≤ lineD c y m d ∧ lineD c y m d < first c (y + 1) := by
  have k1 := before_bound c y (m - 1).toNat
  have k2 := before_mono c y (m - 1).toNat 1
  have k3 : before c y ((m - 1).toNat + 1) = before c y (m - 1).toNat + monthDays c y (((m - 1).toNat + 1 : Nat) : Int) := rfl
  have k4 := before_mono c y ((m - 1).toNat + 1) (12 - ((m - 1).toNat + 1))
  rw [show (m - 1).toNat + 1 + (12 - ((m - 1).toNat + 1)) = 12 by omega] at k4
  rw [show (((m - 1).toNat + 1 : Nat) : Int) = m by omega] at k3
  have k5 := first_step hc y
  unfold lineD
  omega
theorem md3 {c y : Int} (hc : c = 0 ∨ c = 1) : monthDays c y 3 = 31 := monthDays_plain (y := y) hc (m := 3) (by omega) (by omega) (by omega)
theorem md4 {c y : Int} (hc : c = 0 ∨ c = 1) : monthDays c y 4 = 30 := monthDays_plain (y := y) hc (m := 4) (by omega) (by omega) (by omega)
theorem md1 {c y : Int} (hc : c = 0 ∨ c = 1) : monthDays c y 1 = 31 := monthDays_plain (y := y) hc (m := 1) (by omega) (by omega) (by omega)
theorem md9 {c y : Int} (hc : c = 0 ∨ c = 1) : monthDays c y 9 = 30 := monthDays_plain (y := y) hc (m := 9) (by omega) (by omega) (by omega)
theorem md12 {c y : Int} (hc : c = 0 ∨ c = 1) : monthDays c y 12 = 31 := monthDays_plain (y := y) hc (m := 12) (by omega) (by omega) (by omega)
theorem easL_in {c y : Int} (hc : c = 0 ∨ c = 1) (h1 : 1 ≤ y) (h2 : y ≤ 4000) : first c y ≤ easL c y ∧ easL c y < first c (y + 1) := by
  have k := easter_fact_at hc h1 h2
  have h3 := md3 (y := y) hc
  have h4 := md4 (y := y) hc
  show first c y ≤ lineD c y (sumE c y / 31) (sumE c y % 31 + 1) ∧ lineD c y (sumE c y / 31) (sumE c y % 31 + 1) < _
  by_cases hm : sumE c y / 31 = 3
  · rw [hm]
    exact line_in hc (by omega) (by omega) (by omega) (by omega)
  · rw [show sumE c y / 31 = 4 by omega]
    exact line_in hc (by omega) (by omega) (by omega) (by omega)
theorem start_in {c s y : Int} (hc : c = 0 ∨ c = 1) (hs : styleP s) (h1 : 1 ≤ y) (h2 : y ≤ 4000) : first c (y - 1) ≤ start c s y ∧ start c s y < first c (y + 1) := by
  have f1 := first_lt hc (show y - 1 < y by omega)
  have f2 := first_lt hc (show y < y + 1 by omega)
  rcases style_cases hs with rfl | rfl | rfl | rfl | rfl | rfl | rfl
  · rw [start_0]
    have k := line_in (c := c) (y := y) (m := 1) (d := 1) hc (by omega) (by omega) (by omega) (by rw [md1 hc]; omega)
    omega
  · rw [start_1]
    have k := line_in (c := c) (y := y) (m := 3) (d := 1) hc (by omega) (by omega) (by omega) (by rw [md3 hc]; omega)
    omega
  · rw [start_2]
    have k := line_in (c := c) (y := y) (m := 3) (d := 25) hc (by omega) (by omega) (by omega) (by rw [md3 hc]; omega)
    omega
  · rw [start_3]
    have k := line_in (c := c) (y := y - 1) (m := 3) (d := 25) hc (by omega) (by omega) (by omega) (by rw [md3 hc]; omega)
    rw [show y - 1 + 1 = y by omega] at k
    omega
  · rw [start_4]
    have k := easL_in hc h1 h2
    omega
  · rw [start_5]
    have k := line_in (c := c) (y := y - 1) (m := 9) (d := 1) hc (by omega) (by omega) (by omega) (by rw [md9 hc]; omega)
    rw [show y - 1 + 1 = y by omega] at k
    omega
  · rw [start_6]
    have k := line_in (c := c) (y := y - 1) (m := 12) (d := 25) hc (by omega) (by omega) (by omega) (by rw [md12 hc]; omega)
    rw [show y - 1 + 1 = y by omega] at k
    omega
def rawYear (c s Y n : Int) : Int := if n < start c s Y then Y - 1 else if n < start c s (Y + 1) then Y else Y + 1
theorem raw_lo {c s Y n : Int} (h : n < start c s Y) : rawYear c s Y n = Y - 1 := by unfold rawYear; rw [if_pos h]
theorem raw_mid {c s Y n : Int} (h : ¬ n < start c s Y) (h' : n < start c s (Y + 1)) : rawYear c s Y n = Y := by unfold rawYear; rw [if_neg h, if_pos h']
theorem raw_hi {c s Y n : Int} (h : ¬ n < start c s Y) (h' : ¬ n < start c s (Y + 1)) : rawYear c s Y n = Y + 1 := by unfold rawYear; rw [if_neg h, if_neg h']
theorem start_far {c s Y n : Int} (hc : c = 0 ∨ c = 1) (hs : styleP s) (h1 : 1 ≤ Y) (h2 : Y ≤ 3000) (hn : n < first c (Y + 1)) : n < start c s (Y + 2) := by
  have k := start_in (y := Y + 2) hc hs (by omega) (by omega)
  rw [show Y + 2 - 1 = Y + 1 by omega] at k
  omega
noncomputable def styYear (c s n : Int) : Int × Bool :=
  if (dateOf c n).2.2.2.2 = true ∧ styleP s ∧ 1 ≤ rawYear c s (dateOf c n).2.1 n ∧ rawYear c s (dateOf c n).2.1 n ≤ 3000 then (rawYear c s (dateOf c n).2.1 n, true) else (0, false)
theorem sty_none {c s n : Int} (h : dateOf c n = (0, 0, 0, 0, false)) : styYear c s n = (0, false) := by
  unfold styYear
  rw [if_neg (by rw [h]; simp)]
theorem sty_style {c s n : Int} (h : ¬ styleP s) : styYear c s n = (0, false) := by
  unfold styYear
  rw [if_neg (fun k => h k.2.1)]
theorem sty_yes {c s n Y m d : Int} (h : dateOf c n = (c, Y, m, d, true)) (hs : styleP s) (h1 : 1 ≤ rawYear c s Y n) (h2 : rawYear c s Y n ≤ 3000) : styYear c s n = (rawYear c s Y n, true) := by
  unfold styYear
  rw [h]
  exact if_pos ⟨rfl, hs, h1, h2⟩
theorem sty_out {c s n Y m d : Int} (h : dateOf c n = (c, Y, m, d, true)) (h1 : ¬ (1 ≤ rawYear c s Y n ∧ rawYear c s Y n ≤ 3000)) : styYear c s n = (0, false) := by
  unfold styYear
  rw [h]
  exact if_neg (fun k => h1 ⟨k.2.2.1, k.2.2.2⟩)
end Go.Proofs.YtilpencbbdpgfaaGreatDoor.ctr
namespace Go.Proofs.YtilpencbbdpgfaaGreatDoor.ctr
open Go.RowKit
theorem specJulian (y : Int) (w : World) (h1 : 1 ≤ y) (h2 : y ≤ 4000) : Calls Tryz.prog 287 #[.int .i64 y] w fun e w' => e = .returned (.int .i64 (sumJ y)) ∧ w' = w := by
  obtain ⟨R, hR⟩ : ∃ R, R = sumJ y := ⟨_, rfl⟩
  rw [← hR]
  have HR := hideP hR
  clear hR
  have hd := dJ_b y
  unfold sumJ at HR
  go_enter Tryz.func287, Tryz.ntmps287
  go_wp2
  go_ret
  exact ⟨ret_int (by rw [HR.out]; unfold dJ; omega), rfl⟩
theorem specGregorian (y : Int) (w : World) (h1 : 1 ≤ y) (h2 : y ≤ 4000) : Calls Tryz.prog 286 #[.int .i64 y] w fun e w' => e = .returned (.int .i64 (sumG y)) ∧ w' = w := by
  obtain ⟨R, hR⟩ : ∃ R, R = sumG y := ⟨_, rfl⟩
  rw [← hR]
  have HR := hideP hR
  clear hR
  go_enter Tryz.func286, Tryz.ntmps286
  go_wp2
  go_ret
  exact ⟨ret_int (by rw [HR.out]; unfold sumG mG lG hG gG; rw [show y % 100 % 4 = y % 4 by omega]), rfl⟩
set_option maxHeartbeats 1000000 in
theorem specL03 (c y : Int) (w : World) (hc : c = 0 ∨ c = 1) (hy1 : 1 ≤ y) (hy2 : y ≤ 4000) : Calls Tryz.prog 234 #[.int .i64 c, .int .i64 y] w fun e w' => e = .returned (.int .i64 (easL c y)) ∧ Below w.heap.size w w' := by
  have k := easter_fact_at hc hy1 hy2
  have KJ : ∀ W, Calls Tryz.prog 287 #[.int .i64 y] W fun e w' => e = .returned (.int .i64 (sumJ y)) ∧ w' = W := fun W => specJulian y W hy1 hy2
  have KG : ∀ W, Calls Tryz.prog 286 #[.int .i64 y] W fun e w' => e = .returned (.int .i64 (sumG y)) ∧ w' = W := fun W => specGregorian y W hy1 hy2
  have KD : ∀ W, Calls Tryz.prog 119 #[.int .i64 c, .int .i64 y, .int .i64 (sumE c y / 31), .int .i64 (sumE c y % 31 + 1)] W fun e w' => e = .returned (.int .i64 (easL c y)) ∧ Below W.heap.size W w' := fun W => by
    exact specDay c y _ _ W hc (by omega) (by omega) (by omega) (by omega) (by omega)
  have k1 := k.1
  have k2 := k.2.1
  clear k
  generalize easL c y = R at *
  rcases hc with rfl | rfl
  · rw [show sumE 0 y = sumJ y from by unfold sumE; rw [if_pos rfl]] at *
    generalize sumJ y = s at *
    generalize sumG y = s' at *
    go_enter Tryz.func234, Tryz.ntmps234
    go_wp2_with fail
    refine (KG _).mono ?_
    rintro e w1 ⟨rfl, rfl⟩
    go_wp2_with fail
    refine (KJ _).mono ?_
    rintro e w1 ⟨rfl, rfl⟩
    go_wp2_with fail
    refine (KD _).mono ?_
    rintro e w1 ⟨rfl, hb⟩
    go_wp2
    go_ret
    exact ⟨rfl, hb⟩
  · rw [show sumE 1 y = sumG y from by unfold sumE; rw [if_neg (by omega)]] at *
    generalize sumG y = s at *
    go_enter Tryz.func234, Tryz.ntmps234
    go_wp2_with fail
    refine (KG _).mono ?_
    rintro e w1 ⟨rfl, rfl⟩
    go_wp2_with fail
    refine (KD _).mono ?_
    rintro e w1 ⟨rfl, hb⟩
    go_wp2
    go_ret
    exact ⟨rfl, hb⟩
end Go.Proofs.YtilpencbbdpgfaaGreatDoor.ctr
namespace Go.Proofs.YtilpencbbdpgfaaGreatDoor.ctr
open Go.RowKit
theorem calls_below {P : Program} {f : FuncId} {args : Array Value} {W : World} {v : Value} (h : Calls P f args W fun e w' => e = .returned v ∧ w' = W) : Calls P f args W fun e w' => e = .returned v ∧ Below W.heap.size W w' :=
  h.mono fun _ _ ⟨he, hm⟩ => ⟨he, by rw [hm]; exact Below.refl _ _⟩
set_option maxHeartbeats 1000000 in
theorem specStart (c s y : Int) (w : World) (hc : c = 0 ∨ c = 1) (hs : styleP s) (hy1 : 1 ≤ y) (hy2 : y ≤ 3900) : Calls Tryz.prog 172 #[.int .i64 c, .int .i64 s, .int .i64 y] w fun e w' => e = .returned (.int .i64 (start c s y)) ∧ Below w.heap.size w w' := by
  rcases style_cases hs with rfl | rfl | rfl | rfl | rfl | rfl | rfl
  · have K : ∀ x : Later w, Calls Tryz.prog 170 #[.int .i64 c, .int .i64 y] x.w fun e w' => e = .returned (.int .i64 (start c 0 y)) ∧ Below x.w.heap.size x.w w' := fun x => calls_below (specFirst c y x.w hc (by omega) (by omega))
    generalize start c 0 y = R at *
    clear hc hs
    go_enter Tryz.func172, Tryz.ntmps172
    go_wp2_with fail
    refine (K ⟨w, Below.refl _ _⟩).mono ?_
    rintro e w1 ⟨rfl, hb⟩
    obtain ⟨x1, rfl⟩ := Later.of hb
    clear hb
    go_wp2
    go_ret
    exact ⟨rfl, x1.below⟩
  · have K : ∀ x : Later w, Calls Tryz.prog 119 #[.int .i64 c, .int .i64 y, .int .i64 3, .int .i64 1] x.w fun e w' => e = .returned (.int .i64 (start c 1 y)) ∧ Below x.w.heap.size x.w w' := fun x => by rw [start_1]; exact specDay c y 3 1 x.w hc (by omega) (by omega) (by omega) (by omega) (by omega)
    generalize start c 1 y = R at *
    clear hc hs
    go_enter Tryz.func172, Tryz.ntmps172
    go_wp2_with fail
    refine (K ⟨w, Below.refl _ _⟩).mono ?_
    rintro e w1 ⟨rfl, hb⟩
    obtain ⟨x1, rfl⟩ := Later.of hb
    clear hb
    go_wp2
    go_ret
    exact ⟨rfl, x1.below⟩
  · have K : ∀ x : Later w, Calls Tryz.prog 119 #[.int .i64 c, .int .i64 y, .int .i64 3, .int .i64 25] x.w fun e w' => e = .returned (.int .i64 (start c 2 y)) ∧ Below x.w.heap.size x.w w' := fun x => by rw [start_2]; exact specDay c y 3 25 x.w hc (by omega) (by omega) (by omega) (by omega) (by omega)
    generalize start c 2 y = R at *
    clear hc hs
    go_enter Tryz.func172, Tryz.ntmps172
    go_wp2_with fail
    refine (K ⟨w, Below.refl _ _⟩).mono ?_
    rintro e w1 ⟨rfl, hb⟩
    obtain ⟨x1, rfl⟩ := Later.of hb
    clear hb
    go_wp2
    go_ret
    exact ⟨rfl, x1.below⟩
  · have K : ∀ x : Later w, Calls Tryz.prog 119 #[.int .i64 c, .int .i64 (y - 1), .int .i64 3, .int .i64 25] x.w fun e w' => e = .returned (.int .i64 (start c 3 y)) ∧ Below x.w.heap.size x.w w' := fun x => by rw [start_3]; exact specDay c (y - 1) 3 25 x.w hc (by omega) (by omega) (by omega) (by omega) (by omega)
    generalize start c 3 y = R at *
    clear hc hs
    go_enter Tryz.func172, Tryz.ntmps172
    go_wp2_with fail
    refine (K ⟨w, Below.refl _ _⟩).mono ?_
    rintro e w1 ⟨rfl, hb⟩
    obtain ⟨x1, rfl⟩ := Later.of hb
    clear hb
    go_wp2
    go_ret
    exact ⟨rfl, x1.below⟩
  · have K : ∀ x : Later w, Calls Tryz.prog 234 #[.int .i64 c, .int .i64 y] x.w fun e w' => e = .returned (.int .i64 (start c 4 y)) ∧ Below x.w.heap.size x.w w' := fun x => by rw [start_4]; exact specL03 c y x.w hc hy1 (by omega)
    generalize start c 4 y = R at *
    clear hc hs
    go_enter Tryz.func172, Tryz.ntmps172
    go_wp2_with fail
    refine (K ⟨w, Below.refl _ _⟩).mono ?_
    rintro e w1 ⟨rfl, hb⟩
    obtain ⟨x1, rfl⟩ := Later.of hb
    clear hb
    go_wp2
    go_ret
    exact ⟨rfl, x1.below⟩
  · have K : ∀ x : Later w, Calls Tryz.prog 119 #[.int .i64 c, .int .i64 (y - 1), .int .i64 9, .int .i64 1] x.w fun e w' => e = .returned (.int .i64 (start c 5 y)) ∧ Below x.w.heap.size x.w w' := fun x => by rw [start_5]; exact specDay c (y - 1) 9 1 x.w hc (by omega) (by omega) (by omega) (by omega) (by omega)
    generalize start c 5 y = R at *
    clear hc hs
    go_enter Tryz.func172, Tryz.ntmps172
    go_wp2_with fail
    refine (K ⟨w, Below.refl _ _⟩).mono ?_
    rintro e w1 ⟨rfl, hb⟩
    obtain ⟨x1, rfl⟩ := Later.of hb
    clear hb
    go_wp2
    go_ret
    exact ⟨rfl, x1.below⟩
  · have K : ∀ x : Later w, Calls Tryz.prog 119 #[.int .i64 c, .int .i64 (y - 1), .int .i64 12, .int .i64 25] x.w fun e w' => e = .returned (.int .i64 (start c 6 y)) ∧ Below x.w.heap.size x.w w' := fun x => by rw [start_6]; exact specDay c (y - 1) 12 25 x.w hc (by omega) (by omega) (by omega) (by omega) (by omega)
    generalize start c 6 y = R at *
    clear hc hs
    go_enter Tryz.func172, Tryz.ntmps172
    go_wp2_with fail
    refine (K ⟨w, Below.refl _ _⟩).mono ?_
    rintro e w1 ⟨rfl, hb⟩
    obtain ⟨x1, rfl⟩ := Later.of hb
    clear hb
    go_wp2
    go_ret
    exact ⟨rfl, x1.below⟩
theorem date_cases (c n : Int) : dateOf c n = (0, 0, 0, 0, false) ∨ ∃ Y m d, dateOf c n = (c, Y, m, d, true) ∧ (c = 0 ∨ c = 1) ∧ 1 ≤ Y ∧ Y ≤ 3000 ∧ first c Y ≤ n ∧ n < first c (Y + 1) := by
  by_cases h : (c = 0 ∨ c = 1) ∧ 1 ≤ yearOf c n ∧ yearOf c n ≤ 3000 ∧ -1000 ≤ n ∧ n ≤ 1200000
  · right
    have k : dateOf c n = (c, yearOf c n, (monthOf c (yearOf c n) (n - first c (yearOf c n)) : Int) + 1, n - first c (yearOf c n) - before c (yearOf c n) (monthOf c (yearOf c n) (n - first c (yearOf c n))) + 1, true) := by
      unfold dateOf
      rw [if_pos h]
    obtain ⟨_, hd, hn⟩ := date_back k
    have hl := line_in h.1 (dateP_month hd).1 (dateP_month hd).2 hd.2.2.2.1 hd.2.2.2.2
    rw [← lineD_dayOf hd, hn] at hl
    exact ⟨_, _, _, k, h.1, h.2.1, h.2.2.1, hl.1, hl.2⟩
  · exact .inl (dateOf_no h)
noncomputable def styR (c s n : Int) : Value := .tuple #[.int .i64 (styYear c s n).1, .bool (styYear c s n).2]
theorem styR_no {c s n : Int} (h : styYear c s n = (0, false)) : styR c s n = .tuple #[.int .i64 0, .bool false] := by unfold styR; rw [h]
theorem styR_yes {c s n y : Int} (h : styYear c s n = (y, true)) : styR c s n = .tuple #[.int .i64 y, .bool true] := by unfold styR; rw [h]
theorem raw_of {c s Y n y : Int} (h : y = Y - 1 ∨ y = Y ∨ y = Y + 1) (h1 : Y ≤ y → start c s Y ≤ n) (h2 : Y + 1 ≤ y → start c s (Y + 1) ≤ n) (he : y ≤ Y → n < start c s (y + 1)) : rawYear c s Y n = y := by
  rcases h with rfl | rfl | rfl
  · have := he (by omega)
    rw [show Y - 1 + 1 = Y by omega] at this
    exact raw_lo this
  · exact raw_mid (by have := h1 (by omega); omega) (he (by omega))
  · exact raw_hi (by have := h1 (by omega); have := h2 (by omega); omega) (by have := h2 (by omega); omega)
set_option maxHeartbeats 2000000 in
theorem specStyleYear (c s n : Int) (w : World) : Calls Tryz.prog 107 #[.int .i64 c, .int .i64 s, .int .i64 n] w fun e w' => e = .returned (styR c s n) ∧ Below w.heap.size w w' := by
  have KD := specDateOf c n w
  rcases date_cases c n with hD | ⟨Y, m, d, hD, hc, hY1, hY2, hn1, hn2⟩
  · rw [dateR_no hD] at KD
    have HR : Hid (styR c s n = .tuple #[.int .i64 0, .bool false]) := styR_no (sty_none hD)
    rw [HR.out]
    clear hD HR
    unfold z4 at KD
    go_enter Tryz.func107, Tryz.ntmps107
    go_wp2_with fail
    refine KD.mono ?_
    rintro e w1 ⟨rfl, hb⟩
    go_wp2
    go_returns
    exact ⟨rfl, hb.alloc hb.size _⟩
  · rw [dateR_yes hD] at KD
    by_cases hs : styleP s
    · have hE := styText_some hs
      have KS : ∀ W, Calls Tryz.prog 171 #[.int .i64 s] W fun e w' => e = .returned (.string (styText s)) ∧ Below W.heap.size W w' := fun W => specStyleName s W
      have KB : Hid (∀ (y : Int), 0 ≤ y → y ≤ 3001 → ∀ W, Calls Tryz.prog 172 #[.int .i64 c, .int .i64 s, .int .i64 (y + 1)] W fun e w' => e = .returned (.int .i64 (start c s (y + 1))) ∧ Below W.heap.size W w') := fun y h1 h2 W => specStart c s (y + 1) W hc hs (by omega) (by omega)
      have HF := hideP (start_far hc hs hY1 hY2 hn2)
      have HRaw : Hid (∀ y, (y = Y - 1 ∨ y = Y ∨ y = Y + 1) → (Y ≤ y → start c s Y ≤ n) → (Y + 1 ≤ y → start c s (Y + 1) ≤ n) → (y ≤ Y → n < start c s (y + 1)) → rawYear c s Y n = y) := fun y h h1 h2 he => raw_of h h1 h2 he
      have HO : Hid (1 ≤ rawYear c s Y n → rawYear c s Y n ≤ 3000 → styR c s n = .tuple #[.int .i64 (rawYear c s Y n), .bool true]) := fun h1 h2 => styR_yes (sty_yes hD hs h1 h2)
      have HN : Hid (¬ (1 ≤ rawYear c s Y n ∧ rawYear c s Y n ≤ 3000) → styR c s n = .tuple #[.int .i64 0, .bool false]) := fun h => styR_no (sty_out hD h)
      generalize styR c s n = R at *
      generalize styText s = t at *
      clear hD hn1 hn2 hc hs
      go_enter Tryz.func107, Tryz.ntmps107
      go_wp2_with fail
      refine KD.mono ?_
      rintro e w1 ⟨rfl, hb1⟩
      have HB1 := hideP hb1
      obtain ⟨W0, hW0⟩ : ∃ W0, W0 = w1.alloc (.cells #[.int .i64 c, .int .i64 Y, .int .i64 m, .int .i64 d] 92) := ⟨_, rfl⟩
      have HW0 := hideP hW0
      have c1 : ∀ x : Later W0, x.w.cell? ⟨w1.heap.size, 1, none⟩ = some (.int .i64 Y) := Later.new hW0 1 rfl
      have HL : Hid (∀ x : Later W0, Below w.heap.size w x.w) := fun x => HB1.out.trans ((below_of_alloc HW0.out x.below).mono HB1.out.size)
      clear hb1 hW0 KD
      go_wp2_with fail
      rw [← HW0.out]
      refine (KS _).mono ?_
      rintro e w2 ⟨rfl, hb⟩
      obtain ⟨x1, rfl⟩ := Later.of hb
      clear hb
      go_wp2_with fail
      go_loopw [10] (fun i wr => ∃ (y : Int) (x : Later W0), i = .int .i64 y ∧ wr = x.w ∧ Y - 1 ≤ y ∧ y ≤ Y + 1 ∧ Hid (Y ≤ y → start c s Y ≤ n) ∧ Hid (Y + 1 ≤ y → start c s (Y + 1) ≤ n)) (fun i _ => (4000 - intOf i).toNat)
      case atStart => exact ⟨Y - 1, x1, rfl, rfl, by omega, by omega, fun h => by omega, fun h => by omega⟩
      case round =>
        obtain ⟨y, x, rfl, rfl, y1, y2, H1, H2⟩ := hrel
        have K := KB.out y (by omega) (by omega)
        by_cases hle : start c s (y + 1) ≤ n
        · have hyY : y ≤ Y := by
            by_cases h : y ≤ Y
            · exact h
            · have e : y = Y + 1 := by omega
              subst e
              have := HF.out
              rw [show Y + 1 + 1 = Y + 2 by omega] at hle
              omega
          have H1' : Hid (Y ≤ y + 1 → start c s Y ≤ n) := fun h => by
            by_cases e : Y ≤ y
            · exact H1.out e
            · rw [show Y = y + 1 by omega]; exact hle
          have H2' : Hid (Y + 1 ≤ y + 1 → start c s (Y + 1) ≤ n) := fun h => by
            rw [show Y = y by omega]; exact hle
          clear H1 H2 HF
          generalize start c s (y + 1) = S at *
          go_wp2_with fail
          refine (K _).mono ?_
          rintro e w3 ⟨rfl, hb⟩
          obtain ⟨x3, rfl⟩ := x.next hb
          clear hb
          go_wp2
          exact ⟨⟨y + 1, x3, rfl, rfl, by omega, by omega, H1', H2'⟩, by simp [intOf]; omega⟩
        · have hraw : rawYear c s Y n = y := HRaw.out y (by omega) H1.out H2.out (fun _ => by omega)
          rw [hraw] at HO HN
          clear H1 H2 HF HRaw hraw KB
          generalize start c s (y + 1) = S at *
          by_cases hin : 1 ≤ y ∧ y ≤ 3000
          · have hI : inB y 1 3000 = true := inB_true hin.1 hin.2
            have KI := fun W => l01In y 1 3000 W
            rw [hI] at KI
            go_wp2_with fail
            refine (K _).mono ?_
            rintro e w3 ⟨rfl, hb⟩
            obtain ⟨x3, rfl⟩ := x.next hb
            clear hb
            go_wp2_with fail
            refine (KI _).mono ?_
            rintro e w4 ⟨rfl, hw⟩
            rw [hw]
            clear hw
            go_wp2
            go_returns
            rw [HO.out hin.1 hin.2]
            exact ⟨rfl, HL.out x3⟩
          · have hI : inB y 1 3000 = false := inB_false (by omega)
            have KI := fun W => l01In y 1 3000 W
            rw [hI] at KI
            go_wp2_with fail
            refine (K _).mono ?_
            rintro e w3 ⟨rfl, hb⟩
            obtain ⟨x3, rfl⟩ := x.next hb
            clear hb
            go_wp2_with fail
            refine (KI _).mono ?_
            rintro e w4 ⟨rfl, hw⟩
            rw [hw]
            clear hw
            go_wp2
            go_returns
            rw [HN.out hin]
            exact ⟨rfl, HL.out x3⟩
    · have hE := styText_none hs
      have KS : ∀ W, Calls Tryz.prog 171 #[.int .i64 s] W fun e w' => e = .returned (.string (styText s)) ∧ Below W.heap.size W w' := fun W => specStyleName s W
      have HR : Hid (styR c s n = .tuple #[.int .i64 0, .bool false]) := styR_no (sty_style hs)
      rw [HR.out]
      clear hD HR hs hn1 hn2 hc
      generalize styText s = t at *
      go_enter Tryz.func107, Tryz.ntmps107
      go_wp2_with fail
      refine KD.mono ?_
      rintro e w1 ⟨rfl, hb1⟩
      have HB1 := hideP hb1
      clear hb1
      go_wp2_with fail
      refine (KS _).mono ?_
      rintro e w2 ⟨rfl, hb⟩
      have HB2 := hideP (below_alloc hb)
      clear hb
      go_wp2
      go_returns
      exact ⟨rfl, HB1.out.trans (HB2.out.mono HB1.out.size)⟩
end Go.Proofs.YtilpencbbdpgfaaGreatDoor.ctr
