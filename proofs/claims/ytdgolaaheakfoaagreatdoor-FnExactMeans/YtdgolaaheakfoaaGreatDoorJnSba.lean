/- Contracts of the model's functions of Easter: each answers its plain function. Contracts of the model's l06Start, l06Year, YearStart, YearDays, StyleYear: each answers its plain function. Plain facts on the segments of a right regime: they stand in order and apart, so halves find the one segment of a day; what a day is called. -/
import Derived.Test.YtdgolaaheakfoaaGreatDoorJnSaz
import Derived.Test.YtdgolaaheakfoaaGreatDoorJnSal
import Derived.Test.YtdgolaaheakfoaaGreatDoorJnSas
import Derived.Test.YtdgolaaheakfoaaGreatDoorJnSax
import Derived.Test.YtdgolaaheakfoaaGreatDoorJnSay
namespace Go.Proofs.YtdgolaaheakfoaaGreatDoor.ctr
open Go.RowKit
theorem specYearOk (c y : Int) (w : World) : Calls Tryz.prog 147 #[.int .i64 c, .int .i64 y] w fun e w' => e = .returned (.bool (yearB c y)) ∧ w' = w := by
  by_cases hc : c = 0 ∨ c = 1
  · have hC : calB c = true := calB_iff.2 hc
    rw [yearB_cal hc]
    clear hc
    cases hI : inB y 1 3000
    all_goals
      go_enter Tryz.func147, Tryz.ntmps147
      go_wp2_with fail
      refine (specCal _ _).mono ?_
      rintro e w1 ⟨rfl, rfl⟩
      rw [hC]
      go_wp2_with fail
      refine (l01In _ _ _ _).mono ?_
      rintro e w1 ⟨rfl, rfl⟩
      rw [hI]
      go_wp2
      go_ret
      exact ⟨rfl, rfl⟩
  · have hC : calB c = false := calB_no hc
    rw [yearB_no hc]
    clear hc
    go_enter Tryz.func147, Tryz.ntmps147
    go_wp2_with fail
    refine (specCal _ _).mono ?_
    rintro e w1 ⟨rfl, rfl⟩
    rw [hC]
    go_wp2
    go_ret
    exact ⟨rfl, rfl⟩
theorem specJulian (y : Int) (w : World) (h1 : 1 ≤ y) (h2 : y ≤ 4000) : Calls Tryz.prog 178 #[.int .i64 y] w fun e w' => e = .returned (.int .i64 (sumJ y)) ∧ w' = w := by
  obtain ⟨R, hR⟩ : ∃ R, R = sumJ y := ⟨_, rfl⟩
  rw [← hR]
  have HR := hideP hR
  clear hR
  have hd := dJ_b y
  unfold sumJ at HR
  go_enter Tryz.func178, Tryz.ntmps178
  go_wp2
  go_ret
  exact ⟨ret_int (by rw [HR.out]; unfold dJ; omega), rfl⟩
theorem specGregorian (y : Int) (w : World) (h1 : 1 ≤ y) (h2 : y ≤ 4000) : Calls Tryz.prog 177 #[.int .i64 y] w fun e w' => e = .returned (.int .i64 (sumG y)) ∧ w' = w := by
  obtain ⟨R, hR⟩ : ∃ R, R = sumG y := ⟨_, rfl⟩
  rw [← hR]
  have HR := hideP hR
  clear hR
  go_enter Tryz.func177, Tryz.ntmps177
  go_wp2
  go_ret
  exact ⟨ret_int (by rw [HR.out]; unfold sumG mG lG hG gG; rw [show y % 100 % 4 = y % 4 by omega]), rfl⟩
theorem easter_day {c y : Int} (h : yearP c y) : easter c y = first c y + before c y (sumE c y / 31 - 1).toNat + (sumE c y % 31 + 1) - 1 := by
  unfold easter dayOf
  rw [if_pos h, if_pos (sum_month h)]
set_option maxHeartbeats 1000000 in
theorem specL03 (c y : Int) (w : World) (hc : c = 0 ∨ c = 1) (hy1 : 1 ≤ y) (hy2 : y ≤ 4000) : Calls Tryz.prog 154 #[.int .i64 c, .int .i64 y] w fun e w' => e = .returned (.int .i64 (easL c y)) ∧ Below w.heap.size w w' := by
  have k := easter_fact_at hc hy1 hy2
  have KJ : ∀ W, Calls Tryz.prog 178 #[.int .i64 y] W fun e w' => e = .returned (.int .i64 (sumJ y)) ∧ w' = W := fun W => specJulian y W hy1 hy2
  have KG : ∀ W, Calls Tryz.prog 177 #[.int .i64 y] W fun e w' => e = .returned (.int .i64 (sumG y)) ∧ w' = W := fun W => specGregorian y W hy1 hy2
  have KD : ∀ W, Calls Tryz.prog 100 #[.int .i64 c, .int .i64 y, .int .i64 (sumE c y / 31), .int .i64 (sumE c y % 31 + 1)] W fun e w' => e = .returned (.int .i64 (easL c y)) ∧ Below W.heap.size W w' := fun W => by
    exact specDay c y _ _ W hc (by omega) (by omega) (by omega) (by omega) (by omega)
  have k1 := k.1
  have k2 := k.2.1
  clear k
  generalize easL c y = R at *
  rcases hc with rfl | rfl
  · rw [show sumE 0 y = sumJ y from by unfold sumE; rw [if_pos rfl]] at *
    generalize sumJ y = s at *
    generalize sumG y = s' at *
    go_enter Tryz.func154, Tryz.ntmps154
    go_wp2_with fail
    refine (KG _).mono ?_
    rintro e w1 ⟨rfl, rfl⟩
    go_wp2_with fail
    refine (KJ _).mono ?_
    rintro e w1 ⟨rfl, rfl⟩
    go_wp2_with fail
    refine (KD _).mono ?_
    rintro e w1 ⟨rfl, hb⟩
    go_wp2
    go_ret
    exact ⟨rfl, hb⟩
  · rw [show sumE 1 y = sumG y from by unfold sumE; rw [if_neg (by omega)]] at *
    generalize sumG y = s at *
    go_enter Tryz.func154, Tryz.ntmps154
    go_wp2_with fail
    refine (KG _).mono ?_
    rintro e w1 ⟨rfl, rfl⟩
    go_wp2_with fail
    refine (KD _).mono ?_
    rintro e w1 ⟨rfl, hb⟩
    go_wp2
    go_ret
    exact ⟨rfl, hb⟩
theorem specL03Easter (c y : Int) (w : World) (h : yearP c y) : Calls Tryz.prog 154 #[.int .i64 c, .int .i64 y] w fun e w' => e = .returned (.int .i64 (easter c y)) ∧ Below w.heap.size w w' := by
  rw [show easter c y = easL c y from easter_day h]
  exact specL03 c y w h.1 h.2.1 (by have := h.2.2; omega)
theorem specEaster (c y : Int) (w : World) : Calls Tryz.prog 148 #[.int .i64 c, .int .i64 y] w fun e w' => e = .returned (.int .i64 (easter c y)) ∧ Below w.heap.size w w' := by
  have KY : ∀ W, Calls Tryz.prog 147 #[.int .i64 c, .int .i64 y] W fun e w' => e = .returned (.bool (yearB c y)) ∧ w' = W := specYearOk c y
  by_cases h : yearP c y
  · rw [yearB_true h] at KY
    have KE : ∀ W, Calls Tryz.prog 154 #[.int .i64 c, .int .i64 y] W fun e w' => e = .returned (.int .i64 (easter c y)) ∧ Below W.heap.size W w' := fun W => specL03Easter c y W h
    clear h
    generalize easter c y = R at *
    go_enter Tryz.func148, Tryz.ntmps148
    go_wp2_with fail
    refine (KY _).mono ?_
    rintro e w1 ⟨rfl, rfl⟩
    go_wp2_with fail
    refine (KE _).mono ?_
    rintro e w1 ⟨rfl, hb⟩
    go_wp2
    go_ret
    exact ⟨rfl, hb⟩
  · rw [yearB_false h] at KY
    have HR : Hid (easter c y = 0) := by unfold Hid easter; rw [if_neg h]
    clear h
    go_enter Tryz.func148, Tryz.ntmps148
    go_wp2_with fail
    refine (KY _).mono ?_
    rintro e w1 ⟨rfl, rfl⟩
    go_wp2
    go_ret
    exact ⟨ret_int HR.out.symm, Below.refl _ _⟩
end Go.Proofs.YtdgolaaheakfoaaGreatDoor.ctr
namespace Go.Proofs.YtdgolaaheakfoaaGreatDoor.ctr
open Go.RowKit
theorem calls_below {P : Program} {f : FuncId} {args : Array Value} {W : World} {v : Value} (h : Calls P f args W fun e w' => e = .returned v ∧ w' = W) : Calls P f args W fun e w' => e = .returned v ∧ Below W.heap.size W w' :=
  h.mono fun _ _ ⟨he, hm⟩ => ⟨he, by rw [hm]; exact Below.refl _ _⟩
set_option maxHeartbeats 1000000 in
theorem specStart (c s y : Int) (w : World) (hc : c = 0 ∨ c = 1) (hs : styleP s) (hy1 : 1 ≤ y) (hy2 : y ≤ 3900) : Calls Tryz.prog 125 #[.int .i64 c, .int .i64 s, .int .i64 y] w fun e w' => e = .returned (.int .i64 (start c s y)) ∧ Below w.heap.size w w' := by
  rcases style_cases hs with rfl | rfl | rfl | rfl | rfl | rfl | rfl
  · have K : ∀ x : Later w, Calls Tryz.prog 102 #[.int .i64 c, .int .i64 y] x.w fun e w' => e = .returned (.int .i64 (start c 0 y)) ∧ Below x.w.heap.size x.w w' := fun x => calls_below (specFirst c y x.w hc (by omega) (by omega))
    generalize start c 0 y = R at *
    clear hc hs
    go_enter Tryz.func125, Tryz.ntmps125
    go_wp2_with fail
    refine (K ⟨w, Below.refl _ _⟩).mono ?_
    rintro e w1 ⟨rfl, hb⟩
    obtain ⟨x1, rfl⟩ := Later.of hb
    clear hb
    go_wp2
    go_ret
    exact ⟨rfl, x1.below⟩
  · have K : ∀ x : Later w, Calls Tryz.prog 100 #[.int .i64 c, .int .i64 y, .int .i64 3, .int .i64 1] x.w fun e w' => e = .returned (.int .i64 (start c 1 y)) ∧ Below x.w.heap.size x.w w' := fun x => by rw [start_1]; exact specDay c y 3 1 x.w hc (by omega) (by omega) (by omega) (by omega) (by omega)
    generalize start c 1 y = R at *
    clear hc hs
    go_enter Tryz.func125, Tryz.ntmps125
    go_wp2_with fail
    refine (K ⟨w, Below.refl _ _⟩).mono ?_
    rintro e w1 ⟨rfl, hb⟩
    obtain ⟨x1, rfl⟩ := Later.of hb
    clear hb
    go_wp2
    go_ret
    exact ⟨rfl, x1.below⟩
  · have K : ∀ x : Later w, Calls Tryz.prog 100 #[.int .i64 c, .int .i64 y, .int .i64 3, .int .i64 25] x.w fun e w' => e = .returned (.int .i64 (start c 2 y)) ∧ Below x.w.heap.size x.w w' := fun x => by rw [start_2]; exact specDay c y 3 25 x.w hc (by omega) (by omega) (by omega) (by omega) (by omega)
    generalize start c 2 y = R at *
    clear hc hs
    go_enter Tryz.func125, Tryz.ntmps125
    go_wp2_with fail
    refine (K ⟨w, Below.refl _ _⟩).mono ?_
    rintro e w1 ⟨rfl, hb⟩
    obtain ⟨x1, rfl⟩ := Later.of hb
    clear hb
    go_wp2
    go_ret
    exact ⟨rfl, x1.below⟩
  · have K : ∀ x : Later w, Calls Tryz.prog 100 #[.int .i64 c, .int .i64 (y - 1), .int .i64 3, .int .i64 25] x.w fun e w' => e = .returned (.int .i64 (start c 3 y)) ∧ Below x.w.heap.size x.w w' := fun x => by rw [start_3]; exact specDay c (y - 1) 3 25 x.w hc (by omega) (by omega) (by omega) (by omega) (by omega)
    generalize start c 3 y = R at *
    clear hc hs
    go_enter Tryz.func125, Tryz.ntmps125
    go_wp2_with fail
    refine (K ⟨w, Below.refl _ _⟩).mono ?_
    rintro e w1 ⟨rfl, hb⟩
    obtain ⟨x1, rfl⟩ := Later.of hb
    clear hb
    go_wp2
    go_ret
    exact ⟨rfl, x1.below⟩
  · have K : ∀ x : Later w, Calls Tryz.prog 154 #[.int .i64 c, .int .i64 y] x.w fun e w' => e = .returned (.int .i64 (start c 4 y)) ∧ Below x.w.heap.size x.w w' := fun x => by rw [start_4]; exact specL03 c y x.w hc hy1 (by omega)
    generalize start c 4 y = R at *
    clear hc hs
    go_enter Tryz.func125, Tryz.ntmps125
    go_wp2_with fail
    refine (K ⟨w, Below.refl _ _⟩).mono ?_
    rintro e w1 ⟨rfl, hb⟩
    obtain ⟨x1, rfl⟩ := Later.of hb
    clear hb
    go_wp2
    go_ret
    exact ⟨rfl, x1.below⟩
  · have K : ∀ x : Later w, Calls Tryz.prog 100 #[.int .i64 c, .int .i64 (y - 1), .int .i64 9, .int .i64 1] x.w fun e w' => e = .returned (.int .i64 (start c 5 y)) ∧ Below x.w.heap.size x.w w' := fun x => by rw [start_5]; exact specDay c (y - 1) 9 1 x.w hc (by omega) (by omega) (by omega) (by omega) (by omega)
    generalize start c 5 y = R at *
    clear hc hs
    go_enter Tryz.func125, Tryz.ntmps125
    go_wp2_with fail
    refine (K ⟨w, Below.refl _ _⟩).mono ?_
    rintro e w1 ⟨rfl, hb⟩
    obtain ⟨x1, rfl⟩ := Later.of hb
    clear hb
    go_wp2
    go_ret
    exact ⟨rfl, x1.below⟩
  · have K : ∀ x : Later w, Calls Tryz.prog 100 #[.int .i64 c, .int .i64 (y - 1), .int .i64 12, .int .i64 25] x.w fun e w' => e = .returned (.int .i64 (start c 6 y)) ∧ Below x.w.heap.size x.w w' := fun x => by rw [start_6]; exact specDay c (y - 1) 12 25 x.w hc (by omega) (by omega) (by omega) (by omega) (by omega)
    generalize start c 6 y = R at *
    clear hc hs
    go_enter Tryz.func125, Tryz.ntmps125
    go_wp2_with fail
    refine (K ⟨w, Below.refl _ _⟩).mono ?_
    rintro e w1 ⟨rfl, hb⟩
    obtain ⟨x1, rfl⟩ := Later.of hb
    clear hb
    go_wp2
    go_ret
    exact ⟨rfl, x1.below⟩
theorem date_cases (c n : Int) : dateOf c n = (0, 0, 0, 0, false) ∨ ∃ Y m d, dateOf c n = (c, Y, m, d, true) ∧ (c = 0 ∨ c = 1) ∧ 1 ≤ Y ∧ Y ≤ 3000 ∧ first c Y ≤ n ∧ n < first c (Y + 1) := by
  by_cases h : (c = 0 ∨ c = 1) ∧ 1 ≤ yearOf c n ∧ yearOf c n ≤ 3000 ∧ -1000 ≤ n ∧ n ≤ 1200000
  · right
    have k : dateOf c n = (c, yearOf c n, (monthOf c (yearOf c n) (n - first c (yearOf c n)) : Int) + 1, n - first c (yearOf c n) - before c (yearOf c n) (monthOf c (yearOf c n) (n - first c (yearOf c n))) + 1, true) := by
      unfold dateOf
      rw [if_pos h]
    obtain ⟨_, hd, hn⟩ := date_back k
    have hl := line_in h.1 (dateP_month hd).1 (dateP_month hd).2 hd.2.2.2.1 hd.2.2.2.2
    rw [← lineD_dayOf hd, hn] at hl
    exact ⟨_, _, _, k, h.1, h.2.1, h.2.2.1, hl.1, hl.2⟩
  · exact .inl (dateOf_no h)
noncomputable def styR (c s n : Int) : Value := .tuple #[.int .i64 (styYear c s n).1, .bool (styYear c s n).2]
theorem styR_no {c s n : Int} (h : styYear c s n = (0, false)) : styR c s n = .tuple #[.int .i64 0, .bool false] := by unfold styR; rw [h]
theorem styR_yes {c s n y : Int} (h : styYear c s n = (y, true)) : styR c s n = .tuple #[.int .i64 y, .bool true] := by unfold styR; rw [h]
theorem raw_of {c s Y n y : Int} (h : y = Y - 1 ∨ y = Y ∨ y = Y + 1) (h1 : Y ≤ y → start c s Y ≤ n) (h2 : Y + 1 ≤ y → start c s (Y + 1) ≤ n) (he : y ≤ Y → n < start c s (y + 1)) : rawYear c s Y n = y := by
  rcases h with rfl | rfl | rfl
  · have := he (by omega)
    rw [show Y - 1 + 1 = Y by omega] at this
    exact raw_lo this
  · exact raw_mid (by have := h1 (by omega); omega) (he (by omega))
  · exact raw_hi (by have := h1 (by omega); have := h2 (by omega); omega) (by have := h2 (by omega); omega)
set_option maxHeartbeats 2000000 in
theorem specStyleYear (c s n : Int) (w : World) : Calls Tryz.prog 91 #[.int .i64 c, .int .i64 s, .int .i64 n] w fun e w' => e = .returned (styR c s n) ∧ Below w.heap.size w w' := by
  have KD := specDateOf c n w
  rcases date_cases c n with hD | ⟨Y, m, d, hD, hc, hY1, hY2, hn1, hn2⟩
  · rw [dateR_no hD] at KD
    have HR : Hid (styR c s n = .tuple #[.int .i64 0, .bool false]) := styR_no (sty_none hD)
    rw [HR.out]
    clear hD HR
    unfold z4 at KD
    go_enter Tryz.func91, Tryz.ntmps91
    go_wp2_with fail
    refine KD.mono ?_
    rintro e w1 ⟨rfl, hb⟩
    go_wp2
    go_returns
    exact ⟨rfl, hb.alloc hb.size _⟩
  · rw [dateR_yes hD] at KD
    by_cases hs : styleP s
    · have hE := styText_some hs
      have KS : ∀ W, Calls Tryz.prog 124 #[.int .i64 s] W fun e w' => e = .returned (.string (styText s)) ∧ Below W.heap.size W w' := fun W => specStyleName s W
      have KB : Hid (∀ (y : Int), 0 ≤ y → y ≤ 3001 → ∀ W, Calls Tryz.prog 125 #[.int .i64 c, .int .i64 s, .int .i64 (y + 1)] W fun e w' => e = .returned (.int .i64 (start c s (y + 1))) ∧ Below W.heap.size W w') := fun y h1 h2 W => specStart c s (y + 1) W hc hs (by omega) (by omega)
      have HF := hideP (start_far hc hs hY1 hY2 hn2)
      have HRaw : Hid (∀ y, (y = Y - 1 ∨ y = Y ∨ y = Y + 1) → (Y ≤ y → start c s Y ≤ n) → (Y + 1 ≤ y → start c s (Y + 1) ≤ n) → (y ≤ Y → n < start c s (y + 1)) → rawYear c s Y n = y) := fun y h h1 h2 he => raw_of h h1 h2 he
      have HO : Hid (1 ≤ rawYear c s Y n → rawYear c s Y n ≤ 3000 → styR c s n = .tuple #[.int .i64 (rawYear c s Y n), .bool true]) := fun h1 h2 => styR_yes (sty_yes hD hs h1 h2)
      have HN : Hid (¬ (1 ≤ rawYear c s Y n ∧ rawYear c s Y n ≤ 3000) → styR c s n = .tuple #[.int .i64 0, .bool false]) := fun h => styR_no (sty_out hD h)
      generalize styR c s n = R at *
      generalize styText s = t at *
      clear hD hn1 hn2 hc hs
      go_enter Tryz.func91, Tryz.ntmps91
      go_wp2_with fail
      refine KD.mono ?_
      rintro e w1 ⟨rfl, hb1⟩
      have HB1 := hideP hb1
      obtain ⟨W0, hW0⟩ : ∃ W0, W0 = w1.alloc (.cells #[.int .i64 c, .int .i64 Y, .int .i64 m, .int .i64 d] 92) := ⟨_, rfl⟩
      have HW0 := hideP hW0
      have c1 : ∀ x : Later W0, x.w.cell? ⟨w1.heap.size, 1, none⟩ = some (.int .i64 Y) := Later.new hW0 1 rfl
      have HL : Hid (∀ x : Later W0, Below w.heap.size w x.w) := fun x => HB1.out.trans ((below_of_alloc HW0.out x.below).mono HB1.out.size)
      clear hb1 hW0 KD
      go_wp2_with fail
      rw [← HW0.out]
      refine (KS _).mono ?_
      rintro e w2 ⟨rfl, hb⟩
      obtain ⟨x1, rfl⟩ := Later.of hb
      clear hb
      go_wp2_with fail
      go_loopw [10] (fun i wr => ∃ (y : Int) (x : Later W0), i = .int .i64 y ∧ wr = x.w ∧ Y - 1 ≤ y ∧ y ≤ Y + 1 ∧ Hid (Y ≤ y → start c s Y ≤ n) ∧ Hid (Y + 1 ≤ y → start c s (Y + 1) ≤ n)) (fun i _ => (4000 - intOf i).toNat)
      case atStart => exact ⟨Y - 1, x1, rfl, rfl, by omega, by omega, fun h => by omega, fun h => by omega⟩
      case round =>
        obtain ⟨y, x, rfl, rfl, y1, y2, H1, H2⟩ := hrel
        have K := KB.out y (by omega) (by omega)
        by_cases hle : start c s (y + 1) ≤ n
        · have hyY : y ≤ Y := by
            by_cases h : y ≤ Y
            · exact h
            · have e : y = Y + 1 := by omega
              subst e
              have := HF.out
              rw [show Y + 1 + 1 = Y + 2 by omega] at hle
              omega
          have H1' : Hid (Y ≤ y + 1 → start c s Y ≤ n) := fun h => by
            by_cases e : Y ≤ y
            · exact H1.out e
            · rw [show Y = y + 1 by omega]; exact hle
          have H2' : Hid (Y + 1 ≤ y + 1 → start c s (Y + 1) ≤ n) := fun h => by
            rw [show Y = y by omega]; exact hle
          clear H1 H2 HF
          generalize start c s (y + 1) = S at *
          go_wp2_with fail
          refine (K _).mono ?_
          rintro e w3 ⟨rfl, hb⟩
          obtain ⟨x3, rfl⟩ := x.next hb
          clear hb
          go_wp2
          exact ⟨⟨y + 1, x3, rfl, rfl, by omega, by omega, H1', H2'⟩, by simp [intOf]; omega⟩
        · have hraw : rawYear c s Y n = y := HRaw.out y (by omega) H1.out H2.out (fun _ => by omega)
          rw [hraw] at HO HN
          clear H1 H2 HF HRaw hraw KB
          generalize start c s (y + 1) = S at *
          by_cases hin : 1 ≤ y ∧ y ≤ 3000
          · have hI : inB y 1 3000 = true := inB_true hin.1 hin.2
            have KI := fun W => l01In y 1 3000 W
            rw [hI] at KI
            go_wp2_with fail
            refine (K _).mono ?_
            rintro e w3 ⟨rfl, hb⟩
            obtain ⟨x3, rfl⟩ := x.next hb
            clear hb
            go_wp2_with fail
            refine (KI _).mono ?_
            rintro e w4 ⟨rfl, hw⟩
            rw [hw]
            clear hw
            go_wp2
            go_returns
            rw [HO.out hin.1 hin.2]
            exact ⟨rfl, HL.out x3⟩
          · have hI : inB y 1 3000 = false := inB_false (by omega)
            have KI := fun W => l01In y 1 3000 W
            rw [hI] at KI
            go_wp2_with fail
            refine (K _).mono ?_
            rintro e w3 ⟨rfl, hb⟩
            obtain ⟨x3, rfl⟩ := x.next hb
            clear hb
            go_wp2_with fail
            refine (KI _).mono ?_
            rintro e w4 ⟨rfl, hw⟩
            rw [hw]
            clear hw
            go_wp2
            go_returns
            rw [HN.out hin]
            exact ⟨rfl, HL.out x3⟩
    · have hE := styText_none hs
      have KS : ∀ W, Calls Tryz.prog 124 #[.int .i64 s] W fun e w' => e = .returned (.string (styText s)) ∧ Below W.heap.size W w' := fun W => specStyleName s W
      have HR : Hid (styR c s n = .tuple #[.int .i64 0, .bool false]) := styR_no (sty_style hs)
      rw [HR.out]
      clear hD HR hs hn1 hn2 hc
      generalize styText s = t at *
      go_enter Tryz.func91, Tryz.ntmps91
      go_wp2_with fail
      refine KD.mono ?_
      rintro e w1 ⟨rfl, hb1⟩
      have HB1 := hideP hb1
      clear hb1
      go_wp2_with fail
      refine (KS _).mono ?_
      rintro e w2 ⟨rfl, hb⟩
      have HB2 := hideP (below_alloc hb)
      clear hb
      go_wp2
      go_returns
      exact ⟨rfl, HB1.out.trans (HB2.out.mono HB1.out.size)⟩
end Go.Proofs.YtdgolaaheakfoaaGreatDoor.ctr
namespace Go.Proofs.YtdgolaaheakfoaaGreatDoor.ctr
open Go.RowKit
theorem of_inB {x a b : Int} (h : inB x a b = true) : a ≤ x ∧ x ≤ b := by simpa [inB] using h
theorem tag_rise : ∀ {l : List Seg} (b : Nat), (l.Pairwise fun x y => x.fr < y.fr) → InOrder (tagS l b)
  | [], b, _ => List.Pairwise.nil
  | s :: l, b, h => by
    obtain ⟨h1, h2⟩ := List.pairwise_cons.1 h
    refine List.Pairwise.cons (fun y hy => ?_) (tag_rise (b + 1) h2)
    have := h1 _ (tagS_mem l (b + 1) y hy)
    rw [leP_iff]
    dsimp only
    omega
theorem rise_sort {l : List Seg} (h : l.Pairwise fun x y => x.fr < y.fr) : sortS l = l := by
  have e := sorted_same (l := l) (out := tagS l 0) (tag_rise 0 h) (List.Perm.refl _)
  rw [tagS_map] at e
  exact e.symm
theorem right_seg {r : Rgm} (h : regimeB r = true) {k : Nat} (hk : k < r.segs.length) : segOkB (atK segK r.segs k) = true ∧ r.fr ≤ (atK segK r.segs k).fr ∧ (atK segK r.segs k).to ≤ r.to := segFit_ok (allTo_at (regime_parts h).1 hk)
theorem right_next {r : Rgm} (h : regimeB r = true) {k : Nat} (hk : k + 1 < r.segs.length) : (atK segK r.segs k).fr < (atK segK r.segs (k + 1)).fr := by
  have := allTo_at (regime_parts h).1 hk
  rw [segFit_succ] at this
  simp only [Bool.and_eq_true, decide_eq_true_eq] at this
  exact this.2.2.2
theorem right_rise {r : Rgm} (h : regimeB r = true) : ∀ (d i : Nat), i + d + 1 < r.segs.length → (atK segK r.segs i).fr < (atK segK r.segs (i + d + 1)).fr
  | 0, i, hd => right_next h hd
  | d + 1, i, hd => by
    have h1 := right_rise h d i (by omega)
    have h2 := right_next h (k := i + d + 1) (by omega)
    rw [show i + (d + 1) + 1 = i + d + 1 + 1 by omega]
    omega
theorem right_pair {r : Rgm} (h : regimeB r = true) : r.segs.Pairwise fun x y => x.fr < y.fr := by
  rw [List.pairwise_iff_getElem]
  intro i j hi hj hij
  have := right_rise h (j - i - 1) i (by omega)
  rw [show i + (j - i - 1) + 1 = j by omega, atK_eq hi, atK_eq hj] at this
  exact this
theorem right_full {r : Rgm} (h : regimeB r = true) : fullS r.segs = r.segs := by
  unfold fullS
  rw [rise_sort (right_pair h)]
  refine List.filter_eq_self.2 (fun s hs => ?_)
  obtain ⟨k, hk, rfl⟩ := List.getElem_of_mem hs
  have := segOk_days (right_seg h hk).1
  rw [atK_eq hk] at this
  simpa [hasDayB] using this.1
theorem right_apart {r : Rgm} (h : regimeB r = true) {k : Nat} (hk : k + 1 < r.segs.length) : (atK segK r.segs k).to < (atK segK r.segs (k + 1)).fr := by
  have ht := (regime_parts h).2
  unfold tilesZ tileC at ht
  rw [right_full h] at ht
  by_cases a : sharedB r.segs = true
  · rw [if_pos a] at ht; omega
  · by_cases b : (atK segK r.segs k).to < (atK segK r.segs (k + 1)).fr
    · exact b
    · exfalso
      refine a (shared_yes ⟨k + 1, by omega, hk, ?_⟩)
      rw [sgA_eq hk, show k + 1 - 1 = k by omega, sgA_eq (by omega : k < r.segs.length)]
      rw [atK_eq (by omega : k < r.segs.length), atK_eq hk] at b
      omega
theorem right_far {r : Rgm} (h : regimeB r = true) {i j : Nat} (hij : i < j) (hj : j < r.segs.length) : (atK segK r.segs i).to < (atK segK r.segs j).fr := by
  have h1 := right_apart h (k := i) (by omega)
  by_cases e : j = i + 1
  · subst e; exact h1
  · have := right_rise h (j - (i + 1) - 1) (i + 1) (by omega)
    rw [show i + 1 + (j - (i + 1) - 1) + 1 = j by omega] at this
    omega
theorem right_mono {r : Rgm} (h : regimeB r = true) (n : Int) (a b : Nat) (hab : a ≤ b) (hb : b < r.segs.length) (hp : decide (n ≤ (atK segK r.segs a).to) = true) : decide (n ≤ (atK segK r.segs b).to) = true := by
  have hp := of_decide_eq_true hp
  refine decide_eq_true ?_
  by_cases e : a = b
  · subst e; exact hp
  · have h1 := right_far h (show a < b by omega) hb
    have h2 := segOk_days (right_seg h hb).1
    omega
theorem seg_half {r : Rgm} (h : regimeB r = true) {n : Int} (h1 : r.fr ≤ n) (h2 : n ≤ r.to) {m : Nat} (hl : ∀ t, t < m → decide (n ≤ (atK segK r.segs t).to) = false) (hu : ∀ t, m ≤ t → t < r.segs.length → decide (n ≤ (atK segK r.segs t).to) = true) : m < r.segs.length ∧ segAt r.segs n = (m : Int) ∧ (atK segK r.segs m).fr ≤ n ∧ n ≤ (atK segK r.segs m).to := by
  have h0 := (seg_fact h n).2 ⟨h1, h2⟩
  rcases segAt_cases r.segs n with ⟨h3, _⟩ | ⟨j, hj, h3, h4, h5⟩
  · omega
  · have a : m ≤ j := by
      by_cases c : m ≤ j
      · exact c
      · have := hl j (by omega)
        have := of_decide_eq_false this
        omega
    have b : j ≤ m := by
      by_cases c : j ≤ m
      · exact c
      · have := of_decide_eq_true (hu m (Nat.le_refl _) (by omega))
        have := right_far h (show m < j by omega) hj
        omega
    have e : j = m := by omega
    subst e
    exact ⟨hj, h3, h4, h5⟩
theorem right_segs {r : Rgm} (h : regimeB r = true) : 1 ≤ r.segs.length ∧ r.segs.length ≤ 20 := by
  unfold regimeB segsB at h
  simp only [Bool.and_eq_true] at h
  have := of_inB h.2.2.2.1.1
  omega
theorem segOk_nums {s : Seg} (h : segOkB s = true) : 400 ≤ s.fr ∧ s.fr ≤ s.to ∧ s.to ≤ 1090000 ∧ (s.cal = 0 ∨ s.cal = 1) ∧ styleB s.sty = true ∧ -3 ≤ s.off ∧ s.off ≤ 3 := by
  unfold segOkB dayB at h
  simp only [Bool.and_eq_true, decide_eq_true_eq] at h
  obtain ⟨h1, h2, h3, h4, h5, h6⟩ := h
  have a := of_inB h1
  have b := of_inB h2
  have c := of_inB h6
  exact ⟨by omega, h3, by omega, calB_iff.1 h4, h5, by omega, by omega⟩
noncomputable def rdgAt (r : Rgm) (s : Seg) (n : Int) : Rdg :=
  ⟨s.cal, (styYear s.cal s.sty (n + s.off)).1, (dateOf s.cal (n + s.off)).2.1,
    if 0 ≤ patAt r.pats n then (atK patK r.pats (patAt r.pats n).toNat).mon else (dateOf s.cal (n + s.off)).2.2.1,
    if 0 ≤ patAt r.pats n then (atK patK r.pats (patAt r.pats n).toNat).dom else (dateOf s.cal (n + s.off)).2.2.2.1⟩
noncomputable def rdgOn (r : Rgm) (n : Int) : Rdg := rdgAt r (atK segK r.segs (segAt r.segs n).toNat) n
abbrev rdg0 : Rdg := ⟨0, 0, 0, 0, 0⟩
noncomputable def readR (r : Rgm) (n : Int) : Value := if regimeB r = true ∧ r.fr ≤ n ∧ n ≤ r.to then .tuple #[rdgV (rdgOn r n), .bool true] else .tuple #[rdgV rdg0, .bool false]
end Go.Proofs.YtdgolaaheakfoaaGreatDoor.ctr
