/- Contracts of the model's l06Start, l06Year, YearStart, YearDays, StyleYear: each answers its plain function. -/
import Derived.Test.YtaakgidndjoocaaGreatDoorStyBaseM
import Derived.Test.YtaakgidndjoocaaGreatDoorStyPlainM
import Derived.Test.YtaakgidndjoocaaGreatDoorEasSpecM
import Derived.Test.YtaakgidndjoocaaGreatDoorSolB
namespace Go.Proofs.YtaakgidndjoocaaGreatDoor.ctr
open Go.RowKit

theorem calls_below {P : Program} {f : FuncId} {args : Array Value} {W : World} {v : Value} (h : Calls P f args W fun e w' => e = .returned v ∧ w' = W) : Calls P f args W fun e w' => e = .returned v ∧ Below W.heap.size W w' :=
  h.mono fun _ _ ⟨he, hm⟩ => ⟨he, by rw [hm]; exact Below.refl _ _⟩
set_option maxHeartbeats 1000000 in
theorem specStart (c s y : Int) (w : World) (hc : c = 0 ∨ c = 1) (hs : styleP s) (hy1 : 1 ≤ y) (hy2 : y ≤ 3900) : Calls Tryz.prog 115 #[.int .i64 c, .int .i64 s, .int .i64 y] w fun e w' => e = .returned (.int .i64 (start c s y)) ∧ Below w.heap.size w w' := by
  rcases style_cases hs with rfl | rfl | rfl | rfl | rfl | rfl | rfl
  · have K : ∀ x : Later w, Calls Tryz.prog 141 #[.int .i64 c, .int .i64 y] x.w fun e w' => e = .returned (.int .i64 (start c 0 y)) ∧ Below x.w.heap.size x.w w' := fun x => calls_below (specFirst c y x.w hc (by omega) (by omega))
    generalize start c 0 y = R at *
    clear hc hs
    go_enter Tryz.func115, Tryz.ntmps115
    go_wp2_with fail
    refine (K ⟨w, Below.refl _ _⟩).mono ?_
    rintro e w1 ⟨rfl, hb⟩
    obtain ⟨x1, rfl⟩ := Later.of hb
    clear hb
    go_wp2
    go_ret
    exact ⟨rfl, x1.below⟩
  · have K : ∀ x : Later w, Calls Tryz.prog 105 #[.int .i64 c, .int .i64 y, .int .i64 3, .int .i64 1] x.w fun e w' => e = .returned (.int .i64 (start c 1 y)) ∧ Below x.w.heap.size x.w w' := fun x => by rw [start_1]; exact specDay c y 3 1 x.w hc (by omega) (by omega) (by omega) (by omega) (by omega)
    generalize start c 1 y = R at *
    clear hc hs
    go_enter Tryz.func115, Tryz.ntmps115
    go_wp2_with fail
    refine (K ⟨w, Below.refl _ _⟩).mono ?_
    rintro e w1 ⟨rfl, hb⟩
    obtain ⟨x1, rfl⟩ := Later.of hb
    clear hb
    go_wp2
    go_ret
    exact ⟨rfl, x1.below⟩
  · have K : ∀ x : Later w, Calls Tryz.prog 105 #[.int .i64 c, .int .i64 y, .int .i64 3, .int .i64 25] x.w fun e w' => e = .returned (.int .i64 (start c 2 y)) ∧ Below x.w.heap.size x.w w' := fun x => by rw [start_2]; exact specDay c y 3 25 x.w hc (by omega) (by omega) (by omega) (by omega) (by omega)
    generalize start c 2 y = R at *
    clear hc hs
    go_enter Tryz.func115, Tryz.ntmps115
    go_wp2_with fail
    refine (K ⟨w, Below.refl _ _⟩).mono ?_
    rintro e w1 ⟨rfl, hb⟩
    obtain ⟨x1, rfl⟩ := Later.of hb
    clear hb
    go_wp2
    go_ret
    exact ⟨rfl, x1.below⟩
  · have K : ∀ x : Later w, Calls Tryz.prog 105 #[.int .i64 c, .int .i64 (y - 1), .int .i64 3, .int .i64 25] x.w fun e w' => e = .returned (.int .i64 (start c 3 y)) ∧ Below x.w.heap.size x.w w' := fun x => by rw [start_3]; exact specDay c (y - 1) 3 25 x.w hc (by omega) (by omega) (by omega) (by omega) (by omega)
    generalize start c 3 y = R at *
    clear hc hs
    go_enter Tryz.func115, Tryz.ntmps115
    go_wp2_with fail
    refine (K ⟨w, Below.refl _ _⟩).mono ?_
    rintro e w1 ⟨rfl, hb⟩
    obtain ⟨x1, rfl⟩ := Later.of hb
    clear hb
    go_wp2
    go_ret
    exact ⟨rfl, x1.below⟩
  · have K : ∀ x : Later w, Calls Tryz.prog 170 #[.int .i64 c, .int .i64 y] x.w fun e w' => e = .returned (.int .i64 (start c 4 y)) ∧ Below x.w.heap.size x.w w' := fun x => by rw [start_4]; exact specL03 c y x.w hc hy1 (by omega)
    generalize start c 4 y = R at *
    clear hc hs
    go_enter Tryz.func115, Tryz.ntmps115
    go_wp2_with fail
    refine (K ⟨w, Below.refl _ _⟩).mono ?_
    rintro e w1 ⟨rfl, hb⟩
    obtain ⟨x1, rfl⟩ := Later.of hb
    clear hb
    go_wp2
    go_ret
    exact ⟨rfl, x1.below⟩
  · have K : ∀ x : Later w, Calls Tryz.prog 105 #[.int .i64 c, .int .i64 (y - 1), .int .i64 9, .int .i64 1] x.w fun e w' => e = .returned (.int .i64 (start c 5 y)) ∧ Below x.w.heap.size x.w w' := fun x => by rw [start_5]; exact specDay c (y - 1) 9 1 x.w hc (by omega) (by omega) (by omega) (by omega) (by omega)
    generalize start c 5 y = R at *
    clear hc hs
    go_enter Tryz.func115, Tryz.ntmps115
    go_wp2_with fail
    refine (K ⟨w, Below.refl _ _⟩).mono ?_
    rintro e w1 ⟨rfl, hb⟩
    obtain ⟨x1, rfl⟩ := Later.of hb
    clear hb
    go_wp2
    go_ret
    exact ⟨rfl, x1.below⟩
  · have K : ∀ x : Later w, Calls Tryz.prog 105 #[.int .i64 c, .int .i64 (y - 1), .int .i64 12, .int .i64 25] x.w fun e w' => e = .returned (.int .i64 (start c 6 y)) ∧ Below x.w.heap.size x.w w' := fun x => by rw [start_6]; exact specDay c (y - 1) 12 25 x.w hc (by omega) (by omega) (by omega) (by omega) (by omega)
    generalize start c 6 y = R at *
    clear hc hs
    go_enter Tryz.func115, Tryz.ntmps115
    go_wp2_with fail
    refine (K ⟨w, Below.refl _ _⟩).mono ?_
    rintro e w1 ⟨rfl, hb⟩
    obtain ⟨x1, rfl⟩ := Later.of hb
    clear hb
    go_wp2
    go_ret
    exact ⟨rfl, x1.below⟩

theorem yB_true {c s y : Int} (h : yearP c y ∧ styleP s) : (yearB c y && styleB s) = true := by rw [yearB_true h.1, styleB_true h.2]; rfl
theorem yB_false {c s y : Int} (h : ¬ (yearP c y ∧ styleP s)) : (yearB c y && styleB s) = false := by
  by_cases hy : yearP c y
  · rw [styleB_false (fun k => h ⟨hy, k⟩), Bool.and_false]
  · rw [yearB_false hy, Bool.false_and]
/-- The date of a day: there is none, or it is a date of that calendar, whose year holds the day. -/
theorem date_cases (c n : Int) : dateOf c n = (0, 0, 0, 0, false) ∨ ∃ Y m d, dateOf c n = (c, Y, m, d, true) ∧ (c = 0 ∨ c = 1) ∧ 1 ≤ Y ∧ Y ≤ 3000 ∧ first c Y ≤ n ∧ n < first c (Y + 1) := by
  by_cases h : (c = 0 ∨ c = 1) ∧ 1 ≤ yearOf c n ∧ yearOf c n ≤ 3000 ∧ -1000 ≤ n ∧ n ≤ 1200000
  · right
    have k : dateOf c n = (c, yearOf c n, (monthOf c (yearOf c n) (n - first c (yearOf c n)) : Int) + 1, n - first c (yearOf c n) - before c (yearOf c n) (monthOf c (yearOf c n) (n - first c (yearOf c n))) + 1, true) := by
      unfold dateOf
      rw [if_pos h]
    obtain ⟨_, hd, hn⟩ := date_back k
    have hl := line_in h.1 (dateP_month hd).1 (dateP_month hd).2 hd.2.2.2.1 hd.2.2.2.2
    rw [← lineD_dayOf hd, hn] at hl
    exact ⟨_, _, _, k, h.1, h.2.1, h.2.2.1, hl.1, hl.2⟩
  · exact .inl (dateOf_no h)
noncomputable def styR (c s n : Int) : Value := .tuple #[.int .i64 (styYear c s n).1, .bool (styYear c s n).2]
theorem styR_no {c s n : Int} (h : styYear c s n = (0, false)) : styR c s n = .tuple #[.int .i64 0, .bool false] := by unfold styR; rw [h]
theorem styR_yes {c s n y : Int} (h : styYear c s n = (y, true)) : styR c s n = .tuple #[.int .i64 y, .bool true] := by unfold styR; rw [h]
theorem raw_of {c s Y n y : Int} (h : y = Y - 1 ∨ y = Y ∨ y = Y + 1) (h1 : Y ≤ y → start c s Y ≤ n) (h2 : Y + 1 ≤ y → start c s (Y + 1) ≤ n) (he : y ≤ Y → n < start c s (y + 1)) : rawYear c s Y n = y := by
  rcases h with rfl | rfl | rfl
  · have := he (by omega)
    rw [show Y - 1 + 1 = Y by omega] at this
    exact raw_lo this
  · exact raw_mid (by have := h1 (by omega); omega) (he (by omega))
  · exact raw_hi (by have := h1 (by omega); have := h2 (by omega); omega) (by have := h2 (by omega); omega)
theorem date_blk2 (W : World) (a y m d : Int) : Blk (W.alloc (.cells #[.int .i64 a, .int .i64 y, .int .i64 m, .int .i64 d] 85)) W.heap.size #[.int .i64 a, .int .i64 y, .int .i64 m, .int .i64 d] 85 := Blk.new W _ _

set_option maxHeartbeats 2000000 in
theorem specStyleYear (c s n : Int) (w : World) : Calls Tryz.prog 87 #[.int .i64 c, .int .i64 s, .int .i64 n] w fun e w' => e = .returned (styR c s n) ∧ Below w.heap.size w w' := by
  have KD := specDateOf c n w
  rcases date_cases c n with hD | ⟨Y, m, d, hD, hc, hY1, hY2, hn1, hn2⟩
  · rw [dateR_no hD] at KD
    have HR : Hid (styR c s n = .tuple #[.int .i64 0, .bool false]) := styR_no (sty_none hD)
    rw [HR.out]
    clear hD HR
    unfold z4 at KD
    go_enter Tryz.func87, Tryz.ntmps87
    go_wp2_with fail
    refine KD.mono ?_
    rintro e w1 ⟨rfl, hb⟩
    go_wp2
    go_returns
    exact ⟨rfl, hb.alloc hb.size _⟩
  · rw [dateR_yes hD] at KD
    by_cases hs : styleP s
    · have hE := styText_some hs
      have KS : ∀ W, Calls Tryz.prog 142 #[.int .i64 s] W fun e w' => e = .returned (.string (styText s)) ∧ Below W.heap.size W w' := fun W => specStyleName s W
      have KB : Hid (∀ (y : Int), 0 ≤ y → y ≤ 3001 → ∀ W, Calls Tryz.prog 115 #[.int .i64 c, .int .i64 s, .int .i64 (y + 1)] W fun e w' => e = .returned (.int .i64 (start c s (y + 1))) ∧ Below W.heap.size W w') := fun y h1 h2 W => specStart c s (y + 1) W hc hs (by omega) (by omega)
      have HF := hideP (start_far hc hs hY1 hY2 hn2)
      have HRaw : Hid (∀ y, (y = Y - 1 ∨ y = Y ∨ y = Y + 1) → (Y ≤ y → start c s Y ≤ n) → (Y + 1 ≤ y → start c s (Y + 1) ≤ n) → (y ≤ Y → n < start c s (y + 1)) → rawYear c s Y n = y) := fun y h h1 h2 he => raw_of h h1 h2 he
      have HO : Hid (1 ≤ rawYear c s Y n → rawYear c s Y n ≤ 3000 → styR c s n = .tuple #[.int .i64 (rawYear c s Y n), .bool true]) := fun h1 h2 => styR_yes (sty_yes hD hs h1 h2)
      have HN : Hid (¬ (1 ≤ rawYear c s Y n ∧ rawYear c s Y n ≤ 3000) → styR c s n = .tuple #[.int .i64 0, .bool false]) := fun h => styR_no (sty_out hD h)
      generalize styR c s n = R at *
      generalize styText s = t at *
      clear hD hn1 hn2 hc hs
      go_enter Tryz.func87, Tryz.ntmps87
      go_wp2_with fail
      refine KD.mono ?_
      rintro e w1 ⟨rfl, hb1⟩
      have HB1 := hideP hb1
      obtain ⟨W0, hW0⟩ : ∃ W0, W0 = w1.alloc (.cells #[.int .i64 c, .int .i64 Y, .int .i64 m, .int .i64 d] 85) := ⟨_, rfl⟩
      have HW0 := hideP hW0
      have c1 : ∀ x : Later W0, x.w.cell? ⟨w1.heap.size, 1, none⟩ = some (.int .i64 Y) := Later.new hW0 1 rfl
      have HL : Hid (∀ x : Later W0, Below w.heap.size w x.w) := fun x => HB1.out.trans ((below_of_alloc HW0.out x.below).mono HB1.out.size)
      clear hb1 hW0 KD
      go_wp2_with fail
      rw [← HW0.out]
      refine (KS _).mono ?_
      rintro e w2 ⟨rfl, hb⟩
      obtain ⟨x1, rfl⟩ := Later.of hb
      clear hb
      go_wp2_with fail
      go_loopw [10] (fun i wr => ∃ (y : Int) (x : Later W0), i = .int .i64 y ∧ wr = x.w ∧ Y - 1 ≤ y ∧ y ≤ Y + 1 ∧ Hid (Y ≤ y → start c s Y ≤ n) ∧ Hid (Y + 1 ≤ y → start c s (Y + 1) ≤ n)) (fun i _ => (4000 - intOf i).toNat)
      case atStart => exact ⟨Y - 1, x1, rfl, rfl, by omega, by omega, fun h => by omega, fun h => by omega⟩
      case round =>
        obtain ⟨y, x, rfl, rfl, y1, y2, H1, H2⟩ := hrel
        have K := KB.out y (by omega) (by omega)
        by_cases hle : start c s (y + 1) ≤ n
        · have hyY : y ≤ Y := by
            by_cases h : y ≤ Y
            · exact h
            · have e : y = Y + 1 := by omega
              subst e
              have := HF.out
              rw [show Y + 1 + 1 = Y + 2 by omega] at hle
              omega
          have H1' : Hid (Y ≤ y + 1 → start c s Y ≤ n) := fun h => by
            by_cases e : Y ≤ y
            · exact H1.out e
            · rw [show Y = y + 1 by omega]; exact hle
          have H2' : Hid (Y + 1 ≤ y + 1 → start c s (Y + 1) ≤ n) := fun h => by
            rw [show Y = y by omega]; exact hle
          clear H1 H2 HF
          generalize start c s (y + 1) = S at *
          go_wp2_with fail
          refine (K _).mono ?_
          rintro e w3 ⟨rfl, hb⟩
          obtain ⟨x3, rfl⟩ := x.next hb
          clear hb
          go_wp2
          exact ⟨⟨y + 1, x3, rfl, rfl, by omega, by omega, H1', H2'⟩, by simp [intOf]; omega⟩
        · have hraw : rawYear c s Y n = y := HRaw.out y (by omega) H1.out H2.out (fun _ => by omega)
          rw [hraw] at HO HN
          clear H1 H2 HF HRaw hraw KB
          generalize start c s (y + 1) = S at *
          by_cases hin : 1 ≤ y ∧ y ≤ 3000
          · have hI : inB y 1 3000 = true := inB_true hin.1 hin.2
            have KI := fun W => l01In y 1 3000 W
            rw [hI] at KI
            go_wp2_with fail
            refine (K _).mono ?_
            rintro e w3 ⟨rfl, hb⟩
            obtain ⟨x3, rfl⟩ := x.next hb
            clear hb
            go_wp2_with fail
            refine (KI _).mono ?_
            rintro e w4 ⟨rfl, hw⟩
            rw [hw]
            clear hw
            go_wp2
            go_returns
            rw [HO.out hin.1 hin.2]
            exact ⟨rfl, HL.out x3⟩
          · have hI : inB y 1 3000 = false := inB_false (by omega)
            have KI := fun W => l01In y 1 3000 W
            rw [hI] at KI
            go_wp2_with fail
            refine (K _).mono ?_
            rintro e w3 ⟨rfl, hb⟩
            obtain ⟨x3, rfl⟩ := x.next hb
            clear hb
            go_wp2_with fail
            refine (KI _).mono ?_
            rintro e w4 ⟨rfl, hw⟩
            rw [hw]
            clear hw
            go_wp2
            go_returns
            rw [HN.out hin]
            exact ⟨rfl, HL.out x3⟩
    · have hE := styText_none hs
      have KS : ∀ W, Calls Tryz.prog 142 #[.int .i64 s] W fun e w' => e = .returned (.string (styText s)) ∧ Below W.heap.size W w' := fun W => specStyleName s W
      have HR : Hid (styR c s n = .tuple #[.int .i64 0, .bool false]) := styR_no (sty_style hs)
      rw [HR.out]
      clear hD HR hs hn1 hn2 hc
      generalize styText s = t at *
      go_enter Tryz.func87, Tryz.ntmps87
      go_wp2_with fail
      refine KD.mono ?_
      rintro e w1 ⟨rfl, hb1⟩
      have HB1 := hideP hb1
      clear hb1
      go_wp2_with fail
      refine (KS _).mono ?_
      rintro e w2 ⟨rfl, hb⟩
      have HB2 := hideP (below_alloc hb)
      clear hb
      go_wp2
      go_returns
      exact ⟨rfl, HB1.out.trans (HB2.out.mono HB1.out.size)⟩
end Go.Proofs.YtaakgidndjoocaaGreatDoor.ctr
