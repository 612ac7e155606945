/- The walk of the law FnStyle: for every code of bytes it returns true and turns nothing that was there, where the listed tables hold what they list. -/
import Derived.Test.YtghmlaflbopolaaDoorStyDraw
import Derived.Test.YtghmlaflbopolaaDoorStyTwin
import Derived.Test.YtghmlaflbopolaaDoorStySolI
import Derived.Test.YtghmlaflbopolaaDoorLawBase
namespace Go.Proofs.YtghmlaflbopolaaDoor.ctr
open Go.RowKit Go.ChangeShapes

theorem below_on {V P w1 : World} (h : Below V.heap.size V P) (hb : Below P.heap.size P w1) : Below V.heap.size V w1 := h.trans (hb.mono h.size)
/-- A year that is told of a day holds it. -/
theorem sty_true {c s n y : Int} (h : styYear c s n = (y, true)) : yearP c y ∧ styleP s ∧ start c s y ≤ n ∧ n < start c s (y + 1) := by
  rcases date_cases c n with hD | ⟨Y, m, d, hD, hc, _, _, _, _⟩
  · rw [sty_none hD] at h
    simp at h
  · obtain ⟨hs, y1, y2, a, b⟩ := (sty_iff hc hD).1 h
    exact ⟨⟨hc, y1, y2⟩, hs, a, b⟩
theorem days_ok (c s y : Int) : yearDays c s y = 0 ∨ (yearDays c s y ≠ 0 ∧ 329 ≤ yearDays c s y ∧ yearDays c s y ≤ 401) := by
  unfold yearDays
  by_cases h : yearP c y ∧ styleP s
  · rw [if_pos h]
    have := start_days h.1 h.2
    exact .inr ⟨by omega, this.1, this.2⟩
  · rw [if_neg h]
    exact .inl rfl
theorem IntRow.at {W : World} {ad : Option Addr} {n cap : Nat} {xs : List Int} (h : IntRow W (.slice ad n cap) xs) : ∀ j, j < xs.length → ∃ g, ad = some ⟨g, 0, none⟩ ∧ g < W.heap.size ∧ W.cell? ⟨g, j, none⟩ = some (.int .i64 (xs.getD j 0)) := by
  obtain ⟨ad', cap', he, hc⟩ := h
  simp only [Value.slice.injEq] at he
  obtain ⟨rfl, _, _⟩ := he
  exact hc
theorem twins_other {c s y : Int} (h : s ≠ 4) : twins c s y = 0 := twins_no (fun k => h k.2)
theorem styR_eq {c s n y : Int} {b : Bool} (h : styYear c s n = (y, b)) : styR c s n = .tuple #[.int .i64 y, .bool b] := by unfold styR; rw [h]

set_option maxRecDepth 100000 in
set_option maxHeartbeats 20000000 in
theorem styleWalk (a0 : Option Addr) (len0 cap0 : Nat) (z0 : List Int) (w : World) (w0 : kit.IsRow .u8 w a0 len0 cap0 z0) (tT : Tab w) (tS : TabS w) :
    Calls Tryd.prog 3 #[.slice a0 len0 cap0] w fun e w' => e = .returned (.bool true) ∧ Below w.heap.size w w' := by
  obtain ⟨hcode, hlen⟩ := code_of w0
  have HT : Hid (∀ W', Below w.heap.size w W' → Tab W') := fun W' hb => tT.later hb
  have HS : Hid (∀ W', Below w.heap.size w W' → TabS W') := fun W' hb => TabS.later tS hb
  have KC : Hid (∀ W', Below w.heap.size w W' → CodeAt W'.heap.size W' a0 len0) := fun W' hb => CodeAt.up hcode hb
  clear tS tT hcode w0
  by_cases hbig : (1048576 : Int) < (len0 : Int)
  · have hbd : decide ((1048576 : Int) < (len0 : Int)) = true := by simp; omega
    go_enter Tryd.func3, Tryd.ntmps3
    go_wp2_with fail
    refine (big_ _ _ _ _).mono ?_
    rintro e w' ⟨rfl, rfl⟩
    go_wp2_with fail
    go_ret
    exact ⟨rfl, Below.refl _ _⟩
  have hbd : decide ((1048576 : Int) < (len0 : Int)) = false := by simp; omega
  have B0 : Hid (Below w.heap.size w w) := Below.refl _ _
  go_enter Tryd.func3, Tryd.ntmps3
  go_wp2_with fail
  refine (big_ _ _ _ _).mono ?_
  rintro e w' ⟨rfl, hw'⟩
  rw [hw']
  clear hw' w' 
  go_wp2_with fail
  refine (drawYearStart _ a0 len0 cap0 hlen (KC.out _ B0.out)).mono ?_
  rintro e W1 ⟨a, b, c, rfl, hb⟩
  have B1 := hideP (below_on B0.out hb)
  clear hb B0
  go_wp2_with fail
  refine (drawYearDays _ a0 len0 cap0 hlen (KC.out _ B1.out)).mono ?_
  rintro e W2 ⟨d, f, g, rfl, hb⟩
  have B2 := hideP (below_on B1.out hb)
  clear hb B1
  have DO := days_ok d f g
  have KD1 : ∀ W, Tab W → Calls Tryd.prog 16 #[.int .i64 d, .int .i64 f, .int .i64 g] W fun e w' => e = .returned (.int .i64 (yearDays d f g)) ∧ Below W.heap.size W w' := fun W h => implYearDays d f g W h
  have KD2 : ∀ W, Calls Tryd.prog 27 #[.int .i64 d, .int .i64 f, .int .i64 g] W fun e w' => e = .returned (.int .i64 (yearDays d f g)) ∧ Below W.heap.size W w' := fun W => specYearDays d f g W
  generalize yearDays d f g = days at *
  have HDO := hideP DO
  clear DO
  go_wp2_with fail
  refine (KD1 _ (HT.out _ B2.out)).mono ?_
  rintro e W3 ⟨rfl, hb⟩
  have B3 := hideP (below_on B2.out hb)
  clear hb B2
  go_wp2_with fail
  refine (drawStyleYear _ a0 len0 cap0 hlen (KC.out _ B3.out)).mono ?_
  rintro e W4 ⟨q0, q1, q2, rfl, hb⟩
  have B4 := hideP (below_on B3.out hb)
  clear hb B3
  obtain ⟨y, ok, hsty⟩ : ∃ y ok, styYear q0 q1 q2 = (y, ok) := ⟨_, _, rfl⟩
  have KY1 : ∀ W, Tab W → Calls Tryd.prog 18 #[.int .i64 q0, .int .i64 q1, .int .i64 q2] W fun e w' => e = .returned (.tuple #[.int .i64 y, .bool ok]) ∧ Below W.heap.size W w' := fun W h => by rw [← styR_eq hsty]; exact implStyleYear q0 q1 q2 W h
  have KY2 : ∀ W, Calls Tryd.prog 19 #[.int .i64 q0, .int .i64 q1, .int .i64 q2] W fun e w' => e = .returned (.tuple #[.int .i64 y, .bool ok]) ∧ Below W.heap.size W w' := fun W => by rw [← styR_eq hsty]; exact specStyleYear q0 q1 q2 W
  have HSTY := hideP hsty
  clear hsty
  go_wp2_with fail
  refine (KY1 _ (HT.out _ B4.out)).mono ?_
  rintro e W5 ⟨rfl, hb⟩
  have B5 := hideP (below_on B4.out hb)
  clear hb B4
  go_wp2_with fail
  refine (KY2 _).mono ?_
  rintro e W6 ⟨rfl, hb⟩
  have B6 := hideP (below_on B5.out hb)
  clear hb B5
  go_wp2_with fail
  refine (drawTwins _ a0 len0 cap0 hlen (KC.out _ B6.out)).mono ?_
  rintro e W7 ⟨i, j, k, rfl, hb⟩
  have B7 := hideP (below_on B6.out hb)
  clear hb B6
  go_wp2_with fail
  refine (drawSolarYears _ a0 len0 cap0 hlen (KC.out _ B7.out)).mono ?_
  rintro e W8 ⟨l1, l2, l3, l4, l5, rfl, hb⟩
  have B8 := hideP (below_on B7.out hb)
  clear hb B7
  obtain ⟨L, hL⟩ : ∃ L, solarYears l1 l2 l3 l4 l5 = L := ⟨_, rfl⟩
  have hL2 : L.length ≤ 2 := by rw [← hL]; exact sol_two l1 l2 l3 l4 l5
  have HMem : Hid (∀ z ∈ L, styYear l1 l2 (dayOf l1 z l4 l5) = (l3, true)) := fun z hz => by
    rw [← hL] at hz
    have k := sol_mem hz
    exact (sol_iff k.2.2.1).2 k
  have KS1 : ∀ W, Tab W → Calls Tryd.prog 22 #[.int .i64 l1, .int .i64 l2, .int .i64 l3, .int .i64 l4, .int .i64 l5] W fun e w' => ∃ v, e = .returned v ∧ MovRow W w' v L ∧ Below W.heap.size W w' := fun W h => by rw [← hL]; exact implSolarYears l1 l2 l3 l4 l5 W h
  have KS2 : ∀ W, Calls Tryd.prog 31 #[.int .i64 l1, .int .i64 l2, .int .i64 l3, .int .i64 l4, .int .i64 l5] W fun e w' => ∃ v, e = .returned v ∧ MovRow W w' v L ∧ Below W.heap.size W w' := fun W => by rw [← hL]; exact specSolarYears l1 l2 l3 l4 l5 W
  clear hL
  go_wp2_with fail
  refine (KS1 _ (HT.out _ B8.out)).mono ?_
  rintro e W9 ⟨v, rfl, hr, hb⟩
  have B9 := hideP (below_on B8.out hb)
  have R9 := hideP hr.row
  clear hr
  clear hb B8
  go_wp2_with fail
  refine (drawStyleName _ a0 len0 cap0 hlen (KC.out _ B9.out)).mono ?_
  rintro e W10 ⟨x, rfl, hb⟩
  have B10 := hideP (below_on B9.out hb)
  have R10 := hideP (R9.out.below hb)
  clear hb B9 R9
  go_wp2_with fail
  refine (drawStyleOf _ a0 len0 cap0 hlen (KC.out _ B10.out)).mono ?_
  rintro e W11 ⟨z, rfl, hb⟩
  have B11 := hideP (below_on B10.out hb)
  have R11 := hideP (R10.out.below hb)
  clear hb B10 R10
  have KA1 : ∀ W, Tab W → Calls Tryd.prog 25 #[.int .i64 a, .int .i64 b, .int .i64 c] W fun e w' => e = .returned (.int .i64 (yearStart a b c)) ∧ Below W.heap.size W w' := fun W h => implYearStart a b c W h
  have KA2 : ∀ W, Calls Tryd.prog 26 #[.int .i64 a, .int .i64 b, .int .i64 c] W fun e w' => e = .returned (.int .i64 (yearStart a b c)) ∧ Below W.heap.size W w' := fun W => specYearStart a b c W
  generalize yearStart a b c = rs at *
  go_wp2_with fail
  refine (KA1 _ (HT.out _ B11.out)).mono ?_
  rintro e W12 ⟨rfl, hb⟩
  have B12 := hideP (below_on B11.out hb)
  have R12 := hideP (R11.out.below hb)
  clear hb B11 R11
  go_wp2_with fail
  refine (KA2 _).mono ?_
  rintro e W13 ⟨rfl, hb⟩
  have B13 := hideP (below_on B12.out hb)
  have R13 := hideP (R12.out.below hb)
  clear KA1 KA2
  clear hb B12 R12
  go_wp2_with fail
  refine (KD2 _).mono ?_
  rintro e W14 ⟨rfl, hb⟩
  have B14 := hideP (below_on B13.out hb)
  have R14 := hideP (R13.out.below hb)
  clear KD1 KD2
  clear hb B13 R13
  have HTW : Hid (j ≠ 4 → twins i j k = 0) := fun h => twins_other h
  have KT1 : ∀ W, Tab W → Calls Tryd.prog 28 #[.int .i64 i, .int .i64 j, .int .i64 k] W fun e w' => e = .returned (.int .i64 (twins i j k)) ∧ Below W.heap.size W w' := fun W h => implTwins i j k W h
  have KT2 : ∀ W, Calls Tryd.prog 29 #[.int .i64 i, .int .i64 j, .int .i64 k] W fun e w' => e = .returned (.int .i64 (twins i j k)) ∧ Below W.heap.size W w' := fun W => specTwins i j k W
  generalize twins i j k = tw at *
  go_wp2_with fail
  refine (KT1 _ (HT.out _ B14.out)).mono ?_
  rintro e W15 ⟨rfl, hb⟩
  have B15 := hideP (below_on B14.out hb)
  have R15 := hideP (R14.out.below hb)
  clear hb B14 R14
  go_wp2_with fail
  refine (KT2 _).mono ?_
  rintro e W16 ⟨rfl, hb⟩
  have B16 := hideP (below_on B15.out hb)
  have R16 := hideP (R15.out.below hb)
  clear KT2
  clear hb B15 R15
  go_wp2_with fail
  refine (KS2 _).mono ?_
  rintro e W17 ⟨v2, rfl, hr, hb⟩
  have B17 := hideP (below_on B16.out hb)
  have R17 := hideP (R16.out.below hb)
  have Q17 := hideP hr.row
  clear hr KS1 KS2
  clear hb B16 R16
  go_wp2_with fail
  refine (sameInts v v2 L _ (by omega) R17.out Q17.out).mono ?_
  rintro e W18 ⟨rfl, hb⟩
  have B18 := hideP (below_on B17.out hb)
  have R18 := hideP (R17.out.below hb)
  clear Q17
  clear hb B17 R17
  have KN1 : ∀ W, TabS W → Calls Tryd.prog 32 #[.int .i64 x] W fun e w' => e = .returned (.string (styText x)) ∧ Below W.heap.size W w' := fun W h => calls_below (implStyleName x W h)
  have KN2 : ∀ W, Calls Tryd.prog 33 #[.int .i64 x] W fun e w' => e = .returned (.string (styText x)) ∧ Below W.heap.size W w' := fun W => specStyleName x W
  generalize styText x = tx at *
  go_wp2_with fail
  refine (KN1 _ (HS.out _ B18.out)).mono ?_
  rintro e W19 ⟨rfl, hb⟩
  have B19 := hideP (below_on B18.out hb)
  have R19 := hideP (R18.out.below hb)
  clear hb B18 R18
  go_wp2_with fail
  refine (KN2 _).mono ?_
  rintro e W20 ⟨rfl, hb⟩
  have B20 := hideP (below_on B19.out hb)
  have R20 := hideP (R19.out.below hb)
  clear KN1 KN2
  clear hb B19 R19
  have KO1 : ∀ W, TabS W → Calls Tryd.prog 34 #[.string z] W fun e w' => e = .returned (.int .i64 (styOf z)) ∧ Below W.heap.size W w' := fun W h => calls_below (implStyleOf z W h)
  have KO2 : ∀ W, Calls Tryd.prog 35 #[.string z] W fun e w' => e = .returned (.int .i64 (styOf z)) ∧ Below W.heap.size W w' := fun W => specStyleOf z W
  generalize styOf z = oz at *
  go_wp2_with fail
  refine (KO1 _ (HS.out _ B20.out)).mono ?_
  rintro e W21 ⟨rfl, hb⟩
  have B21 := hideP (below_on B20.out hb)
  have R21 := hideP (R20.out.below hb)
  clear hb B20 R20
  go_wp2_with fail
  refine (KO2 _).mono ?_
  rintro e W22 ⟨rfl, hb⟩
  have B22 := hideP (below_on B21.out hb)
  have R22 := hideP (R21.out.below hb)
  clear KO1 KO2 HS
  clear hb B21 R21
  have hl3 : decide ((2 : Int) < (L.length : Int)) = false := decide_eq_false (by omega)
  obtain ⟨ad, cp, hv, _⟩ := R22.out
  subst hv
  rcases HDO.out with hd0 | ⟨hd0, hd1, hd2⟩
  · subst hd0
    by_cases hj : j = 4
    · have hjd : decide (j = 4) = true := decide_eq_true hj
      clear KT1 HTW
      go_wp2_with fail
      go_loopw [28] (fun i wr => ∃ n : Nat, n ≤ L.length ∧ i = .int .i64 (n : Int) ∧ Below w.heap.size w wr ∧ IntRow wr (.slice ad L.length cp) L) (fun i _ => L.length - (intOf i).toNat)
      case atStart => exact ⟨0, Nat.zero_le _, rfl, B22.out, R22.out⟩
      case round =>
        obtain ⟨n, hn, rfl, hB, hR⟩ := hrel
        have HB := hideP hB
        have HR := hideP hR
        clear hB hR
        by_cases hlt : n < L.length
        · obtain ⟨gg, rfl, hg, hc⟩ := IntRow.at HR.out n hlt
          have hz := HMem.out (L.getD n 0) (by rw [show L.getD n 0 = L[n] from by simp [List.getD, hlt]]; exact List.getElem_mem _)
          generalize L.getD n 0 = zz at hc hz
          have KDay := implDayOf l1 zz l4 l5 _ (HT.out _ HB.out)
          have KSty : ∀ W, Tab W → Calls Tryd.prog 18 #[.int .i64 l1, .int .i64 l2, .int .i64 (dayOf l1 zz l4 l5)] W fun e w' => e = .returned (.tuple #[.int .i64 l3, .bool true]) ∧ Below W.heap.size W w' := fun W h => by rw [← styR_eq hz]; exact implStyleYear l1 l2 _ W h
          clear hz
          generalize dayOf l1 zz l4 l5 = t at *
          have hlt' : (n : Int) < (L.length : Int) := by omega
          go_wp2_with fail
          refine KDay.mono ?_
          rintro e V1 ⟨rfl, hb⟩
          have HB1 := hideP (below_on HB.out hb)
          have HR1 := hideP (HR.out.below hb)
          clear hb KDay
          go_wp2_with fail
          refine (KSty _ (HT.out _ HB1.out)).mono ?_
          rintro e V2 ⟨rfl, hb⟩
          have HB2 := hideP (below_on HB1.out hb)
          have HR2 := hideP (HR1.out.below hb)
          clear hb KSty
          go_wp2
          exact ⟨⟨n + 1, by omega, by go_num, HB2.out, HR2.out⟩, by simp [intOf]; omega⟩
        · have hge : ¬ (n : Int) < (L.length : Int) := by omega
          cases ok
          · go_wp2
            go_ret
            exact ⟨rfl, HB.out⟩
          · obtain ⟨hy, hs, g1, g2⟩ := sty_true HSTY.out
            have hb1 := start_bound hy.1 hs hy.2.1 (by have := hy.2.2; omega)
            have hdd := start_days hy hs
            have KF1 : ∀ W, Tab W → Calls Tryd.prog 25 #[.int .i64 q0, .int .i64 q1, .int .i64 y] W fun e w' => e = .returned (.int .i64 (start q0 q1 y)) ∧ Below W.heap.size W w' := fun W h => by
              have k := implYearStart q0 q1 y W h
              rw [show yearStart q0 q1 y = start q0 q1 y from by unfold yearStart; rw [if_pos ⟨hy, hs⟩]] at k
              exact k
            have KF2 : ∀ W, Tab W → Calls Tryd.prog 16 #[.int .i64 q0, .int .i64 q1, .int .i64 y] W fun e w' => e = .returned (.int .i64 (start q0 q1 (y + 1) - start q0 q1 y)) ∧ Below W.heap.size W w' := fun W h => by
              have k := implYearDays q0 q1 y W h
              rw [show yearDays q0 q1 y = start q0 q1 (y + 1) - start q0 q1 y from by unfold yearDays; rw [if_pos ⟨hy, hs⟩]] at k
              exact k
            have g3 : q2 < start q0 q1 y + (start q0 q1 (y + 1) - start q0 q1 y) := by omega
            clear hy hs g2
            generalize start q0 q1 (y + 1) - start q0 q1 y = dd at *
            generalize start q0 q1 y = ss at *
            have e1 : decide (ss ≤ q2) = true := decide_eq_true g1
            have e2 : decide (q2 < ss + dd) = true := decide_eq_true g3
            go_wp2_with fail
            refine (KF1 _ (HT.out _ HB.out)).mono ?_
            rintro e V1 ⟨rfl, hb⟩
            have HB1 := hideP (below_on HB.out hb)
            clear hb
            go_wp2_with fail
            refine (KF2 _ (HT.out _ HB1.out)).mono ?_
            rintro e V2 ⟨rfl, hb⟩
            have HB2 := hideP (below_on HB1.out hb)
            clear hb
            go_wp2
            go_ret
            exact ⟨rfl, HB2.out⟩
    · have hjd : decide (j = 4) = false := decide_eq_false hj
      have htw := HTW.out hj
      subst htw
      go_wp2_with fail
      refine (KT1 _ (HT.out _ B22.out)).mono ?_
      rintro e V0 ⟨rfl, hb⟩
      have C0 := hideP (below_on B22.out hb)
      have S0 := hideP (R22.out.below hb)
      clear hb KT1 HTW
      go_wp2_with fail
      go_loopw [28] (fun i wr => ∃ n : Nat, n ≤ L.length ∧ i = .int .i64 (n : Int) ∧ Below w.heap.size w wr ∧ IntRow wr (.slice ad L.length cp) L) (fun i _ => L.length - (intOf i).toNat)
      case atStart => exact ⟨0, Nat.zero_le _, rfl, C0.out, S0.out⟩
      case round =>
        obtain ⟨n, hn, rfl, hB, hR⟩ := hrel
        have HB := hideP hB
        have HR := hideP hR
        clear hB hR
        by_cases hlt : n < L.length
        · obtain ⟨gg, rfl, hg, hc⟩ := IntRow.at HR.out n hlt
          have hz := HMem.out (L.getD n 0) (by rw [show L.getD n 0 = L[n] from by simp [List.getD, hlt]]; exact List.getElem_mem _)
          generalize L.getD n 0 = zz at hc hz
          have KDay := implDayOf l1 zz l4 l5 _ (HT.out _ HB.out)
          have KSty : ∀ W, Tab W → Calls Tryd.prog 18 #[.int .i64 l1, .int .i64 l2, .int .i64 (dayOf l1 zz l4 l5)] W fun e w' => e = .returned (.tuple #[.int .i64 l3, .bool true]) ∧ Below W.heap.size W w' := fun W h => by rw [← styR_eq hz]; exact implStyleYear l1 l2 _ W h
          clear hz
          generalize dayOf l1 zz l4 l5 = t at *
          have hlt' : (n : Int) < (L.length : Int) := by omega
          go_wp2_with fail
          refine KDay.mono ?_
          rintro e V1 ⟨rfl, hb⟩
          have HB1 := hideP (below_on HB.out hb)
          have HR1 := hideP (HR.out.below hb)
          clear hb KDay
          go_wp2_with fail
          refine (KSty _ (HT.out _ HB1.out)).mono ?_
          rintro e V2 ⟨rfl, hb⟩
          have HB2 := hideP (below_on HB1.out hb)
          have HR2 := hideP (HR1.out.below hb)
          clear hb KSty
          go_wp2
          exact ⟨⟨n + 1, by omega, by go_num, HB2.out, HR2.out⟩, by simp [intOf]; omega⟩
        · have hge : ¬ (n : Int) < (L.length : Int) := by omega
          cases ok
          · go_wp2
            go_ret
            exact ⟨rfl, HB.out⟩
          · obtain ⟨hy, hs, g1, g2⟩ := sty_true HSTY.out
            have hb1 := start_bound hy.1 hs hy.2.1 (by have := hy.2.2; omega)
            have hdd := start_days hy hs
            have KF1 : ∀ W, Tab W → Calls Tryd.prog 25 #[.int .i64 q0, .int .i64 q1, .int .i64 y] W fun e w' => e = .returned (.int .i64 (start q0 q1 y)) ∧ Below W.heap.size W w' := fun W h => by
              have k := implYearStart q0 q1 y W h
              rw [show yearStart q0 q1 y = start q0 q1 y from by unfold yearStart; rw [if_pos ⟨hy, hs⟩]] at k
              exact k
            have KF2 : ∀ W, Tab W → Calls Tryd.prog 16 #[.int .i64 q0, .int .i64 q1, .int .i64 y] W fun e w' => e = .returned (.int .i64 (start q0 q1 (y + 1) - start q0 q1 y)) ∧ Below W.heap.size W w' := fun W h => by
              have k := implYearDays q0 q1 y W h
              rw [show yearDays q0 q1 y = start q0 q1 (y + 1) - start q0 q1 y from by unfold yearDays; rw [if_pos ⟨hy, hs⟩]] at k
              exact k
            have g3 : q2 < start q0 q1 y + (start q0 q1 (y + 1) - start q0 q1 y) := by omega
            clear hy hs g2
            generalize start q0 q1 (y + 1) - start q0 q1 y = dd at *
            generalize start q0 q1 y = ss at *
            have e1 : decide (ss ≤ q2) = true := decide_eq_true g1
            have e2 : decide (q2 < ss + dd) = true := decide_eq_true g3
            go_wp2_with fail
            refine (KF1 _ (HT.out _ HB.out)).mono ?_
            rintro e V1 ⟨rfl, hb⟩
            have HB1 := hideP (below_on HB.out hb)
            clear hb
            go_wp2_with fail
            refine (KF2 _ (HT.out _ HB1.out)).mono ?_
            rintro e V2 ⟨rfl, hb⟩
            have HB2 := hideP (below_on HB1.out hb)
            clear hb
            go_wp2
            go_ret
            exact ⟨rfl, HB2.out⟩
  · have hdd0 : decide (days = 0) = false := decide_eq_false hd0
    have hdd1 : decide (days < 329) = false := decide_eq_false (by omega)
    have hdd2 : decide (401 < days) = false := decide_eq_false (by omega)
    by_cases hj : j = 4
    · have hjd : decide (j = 4) = true := decide_eq_true hj
      clear KT1 HTW
      go_wp2_with fail
      go_loopw [28] (fun i wr => ∃ n : Nat, n ≤ L.length ∧ i = .int .i64 (n : Int) ∧ Below w.heap.size w wr ∧ IntRow wr (.slice ad L.length cp) L) (fun i _ => L.length - (intOf i).toNat)
      case atStart => exact ⟨0, Nat.zero_le _, rfl, B22.out, R22.out⟩
      case round =>
        obtain ⟨n, hn, rfl, hB, hR⟩ := hrel
        have HB := hideP hB
        have HR := hideP hR
        clear hB hR
        by_cases hlt : n < L.length
        · obtain ⟨gg, rfl, hg, hc⟩ := IntRow.at HR.out n hlt
          have hz := HMem.out (L.getD n 0) (by rw [show L.getD n 0 = L[n] from by simp [List.getD, hlt]]; exact List.getElem_mem _)
          generalize L.getD n 0 = zz at hc hz
          have KDay := implDayOf l1 zz l4 l5 _ (HT.out _ HB.out)
          have KSty : ∀ W, Tab W → Calls Tryd.prog 18 #[.int .i64 l1, .int .i64 l2, .int .i64 (dayOf l1 zz l4 l5)] W fun e w' => e = .returned (.tuple #[.int .i64 l3, .bool true]) ∧ Below W.heap.size W w' := fun W h => by rw [← styR_eq hz]; exact implStyleYear l1 l2 _ W h
          clear hz
          generalize dayOf l1 zz l4 l5 = t at *
          have hlt' : (n : Int) < (L.length : Int) := by omega
          go_wp2_with fail
          refine KDay.mono ?_
          rintro e V1 ⟨rfl, hb⟩
          have HB1 := hideP (below_on HB.out hb)
          have HR1 := hideP (HR.out.below hb)
          clear hb KDay
          go_wp2_with fail
          refine (KSty _ (HT.out _ HB1.out)).mono ?_
          rintro e V2 ⟨rfl, hb⟩
          have HB2 := hideP (below_on HB1.out hb)
          have HR2 := hideP (HR1.out.below hb)
          clear hb KSty
          go_wp2
          exact ⟨⟨n + 1, by omega, by go_num, HB2.out, HR2.out⟩, by simp [intOf]; omega⟩
        · have hge : ¬ (n : Int) < (L.length : Int) := by omega
          cases ok
          · go_wp2
            go_ret
            exact ⟨rfl, HB.out⟩
          · obtain ⟨hy, hs, g1, g2⟩ := sty_true HSTY.out
            have hb1 := start_bound hy.1 hs hy.2.1 (by have := hy.2.2; omega)
            have hdd := start_days hy hs
            have KF1 : ∀ W, Tab W → Calls Tryd.prog 25 #[.int .i64 q0, .int .i64 q1, .int .i64 y] W fun e w' => e = .returned (.int .i64 (start q0 q1 y)) ∧ Below W.heap.size W w' := fun W h => by
              have k := implYearStart q0 q1 y W h
              rw [show yearStart q0 q1 y = start q0 q1 y from by unfold yearStart; rw [if_pos ⟨hy, hs⟩]] at k
              exact k
            have KF2 : ∀ W, Tab W → Calls Tryd.prog 16 #[.int .i64 q0, .int .i64 q1, .int .i64 y] W fun e w' => e = .returned (.int .i64 (start q0 q1 (y + 1) - start q0 q1 y)) ∧ Below W.heap.size W w' := fun W h => by
              have k := implYearDays q0 q1 y W h
              rw [show yearDays q0 q1 y = start q0 q1 (y + 1) - start q0 q1 y from by unfold yearDays; rw [if_pos ⟨hy, hs⟩]] at k
              exact k
            have g3 : q2 < start q0 q1 y + (start q0 q1 (y + 1) - start q0 q1 y) := by omega
            clear hy hs g2
            generalize start q0 q1 (y + 1) - start q0 q1 y = dd at *
            generalize start q0 q1 y = ss at *
            have e1 : decide (ss ≤ q2) = true := decide_eq_true g1
            have e2 : decide (q2 < ss + dd) = true := decide_eq_true g3
            go_wp2_with fail
            refine (KF1 _ (HT.out _ HB.out)).mono ?_
            rintro e V1 ⟨rfl, hb⟩
            have HB1 := hideP (below_on HB.out hb)
            clear hb
            go_wp2_with fail
            refine (KF2 _ (HT.out _ HB1.out)).mono ?_
            rintro e V2 ⟨rfl, hb⟩
            have HB2 := hideP (below_on HB1.out hb)
            clear hb
            go_wp2
            go_ret
            exact ⟨rfl, HB2.out⟩
    · have hjd : decide (j = 4) = false := decide_eq_false hj
      have htw := HTW.out hj
      subst htw
      go_wp2_with fail
      refine (KT1 _ (HT.out _ B22.out)).mono ?_
      rintro e V0 ⟨rfl, hb⟩
      have C0 := hideP (below_on B22.out hb)
      have S0 := hideP (R22.out.below hb)
      clear hb KT1 HTW
      go_wp2_with fail
      go_loopw [28] (fun i wr => ∃ n : Nat, n ≤ L.length ∧ i = .int .i64 (n : Int) ∧ Below w.heap.size w wr ∧ IntRow wr (.slice ad L.length cp) L) (fun i _ => L.length - (intOf i).toNat)
      case atStart => exact ⟨0, Nat.zero_le _, rfl, C0.out, S0.out⟩
      case round =>
        obtain ⟨n, hn, rfl, hB, hR⟩ := hrel
        have HB := hideP hB
        have HR := hideP hR
        clear hB hR
        by_cases hlt : n < L.length
        · obtain ⟨gg, rfl, hg, hc⟩ := IntRow.at HR.out n hlt
          have hz := HMem.out (L.getD n 0) (by rw [show L.getD n 0 = L[n] from by simp [List.getD, hlt]]; exact List.getElem_mem _)
          generalize L.getD n 0 = zz at hc hz
          have KDay := implDayOf l1 zz l4 l5 _ (HT.out _ HB.out)
          have KSty : ∀ W, Tab W → Calls Tryd.prog 18 #[.int .i64 l1, .int .i64 l2, .int .i64 (dayOf l1 zz l4 l5)] W fun e w' => e = .returned (.tuple #[.int .i64 l3, .bool true]) ∧ Below W.heap.size W w' := fun W h => by rw [← styR_eq hz]; exact implStyleYear l1 l2 _ W h
          clear hz
          generalize dayOf l1 zz l4 l5 = t at *
          have hlt' : (n : Int) < (L.length : Int) := by omega
          go_wp2_with fail
          refine KDay.mono ?_
          rintro e V1 ⟨rfl, hb⟩
          have HB1 := hideP (below_on HB.out hb)
          have HR1 := hideP (HR.out.below hb)
          clear hb KDay
          go_wp2_with fail
          refine (KSty _ (HT.out _ HB1.out)).mono ?_
          rintro e V2 ⟨rfl, hb⟩
          have HB2 := hideP (below_on HB1.out hb)
          have HR2 := hideP (HR1.out.below hb)
          clear hb KSty
          go_wp2
          exact ⟨⟨n + 1, by omega, by go_num, HB2.out, HR2.out⟩, by simp [intOf]; omega⟩
        · have hge : ¬ (n : Int) < (L.length : Int) := by omega
          cases ok
          · go_wp2
            go_ret
            exact ⟨rfl, HB.out⟩
          · obtain ⟨hy, hs, g1, g2⟩ := sty_true HSTY.out
            have hb1 := start_bound hy.1 hs hy.2.1 (by have := hy.2.2; omega)
            have hdd := start_days hy hs
            have KF1 : ∀ W, Tab W → Calls Tryd.prog 25 #[.int .i64 q0, .int .i64 q1, .int .i64 y] W fun e w' => e = .returned (.int .i64 (start q0 q1 y)) ∧ Below W.heap.size W w' := fun W h => by
              have k := implYearStart q0 q1 y W h
              rw [show yearStart q0 q1 y = start q0 q1 y from by unfold yearStart; rw [if_pos ⟨hy, hs⟩]] at k
              exact k
            have KF2 : ∀ W, Tab W → Calls Tryd.prog 16 #[.int .i64 q0, .int .i64 q1, .int .i64 y] W fun e w' => e = .returned (.int .i64 (start q0 q1 (y + 1) - start q0 q1 y)) ∧ Below W.heap.size W w' := fun W h => by
              have k := implYearDays q0 q1 y W h
              rw [show yearDays q0 q1 y = start q0 q1 (y + 1) - start q0 q1 y from by unfold yearDays; rw [if_pos ⟨hy, hs⟩]] at k
              exact k
            have g3 : q2 < start q0 q1 y + (start q0 q1 (y + 1) - start q0 q1 y) := by omega
            clear hy hs g2
            generalize start q0 q1 (y + 1) - start q0 q1 y = dd at *
            generalize start q0 q1 y = ss at *
            have e1 : decide (ss ≤ q2) = true := decide_eq_true g1
            have e2 : decide (q2 < ss + dd) = true := decide_eq_true g3
            go_wp2_with fail
            refine (KF1 _ (HT.out _ HB.out)).mono ?_
            rintro e V1 ⟨rfl, hb⟩
            have HB1 := hideP (below_on HB.out hb)
            clear hb
            go_wp2_with fail
            refine (KF2 _ (HT.out _ HB1.out)).mono ?_
            rintro e V2 ⟨rfl, hb⟩
            have HB2 := hideP (below_on HB1.out hb)
            clear hb
            go_wp2
            go_ret
            exact ⟨rfl, HB2.out⟩
end Go.Proofs.YtghmlaflbopolaaDoor.ctr
