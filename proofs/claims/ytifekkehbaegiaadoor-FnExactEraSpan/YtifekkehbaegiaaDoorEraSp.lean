/- Contracts of both EraSpan: each answers its plain function, where the table of months holds its numbers. -/
import Derived.Test.YtifekkehbaegiaaDoorEraYr
import Derived.PlainAid
namespace Go.Proofs.YtifekkehbaegiaaDoor.ctr
open Go.RowKit

def spanR (c : Int) (s : ByteArray) (st ad cy k : Int) : Value := .tuple #[.int .i64 (eraSpan c s st ad cy k).1, .int .i64 (eraSpan c s st ad cy k).2]
theorem spanR_no {c : Int} {s : ByteArray} {st ad cy k : Int} (h : ¬ (eraOkB s st ad cy = true ∧ cy = 0 ∧ yearP c (k - ad))) : spanR c s st ad cy k = .tuple #[.int .i64 0, .int .i64 0] := by unfold spanR eraSpan; rw [if_neg h]
theorem spanR_yes {c : Int} {s : ByteArray} {st ad cy k : Int} (h : eraOkB s st ad cy = true ∧ cy = 0 ∧ yearP c (k - ad)) : spanR c s st ad cy k = .tuple #[.int .i64 (start c st (k - ad)), .int .i64 (start c st (k - ad + 1) - 1)] := by unfold spanR eraSpan; rw [if_pos h]

set_option maxHeartbeats 2000000 in
theorem implEraSpan (c : Int) (s : ByteArray) (st ad cy k : Int) (w : World) (hs : s.size ≤ maxLen) (hT : Tab w) (hk : -9223372036854775808 ≤ k ∧ k ≤ 9223372036854775807) : Calls Tryd.prog 11 #[.int .i64 c, .agg #[.string s, .int .i64 st, .int .i64 ad, .int .i64 cy], .int .i64 k] w fun e w' => e = .returned (spanR c s st ad cy k) ∧ Below w.heap.size w w' := by
  obtain ⟨W0, hW0, c0, c1, c2, c3, hBl⟩ := era_box w s st ad cy 27
  have HW0 := hideP hW0
  have HBl := hideP hBl
  have KT : ∀ x : Later W0, Tab x.w := fun x => hT.later (hBl x)
  obtain ⟨y, hy⟩ : ∃ y, wrap64 (k - ad) = y := ⟨_, rfl⟩
  have KO : ∀ x : Later W0, Calls Tryd.prog 19 #[.agg #[.string s, .int .i64 st, .int .i64 ad, .int .i64 cy]] x.w fun e w' => e = .returned (.bool (eraOkB s st ad cy)) ∧ Below x.w.heap.size x.w w' := fun x => implEraOk s st ad cy x.w hs
  have KY : ∀ x : Later W0, Calls Tryd.prog 25 #[.int .i64 c, .int .i64 y] x.w fun e w' => e = .returned (.bool (yearB c y)) ∧ Below x.w.heap.size x.w w' := fun x => implYearOk c y x.w (KT x)
  have KB : ∀ x : Later W0, Calls Tryd.prog 26 #[.int .i64 c, .int .i64 st, .int .i64 y] x.w fun e w' => e = .returned (.int .i64 (yearStart c st y)) ∧ Below x.w.heap.size x.w w' := fun x => implYearStart c st y x.w (KT x)
  have KD : ∀ x : Later W0, Calls Tryd.prog 27 #[.int .i64 c, .int .i64 st, .int .i64 y] x.w fun e w' => e = .returned (.int .i64 (yearDays c st y)) ∧ Below x.w.heap.size x.w w' := fun x => implYearDays c st y x.w (KT x)
  clear hs hW0 hBl hT KT
  cases ho : eraOkB s st ad cy
  · simp only [ho] at KO
    have HR := hideP (spanR_no (c := c) (k := k) (fun h => by rw [ho] at h; cases h.1))
    clear ho KY KB KD hk
    go_enter Tryd.func11, Tryd.ntmps11
    go_wp2_with fail
    rw [← HW0.out]
    refine (KO ⟨W0, Below.refl _ _⟩).mono ?_
    rintro e w1 ⟨rfl, hb⟩
    obtain ⟨x1, rfl⟩ := Later.of hb
    clear hb
    go_wp2
    go_returns
    exact ⟨ret_to HR.out, HBl.out x1⟩
  simp only [ho] at KO
  obtain ⟨_, hst, a1, a2, hcy⟩ := eraOk_parts ho
  by_cases hc0 : cy = 0
  case neg =>
    have HR := hideP (spanR_no (c := c) (k := k) (s := s) (st := st) (ad := ad) (fun h => hc0 h.2.1))
    have hc1 : (cy == 0) = false := by simp [hc0]
    clear ho KY KB KD hk hcy
    go_enter Tryd.func11, Tryd.ntmps11
    go_wp2_with fail
    rw [← HW0.out]
    refine (KO ⟨W0, Below.refl _ _⟩).mono ?_
    rintro e w1 ⟨rfl, hb⟩
    obtain ⟨x1, rfl⟩ := Later.of hb
    clear hb
    go_wp2
    go_returns
    exact ⟨ret_to HR.out, HBl.out x1⟩
  subst hc0
  by_cases hP : yearP c y
  case neg =>
    simp only [yearB_false hP] at KY
    have HR := hideP (spanR_no (c := c) (k := k) (s := s) (st := st) (ad := ad) (cy := 0) (fun h => hP (by
      have h1 := h.2.2.2.1
      have h2 := h.2.2.2.2
      rw [← hy, in_range (k - ad) (by omega)]
      exact h.2.2)))
    clear ho KB KD hk hcy hP
    go_enter Tryd.func11, Tryd.ntmps11
    go_wp2_with fail
    rw [← HW0.out]
    refine (KO ⟨W0, Below.refl _ _⟩).mono ?_
    rintro e w1 ⟨rfl, hb⟩
    obtain ⟨x1, rfl⟩ := Later.of hb
    clear hb
    go_wp2_with fail
    refine (KY x1).mono ?_
    rintro e w2 ⟨rfl, hb⟩
    obtain ⟨x2, rfl⟩ := x1.next hb
    clear hb
    go_wp2
    go_returns
    exact ⟨ret_to HR.out, HBl.out x2⟩
  have hyk : k - ad = y := by
    have h1 := hP.2.1
    have h2 := hP.2.2
    unfold wrap64 at hy
    omega
  simp only [yearB_true hP] at KY
  have HR := hideP (spanR_yes (k := k) (s := s) (ad := ad) ⟨ho, rfl, by rw [hyk]; exact hP⟩)
  have hb1 := start_bound hP.1 hst hP.2.1 (show y ≤ 3900 by have := hP.2.2; omega)
  have hb2 := start_bound hP.1 hst (show 1 ≤ y + 1 by have := hP.2.1; omega) (show y + 1 ≤ 3900 by have := hP.2.2; omega)
  have e1 : yearStart c st y = start c st y := by unfold yearStart; rw [if_pos ⟨hP, hst⟩]
  have e2 : yearDays c st y = start c st (y + 1) - start c st y := by unfold yearDays; rw [if_pos ⟨hP, hst⟩]
  rw [hyk] at HR
  simp only [e1] at KB
  simp only [e2] at KD
  clear ho hk hcy hP hyk e1 e2 hst
  generalize start c st (y + 1) = R1 at *
  generalize start c st y = R0 at *
  go_enter Tryd.func11, Tryd.ntmps11
  go_wp2_with fail
  rw [← HW0.out]
  refine (KO ⟨W0, Below.refl _ _⟩).mono ?_
  rintro e w1 ⟨rfl, hb⟩
  obtain ⟨x1, rfl⟩ := Later.of hb
  clear hb
  go_wp2_with fail
  refine (KY x1).mono ?_
  rintro e w2 ⟨rfl, hb⟩
  obtain ⟨x2, rfl⟩ := x1.next hb
  clear hb
  go_wp2_with fail
  refine (KB x2).mono ?_
  rintro e w3 ⟨rfl, hb⟩
  obtain ⟨x3, rfl⟩ := x2.next hb
  clear hb
  go_wp2_with fail
  refine (KD x3).mono ?_
  rintro e w4 ⟨rfl, hb⟩
  obtain ⟨x4, rfl⟩ := x3.next hb
  clear hb
  go_wp2
  go_returns
  refine ⟨ret_to (HR.out.trans ?_), HBl.out x4⟩
  have e : R0 + (R1 - R0) - 1 = R1 - 1 := by omega
  rw [e]
  rfl

set_option maxHeartbeats 2000000 in
theorem specEraSpan (c : Int) (s : ByteArray) (st ad cy k : Int) (w : World) (hs : s.size ≤ maxLen) : Calls Tryd.prog 10 #[.int .i64 c, .agg #[.string s, .int .i64 st, .int .i64 ad, .int .i64 cy], .int .i64 k] w fun e w' => e = .returned (spanR c s st ad cy k) ∧ Below w.heap.size w w' := by
  obtain ⟨W0, hW0, c0, c1, c2, c3, hBl⟩ := era_box w s st ad cy 27
  have HW0 := hideP hW0
  have HBl := hideP hBl
  have KO : ∀ x : Later W0, Calls Tryd.prog 18 #[.agg #[.string s, .int .i64 st, .int .i64 ad, .int .i64 cy]] x.w fun e w' => e = .returned (.bool (eraOkB s st ad cy)) ∧ Below x.w.heap.size x.w w' := fun x => specEraOk s st ad cy x.w hs
  have KI : ∀ x : Later W0, Calls Tryd.prog 22 #[.int .i64 k, .int .i64 0, .int .i64 20000] x.w fun e w' => e = .returned (.bool (inB k 0 20000)) ∧ Below x.w.heap.size x.w w' := fun x => calls_below (l01In k 0 20000 x.w)
  have KY : ∀ x : Later W0, Calls Tryd.prog 23 #[.int .i64 c, .int .i64 (k - ad)] x.w fun e w' => e = .returned (.bool (yearB c (k - ad))) ∧ Below x.w.heap.size x.w w' := fun x => calls_below (specYearOk c (k - ad) x.w)
  clear hs hW0 hBl
  cases ho : eraOkB s st ad cy
  · simp only [ho] at KO
    have HR := hideP (spanR_no (c := c) (k := k) (fun h => by rw [ho] at h; cases h.1))
    clear ho KY KI
    go_enter Tryd.func10, Tryd.ntmps10
    go_wp2_with fail
    rw [← HW0.out]
    refine (KO ⟨W0, Below.refl _ _⟩).mono ?_
    rintro e w1 ⟨rfl, hb⟩
    obtain ⟨x1, rfl⟩ := Later.of hb
    clear hb
    go_wp2
    go_returns
    exact ⟨ret_to HR.out, HBl.out x1⟩
  simp only [ho] at KO
  obtain ⟨_, hst, a1, a2, hcy⟩ := eraOk_parts ho
  by_cases hc0 : cy = 0
  case neg =>
    have HR := hideP (spanR_no (c := c) (k := k) (s := s) (st := st) (ad := ad) (fun h => hc0 h.2.1))
    have hc1 : (cy == 0) = false := by simp [hc0]
    clear ho KY KI hcy
    go_enter Tryd.func10, Tryd.ntmps10
    go_wp2_with fail
    rw [← HW0.out]
    refine (KO ⟨W0, Below.refl _ _⟩).mono ?_
    rintro e w1 ⟨rfl, hb⟩
    obtain ⟨x1, rfl⟩ := Later.of hb
    clear hb
    go_wp2
    go_returns
    exact ⟨ret_to HR.out, HBl.out x1⟩
  subst hc0
  by_cases hK : 0 ≤ k ∧ k ≤ 20000
  case neg =>
    simp only [inB_false (show k < 0 ∨ 20000 < k by omega)] at KI
    have HR := hideP (spanR_no (c := c) (k := k) (s := s) (st := st) (ad := ad) (cy := 0) (fun h => hK (by
      have h1 := h.2.2.2.1
      have h2 := h.2.2.2.2
      omega)))
    clear ho KY hcy hK
    go_enter Tryd.func10, Tryd.ntmps10
    go_wp2_with fail
    rw [← HW0.out]
    refine (KO ⟨W0, Below.refl _ _⟩).mono ?_
    rintro e w1 ⟨rfl, hb⟩
    obtain ⟨x1, rfl⟩ := Later.of hb
    clear hb
    go_wp2_with fail
    refine (KI x1).mono ?_
    rintro e w2 ⟨rfl, hb⟩
    obtain ⟨x2, rfl⟩ := x1.next hb
    clear hb
    go_wp2
    go_returns
    exact ⟨ret_to HR.out, HBl.out x2⟩
  simp only [inB_true hK.1 hK.2] at KI
  obtain ⟨k1, k2⟩ := hK
  by_cases hP : yearP c (k - ad)
  case neg =>
    simp only [yearB_false hP] at KY
    have HR := hideP (spanR_no (c := c) (k := k) (s := s) (st := st) (ad := ad) (cy := 0) (fun h => hP h.2.2))
    clear ho hcy hP
    go_enter Tryd.func10, Tryd.ntmps10
    go_wp2_with fail
    rw [← HW0.out]
    refine (KO ⟨W0, Below.refl _ _⟩).mono ?_
    rintro e w1 ⟨rfl, hb⟩
    obtain ⟨x1, rfl⟩ := Later.of hb
    clear hb
    go_wp2_with fail
    refine (KI x1).mono ?_
    rintro e w2 ⟨rfl, hb⟩
    obtain ⟨x2, rfl⟩ := x1.next hb
    clear hb
    go_wp2_with fail
    refine (KY x2).mono ?_
    rintro e w3 ⟨rfl, hb⟩
    obtain ⟨x3, rfl⟩ := x2.next hb
    clear hb
    go_wp2
    go_returns
    exact ⟨ret_to HR.out, HBl.out x3⟩
  simp only [yearB_true hP] at KY
  have HR := hideP (spanR_yes (k := k) (s := s) (ad := ad) ⟨ho, rfl, hP⟩)
  have K1 : ∀ x : Later W0, Calls Tryd.prog 24 #[.int .i64 c, .int .i64 st, .int .i64 (k - ad + 1)] x.w fun e w' => e = .returned (.int .i64 (start c st (k - ad + 1))) ∧ Below x.w.heap.size x.w w' := fun x => specStart c st (k - ad + 1) x.w hP.1 hst (by have := hP.2.1; omega) (by have := hP.2.2; omega)
  have K0 : ∀ x : Later W0, Calls Tryd.prog 24 #[.int .i64 c, .int .i64 st, .int .i64 (k - ad)] x.w fun e w' => e = .returned (.int .i64 (start c st (k - ad))) ∧ Below x.w.heap.size x.w w' := fun x => specStart c st (k - ad) x.w hP.1 hst hP.2.1 (by have := hP.2.2; omega)
  have hb1 := start_bound hP.1 hst hP.2.1 (show k - ad ≤ 3900 by have := hP.2.2; omega)
  have hb2 := start_bound hP.1 hst (show 1 ≤ k - ad + 1 by have := hP.2.1; omega) (show k - ad + 1 ≤ 3900 by have := hP.2.2; omega)
  have h1 := hP.2.1
  have h2 := hP.2.2
  obtain ⟨R1, hR1⟩ : ∃ R, R = start c st (k - ad + 1) := ⟨_, rfl⟩
  obtain ⟨R0, hR0⟩ : ∃ R, R = start c st (k - ad) := ⟨_, rfl⟩
  rw [← hR1] at HR K1 hb2
  rw [← hR0] at HR K0 hb1
  clear ho hcy hP hst hR1 hR0
  obtain ⟨Y0, hY0⟩ : ∃ Y, k - ad = Y := ⟨_, rfl⟩
  simp only [hY0] at KY K1 K0 h1 h2
  obtain ⟨Y1, hY1⟩ : ∃ Y, Y0 + 1 = Y := ⟨_, rfl⟩
  simp only [hY1] at K1
  have q1 : IntKind.i64.wrap (Y0 + 1) = Y1 := by rw [PlainAid.i64_is]; unfold wrap64; omega
  go_enter Tryd.func10, Tryd.ntmps10
  go_wp2_with fail
  rw [← HW0.out]
  refine (KO ⟨W0, Below.refl _ _⟩).mono ?_
  rintro e w1 ⟨rfl, hb⟩
  obtain ⟨x1, rfl⟩ := Later.of hb
  clear hb
  go_wp2_with fail
  refine (KI x1).mono ?_
  rintro e w2 ⟨rfl, hb⟩
  obtain ⟨x2, rfl⟩ := x1.next hb
  clear hb
  go_wp2_with fail
  refine (KY x2).mono ?_
  rintro e w3 ⟨rfl, hb⟩
  obtain ⟨x3, rfl⟩ := x2.next hb
  clear hb
  go_wp2_with fail
  refine wp_region_later (W := W0) x3.below (by kernel_rfl) (by kernel_rfl) ?_
  repeat (go_big_quiet_step (first | (go_at_call_of 24 Y1; exact calls_later (K1 _)) | (go_at_call_of 24 Y0; exact calls_later (K0 _))))
  refine wpQuiet_nil ?_
  intro _ hw'
  obtain ⟨x, rfl⟩ := hw'
  go_wp2
  go_returns
  exact ⟨ret_to HR.out, HBl.out x⟩
end Go.Proofs.YtifekkehbaegiaaDoor.ctr
