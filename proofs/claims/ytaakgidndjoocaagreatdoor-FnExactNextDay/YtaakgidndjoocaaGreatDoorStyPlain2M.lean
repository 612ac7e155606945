/- Plain laws of years of a style, of no program: which days come twice in a year from Easter to Easter, in which years of 1 January a month's day of a year stands, how long a year is. -/
import Derived.Test.YtaakgidndjoocaaGreatDoorStyPlainM
namespace Go.Proofs.YtaakgidndjoocaaGreatDoor.ctr
open Go.RowKit

theorem first_le' {c y z : Int} (hc : c = 0 ∨ c = 1) (h : y ≤ z) : first c y ≤ first c z := by
  by_cases e : y = z
  · subst e; omega
  · have := first_lt hc (show y < z by omega); omega
theorem before_at {c y m : Int} (h1 : 1 ≤ m) : before c y m.toNat = before c y (m - 1).toNat + monthDays c y m := by
  rw [show m.toNat = (m - 1).toNat + 1 by omega]
  show before c y (m - 1).toNat + monthDays c y (((m - 1).toNat + 1 : Nat) : Int) = _
  rw [show (((m - 1).toNat + 1 : Nat) : Int) = m by omega]
theorem before_le {c y m M : Int} (h1 : 1 ≤ m) (h : m < M) : before c y (m - 1).toNat + monthDays c y m ≤ before c y (M - 1).toNat := by
  rw [← before_at h1]
  have k := before_mono c y m.toNat ((M - 1).toNat - m.toNat)
  rw [show m.toNat + ((M - 1).toNat - m.toNat) = (M - 1).toNat by omega] at k
  exact k
/-- What is not ahead in one year is not ahead in the next. -/
theorem line_mono {c Y Y' m d M D : Int} (hc : c = 0 ∨ c = 1) (m1 : 1 ≤ m) (m2 : m ≤ 12) (M1 : 1 ≤ M) (M2 : M ≤ 12) (d1 : 1 ≤ d) (d2 : d ≤ monthDays c Y m) (d3 : d ≤ monthDays c (Y + 1) m) (D1 : 1 ≤ D) (D2 : D ≤ monthDays c Y' M) (D3 : D ≤ monthDays c (Y' + 1) M) (h : lineD c Y' M D ≤ lineD c Y m d) : lineD c (Y' + 1) M D ≤ lineD c (Y + 1) m d := by
  have k1 := line_in hc m1 m2 d1 d2
  have k2 := line_in hc m1 m2 d1 d3
  have k3 := line_in hc M1 M2 D1 D2
  have k4 := line_in hc M1 M2 D1 D3
  by_cases a : Y < Y'
  · have := first_le' hc (show Y + 1 ≤ Y' by omega)
    omega
  · by_cases b : Y' < Y
    · have := first_le' hc (show Y' + 1 + 1 ≤ Y + 1 by omega)
      omega
    · obtain rfl : Y' = Y := by omega
      unfold lineD at *
      by_cases e : m < M
      · have := before_le (c := c) (y := Y') m1 e
        omega
      · by_cases e' : M < m
        · have := before_le (c := c) (y := Y' + 1) M1 e'
          omega
        · obtain rfl : m = M := by omega
          omega
theorem before_4 {c y : Int} (hc : c = 0 ∨ c = 1) : before c y 4 = before c y 2 + 61 := by
  show before c y 3 + monthDays c y (3 + 1 : Nat) = _
  rw [show ((3 + 1 : Nat) : Int) = 4 from rfl, md4 hc, before_3 hc]
  omega
theorem md5 {c y : Int} (hc : c = 0 ∨ c = 1) : monthDays c y 5 = 31 := monthDays_plain (y := y) hc (m := 5) (by omega) (by omega) (by omega)
theorem md6 {c y : Int} (hc : c = 0 ∨ c = 1) : monthDays c y 6 = 30 := monthDays_plain (y := y) hc (m := 6) (by omega) (by omega) (by omega)
theorem before_5 {c y : Int} (hc : c = 0 ∨ c = 1) : before c y 5 = before c y 2 + 92 := by
  show before c y 4 + monthDays c y (4 + 1 : Nat) = _
  rw [show ((4 + 1 : Nat) : Int) = 5 from rfl, md5 hc, before_4 hc]
  omega
/-- The month and the day of a day from March to June: so many days behind 1 March, whatever the year. -/
theorem spring {c o : Int} (hc : c = 0 ∨ c = 1) (h1 : 0 ≤ o) (h2 : o ≤ 121) : ∃ m d, 1 ≤ m ∧ m ≤ 12 ∧ 1 ≤ d ∧ ∀ y, d ≤ monthDays c y m ∧ lineD c y m d = march c y + o := by
  by_cases a : o < 31
  · refine ⟨3, o + 1, by omega, by omega, by omega, fun y => ⟨by rw [md3 hc]; omega, ?_⟩⟩
    unfold lineD march
    rw [show ((3 : Int) - 1).toNat = 2 from rfl]
    omega
  · by_cases b : o < 61
    · refine ⟨4, o - 30, by omega, by omega, by omega, fun y => ⟨by rw [md4 hc]; omega, ?_⟩⟩
      unfold lineD march
      rw [show ((4 : Int) - 1).toNat = 3 from rfl, before_3 hc]
      omega
    · by_cases e : o < 92
      · refine ⟨5, o - 60, by omega, by omega, by omega, fun y => ⟨by rw [md5 hc]; omega, ?_⟩⟩
        unfold lineD march
        rw [show ((5 : Int) - 1).toNat = 4 from rfl, before_4 hc]
        omega
      · refine ⟨6, o - 91, by omega, by omega, by omega, fun y => ⟨by rw [md6 hc]; omega, ?_⟩⟩
        unfold lineD march
        rw [show ((6 : Int) - 1).toNat = 5 from rfl, before_5 hc]
        omega

/-- Whether a day of a year of a style comes again in it. -/
noncomputable def twinB (c s y x : Int) : Bool := (dateOf c x).2.2.2.2 && (decide (lineD c ((dateOf c x).2.1 + 1) (dateOf c x).2.2.1 (dateOf c x).2.2.2.1 < start c s (y + 1)) && decide ((dateOf c x).2.2.2.1 ≤ monthDays c ((dateOf c x).2.1 + 1) (dateOf c x).2.2.1))
def twins (c s y : Int) : Int := if yearP c y ∧ s = 4 then max (sumE c (y + 1) - sumE c y) 0 else 0
noncomputable def cntT (c s y : Int) : Nat → Int
  | 0 => 0
  | k + 1 => cntT c s y k + (if twinB c s y (start c s y + k) = true then 1 else 0)
theorem cntT_bound (c s y : Int) : ∀ k : Nat, 0 ≤ cntT c s y k ∧ cntT c s y k ≤ k
  | 0 => by simp [cntT]
  | k + 1 => by
    have := cntT_bound c s y k
    rw [cntT]
    split <;> omega
theorem twin_easter {c y : Int} (h : yearP c y) (k : Nat) (hk : k < 60) : twinB c 4 y (start c 4 y + k) = decide (sumE c y + k < sumE c (y + 1)) := by
  obtain ⟨hc, h1, h2⟩ := h
  have f1 := easter_fact_at hc h1 (show y ≤ 4000 by omega)
  have e1 := easL_eq hc h1 (show y ≤ 4000 by omega)
  have e2 := easL_eq hc (show 1 ≤ y + 1 by omega) (show y + 1 ≤ 4000 by omega)
  obtain ⟨m, d, m1, m2, d1, hd⟩ := spring (o := sumE c y - 93 + k) hc (by omega) (by omega)
  have hp : dateP c y m d := ⟨hc, h1, h2, d1, (hd y).1⟩
  have hb := day_back hp
  rw [lineD_dayOf hp, (hd y).2] at hb
  have hx : start c 4 y + k = march c y + (sumE c y - 93 + k) := by rw [start_4]; omega
  rw [hx]
  unfold twinB
  rw [hb, start_4, e2]
  simp only [Bool.true_and]
  rw [(hd (y + 1)).2, decide_eq_true (hd (y + 1)).1, Bool.and_true]
  congr 1
  apply propext
  omega
theorem twin_other {c s y x : Int} (hc : c = 0 ∨ c = 1) (hs : styleP s) (h4 : s ≠ 4) (hx : start c s y ≤ x) : twinB c s y x = false := by
  by_cases hok : (dateOf c x).2.2.2.2 = true
  · obtain ⟨a, Y, m, d, ok, hD⟩ : ∃ a Y m d ok, dateOf c x = (a, Y, m, d, ok) := ⟨_, _, _, _, _, rfl⟩
    rw [hD] at hok
    obtain rfl : ok = true := hok
    obtain ⟨rfl, hp, hn⟩ := date_back hD
    rw [lineD_dayOf hp] at hn
    unfold twinB
    rw [hD]
    simp only [Bool.true_and]
    by_cases hd : d ≤ monthDays a (Y + 1) m
    · rw [decide_eq_true hd, Bool.and_true]
      apply decide_eq_false
      have hm := dateP_month hp
      rcases style_cases hs with rfl | rfl | rfl | rfl | rfl | rfl | rfl
      · rw [start_0] at *
        have := line_mono (Y := Y) (Y' := y) (m := m) (d := d) (M := 1) (D := 1) hc hm.1 hm.2 (by omega) (by omega) hp.2.2.2.1 hp.2.2.2.2 hd (by omega) (by rw [md1 hc]; omega) (by rw [md1 hc]; omega) (by omega)
        omega
      · rw [start_1] at *
        have := line_mono (Y := Y) (Y' := y) (m := m) (d := d) (M := 3) (D := 1) hc hm.1 hm.2 (by omega) (by omega) hp.2.2.2.1 hp.2.2.2.2 hd (by omega) (by rw [md3 hc]; omega) (by rw [md3 hc]; omega) (by omega)
        omega
      · rw [start_2] at *
        have := line_mono (Y := Y) (Y' := y) (m := m) (d := d) (M := 3) (D := 25) hc hm.1 hm.2 (by omega) (by omega) hp.2.2.2.1 hp.2.2.2.2 hd (by omega) (by rw [md3 hc]; omega) (by rw [md3 hc]; omega) (by omega)
        omega
      · rw [start_3] at *
        have := line_mono (Y := Y) (Y' := y - 1) (m := m) (d := d) (M := 3) (D := 25) hc hm.1 hm.2 (by omega) (by omega) hp.2.2.2.1 hp.2.2.2.2 hd (by omega) (by rw [md3 hc]; omega) (by rw [md3 hc]; omega) (by omega)
        rw [show y - 1 + 1 = y + 1 - 1 by omega] at this
        omega
      · exact absurd rfl h4
      · rw [start_5] at *
        have := line_mono (Y := Y) (Y' := y - 1) (m := m) (d := d) (M := 9) (D := 1) hc hm.1 hm.2 (by omega) (by omega) hp.2.2.2.1 hp.2.2.2.2 hd (by omega) (by rw [md9 hc]; omega) (by rw [md9 hc]; omega) (by omega)
        rw [show y - 1 + 1 = y + 1 - 1 by omega] at this
        omega
      · rw [start_6] at *
        have := line_mono (Y := Y) (Y' := y - 1) (m := m) (d := d) (M := 12) (D := 25) hc hm.1 hm.2 (by omega) (by omega) hp.2.2.2.1 hp.2.2.2.2 hd (by omega) (by rw [md12 hc]; omega) (by rw [md12 hc]; omega) (by omega)
        rw [show y - 1 + 1 = y + 1 - 1 by omega] at this
        omega
    · rw [decide_eq_false hd, Bool.and_false]
  · unfold twinB
    rw [Bool.eq_false_iff.2 hok, Bool.false_and]
theorem cntT_all {c s y : Int} (h : yearP c y) (hs : styleP s) : cntT c s y 60 = twins c s y := by
  by_cases h4 : s = 4
  · subst h4
    have f1 := easter_fact_at h.1 h.2.1 (show y ≤ 4000 by have := h.2.2; omega)
    have f2 := easter_fact_at h.1 (show 1 ≤ y + 1 by have := h.2.1; omega) (show y + 1 ≤ 4000 by have := h.2.2; omega)
    have k : ∀ k : Nat, k ≤ 60 → cntT c 4 y k = min (k : Int) (max (sumE c (y + 1) - sumE c y) 0) := fun k => by
      induction k with
      | zero => intro _; rw [cntT]; omega
      | succ k ih =>
        intro hk
        rw [cntT, ih (by omega), twin_easter h k (by omega)]
        by_cases g : sumE c y + k < sumE c (y + 1)
        · rw [decide_eq_true g, if_pos rfl]
          omega
        · rw [decide_eq_false g, if_neg (by simp)]
          omega
    rw [k 60 (by omega)]
    unfold twins
    rw [if_pos ⟨h, rfl⟩]
    omega
  · have k : ∀ k : Nat, cntT c s y k = 0 := fun k => by
      induction k with
      | zero => rfl
      | succ k ih => rw [cntT, ih, twin_other h.1 hs h4 (by omega)]; rfl
    rw [k 60]
    unfold twins
    rw [if_neg (fun g => h4 g.2)]

/-- Whether a month's day of a year of 1 January stands in the year of a style. -/
def solP (c s y m d z : Int) : Prop := yearP c y ∧ styleP s ∧ dateP c z m d ∧ start c s y ≤ lineD c z m d ∧ lineD c z m d < start c s (y + 1)
instance (c s y m d z : Int) : Decidable (solP c s y m d z) := by unfold solP; infer_instance
def solB (c s y m d z : Int) : Bool := decide (solP c s y m d z)
def solarYears (c s y m d : Int) : List Int := [y - 1, y, y + 1].filter (solB c s y m d)
theorem sol_iff {c s y m d z : Int} (h : dateP c z m d) : styYear c s (dayOf c z m d) = (y, true) ↔ solP c s y m d z := by
  rw [sty_iff h.1 (day_back h), lineD_dayOf h]
  unfold solP yearP
  have hc := h.1
  constructor
  · rintro ⟨a, b, e, f, g⟩
    exact ⟨⟨hc, b, e⟩, a, h, f, g⟩
  · rintro ⟨⟨_, b, e⟩, a, _, f, g⟩
    exact ⟨a, b, e, f, g⟩
theorem sol_none {c s y m d : Int} (h : ¬ (yearP c y ∧ styleP s)) : solarYears c s y m d = [] := by
  unfold solarYears
  have k : ∀ z, solB c s y m d z = false := fun z => decide_eq_false (fun g => h ⟨g.1, g.2.1⟩)
  simp [List.filter, k]
theorem march_step {c y : Int} (hc : c = 0 ∨ c = 1) : march c y + 365 ≤ march c (y + 1) ∧ march c (y + 1) ≤ march c y + 366 := by
  have a := first_step hc y
  rw [before_12 hc] at a
  have b := before_2 (y := y) hc
  have b' := before_2 (y := y + 1) hc
  unfold march
  rw [a, b, b']
  split <;> split <;> omega
theorem before_near {c : Int} (hc : c = 0 ∨ c = 1) (y z : Int) : ∀ k : Nat, before c y k ≤ before c z k + 1
  | 0 => by simp [before]
  | 1 => by
    have a : ∀ y, before c y 1 = 31 := fun y => by
      show before c y 0 + monthDays c y (0 + 1 : Nat) = _
      rw [show ((0 + 1 : Nat) : Int) = 1 from rfl, md1 hc]
      rfl
    rw [a, a]
    omega
  | 2 => by
    rw [before_2 hc, before_2 hc]
    split <;> split <;> omega
  | k + 3 => by
    have ih := before_near hc y z (k + 2)
    have e : monthDays c y ((k + 2 + 1 : Nat) : Int) = monthDays c z ((k + 2 + 1 : Nat) : Int) := by
      unfold monthDays
      have n1 : ∀ y, ¬ (((k + 2 + 1 : Nat) : Int) = 2 ∧ leapP c y) := fun y g => by omega
      rw [if_neg (n1 y), if_neg (n1 z)]
    show before c y (k + 2) + monthDays c y ((k + 2 + 1 : Nat) : Int) ≤ before c z (k + 2) + monthDays c z ((k + 2 + 1 : Nat) : Int) + 1
    omega
theorem first_365 {c : Int} (hc : c = 0 ∨ c = 1) (y : Int) : first c y + 365 ≤ first c (y + 1) ∧ first c (y + 1) ≤ first c y + 366 := by
  have a := first_step hc y
  rw [before_12 hc] at a
  rw [a]
  split <;> omega
theorem line_364 {c : Int} (hc : c = 0 ∨ c = 1) (y m d : Int) : lineD c y m d + 364 ≤ lineD c (y + 1) m d := by
  have a := first_365 hc y
  have b := before_near hc y (y + 1) (m - 1).toNat
  unfold lineD
  omega
theorem start_days {c s y : Int} (h : yearP c y) (hs : styleP s) : 329 ≤ start c s (y + 1) - start c s y ∧ start c s (y + 1) - start c s y ≤ 401 := by
  obtain ⟨hc, h1, h2⟩ := h
  have b (y M D : Int) : lineD c y M D + 364 ≤ lineD c (y + 1) M D ∧ lineD c (y + 1) M D ≤ lineD c y M D + 367 := by
    have a := first_365 hc y
    have b := before_near hc y (y + 1) (M - 1).toNat
    have b' := before_near hc (y + 1) y (M - 1).toNat
    unfold lineD
    omega
  rcases style_cases hs with rfl | rfl | rfl | rfl | rfl | rfl | rfl
  · rw [start_0, start_0]; have := b y 1 1; omega
  · rw [start_1, start_1]; have := b y 3 1; omega
  · rw [start_2, start_2]; have := b y 3 25; omega
  · rw [start_3, start_3]; have := b (y - 1) 3 25; rw [show y - 1 + 1 = y + 1 - 1 by omega] at this; omega
  · rw [start_4, start_4]
    have f1 := easter_fact_at hc h1 (show y ≤ 4000 by omega)
    have f2 := easter_fact_at hc (show 1 ≤ y + 1 by omega) (show y + 1 ≤ 4000 by omega)
    have e1 := easL_eq hc h1 (show y ≤ 4000 by omega)
    have e2 := easL_eq hc (show 1 ≤ y + 1 by omega) (show y + 1 ≤ 4000 by omega)
    have := march_step (y := y) hc
    omega
  · rw [start_5, start_5]; have := b (y - 1) 9 1; rw [show y - 1 + 1 = y + 1 - 1 by omega] at this; omega
  · rw [start_6, start_6]; have := b (y - 1) 12 25; rw [show y - 1 + 1 = y + 1 - 1 by omega] at this; omega
theorem sol_two (c s y m d : Int) : (solarYears c s y m d).length ≤ 2 := by
  unfold solarYears
  by_cases a : solP c s y m d (y - 1)
  · have b : ¬ solP c s y m d (y + 1) := fun b => by
      have k := start_days a.1 a.2.1
      have k1 := line_364 a.1.1 (y - 1) m d
      have k2 := line_364 a.1.1 y m d
      rw [show y - 1 + 1 = y by omega] at k1
      have a1 := a.2.2.2.1
      have b2 := b.2.2.2.2
      omega
    by_cases e : solP c s y m d y
    · simp [List.filter, solB, a, b, e]
    · simp [List.filter, solB, a, b, e]
  · by_cases b : solP c s y m d (y + 1) <;> by_cases e : solP c s y m d y <;> simp [List.filter, solB, a, b, e]
theorem sol_mem {c s y m d z : Int} (h : z ∈ solarYears c s y m d) : solP c s y m d z := by
  unfold solarYears at h
  have := (List.mem_filter.1 h).2
  exact of_decide_eq_true this
end Go.Proofs.YtaakgidndjoocaaGreatDoor.ctr
