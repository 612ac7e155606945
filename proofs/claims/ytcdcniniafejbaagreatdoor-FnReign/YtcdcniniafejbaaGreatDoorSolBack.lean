/- A date comes back from its day, a day from its date; the day behind is the next day of the month, or a first one. -/
import Derived.Test.YtcdcniniafejbaaGreatDoorSolDateImpl
namespace Go.Proofs.YtcdcniniafejbaaGreatDoor.ctr
open Go.RowKit

theorem month_ex {c y n : Int} (h0 : 0 ≤ n) : ∀ j : Nat, n < before c y j → ∃ k, k < j ∧ before c y k ≤ n ∧ n < before c y (k + 1)
  | 0, h => by
    have hz : before c y 0 = 0 := rfl
    omega
  | j + 1, h => by
    by_cases hj : n < before c y j
    · obtain ⟨k, hk, h1, h2⟩ := month_ex h0 j hj
      exact ⟨k, by omega, h1, h2⟩
    · exact ⟨j, by omega, by omega, h⟩
/-- The date of a day that has one. -/
theorem date_back {c n a y m d : Int} (h : dateOf c n = (a, y, m, d, true)) : a = c ∧ dateP c y m d ∧ dayOf c y m d = n := by
  by_cases hp : (c = 0 ∨ c = 1) ∧ 1 ≤ yearOf c n ∧ yearOf c n ≤ 3000 ∧ -1000 ≤ n ∧ n ≤ 1200000
  · obtain ⟨hc, h2, h3, h4, h5⟩ := hp
    obtain ⟨e1, e2⟩ := year_ex hc h4 h5
    have hs := first_step hc (yearOf c n)
    obtain ⟨k, hk, k1, k2⟩ := month_ex (c := c) (y := yearOf c n) (n := n - first c (yearOf c n)) (by omega) 12 (by omega)
    have hm := monthOf_eq k1 k2
    have hd := dateOf_yes hc h4 h5 rfl hm h2 h3
    rw [hd] at h
    simp only [Prod.mk.injEq] at h
    obtain ⟨rfl, rfl, rfl, rfl, _⟩ := h
    have hb := before_next c (yearOf c n) k
    have hP : dateP c (yearOf c n) ((k : Int) + 1) (n - first c (yearOf c n) - before c (yearOf c n) k + 1) := ⟨hc, h2, h3, by omega, by omega⟩
    refine ⟨rfl, hP, ?_⟩
    unfold dayOf
    rw [if_pos hP, show ((k : Int) + 1 - 1).toNat = k by omega]
    omega
  · rw [dateOf_no hp] at h
    simp at h
/-- The day of a date that is one. -/
theorem day_back {c y m d : Int} (h : dateP c y m d) : dateOf c (dayOf c y m d) = (c, y, m, d, true) := by
  obtain ⟨hm1, hm2⟩ := dateP_month h
  obtain ⟨hc, hy1, hy2, hd1, hd2⟩ := h
  obtain ⟨k, hk⟩ := Int.eq_ofNat_of_zero_le (show 0 ≤ m - 1 by omega)
  have hm : m = (k : Int) + 1 := by omega
  subst hm
  have hP : dateP c y ((k : Int) + 1) d := ⟨hc, hy1, hy2, hd1, hd2⟩
  have hb := before_next c y k
  have hmono := before_mono c y (k + 1) (12 - (k + 1))
  rw [show k + 1 + (12 - (k + 1)) = 12 by omega] at hmono
  have h0 := (before_bound c y k).1
  have hs := first_step hc y
  have hD : dayOf c y ((k : Int) + 1) d = first c y + before c y k + d - 1 := by
    unfold dayOf
    rw [if_pos hP, show ((k : Int) + 1 - 1).toNat = k by omega]
  have hbd := dayOf_bound c y ((k : Int) + 1) d
  have hy3 : yearOf c (dayOf c y ((k : Int) + 1) d) = y := yearOf_eq hc (by omega) (by omega)
  have hmo : monthOf c y (dayOf c y ((k : Int) + 1) d - first c y) = k := monthOf_eq (by omega) (by omega)
  have hfb : first c (y + 1) ≤ 1200000 := by
    have h1 := first_le (c := c) (y := y + 1) (z := 3001) hc (by omega)
    have h2 : first c 3001 ≤ 1200000 := by
      rcases hc with rfl | rfl
      · rw [first_jul]; omega
      · rw [first_gre]; omega
    omega
  have hf1 : -1000 ≤ first c y := by
    have h1 := first_le (c := c) (y := 1) (z := y) hc (by omega)
    have h2 : -1000 ≤ first c 1 := by
      rcases hc with rfl | rfl
      · rw [first_jul]; omega
      · rw [first_gre]; omega
    omega
  rw [dateOf_yes hc (by omega) (by omega) hy3 hmo hy1 hy2]
  simp only [Prod.mk.injEq]
  refine ⟨trivial, trivial, trivial, ?_, trivial⟩
  omega
/-- The day behind. -/
theorem day_next {c n y m d a' y' m' d' : Int} (h : dateOf c n = (c, y, m, d, true)) (h' : dateOf c (n + 1) = (a', y', m', d', true)) : (d' = d + 1 ∧ m' = m) ∨ (d' = 1 ∧ d = monthDays c y m) := by
  obtain ⟨_, hP, hD⟩ := date_back h
  obtain ⟨hm1, hm2⟩ := dateP_month hP
  obtain ⟨hc, hy1, hy2, hd1, hd2⟩ := hP
  have hP : dateP c y m d := ⟨hc, hy1, hy2, hd1, hd2⟩
  by_cases hlt : d < monthDays c y m
  · have hQ : dateP c y m (d + 1) := ⟨hc, hy1, hy2, by omega, by omega⟩
    have e : dayOf c y m (d + 1) = n + 1 := by
      unfold dayOf at hD ⊢
      rw [if_pos hP] at hD
      rw [if_pos hQ]
      omega
    have := day_back hQ
    rw [e, h'] at this
    simp only [Prod.mk.injEq] at this
    exact .inl ⟨this.2.2.2.1, this.2.2.1⟩
  · right
    refine ⟨?_, by omega⟩
    obtain ⟨k, hk⟩ := Int.eq_ofNat_of_zero_le (show 0 ≤ m - 1 by omega)
    have hb := before_next c y k
    have hmk : ((k : Int) + 1) = m := by omega
    rw [hmk] at hb
    have hDn : n = first c y + before c y k + d - 1 := by
      unfold dayOf at hD
      rw [if_pos hP, show (m - 1).toNat = k by omega] at hD
      omega
    by_cases h12 : m < 12
    · have hQ : dateP c y (m + 1) 1 := ⟨hc, hy1, hy2, by omega, by have := monthDays_ge (y := y) hc (show 1 ≤ m + 1 by omega) (show m + 1 ≤ 12 by omega); omega⟩
      have e : dayOf c y (m + 1) 1 = n + 1 := by
        unfold dayOf
        rw [if_pos hQ, show (m + 1 - 1).toNat = k + 1 by omega]
        omega
      have := day_back hQ
      rw [e, h'] at this
      simp only [Prod.mk.injEq] at this
      exact this.2.2.2.1
    · have hk11 : k = 11 := by omega
      subst hk11
      have hs := first_step hc y
      by_cases hy : y < 3000
      · have hQ : dateP c (y + 1) 1 1 := ⟨hc, by omega, by omega, by omega, by have := monthDays_ge (y := y + 1) hc (show (1 : Int) ≤ 1 by omega) (show (1 : Int) ≤ 12 by omega); omega⟩
        have e : dayOf c (y + 1) 1 1 = n + 1 := by
          unfold dayOf
          rw [if_pos hQ]
          have hz : before c (y + 1) ((1 : Int) - 1).toNat = 0 := rfl
          rw [hz]
          have : before c y (11 + 1) = before c y 12 := rfl
          omega
        have := day_back hQ
        rw [e, h'] at this
        simp only [Prod.mk.injEq] at this
        exact this.2.2.2.1
      · have hy3 : y = 3000 := by omega
        subst hy3
        have hl := date_late (c := c) (n := n + 1) hc (by
          have : before c 3000 (11 + 1) = before c 3000 12 := rfl
          have h31 : first c (3000 + 1) = first c 3001 := rfl
          omega)
        rw [hl] at h'
        simp at h'
end Go.Proofs.YtcdcniniafejbaaGreatDoor.ctr
