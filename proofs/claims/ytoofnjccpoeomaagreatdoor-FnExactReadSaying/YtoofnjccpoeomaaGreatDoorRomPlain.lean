/- Plain laws of days counted back, of no program: nones and ides, a date's count, the one date of a year that has a count. -/
import Derived.Test.YtoofnjccpoeomaaGreatDoorSolPlain
namespace Go.Proofs.YtoofnjccpoeomaaGreatDoor.ctr
open Go.RowKit

/-- The day of a month's nones and ides. -/
def nones (m : Int) : Int := if 1 ≤ m ∧ m ≤ 12 then (if m = 3 ∨ m = 5 ∨ m = 7 ∨ m = 10 then 7 else 5) else 0
def ides (m : Int) : Int := if 1 ≤ m ∧ m ≤ 12 then nones m + 8 else 0
theorem nones_b (m : Int) : 0 ≤ nones m ∧ nones m ≤ 7 := by
  unfold nones
  split
  · split <;> omega
  · omega
theorem ides_b (m : Int) : 0 ≤ ides m ∧ ides m ≤ 15 := by
  have := nones_b m
  unfold ides
  split <;> omega
theorem ides_in {m : Int} (h1 : 1 ≤ m) (h2 : m ≤ 12) : ides m = nones m + 8 := by unfold ides; rw [if_pos ⟨h1, h2⟩]
theorem nones_in {m : Int} (h1 : 1 ≤ m) (h2 : m ≤ 12) : 5 ≤ nones m := by
  unfold nones
  rw [if_pos ⟨h1, h2⟩]
  split <;> omega
/-- A day counted back. -/
structure Rom where
  count : Int
  mark : Int
  month : Int
  twice : Bool
instance : DecidableEq Rom := fun a b =>
  if h : a.count = b.count ∧ a.mark = b.mark ∧ a.month = b.month ∧ a.twice = b.twice then .isTrue (by cases a; cases b; simp at h; simp [h]) else .isFalse (fun e => h (by subst e; exact ⟨rfl, rfl, rfl, rfl⟩))
/-- How many days a month counts as, up to a day. -/
def countDays (c y m d : Int) : Int := if m = 2 ∧ d ≤ 24 then 28 else monthDays c y m
def romanIn (c y m d : Int) : Rom :=
  if d = 1 then ⟨1, 0, m, false⟩
  else if d ≤ nones m then ⟨nones m - d + 1, 1, m, false⟩
  else if d ≤ ides m then ⟨ides m - d + 1, 2, m, false⟩
  else ⟨countDays c y m d - d + 2, 0, m % 12 + 1, decide (m = 2 ∧ d = 24 ∧ leapP c y)⟩
def romanOf (c y m d : Int) : Rom := if dateP c y m d then romanIn c y m d else ⟨0, 0, 0, false⟩
/-- The month ahead of one, as the program counts. -/
def monAhead (m : Int) : Int := if m = 1 then 12 else m - 1
/-- The month and the day that a count leads to. -/
def invM (r : Rom) : Int := if r.mark = 0 ∧ r.count ≠ 1 then monAhead r.month else r.month
def invD (c y : Int) (r : Rom) : Int :=
  if r.mark = 0 then
    if r.count = 1 then 1
    else if monAhead r.month = 2 ∧ leapP c y ∧ (6 < r.count ∨ r.twice = true) then 30 - r.count
    else monthDays c y (monAhead r.month) + 2 - r.count
  else if r.mark = 1 then nones r.month + 1 - r.count
  else ides r.month + 1 - r.count
theorem inv_back {c y m d : Int} (h : dateP c y m d) : invM (romanOf c y m d) = m ∧ invD c y (romanOf c y m d) = d := by
  have hm := dateP_month h
  have hd := dateP_day h
  have hn := nones_in hm.1 hm.2
  have hi := ides_in hm.1 hm.2
  unfold romanOf
  rw [if_pos h]
  unfold romanIn
  by_cases h1 : d = 1
  · rw [if_pos h1]
    unfold invM invD
    simp [h1]
  rw [if_neg h1]
  by_cases h2 : d ≤ nones m
  · rw [if_pos h2]
    unfold invM invD
    simp
    omega
  rw [if_neg h2]
  by_cases h3 : d ≤ ides m
  · rw [if_pos h3]
    unfold invM invD
    simp
    omega
  rw [if_neg h3]
  have hA : monAhead (m % 12 + 1) = m := by unfold monAhead; split <;> omega
  have hmd := h.2.2.2.2
  have hc := h.1
  have hcd : countDays c y m d - d + 2 ≠ 1 := by
    unfold countDays
    split <;> omega
  unfold invM invD
  simp only [hA]
  rw [if_pos ⟨trivial, hcd⟩, if_pos trivial, if_neg hcd]
  refine ⟨rfl, ?_⟩
  by_cases e2 : m = 2
  · subst e2
    by_cases hl : leapP c y
    · have h29 := monthDays_leap hc hl
      rw [h29] at hmd
      by_cases h24 : d ≤ 24
      · have hk : countDays c y 2 d = 28 := by unfold countDays; rw [if_pos ⟨rfl, h24⟩]
        rw [hk, if_pos]
        · omega
        · refine ⟨rfl, hl, ?_⟩
          by_cases e : d = 24
          · right
            simp [e, hl]
          · left
            omega
      · have hk : countDays c y 2 d = 29 := by unfold countDays; rw [if_neg (fun h => h24 h.2), h29]
        rw [hk, h29, if_neg]
        · omega
        · rintro ⟨_, _, h | h⟩
          · omega
          · simp at h
            omega
    · rw [if_neg (fun h => hl h.2.1)]
      have h28 : monthDays c y 2 = 28 := monthDays_plain hc (by omega) (by omega) (fun h => hl h.2)
      unfold countDays
      rw [h28]
      split <;> omega
  · rw [if_neg (fun h => e2 h.1)]
    unfold countDays
    rw [if_neg (fun h => e2 h.1)]
    omega
/-- A date whose count is r. -/
def isDay (c y : Int) (r : Rom) (m d : Int) : Prop := dateP c y m d ∧ romanOf c y m d = r
theorem isDay_inv {c y m d : Int} {r : Rom} (h : isDay c y r m d) : m = invM r ∧ d = invD c y r := by
  have := inv_back h.1
  rw [h.2] at this
  exact ⟨this.1.symm, this.2.symm⟩
def dayR (c y : Int) (r : Rom) : Bool := decide (dateP c y (invM r) (invD c y r) ∧ romanOf c y (invM r) (invD c y r) = r)
theorem dayR_of {c y m d : Int} {r : Rom} (h : isDay c y r m d) : dayR c y r = true := by
  obtain ⟨rfl, rfl⟩ := isDay_inv h
  exact decide_eq_true h
instance (c y : Int) (r : Rom) (m d : Int) : Decidable (isDay c y r m d) := by unfold isDay; infer_instance
theorem dayR_is {c y : Int} {r : Rom} (h : dayR c y r = true) : isDay c y r (invM r) (invD c y r) := by
  unfold dayR at h
  exact of_decide_eq_true h
/-- The date of a year that is so counted back: its month and its day, or none. -/
def dayOfRoman (c y : Int) (r : Rom) : Int × Int × Int × Int := if dayR c y r = true then (c, y, invM r, invD c y r) else (0, 0, 0, 0)
theorem romDay_yes {c y m d : Int} {r : Rom} (h : isDay c y r m d) : dayOfRoman c y r = (c, y, m, d) := by
  unfold dayOfRoman
  rw [if_pos (dayR_of h)]
  obtain ⟨rfl, rfl⟩ := isDay_inv h
  rfl
theorem romDay_no {c y : Int} {r : Rom} (h : ∀ m d, ¬ isDay c y r m d) : dayOfRoman c y r = (0, 0, 0, 0) := by
  unfold dayOfRoman
  rw [if_neg (fun k => h _ _ (dayR_is k))]
/-- Whether something is told of some date. -/
def romB (r : Rom) : Bool := dayR 0 4 r
theorem leap4 : leapP 0 4 := by decide
theorem not_leap1 : ¬ leapP 0 1 := by decide
/-- What is told of a date of any year is told of one of the year 4. -/
theorem romB_any {c y m d : Int} (h : dateP c y m d) : romB (romanOf c y m d) = true := by
  have hm := dateP_month h
  have hd := dateP_day h
  have hn := nones_in hm.1 hm.2
  have hi := ides_in hm.1 hm.2
  have hc := h.1
  have hmd := h.2.2.2.2
  by_cases e2 : m = 2
  · subst e2
    by_cases hlow : d ≤ 23 ∨ leapP c y
    · have hP : dateP 0 4 2 d := ⟨.inl rfl, by omega, by omega, h.2.2.2.1, by
        rw [monthDays_leap (.inl rfl) leap4]
        by_cases hl : leapP c y
        · rw [monthDays_leap hc hl] at hmd
          exact hmd
        · rw [monthDays_plain hc (by omega) (by omega) (fun h => hl h.2)] at hmd
          have : tab12.getD ((2 : Int) - 1).toNat 0 = 28 := rfl
          omega⟩
      refine dayR_of (m := 2) (d := d) ⟨hP, ?_⟩
      unfold romanOf
      rw [if_pos h, if_pos hP]
      have hcd : countDays 0 4 2 d = countDays c y 2 d := by
        unfold countDays
        by_cases h24 : d ≤ 24
        · rw [if_pos ⟨rfl, h24⟩, if_pos ⟨rfl, h24⟩]
        · have hl : leapP c y := by
            rcases hlow with h | h
            · omega
            · exact h
          rw [if_neg (fun h => h24 h.2), if_neg (fun h => h24 h.2), monthDays_leap (.inl rfl) leap4, monthDays_leap hc hl]
      have htw : decide ((2 : Int) = 2 ∧ d = 24 ∧ leapP 0 4) = decide ((2 : Int) = 2 ∧ d = 24 ∧ leapP c y) := by
        by_cases e : d = 24
        · have hl : leapP c y := by
            rcases hlow with h | h
            · omega
            · exact h
          simp [e, hl, leap4]
        · simp [e]
      unfold romanIn
      rw [hcd, htw]
    · have hl : ¬ leapP c y := fun k => hlow (.inr k)
      have h28 : monthDays c y 2 = 28 := monthDays_plain hc (by omega) (by omega) (fun h => hl h.2)
      rw [h28] at hmd
      have hP : dateP 0 4 2 (d + 1) := ⟨.inl rfl, by omega, by omega, by omega, by rw [monthDays_leap (.inl rfl) leap4]; omega⟩
      refine dayR_of (m := 2) (d := d + 1) ⟨hP, ?_⟩
      have hn2 : nones 2 = 5 := rfl
      have hi2 : ides 2 = 13 := rfl
      unfold romanOf
      rw [if_pos h, if_pos hP]
      unfold romanIn countDays
      rw [if_neg (by omega), if_neg (by omega), if_neg (by omega), if_neg (by omega), if_neg (by omega), if_neg (by omega), if_neg (by omega), monthDays_leap (.inl rfl) leap4, h28]
      simp [hl, show ¬ d + 1 = 24 by omega]
      omega
  · have hsame : monthDays 0 4 m = monthDays c y m := by
      rw [monthDays_plain hc hm.1 hm.2 (fun h => e2 h.1), monthDays_plain (.inl rfl) hm.1 hm.2 (fun h => e2 h.1)]
    have hP : dateP 0 4 m d := ⟨.inl rfl, by omega, by omega, h.2.2.2.1, by rw [hsame]; exact hmd⟩
    refine dayR_of (m := m) (d := d) ⟨hP, ?_⟩
    unfold romanOf
    rw [if_pos h, if_pos hP]
    unfold romanIn countDays
    rw [hsame]
    simp [e2]
theorem romB_of {c y m d : Int} {r : Rom} (h : isDay c y r m d) : romB r = true := by
  have := romB_any h.1
  rw [h.2] at this
  exact this
end Go.Proofs.YtoofnjccpoeomaaGreatDoor.ctr
