/- Contracts of FloorDiv and FloorMod, the model's and the program's: each answers the plain functions floorDiv and floorMod at every two ints; what is divided is put together again. Plain laws of the two calendars, of no program: leap years, a month's days, a year's first day, the year and the month that hold a day. Contracts of the model's l02Cal, Leap and of the program's calendarOf, Leap: each answers its plain function at every argument. Contracts of the model's MonthDays and DateOk: each answers its plain function at every argument. Contracts of the program's MonthDays: it answers its plain function at every argument, where its table holds its numbers. Contract of the model's DateOk: it answers its plain function at every argument. Contract of the program's DateOk: it answers its plain function at every argument, where its table holds its numbers. Contracts of the days ahead of a month: the model's l02Before, DayInYear; the program's daysUpTo, DayInYear: each answers its plain function. Contracts of a year's first day and of a date's day: the model's l02First, l02Day, DayOf; the program's yearEve, lineDay, DayOf. -/
import Derived.Test.YtaakgidndjoocaaGreatDoorBaseM
import Derived.Handy
import Derived.Deep.RegionWith
import Derived.Test.YtaakgidndjoocaaGreatDoorLaterKitM
import Derived.Test.YtaakgidndjoocaaGreatDoorVarsKitM
namespace Go.Proofs.YtaakgidndjoocaaGreatDoor.ctr
open Go.RowKit

def floorDiv (a b : Int) : Int := if b ≤ 0 then 0 else if a.tmod b < 0 then wrap64 (wrap64 (a.tdiv b) - 1) else wrap64 (a.tdiv b)
def floorMod (a b : Int) : Int := if b ≤ 0 then 0 else if a.tmod b < 0 then wrap64 (a.tmod b + b) else a.tmod b
theorem wrap_ex (x : Int) : ∃ k, wrap64 x = x + 18446744073709551616 * k :=
  ⟨-((x + 9223372036854775808) / 18446744073709551616), by unfold wrap64; omega⟩
theorem wrap_eq (x y : Int) (h : ∃ k, x = y + 18446744073709551616 * k) : wrap64 x = wrap64 y := by
  obtain ⟨k, rfl⟩ := h
  unfold wrap64
  omega
theorem in_range (n : Int) (h : -9223372036854775808 ≤ n ∧ n ≤ 9223372036854775807) : wrap64 n = n := by unfold wrap64; omega
theorem tmod_le (a b : Int) (ha : -9223372036854775808 ≤ a ∧ a ≤ 9223372036854775807) (hr : 0 ≤ a.tmod b) : a.tmod b ≤ 9223372036854775807 := by
  have h1 : (a.tmod b).natAbs ≤ a.natAbs := by rw [Int.natAbs_tmod]; exact Nat.mod_le _ _
  by_cases hn : 0 ≤ a
  · omega
  · have h2 : 0 ≤ (-a).tmod b := Int.tmod_nonneg b (by omega)
    rw [Int.neg_tmod] at h2
    omega
theorem low_rest (a b : Int) : wrap64 (a - wrap64 (b * wrap64 (wrap64 (a.tdiv b) - 1))) = wrap64 (a.tmod b + b) := by
  have hd := Int.mul_tdiv_add_tmod a b
  apply wrap_eq
  obtain ⟨k1, e1⟩ := wrap_ex (a.tdiv b)
  obtain ⟨k2, e2⟩ := wrap_ex (wrap64 (a.tdiv b) - 1)
  obtain ⟨k3, e3⟩ := wrap_ex (b * wrap64 (wrap64 (a.tdiv b) - 1))
  refine ⟨-(b * k1) - b * k2 - k3, ?_⟩
  rw [e3, e2, e1]
  have : b * (a.tdiv b + 18446744073709551616 * k1 - 1 + 18446744073709551616 * k2) = b * a.tdiv b + 18446744073709551616 * (b * k1) - b + 18446744073709551616 * (b * k2) := by
    rw [Int.mul_add, Int.mul_sub, Int.mul_add, Int.mul_one, Int.mul_left_comm b, Int.mul_left_comm b]
  rw [this]
  omega
theorem high_rest (a b : Int) (ha : -9223372036854775808 ≤ a ∧ a ≤ 9223372036854775807) (hr : 0 ≤ a.tmod b) : wrap64 (a - wrap64 (b * wrap64 (a.tdiv b))) = a.tmod b := by
  have hd := Int.mul_tdiv_add_tmod a b
  have hz := tmod_le a b ha hr
  rw [← in_range (a.tmod b) ⟨by omega, hz⟩]
  apply wrap_eq
  obtain ⟨k1, e1⟩ := wrap_ex (a.tdiv b)
  obtain ⟨k3, e3⟩ := wrap_ex (b * wrap64 (a.tdiv b))
  refine ⟨-(b * k1) - k3, ?_⟩
  rw [e3, e1]
  have : b * (a.tdiv b + 18446744073709551616 * k1) = b * a.tdiv b + 18446744073709551616 * (b * k1) := by
    rw [Int.mul_add, Int.mul_left_comm b]
  rw [this]
  omega
/-- What is divided is put together again, round 64 bits. -/
theorem floor_back (a b : Int) (ha : -9223372036854775808 ≤ a ∧ a ≤ 9223372036854775807) (hb : 0 < b) : wrap64 (wrap64 (floorDiv a b * b) + floorMod a b) = a := by
  have hd := Int.mul_tdiv_add_tmod a b
  have hb' : ¬ b ≤ 0 := by omega
  unfold floorDiv floorMod
  by_cases h : a.tmod b < 0
  · rw [if_neg hb', if_pos h, if_neg hb', if_pos h]
    conv => rhs; rw [← in_range a ha]
    apply wrap_eq
    obtain ⟨k1, e1⟩ := wrap_ex (a.tdiv b)
    obtain ⟨k2, e2⟩ := wrap_ex (wrap64 (a.tdiv b) - 1)
    obtain ⟨k3, e3⟩ := wrap_ex (wrap64 (wrap64 (a.tdiv b) - 1) * b)
    obtain ⟨k4, e4⟩ := wrap_ex (a.tmod b + b)
    refine ⟨b * k1 + b * k2 + k3 + k4, ?_⟩
    rw [e3, e4, e2, e1]
    have : (a.tdiv b + 18446744073709551616 * k1 - 1 + 18446744073709551616 * k2) * b = b * a.tdiv b + 18446744073709551616 * (b * k1) - b + 18446744073709551616 * (b * k2) := by
      rw [Int.mul_comm, Int.mul_add, Int.mul_sub, Int.mul_add, Int.mul_one, Int.mul_left_comm b, Int.mul_left_comm b]
    rw [this]
    omega
  · rw [if_neg hb', if_neg h, if_neg hb', if_neg h]
    conv => rhs; rw [← in_range a ha]
    apply wrap_eq
    obtain ⟨k1, e1⟩ := wrap_ex (a.tdiv b)
    obtain ⟨k3, e3⟩ := wrap_ex (wrap64 (a.tdiv b) * b)
    refine ⟨b * k1 + k3, ?_⟩
    rw [e3, e1]
    have : (a.tdiv b + 18446744073709551616 * k1) * b = b * a.tdiv b + 18446744073709551616 * (b * k1) := by
      rw [Int.mul_comm, Int.mul_add, Int.mul_left_comm b]
    rw [this]
    omega

set_option maxHeartbeats 400000 in
theorem specFloorDiv (a b : Int) (w : World) :
    Calls Tryz.prog 196 #[.int .i64 a, .int .i64 b] w fun e w' => e = .returned (.int .i64 (floorDiv a b)) ∧ w' = w := by
  by_cases c1 : b ≤ 0
  · have HF : Hid (floorDiv a b = 0) := by unfold Hid floorDiv; rw [if_pos c1]
    go_enter Tryz.func196, Tryz.ntmps196
    go_wp2
    go_ret
    exact ⟨ret_int HF.out.symm, rfl⟩
  by_cases c2 : a.tmod b < 0
  · have HF : Hid (floorDiv a b = wrap64 (wrap64 (a.tdiv b) - 1)) := by unfold Hid floorDiv; rw [if_neg c1, if_pos c2]
    go_enter Tryz.func196, Tryz.ntmps196
    go_wp2
    go_ret
    exact ⟨ret_int HF.out.symm, rfl⟩
  · have HF : Hid (floorDiv a b = wrap64 (a.tdiv b)) := by unfold Hid floorDiv; rw [if_neg c1, if_neg c2]
    go_enter Tryz.func196, Tryz.ntmps196
    go_wp2
    go_ret
    exact ⟨ret_int HF.out.symm, rfl⟩

set_option maxHeartbeats 400000 in
theorem implFloorDiv (a b : Int) (w : World) :
    Calls Tryz.prog 205 #[.int .i64 a, .int .i64 b] w fun e w' => e = .returned (.int .i64 (floorDiv a b)) ∧ w' = w := by
  by_cases c1 : b ≤ 0
  · have HF : Hid (floorDiv a b = 0) := by unfold Hid floorDiv; rw [if_pos c1]
    go_enter Tryz.func205, Tryz.ntmps205
    go_wp2
    go_ret
    exact ⟨ret_int HF.out.symm, rfl⟩
  by_cases c2 : a.tmod b < 0
  · have HF : Hid (floorDiv a b = wrap64 (wrap64 (a.tdiv b) - 1)) := by unfold Hid floorDiv; rw [if_neg c1, if_pos c2]
    go_enter Tryz.func205, Tryz.ntmps205
    go_wp2
    go_ret
    exact ⟨ret_int HF.out.symm, rfl⟩
  · have HF : Hid (floorDiv a b = wrap64 (a.tdiv b)) := by unfold Hid floorDiv; rw [if_neg c1, if_neg c2]
    go_enter Tryz.func205, Tryz.ntmps205
    go_wp2
    go_ret
    exact ⟨ret_int HF.out.symm, rfl⟩

end Go.Proofs.YtaakgidndjoocaaGreatDoor.ctr

namespace Go.Proofs.YtaakgidndjoocaaGreatDoor.ctr
open Go.RowKit

/-- Whether a number is a calendar's. -/
def calB (c : Int) : Bool := decide (c = 0) || decide (c = 1)
theorem calB_iff {c : Int} : calB c = true ↔ c = 0 ∨ c = 1 := by simp [calB]
theorem calB_no {c : Int} (h : ¬ (c = 0 ∨ c = 1)) : calB c = false := by
  simp only [not_or] at h
  simp [calB, h.1, h.2]

def leapP (c y : Int) : Prop := (c = 0 ∧ y.tmod 4 = 0) ∨ (c = 1 ∧ ((y.tmod 4 = 0 ∧ ¬ y.tmod 100 = 0) ∨ y.tmod 400 = 0))
instance (c y : Int) : Decidable (leapP c y) := by unfold leapP; infer_instance
def leapB (c y : Int) : Bool := decide (leapP c y)

theorem tmod0 (y : Int) (k : Int) : y.tmod k = 0 ↔ y % k = 0 := by
  rw [← Int.dvd_iff_tmod_eq_zero, ← Int.dvd_iff_emod_eq_zero]
theorem tmod_four {y : Int} (h : y.tmod 400 = 0) : y.tmod 4 = 0 := by
  rw [tmod0] at *
  omega
theorem leap_jul {y : Int} : leapP 0 y ↔ y % 4 = 0 := by
  unfold leapP
  rw [tmod0]
  omega
theorem leap_gre {y : Int} : leapP 1 y ↔ (y % 4 = 0 ∧ ¬ y % 100 = 0) ∨ y % 400 = 0 := by
  unfold leapP
  rw [tmod0, tmod0, tmod0]
  omega

def tab12 : List Int := [31, 28, 31, 30, 31, 30, 31, 31, 30, 31, 30, 31]
/-- The days of a month. -/
def monthDays (c y m : Int) : Int :=
  if (c = 0 ∨ c = 1) ∧ 1 ≤ m ∧ m ≤ 12 then (if m = 2 ∧ leapP c y then 29 else tab12.getD (m - 1).toNat 0) else 0
theorem monthDays_no {c y m : Int} (h : ¬ ((c = 0 ∨ c = 1) ∧ 1 ≤ m ∧ m ≤ 12)) : monthDays c y m = 0 := by unfold monthDays; rw [if_neg h]
theorem month_cases {m : Int} (h1 : 1 ≤ m) (h2 : m ≤ 12) : m = 1 ∨ m = 2 ∨ m = 3 ∨ m = 4 ∨ m = 5 ∨ m = 6 ∨ m = 7 ∨ m = 8 ∨ m = 9 ∨ m = 10 ∨ m = 11 ∨ m = 12 := by omega
theorem monthDays_le (c y m : Int) : 0 ≤ monthDays c y m ∧ monthDays c y m ≤ 31 := by
  unfold monthDays
  split
  · rename_i h
    split
    · omega
    · rcases month_cases h.2.1 h.2.2 with rfl | rfl | rfl | rfl | rfl | rfl | rfl | rfl | rfl | rfl | rfl | rfl <;> decide
  · omega
theorem monthDays_ge {c y m : Int} (hc : c = 0 ∨ c = 1) (h1 : 1 ≤ m) (h2 : m ≤ 12) : 28 ≤ monthDays c y m := by
  unfold monthDays
  rw [if_pos ⟨hc, h1, h2⟩]
  split
  · omega
  · rcases month_cases h1 h2 with rfl | rfl | rfl | rfl | rfl | rfl | rfl | rfl | rfl | rfl | rfl | rfl <;> decide
theorem monthDays_plain {c y m : Int} (hc : c = 0 ∨ c = 1) (h1 : 1 ≤ m) (h2 : m ≤ 12) (hn : ¬ (m = 2 ∧ leapP c y)) : monthDays c y m = tab12.getD (m - 1).toNat 0 := by
  unfold monthDays
  rw [if_pos ⟨hc, h1, h2⟩, if_neg hn]
theorem monthDays_leap {c y : Int} (hc : c = 0 ∨ c = 1) (hl : leapP c y) : monthDays c y 2 = 29 := by
  unfold monthDays
  rw [if_pos ⟨hc, by omega, by omega⟩, if_pos ⟨rfl, hl⟩]

def dateP (c y m d : Int) : Prop := (c = 0 ∨ c = 1) ∧ 1 ≤ y ∧ y ≤ 3000 ∧ 1 ≤ d ∧ d ≤ monthDays c y m
instance (c y m d : Int) : Decidable (dateP c y m d) := by unfold dateP; infer_instance
def dateOk (c y m d : Int) : Bool := decide (dateP c y m d)
theorem dateP_month {c y m d : Int} (h : dateP c y m d) : 1 ≤ m ∧ m ≤ 12 := by
  obtain ⟨h1, h2, h3, h4, h5⟩ := h
  by_cases hm : 1 ≤ m ∧ m ≤ 12
  · exact hm
  · rw [monthDays_no (fun h => hm h.2)] at h5
    omega
theorem dateP_day {c y m d : Int} (h : dateP c y m d) : 1 ≤ d ∧ d ≤ 31 := by
  obtain ⟨h1, h2, h3, h4, h5⟩ := h
  have := monthDays_le c y m
  omega

/-- The days of a year ahead of its month k + 1. -/
def before (c y : Int) : Nat → Int
  | 0 => 0
  | k + 1 => before c y k + monthDays c y (k + 1 : Nat)
theorem before_bound (c y : Int) (k : Nat) : 0 ≤ before c y k ∧ before c y k ≤ 31 * k := by
  induction k with
  | zero => simp [before]
  | succ k ih =>
    have := monthDays_le c y (k + 1 : Nat)
    simp only [before]
    omega
theorem before_mono (c y : Int) (k j : Nat) : before c y k ≤ before c y (k + j) := by
  induction j with
  | zero => simp
  | succ j ih =>
    have := monthDays_le c y (k + j + 1 : Nat)
    show _ ≤ before c y (k + j) + monthDays c y (k + j + 1 : Nat)
    omega
theorem before_12 {c y : Int} (hc : c = 0 ∨ c = 1) : before c y 12 = 365 + (if leapP c y then 1 else 0) := by
  have m1 := monthDays_plain (y := y) hc (m := 1) (by omega) (by omega) (by omega)
  have m3 := monthDays_plain (y := y) hc (m := 3) (by omega) (by omega) (by omega)
  have m4 := monthDays_plain (y := y) hc (m := 4) (by omega) (by omega) (by omega)
  have m5 := monthDays_plain (y := y) hc (m := 5) (by omega) (by omega) (by omega)
  have m6 := monthDays_plain (y := y) hc (m := 6) (by omega) (by omega) (by omega)
  have m7 := monthDays_plain (y := y) hc (m := 7) (by omega) (by omega) (by omega)
  have m8 := monthDays_plain (y := y) hc (m := 8) (by omega) (by omega) (by omega)
  have m9 := monthDays_plain (y := y) hc (m := 9) (by omega) (by omega) (by omega)
  have m10 := monthDays_plain (y := y) hc (m := 10) (by omega) (by omega) (by omega)
  have m11 := monthDays_plain (y := y) hc (m := 11) (by omega) (by omega) (by omega)
  have m12 := monthDays_plain (y := y) hc (m := 12) (by omega) (by omega) (by omega)
  by_cases hl : leapP c y
  · have m2 := monthDays_leap hc hl
    simp [before, m1, m2, m3, m4, m5, m6, m7, m8, m9, m10, m11, m12, hl, tab12]
  · have m2 := monthDays_plain (y := y) hc (m := 2) (by omega) (by omega) (fun h => hl h.2)
    simp [before, m1, m2, m3, m4, m5, m6, m7, m8, m9, m10, m11, m12, hl, tab12]

/-- The day of 1 January of a year. -/
def first (c y : Int) : Int := 365 * (y - 1) + (y - 1) / 4 + (if c = 0 then -1 else (y - 1) / 400 - (y - 1) / 100 + 1)
theorem first_jul (y : Int) : first 0 y = 365 * (y - 1) + (y - 1) / 4 - 1 := by unfold first; rw [if_pos rfl]; omega
theorem first_gre (y : Int) : first 1 y = 365 * (y - 1) + (y - 1) / 4 - (y - 1) / 100 + (y - 1) / 400 + 1 := by unfold first; rw [if_neg (by omega)]; omega
theorem first_step {c : Int} (hc : c = 0 ∨ c = 1) (y : Int) : first c (y + 1) = first c y + before c y 12 := by
  rw [before_12 hc]
  rcases hc with rfl | rfl
  · rw [first_jul, first_jul]
    by_cases h : leapP 0 y
    · rw [if_pos h]; rw [leap_jul] at h; omega
    · rw [if_neg h]; rw [leap_jul] at h; omega
  · rw [first_gre, first_gre]
    by_cases h : leapP 1 y
    · rw [if_pos h]; rw [leap_gre] at h; omega
    · rw [if_neg h]; rw [leap_gre] at h; omega
theorem first_lt {c y z : Int} (hc : c = 0 ∨ c = 1) (h : y < z) : first c y < first c z := by
  rcases hc with rfl | rfl
  · rw [first_jul, first_jul]; omega
  · rw [first_gre, first_gre]; omega
/-- One year holds a day. -/
theorem year_one {c y z n : Int} (hc : c = 0 ∨ c = 1) (h1 : first c y ≤ n) (h2 : n < first c (y + 1)) (h3 : first c z ≤ n) (h4 : n < first c (z + 1)) : y = z := by
  by_cases h : y < z
  · by_cases h' : y + 1 = z
    · subst h'; omega
    · have := first_lt hc (show y + 1 < z by omega); omega
  · by_cases h' : z < y
    · by_cases h'' : z + 1 = y
      · subst h''; omega
      · have := first_lt hc (show z + 1 < y by omega); omega
    · omega
/-- The year that holds a day. -/
noncomputable def yearOf (c n : Int) : Int := Classical.epsilon fun y => first c y ≤ n ∧ n < first c (y + 1)
theorem yearOf_eq {c y n : Int} (hc : c = 0 ∨ c = 1) (h1 : first c y ≤ n) (h2 : n < first c (y + 1)) : yearOf c n = y := by
  have h := Classical.epsilon_spec (p := fun y => first c y ≤ n ∧ n < first c (y + 1)) ⟨y, h1, h2⟩
  exact year_one hc h.1 h.2 h1 h2
theorem month_one {c y n : Int} {k j : Nat} (h1 : before c y k ≤ n) (h2 : n < before c y (k + 1)) (h3 : before c y j ≤ n) (h4 : n < before c y (j + 1)) : k = j := by
  by_cases h : k < j
  · have := before_mono c y (k + 1) (j - (k + 1))
    rw [show k + 1 + (j - (k + 1)) = j from by omega] at this
    omega
  · by_cases h' : j < k
    · have := before_mono c y (j + 1) (k - (j + 1))
      rw [show j + 1 + (k - (j + 1)) = k from by omega] at this
      omega
    · omega
/-- The month (less one) that holds a day of its year. -/
noncomputable def monthOf (c y n : Int) : Nat := Classical.epsilon fun k => before c y k ≤ n ∧ n < before c y (k + 1)
theorem monthOf_eq {c y n : Int} {k : Nat} (h1 : before c y k ≤ n) (h2 : n < before c y (k + 1)) : monthOf c y n = k := by
  have h := Classical.epsilon_spec (p := fun k => before c y k ≤ n ∧ n < before c y (k + 1)) ⟨k, h1, h2⟩
  exact month_one h.1 h.2 h1 h2

/-- The day of a date. -/
def dayOf (c y m d : Int) : Int := if dateP c y m d then first c y + before c y (m - 1).toNat + d - 1 else 0
def dayInYear (c y m d : Int) : Int := if dateP c y m d then before c y (m - 1).toNat + d else 0
theorem first_bound {c y : Int} (hc : c = 0 ∨ c = 1) (h1 : -5 ≤ y) (h2 : y ≤ 4000) : -2800 ≤ first c y ∧ first c y ≤ 1470000 := by
  rcases hc with rfl | rfl
  · rw [first_jul]; omega
  · rw [first_gre]; omega
theorem dayOf_bound (c y m d : Int) : -2800 ≤ dayOf c y m d ∧ dayOf c y m d ≤ 1500000 := by
  unfold dayOf
  split
  · rename_i h
    have h1 := first_bound h.1 (show -5 ≤ y by have := h.2.1; omega) (show y ≤ 4000 by have := h.2.2.1; omega)
    have h2 := before_bound c y (m - 1).toNat
    have h3 := dateP_month h
    have h4 := dateP_day h
    omega
  · omega
/-- The date of a day: none, or its year, month and day. -/
noncomputable def dateOf (c n : Int) : Int × Int × Int × Int × Bool :=
  if (c = 0 ∨ c = 1) ∧ 1 ≤ yearOf c n ∧ yearOf c n ≤ 3000 ∧ -1000 ≤ n ∧ n ≤ 1200000 then
    (c, yearOf c n, (monthOf c (yearOf c n) (n - first c (yearOf c n)) : Int) + 1, n - first c (yearOf c n) - before c (yearOf c n) (monthOf c (yearOf c n) (n - first c (yearOf c n))) + 1, true)
  else (0, 0, 0, 0, false)

/-- FloorDiv by a number above 0, of numbers that are not great. -/
theorem floorDiv_small {a b : Int} (hb : 0 < b) (h1 : -4611686018427387904 ≤ a) (h2 : a ≤ 4611686018427387904) : floorDiv a b = a / b := by
  have hd := Int.mul_tdiv_add_tmod a b
  have he := Int.mul_ediv_add_emod a b
  have he1 := Int.emod_nonneg a (show b ≠ 0 by omega)
  have he2 := Int.emod_lt_of_pos a hb
  have hq : (a.tdiv b).natAbs ≤ a.natAbs := by rw [Int.natAbs_tdiv]; exact Nat.div_le_self _ _
  have hr : a.tmod b < b := Int.tmod_lt_of_pos a hb
  have hl : -b < a.tmod b := by
    have := Int.tmod_lt_of_pos (-a) hb
    rw [Int.neg_tmod] at this
    omega
  unfold floorDiv
  rw [if_neg (by omega), in_range (a.tdiv b) (by omega)]
  by_cases h : a.tmod b < 0
  · rw [if_pos h, in_range _ (by omega)]
    apply Int.le_antisymm
    · rw [Int.le_ediv_iff_mul_le hb, Int.sub_mul, Int.mul_comm]; omega
    · have : a / b < a.tdiv b - 1 + 1 := by
        apply Int.ediv_lt_of_lt_mul hb
        rw [show a.tdiv b - 1 + 1 = a.tdiv b by omega, Int.mul_comm]; omega
      omega
  · rw [if_neg h]
    apply Int.le_antisymm
    · rw [Int.le_ediv_iff_mul_le hb, Int.mul_comm]; omega
    · have : a / b < a.tdiv b + 1 := by
        apply Int.ediv_lt_of_lt_mul hb
        rw [Int.add_mul, Int.mul_comm]; omega
      omega
end Go.Proofs.YtaakgidndjoocaaGreatDoor.ctr

namespace Go.Proofs.YtaakgidndjoocaaGreatDoor.ctr
open Go.RowKit

theorem specCal (c : Int) (w : World) : Calls Tryz.prog 106 #[.int .i64 c] w fun e w' => e = .returned (.bool (calB c)) ∧ w' = w := by
  by_cases h0 : c = 0
  · subst h0
    go_enter Tryz.func106, Tryz.ntmps106
    go_wp2
    go_ret
    exact ⟨by first | rfl | exact ret_bool (by simp [*]), rfl⟩
  by_cases h1 : c = 1
  · subst h1
    go_enter Tryz.func106, Tryz.ntmps106
    go_wp2
    go_ret
    exact ⟨by first | rfl | exact ret_bool (by simp [*]), rfl⟩
  rw [calB_no (by omega)]
  go_enter Tryz.func106, Tryz.ntmps106
  go_wp2
  go_ret
  exact ⟨by first | rfl | exact ret_bool (by simp [*]), rfl⟩

theorem leapB_true {c y : Int} (h : leapP c y) : leapB c y = true := decide_eq_true h
theorem leapB_false {c y : Int} (h : ¬ leapP c y) : leapB c y = false := decide_eq_false h

theorem specLeap (c y : Int) (w : World) : Calls Tryz.prog 158 #[.int .i64 c, .int .i64 y] w fun e w' => e = .returned (.bool (leapB c y)) ∧ w' = w := by
  by_cases h0 : c = 0
  · subst h0
    by_cases h4 : y.tmod 4 = 0
    · rw [leapB_true (.inl ⟨rfl, h4⟩)]
      go_enter Tryz.func158, Tryz.ntmps158
      go_wp2
      go_ret
      exact ⟨by first | rfl | exact ret_bool (by simp [*]), rfl⟩
    · rw [leapB_false (by unfold leapP; omega)]
      go_enter Tryz.func158, Tryz.ntmps158
      go_wp2
      go_ret
      exact ⟨by first | rfl | exact ret_bool (by simp [*]), rfl⟩
  by_cases h1 : c = 1
  · subst h1
    by_cases h4 : y.tmod 4 = 0
    · by_cases h100 : y.tmod 100 = 0
      · by_cases h400 : y.tmod 400 = 0
        · rw [leapB_true (.inr ⟨rfl, .inr h400⟩)]
          go_enter Tryz.func158, Tryz.ntmps158
          go_wp2
          go_ret
          exact ⟨by first | rfl | exact ret_bool (by simp [*]), rfl⟩
        · rw [leapB_false (by unfold leapP; omega)]
          go_enter Tryz.func158, Tryz.ntmps158
          go_wp2
          go_ret
          exact ⟨by first | rfl | exact ret_bool (by simp [*]), rfl⟩
      · rw [leapB_true (.inr ⟨rfl, .inl ⟨h4, h100⟩⟩)]
        go_enter Tryz.func158, Tryz.ntmps158
        go_wp2
        go_ret
        exact ⟨by first | rfl | exact ret_bool (by simp [*]), rfl⟩
    · have h400 : ¬ y.tmod 400 = 0 := fun h => h4 (tmod_four h)
      rw [leapB_false (by unfold leapP; omega)]
      go_enter Tryz.func158, Tryz.ntmps158
      go_wp2
      go_ret
      exact ⟨by first | rfl | exact ret_bool (by simp [*]), rfl⟩
  rw [leapB_false (by unfold leapP; omega)]
  go_enter Tryz.func158, Tryz.ntmps158
  go_wp2
  go_ret
  exact ⟨by first | rfl | exact ret_bool (by simp [*]), rfl⟩


theorem implCal0 (w : World) : Calls Tryz.prog 124 #[.int .i64 0] w fun e w' => e = .returned (.iface 200 (.agg #[])) ∧ w' = w := by
  go_enter Tryz.func124, Tryz.ntmps124
  go_wp2
  go_ret
  exact ⟨rfl, rfl⟩
theorem implCal1 (w : World) : Calls Tryz.prog 124 #[.int .i64 1] w fun e w' => e = .returned (.iface 201 (.agg #[])) ∧ w' = w := by
  go_enter Tryz.func124, Tryz.ntmps124
  go_wp2
  go_ret
  exact ⟨rfl, rfl⟩
theorem implCalNo (c : Int) (h0 : ¬ c = 0) (h1 : ¬ c = 1) (w : World) : Calls Tryz.prog 124 #[.int .i64 c] w fun e w' => e = .returned .nilIface ∧ w' = w := by
  go_enter Tryz.func124, Tryz.ntmps124
  go_wp2
  go_ret
  exact ⟨rfl, rfl⟩

/- What a type switch asks of a calendar: closed facts over the program's tables. -/
theorem isJulJul (w : World) : (Instr.typeAssert (.iface 200 (.agg #[])) 144 200 true).run Tryz.prog w = .ok (.tuple #[.agg #[], .bool true]) w := by kernel_rfl
theorem isJulGre (w : World) : (Instr.typeAssert (.iface 201 (.agg #[])) 144 200 true).run Tryz.prog w = .ok (.tuple #[.agg #[], .bool false]) w := by kernel_rfl
theorem isGreGre (w : World) : (Instr.typeAssert (.iface 201 (.agg #[])) 144 201 true).run Tryz.prog w = .ok (.tuple #[.agg #[], .bool true]) w := by kernel_rfl
theorem isJulNil (w : World) : (Instr.typeAssert .nilIface 144 200 true).run Tryz.prog w = .ok (.tuple #[.agg #[], .bool false]) w := by kernel_rfl
theorem isGreNil (w : World) : (Instr.typeAssert .nilIface 144 201 true).run Tryz.prog w = .ok (.tuple #[.agg #[], .bool false]) w := by kernel_rfl

theorem leapJul (y : Int) (w : World) : Calls Tryz.prog 356 #[.agg #[], .int .i64 y] w fun e w' => e = .returned (.bool (leapB 0 y)) ∧ Below w.heap.size w w' := by
  have h : leapB 0 y = (y.tmod 4 == 0) := by
    by_cases h : y.tmod 4 = 0
    · rw [leapB_true (.inl ⟨rfl, h⟩), h]; rfl
    · rw [leapB_false (by unfold leapP; omega)]; simp [h]
  rw [h]
  clear h
  go_enter Tryz.func356, Tryz.ntmps356
  go_wp2
  go_ret
  exact ⟨rfl, (Below.refl _ _).alloc (Nat.le_refl _) _⟩
theorem leapGre (y : Int) (w : World) : Calls Tryz.prog 358 #[.agg #[], .int .i64 y] w fun e w' => e = .returned (.bool (leapB 1 y)) ∧ Below w.heap.size w w' := by
  by_cases h4 : y.tmod 4 = 0
  · by_cases h100 : y.tmod 100 = 0
    · by_cases h400 : y.tmod 400 = 0
      · rw [leapB_true (.inr ⟨rfl, .inr h400⟩)]
        go_enter Tryz.func358, Tryz.ntmps358
        go_wp2
        go_ret
        exact ⟨by first | rfl | exact ret_bool (by simp [*]), (Below.refl _ _).alloc (Nat.le_refl _) _⟩
      · rw [leapB_false (by unfold leapP; omega)]
        go_enter Tryz.func358, Tryz.ntmps358
        go_wp2
        go_ret
        exact ⟨by first | rfl | exact ret_bool (by simp [*]), (Below.refl _ _).alloc (Nat.le_refl _) _⟩
    · rw [leapB_true (.inr ⟨rfl, .inl ⟨h4, h100⟩⟩)]
      go_enter Tryz.func358, Tryz.ntmps358
      go_wp2
      go_ret
      exact ⟨by first | rfl | exact ret_bool (by simp [*]), (Below.refl _ _).alloc (Nat.le_refl _) _⟩
  · have h400 : ¬ y.tmod 400 = 0 := fun h => h4 (tmod_four h)
    rw [leapB_false (by unfold leapP; omega)]
    go_enter Tryz.func358, Tryz.ntmps358
    go_wp2
    go_ret
    exact ⟨by first | rfl | exact ret_bool (by simp [*]), (Below.refl _ _).alloc (Nat.le_refl _) _⟩

theorem implLeap (c y : Int) (w : World) : Calls Tryz.prog 206 #[.int .i64 c, .int .i64 y] w fun e w' => e = .returned (.bool (leapB c y)) ∧ Below w.heap.size w w' := by
  by_cases h0 : c = 0
  · subst h0
    go_enter Tryz.func206, Tryz.ntmps206
    go_wp2_with fail
    refine (implCal0 _).mono ?_
    rintro e w1 ⟨rfl, rfl⟩
    go_wp2_with (go_at_call 356; refine (leapJul _ _).mono ?_; rintro e w1 ⟨rfl, hb⟩)
    go_ret
    exact ⟨rfl, hb⟩
  by_cases h1 : c = 1
  · subst h1
    go_enter Tryz.func206, Tryz.ntmps206
    go_wp2_with fail
    refine (implCal1 _).mono ?_
    rintro e w1 ⟨rfl, rfl⟩
    go_wp2_with (go_at_call 358; refine (leapGre _ _).mono ?_; rintro e w1 ⟨rfl, hb⟩)
    go_ret
    exact ⟨rfl, hb⟩
  rw [leapB_false (by unfold leapP; omega)]
  go_enter Tryz.func206, Tryz.ntmps206
  go_wp2_with fail
  refine (implCalNo _ h0 h1 _).mono ?_
  rintro e w1 ⟨rfl, rfl⟩
  go_wp2
  go_ret
  exact ⟨rfl, Below.refl _ _⟩

def calText (c : Int) : ByteArray := if c = 0 then ⟨#[106, 117, 108]⟩ else if c = 1 then ⟨#[103, 114, 101]⟩ else ⟨#[]⟩
theorem specCalName (c : Int) (w : World) : Calls Tryz.prog 178 #[.int .i64 c] w fun e w' => e = .returned (.string (calText c)) ∧ w' = w := by
  by_cases h0 : c = 0
  · subst h0
    go_enter Tryz.func178, Tryz.ntmps178
    go_wp2
    go_ret
    exact ⟨rfl, rfl⟩
  by_cases h1 : c = 1
  · subst h1
    go_enter Tryz.func178, Tryz.ntmps178
    go_wp2
    go_ret
    exact ⟨rfl, rfl⟩
  rw [show calText c = ⟨#[]⟩ from by unfold calText; rw [if_neg h0, if_neg h1]]
  go_enter Tryz.func178, Tryz.ntmps178
  go_wp2
  go_ret
  exact ⟨rfl, rfl⟩
theorem implCalName (c : Int) (w : World) : Calls Tryz.prog 194 #[.int .i64 c] w fun e w' => e = .returned (.string (calText c)) ∧ w' = w := by
  by_cases h0 : c = 0
  · subst h0
    go_enter Tryz.func194, Tryz.ntmps194
    go_wp2_with fail
    refine (implCal0 _).mono ?_
    rintro e w1 ⟨rfl, rfl⟩
    have q1 := isJulJul
    go_wp2
    go_ret
    exact ⟨rfl, rfl⟩
  by_cases h1 : c = 1
  · subst h1
    go_enter Tryz.func194, Tryz.ntmps194
    go_wp2_with fail
    refine (implCal1 _).mono ?_
    rintro e w1 ⟨rfl, rfl⟩
    have q1 := isJulGre
    have q2 := isGreGre
    go_wp2
    go_ret
    exact ⟨rfl, rfl⟩
  rw [show calText c = ⟨#[]⟩ from by unfold calText; rw [if_neg h0, if_neg h1]]
  go_enter Tryz.func194, Tryz.ntmps194
  go_wp2_with fail
  refine (implCalNo _ h0 h1 _).mono ?_
  rintro e w1 ⟨rfl, rfl⟩
  have q1 := isJulNil
  have q2 := isGreNil
  go_wp2
  go_ret
  exact ⟨rfl, rfl⟩
end Go.Proofs.YtaakgidndjoocaaGreatDoor.ctr

namespace Go.Proofs.YtaakgidndjoocaaGreatDoor.ctr
open Go.RowKit

set_option maxHeartbeats 2000000 in
theorem specMonthDays (c y m : Int) (w : World) : Calls Tryz.prog 108 #[.int .i64 c, .int .i64 y, .int .i64 m] w fun e w' => e = .returned (.int .i64 (monthDays c y m)) ∧ Below w.heap.size w w' := by
  by_cases hc : c = 0 ∨ c = 1
  · have hC : calB c = true := calB_iff.2 hc
    by_cases hm : 1 ≤ m ∧ m ≤ 12
    · have hI : inB m 1 12 = true := inB_true hm.1 hm.2
      by_cases h2 : m = 2
      · subst h2
        by_cases hl : leapP c y
        · rw [monthDays_leap hc hl]
          have hL := leapB_true hl
          clear hl hc hm
          go_enter Tryz.func108, Tryz.ntmps108
          go_wp2_with fail
          refine (specCal _ _).mono ?_
          rintro e w1 ⟨rfl, rfl⟩
          rw [hC]
          go_wp2_with fail
          refine (l01In _ _ _ _).mono ?_
          rintro e w1 ⟨rfl, rfl⟩
          rw [hI]
          go_wp2_with fail
          refine (specLeap _ _ _).mono ?_
          rintro e w1 ⟨rfl, rfl⟩
          rw [hL]
          go_wp2
          go_ret
          exact ⟨rfl, Below.refl _ _⟩
        · have hL := leapB_false hl
          rw [monthDays_plain hc hm.1 hm.2 (fun h => hl h.2)]
          clear hl hc hm
          go_enter Tryz.func108, Tryz.ntmps108
          go_wp2_with fail
          refine (specCal _ _).mono ?_
          rintro e w1 ⟨rfl, rfl⟩
          rw [hC]
          go_wp2_with fail
          refine (l01In _ _ _ _).mono ?_
          rintro e w1 ⟨rfl, rfl⟩
          rw [hI]
          go_wp2_with fail
          refine (specLeap _ _ _).mono ?_
          rintro e w1 ⟨rfl, rfl⟩
          rw [hL]
          go_wp2
          go_ret
          exact ⟨rfl, (Below.refl _ _).alloc (Nat.le_refl _) _⟩
      · rw [monthDays_plain hc hm.1 hm.2 (fun h => h2 h.1)]
        have hm1 := hm.1
        have hm2 := hm.2
        clear hm hc
        rcases month_cases hm1 hm2 with rfl | rfl | rfl | rfl | rfl | rfl | rfl | rfl | rfl | rfl | rfl | rfl
        all_goals first
          | exact absurd rfl h2
          | (clear hm1 hm2 h2
             go_enter Tryz.func108, Tryz.ntmps108
             go_wp2_with fail
             refine (specCal _ _).mono ?_
             rintro e w1 ⟨rfl, rfl⟩
             rw [hC]
             go_wp2_with fail
             refine (l01In _ _ _ _).mono ?_
             rintro e w1 ⟨rfl, rfl⟩
             rw [hI]
             go_wp2
             go_ret
             exact ⟨rfl, (Below.refl _ _).alloc (Nat.le_refl _) _⟩)
    · have hI : inB m 1 12 = false := inB_false (by omega)
      rw [monthDays_no (fun h => hm h.2)]
      go_enter Tryz.func108, Tryz.ntmps108
      go_wp2_with fail
      refine (specCal _ _).mono ?_
      rintro e w1 ⟨rfl, rfl⟩
      rw [hC]
      go_wp2_with fail
      refine (l01In _ _ _ _).mono ?_
      rintro e w1 ⟨rfl, rfl⟩
      rw [hI]
      go_wp2
      go_ret
      exact ⟨rfl, Below.refl _ _⟩
  · have hC : calB c = false := calB_no hc
    rw [monthDays_no (fun h => hc h.1)]
    go_enter Tryz.func108, Tryz.ntmps108
    go_wp2_with fail
    refine (specCal _ _).mono ?_
    rintro e w1 ⟨rfl, rfl⟩
    rw [hC]
    go_wp2
    go_ret
    exact ⟨rfl, Below.refl _ _⟩

end Go.Proofs.YtaakgidndjoocaaGreatDoor.ctr

namespace Go.Proofs.YtaakgidndjoocaaGreatDoor.ctr
open Go.RowKit

def calT (c : Int) : TypeId := if c = 0 then 200 else 201
theorem implCal (c : Int) (h : c = 0 ∨ c = 1) (w : World) : Calls Tryz.prog 124 #[.int .i64 c] w fun e w' => e = .returned (.iface (calT c) (.agg #[])) ∧ w' = w := by
  rcases h with rfl | rfl
  · exact implCal0 w
  · exact implCal1 w
abbrev Tab (w : World) : Prop := Lib.TabIs Tryz.prog w "loop.example/g00638/impl.monthLengths" .i64 tab12
theorem tabCell {w : World} (h : Tab w) (i : Nat) (hi : i < 12) : w.cell? ⟨1, i, none⟩ = some (.int .i64 (tab12.getD i 0)) :=
  h.cell (by kernel_rfl) i hi
theorem Tab.later {w w1 : World} (h : Tab w) (hb : Below w.heap.size w w1) : Tab w1 := kit.tab_below h hb (g := 1) (by kernel_rfl)

set_option maxHeartbeats 2000000 in
theorem implMonthDays (c y m : Int) (w : World) (hT : Tab w) : Calls Tryz.prog 152 #[.int .i64 c, .int .i64 y, .int .i64 m] w fun e w' => e = .returned (.int .i64 (monthDays c y m)) ∧ Below w.heap.size w w' := by
  by_cases hc : c = 0 ∨ c = 1
  · have KC := fun W => implCal c hc W
    by_cases h1 : m < 1
    · rw [monthDays_no (by omega)]
      clear hT hc
      go_enter Tryz.func152, Tryz.ntmps152
      go_wp2_with (go_at_call 124; refine (KC _).mono ?_; rintro e w1 ⟨rfl, rfl⟩)
      go_ret
      exact ⟨rfl, Below.refl _ _⟩
    by_cases h2 : 12 < m
    · rw [monthDays_no (by omega)]
      clear hT hc
      go_enter Tryz.func152, Tryz.ntmps152
      go_wp2_with (go_at_call 124; refine (KC _).mono ?_; rintro e w1 ⟨rfl, rfl⟩)
      go_ret
      exact ⟨rfl, Below.refl _ _⟩
    by_cases hm : m = 2
    · subst hm
      have hL : ∀ W, Calls Tryz.prog 206 #[.int .i64 c, .int .i64 y] W fun e w' => e = .returned (.bool (leapB c y)) ∧ Below W.heap.size W w' := implLeap c y
      have c1 : ∀ x : Later w, x.w.cell? ⟨1, 1, none⟩ = some (.int .i64 28) := Later.at (tabCell hT 1 (by omega))
      by_cases hl : leapP c y
      · rw [leapB_true hl] at hL
        rw [monthDays_leap hc hl]
        clear hT hc hl
        go_enter Tryz.func152, Tryz.ntmps152
        go_wp2_with (first | (go_at_call 124; refine (KC _).mono ?_; rintro e w1 ⟨rfl, rfl⟩) | (go_at_call 206; refine (hL _).mono ?_; rintro e w2 ⟨rfl, hb⟩; obtain ⟨x, rfl⟩ := Later.of hb))
        go_ret
        exact ⟨rfl, x.below⟩
      · rw [leapB_false hl] at hL
        rw [monthDays_plain hc (by omega) (by omega) (fun h => hl h.2)]
        clear hT hc hl
        go_enter Tryz.func152, Tryz.ntmps152
        go_wp2_with (first | (go_at_call 124; refine (KC _).mono ?_; rintro e w1 ⟨rfl, rfl⟩) | (go_at_call 206; refine (hL _).mono ?_; rintro e w2 ⟨rfl, hb⟩; obtain ⟨x, rfl⟩ := Later.of hb))
        go_ret
        exact ⟨rfl, x.below⟩
    rw [monthDays_plain hc (by omega) (by omega) (fun h => hm h.1)]
    clear hc
    rcases month_cases (m := m) (by omega) (by omega) with rfl | rfl | rfl | rfl | rfl | rfl | rfl | rfl | rfl | rfl | rfl | rfl
    · have c1 := tabCell hT 0 (by omega)
      clear hT h1 h2 hm
      go_enter Tryz.func152, Tryz.ntmps152
      go_wp2_with (go_at_call 124; refine (KC _).mono ?_; rintro e w1 ⟨rfl, rfl⟩)
      go_ret
      exact ⟨rfl, Below.refl _ _⟩
    · exact absurd rfl hm
    · have c1 := tabCell hT 2 (by omega)
      clear hT h1 h2 hm
      go_enter Tryz.func152, Tryz.ntmps152
      go_wp2_with (go_at_call 124; refine (KC _).mono ?_; rintro e w1 ⟨rfl, rfl⟩)
      go_ret
      exact ⟨rfl, Below.refl _ _⟩
    · have c1 := tabCell hT 3 (by omega)
      clear hT h1 h2 hm
      go_enter Tryz.func152, Tryz.ntmps152
      go_wp2_with (go_at_call 124; refine (KC _).mono ?_; rintro e w1 ⟨rfl, rfl⟩)
      go_ret
      exact ⟨rfl, Below.refl _ _⟩
    · have c1 := tabCell hT 4 (by omega)
      clear hT h1 h2 hm
      go_enter Tryz.func152, Tryz.ntmps152
      go_wp2_with (go_at_call 124; refine (KC _).mono ?_; rintro e w1 ⟨rfl, rfl⟩)
      go_ret
      exact ⟨rfl, Below.refl _ _⟩
    · have c1 := tabCell hT 5 (by omega)
      clear hT h1 h2 hm
      go_enter Tryz.func152, Tryz.ntmps152
      go_wp2_with (go_at_call 124; refine (KC _).mono ?_; rintro e w1 ⟨rfl, rfl⟩)
      go_ret
      exact ⟨rfl, Below.refl _ _⟩
    · have c1 := tabCell hT 6 (by omega)
      clear hT h1 h2 hm
      go_enter Tryz.func152, Tryz.ntmps152
      go_wp2_with (go_at_call 124; refine (KC _).mono ?_; rintro e w1 ⟨rfl, rfl⟩)
      go_ret
      exact ⟨rfl, Below.refl _ _⟩
    · have c1 := tabCell hT 7 (by omega)
      clear hT h1 h2 hm
      go_enter Tryz.func152, Tryz.ntmps152
      go_wp2_with (go_at_call 124; refine (KC _).mono ?_; rintro e w1 ⟨rfl, rfl⟩)
      go_ret
      exact ⟨rfl, Below.refl _ _⟩
    · have c1 := tabCell hT 8 (by omega)
      clear hT h1 h2 hm
      go_enter Tryz.func152, Tryz.ntmps152
      go_wp2_with (go_at_call 124; refine (KC _).mono ?_; rintro e w1 ⟨rfl, rfl⟩)
      go_ret
      exact ⟨rfl, Below.refl _ _⟩
    · have c1 := tabCell hT 9 (by omega)
      clear hT h1 h2 hm
      go_enter Tryz.func152, Tryz.ntmps152
      go_wp2_with (go_at_call 124; refine (KC _).mono ?_; rintro e w1 ⟨rfl, rfl⟩)
      go_ret
      exact ⟨rfl, Below.refl _ _⟩
    · have c1 := tabCell hT 10 (by omega)
      clear hT h1 h2 hm
      go_enter Tryz.func152, Tryz.ntmps152
      go_wp2_with (go_at_call 124; refine (KC _).mono ?_; rintro e w1 ⟨rfl, rfl⟩)
      go_ret
      exact ⟨rfl, Below.refl _ _⟩
    · have c1 := tabCell hT 11 (by omega)
      clear hT h1 h2 hm
      go_enter Tryz.func152, Tryz.ntmps152
      go_wp2_with (go_at_call 124; refine (KC _).mono ?_; rintro e w1 ⟨rfl, rfl⟩)
      go_ret
      exact ⟨rfl, Below.refl _ _⟩
  rw [monthDays_no (fun h => hc h.1)]
  clear hT
  go_enter Tryz.func152, Tryz.ntmps152
  go_wp2_with (go_at_call 124; refine (implCalNo c (by omega) (by omega) _).mono ?_; rintro e w1 ⟨rfl, rfl⟩)
  go_ret
  exact ⟨rfl, Below.refl _ _⟩
end Go.Proofs.YtaakgidndjoocaaGreatDoor.ctr

namespace Go.Proofs.YtaakgidndjoocaaGreatDoor.ctr
open Go.RowKit

theorem dateOk_true {c y m d : Int} (h : dateP c y m d) : dateOk c y m d = true := decide_eq_true h
theorem dateOk_false {c y m d : Int} (h : ¬ dateP c y m d) : dateOk c y m d = false := decide_eq_false h

set_option maxHeartbeats 400000 in
theorem specDateOk (c y m d : Int) (w : World) : Calls Tryz.prog 52 #[.agg #[.int .i64 c, .int .i64 y, .int .i64 m, .int .i64 d]] w fun e w' => e = .returned (.bool (dateOk c y m d)) ∧ Below w.heap.size w w' := by
  have hD : dateOk c y m d = (calB c && (inB y 1 3000 && inB d 1 (monthDays c y m))) := by
    by_cases hc : c = 0 ∨ c = 1
    · rw [calB_iff.2 hc]
      by_cases hp : dateP c y m d
      · rw [dateOk_true hp, inB_true hp.2.1 hp.2.2.1, inB_true hp.2.2.2.1 hp.2.2.2.2]; rfl
      · rw [dateOk_false hp]
        by_cases hy : 1 ≤ y ∧ y ≤ 3000
        · rw [inB_true hy.1 hy.2, inB_false (x := d)]; rfl
          by_cases h1 : d < 1
          · exact .inl h1
          · refine .inr ?_
            by_cases h2 : monthDays c y m < d
            · exact h2
            · exact absurd ⟨hc, hy.1, hy.2, by omega, by omega⟩ hp
        · rw [inB_false (x := y) (by omega)]; rfl
    · rw [calB_no hc, dateOk_false (fun h => hc h.1)]; rfl
  rw [hD]
  clear hD
  cases hC : calB c
  · have KC : ∀ W, Calls Tryz.prog 106 #[.int .i64 c] W fun e w' => e = .returned (.bool false) ∧ w' = W := fun W => by rw [← hC]; exact specCal c W
    go_enter Tryz.func52, Tryz.ntmps52
    go_wp2
    go_quiet ((go_at_call 106; exact Calls.quiet_of_same (KC _)))
    go_wp2
    go_ret
    exact ⟨rfl, Below_drewN ((Below.refl _ _).alloc (Nat.le_refl _) _) _⟩
  have KC : ∀ W, Calls Tryz.prog 106 #[.int .i64 c] W fun e w' => e = .returned (.bool true) ∧ w' = W := fun W => by rw [← hC]; exact specCal c W
  cases hY : inB y 1 3000
  · have KY : ∀ W, Calls Tryz.prog 107 #[.int .i64 y, .int .i64 1, .int .i64 3000] W fun e w' => e = .returned (.bool false) ∧ w' = W := fun W => by rw [← hY]; exact l01In y 1 3000 W
    go_enter Tryz.func52, Tryz.ntmps52
    go_wp2
    go_quiet (first | (go_at_call 106; exact Calls.quiet_of_same (KC _)) | (go_at_call 107; exact Calls.quiet_of_same (KY _)))
    go_wp2
    go_ret
    exact ⟨rfl, Below_drewN ((Below.refl _ _).alloc (Nat.le_refl _) _) _⟩
  have KY : ∀ W, Calls Tryz.prog 107 #[.int .i64 y, .int .i64 1, .int .i64 3000] W fun e w' => e = .returned (.bool true) ∧ w' = W := fun W => by rw [← hY]; exact l01In y 1 3000 W
  have W0 : ∃ W0, W0 = w.alloc (.cells #[.int .i64 c, .int .i64 y, .int .i64 m, .int .i64 d] 85) := ⟨_, rfl⟩
  obtain ⟨W0, hW0⟩ := W0
  have c0 : ∀ x : Later W0, x.w.cell? ⟨w.heap.size, 0, none⟩ = some (.int .i64 c) := Later.new hW0 0 rfl
  have c1 : ∀ x : Later W0, x.w.cell? ⟨w.heap.size, 1, none⟩ = some (.int .i64 y) := Later.new hW0 1 rfl
  have c2 : ∀ x : Later W0, x.w.cell? ⟨w.heap.size, 2, none⟩ = some (.int .i64 m) := Later.new hW0 2 rfl
  have c3 : ∀ x : Later W0, x.w.cell? ⟨w.heap.size, 3, none⟩ = some (.int .i64 d) := Later.new hW0 3 rfl
  have HW0 : Hid (W0 = _) := hW0
  clear hW0
  have KM : ∀ W, Calls Tryz.prog 108 #[.int .i64 c, .int .i64 y, .int .i64 m] W fun e w' => e = .returned (.int .i64 (monthDays c y m)) ∧ Below W.heap.size W w' := specMonthDays c y m
  have KD : ∀ W, Calls Tryz.prog 107 #[.int .i64 d, .int .i64 1, .int .i64 (monthDays c y m)] W fun e w' => e = .returned (.bool (inB d 1 (monthDays c y m))) ∧ w' = W := l01In d 1 (monthDays c y m)
  clear hC hY
  generalize inB d 1 (monthDays c y m) = bd at *
  generalize monthDays c y m = md at *
  go_enter Tryz.func52, Tryz.ntmps52
  go_wp2
  rw [← HW0.out]
  refine wp_region_later (W := W0) (Below.refl _ _) (by kernel_rfl) (by kernel_rfl) ?_
  repeat (go_big_quiet_step (first | (go_at_call 106; exact calls_same (KC _)) | (go_at_call_of 107 y; exact calls_same (KY _)) | (go_at_call_of 107 d; exact calls_same (KD _)) | (go_at_call 108; exact calls_later (KM _))))
  refine wpQuiet_nil ?_
  intro _ hw'
  obtain ⟨x, rfl⟩ := hw'
  go_wp2
  go_ret
  exact ⟨rfl, below_of_alloc HW0.out x.below⟩
end Go.Proofs.YtaakgidndjoocaaGreatDoor.ctr

namespace Go.Proofs.YtaakgidndjoocaaGreatDoor.ctr
open Go.RowKit

/-- A date, as a value. -/
abbrev dateV (c y m d : Int) : Value := .agg #[.int .i64 c, .int .i64 y, .int .i64 m, .int .i64 d]
abbrev dateO (c y m d : Int) : Obj := .cells #[.int .i64 c, .int .i64 y, .int .i64 m, .int .i64 d] 85

set_option maxHeartbeats 1000000 in
theorem implDateOk (c y m d : Int) (w : World) (hT : Tab w) : Calls Tryz.prog 117 #[.agg #[.int .i64 c, .int .i64 y, .int .i64 m, .int .i64 d]] w fun e w' => e = .returned (.bool (dateOk c y m d)) ∧ Below w.heap.size w w' := by
  obtain ⟨W0, hW0⟩ : ∃ W0, W0 = w.alloc (.cells #[.int .i64 c, .int .i64 y, .int .i64 m, .int .i64 d] 85) := ⟨_, rfl⟩
  have c0 : ∀ x : Later W0, x.w.cell? ⟨w.heap.size, 0, none⟩ = some (.int .i64 c) := Later.new hW0 0 rfl
  have c1 : ∀ x : Later W0, x.w.cell? ⟨w.heap.size, 1, none⟩ = some (.int .i64 y) := Later.new hW0 1 rfl
  have c2 : ∀ x : Later W0, x.w.cell? ⟨w.heap.size, 2, none⟩ = some (.int .i64 m) := Later.new hW0 2 rfl
  have c3 : ∀ x : Later W0, x.w.cell? ⟨w.heap.size, 3, none⟩ = some (.int .i64 d) := Later.new hW0 3 rfl
  have HW0 : Hid (W0 = _) := hW0
  have KM : ∀ x : Later W0, Calls Tryz.prog 152 #[.int .i64 c, .int .i64 y, .int .i64 m] x.w fun e w' => e = .returned (.int .i64 (monthDays c y m)) ∧ Below x.w.heap.size x.w w' :=
    fun x => implMonthDays c y m x.w (hT.later (below_of_alloc HW0.out x.below))
  clear hW0 hT
  by_cases h1 : y < 1
  · rw [dateOk_false (fun h => by have := h.2.1; omega)]
    clear KM
    have g1 : decide (1 ≤ y) = false := decide_eq_false (by omega)
    go_enter Tryz.func117, Tryz.ntmps117
    go_wp2
    rw [← HW0.out]
    refine wp_region_later (W := W0) (Below.refl _ _) (by kernel_rfl) (by kernel_rfl) ?_
    repeat (go_big_quiet_step (fail))
    refine wpQuiet_nil ?_
    intro _ hw'
    obtain ⟨x, rfl⟩ := hw'
    go_wp2
    go_ret
    exact ⟨by first | rfl | exact ret_bool (by simp [*]), below_of_alloc HW0.out x.below⟩
  by_cases h2 : 3000 < y
  · rw [dateOk_false (fun h => by have := h.2.2.1; omega)]
    clear KM
    have g1 : decide (1 ≤ y) = true := decide_eq_true (by omega)
    have g2 : decide (y ≤ 3000) = false := decide_eq_false (by omega)
    go_enter Tryz.func117, Tryz.ntmps117
    go_wp2
    rw [← HW0.out]
    refine wp_region_later (W := W0) (Below.refl _ _) (by kernel_rfl) (by kernel_rfl) ?_
    repeat (go_big_quiet_step (fail))
    refine wpQuiet_nil ?_
    intro _ hw'
    obtain ⟨x, rfl⟩ := hw'
    go_wp2
    go_ret
    exact ⟨by first | rfl | exact ret_bool (by simp [*]), below_of_alloc HW0.out x.below⟩
  by_cases h3 : d < 1
  · rw [dateOk_false (fun h => by have := h.2.2.2.1; omega)]
    clear KM
    have g1 : decide (1 ≤ y) = true := decide_eq_true (by omega)
    have g2 : decide (y ≤ 3000) = true := decide_eq_true (by omega)
    have g3 : decide (1 ≤ d) = false := decide_eq_false (by omega)
    go_enter Tryz.func117, Tryz.ntmps117
    go_wp2
    rw [← HW0.out]
    refine wp_region_later (W := W0) (Below.refl _ _) (by kernel_rfl) (by kernel_rfl) ?_
    repeat (go_big_quiet_step (fail))
    refine wpQuiet_nil ?_
    intro _ hw'
    obtain ⟨x, rfl⟩ := hw'
    go_wp2
    go_ret
    exact ⟨by first | rfl | exact ret_bool (by simp [*]), below_of_alloc HW0.out x.below⟩
  have hD : dateOk c y m d = decide (d ≤ monthDays c y m) := by
    by_cases h : d ≤ monthDays c y m
    · have hc : c = 0 ∨ c = 1 := by
        by_cases hc : c = 0 ∨ c = 1
        · exact hc
        · rw [monthDays_no (fun h => hc h.1)] at h
          omega
      rw [dateOk_true ⟨hc, by omega, by omega, by omega, h⟩, decide_eq_true h]
    · rw [dateOk_false (fun k => h k.2.2.2.2), decide_eq_false h]
  rw [hD]
  clear hD
  generalize monthDays c y m = md at *
  have g1 : decide (1 ≤ y) = true := decide_eq_true (by omega)
  have g2 : decide (y ≤ 3000) = true := decide_eq_true (by omega)
  have g3 : decide (1 ≤ d) = true := decide_eq_true (by omega)
  go_enter Tryz.func117, Tryz.ntmps117
  go_wp2
  rw [← HW0.out]
  refine wp_region_later (W := W0) (Below.refl _ _) (by kernel_rfl) (by kernel_rfl) ?_
  repeat (go_big_quiet_step ((go_at_call 152; exact calls_later (KM _))))
  refine wpQuiet_nil ?_
  intro _ hw'
  obtain ⟨x, rfl⟩ := hw'
  go_wp2
  go_ret
  exact ⟨by first | rfl | exact ret_bool (by simp [*]), below_of_alloc HW0.out x.below⟩
end Go.Proofs.YtaakgidndjoocaaGreatDoor.ctr

namespace Go.Proofs.YtaakgidndjoocaaGreatDoor.ctr
open Go.RowKit

theorem before_next (c y : Int) (k : Nat) : before c y (k + 1) = before c y k + monthDays c y ((k : Int) + 1) := by
  simp [before]

set_option maxHeartbeats 400000 in
theorem specBefore (c y m : Int) (w : World) (hm : m ≤ 13) : Calls Tryz.prog 157 #[.int .i64 c, .int .i64 y, .int .i64 m] w fun e w' => e = .returned (.int .i64 (before c y (m - 1).toNat)) ∧ Below w.heap.size w w' := by
  obtain ⟨R, hR⟩ : ∃ R, R = before c y (m - 1).toNat := ⟨_, rfl⟩
  rw [← hR]
  have HR := hideP hR
  clear hR
  go_enter Tryz.func157, Tryz.ntmps157
  go_wp2
  go_loopw [7, 8] (fun n i wr => ∃ k : Nat, (k = 0 ∨ (k : Int) + 1 ≤ m) ∧ i = .int .i64 ((k : Int) + 1) ∧ n = .int .i64 (before c y k) ∧ Below w.heap.size w wr) (fun _ i _ => 14 - (intOf i).toNat)
  case atStart => exact ⟨0, by omega, rfl, rfl, Below.refl _ _⟩
  case round =>
    obtain ⟨k, hk, rfl, rfl, hb⟩ := hrel
    have h1 := before_bound c y k
    have h2 := monthDays_le c y ((k : Int) + 1)
    have HN := hideP (before_next c y k)
    have KM : ∀ W, Calls Tryz.prog 108 #[.int .i64 c, .int .i64 y, .int .i64 ((k : Int) + 1)] W fun e w' => e = .returned (.int .i64 (monthDays c y ((k : Int) + 1))) ∧ Below W.heap.size W w' := specMonthDays c y _
    generalize monthDays c y ((k : Int) + 1) = md at *
    by_cases hlt : (k : Int) + 1 < m
    · go_wp2_with (go_at_call 108; refine (KM _).mono ?_; rintro e w' ⟨rfl, hb'⟩)
      exact ⟨⟨k + 1, by omega, by go_num, by first | (rw [HN.out]; done) | (rw [HN.out]; go_num), hb.trans (hb'.mono hb.size)⟩, by simp [intOf]; omega⟩
    · have HK : Hid ((m - 1).toNat = k) := by unfold Hid; omega
      go_wp2_with fail
      go_ret
      exact ⟨ret_int (by rw [HR.out, HK.out]), hb⟩

set_option maxHeartbeats 400000 in
theorem implUpTo (c y m d : Int) (w : World) (hT : Tab w) (hm1 : 1 ≤ m) (hm2 : m ≤ 13) (hd1 : -100 ≤ d) (hd2 : d ≤ 1000) : Calls Tryz.prog 171 #[.agg #[.int .i64 c, .int .i64 y, .int .i64 m, .int .i64 d]] w fun e w' => e = .returned (.int .i64 (before c y (m - 1).toNat + d)) ∧ Below w.heap.size w w' := by
  obtain ⟨W0, hW0⟩ : ∃ W0, W0 = w.alloc (.cells #[.int .i64 c, .int .i64 y, .int .i64 m, .int .i64 d] 85) := ⟨_, rfl⟩
  have c0 : ∀ x : Later W0, x.w.cell? ⟨w.heap.size, 0, none⟩ = some (.int .i64 c) := Later.new hW0 0 rfl
  have c1 : ∀ x : Later W0, x.w.cell? ⟨w.heap.size, 1, none⟩ = some (.int .i64 y) := Later.new hW0 1 rfl
  have c2 : ∀ x : Later W0, x.w.cell? ⟨w.heap.size, 2, none⟩ = some (.int .i64 m) := Later.new hW0 2 rfl
  have c3 : ∀ x : Later W0, x.w.cell? ⟨w.heap.size, 3, none⟩ = some (.int .i64 d) := Later.new hW0 3 rfl
  have HW0 : Hid (W0 = _) := hW0
  have HT : Hid (∀ x : Later W0, Tab x.w) := fun x => hT.later (below_of_alloc HW0.out x.below)
  clear hW0 hT
  obtain ⟨R, hR⟩ : ∃ R, R = before c y (m - 1).toNat + d := ⟨_, rfl⟩
  rw [← hR]
  have HD := hideP hR
  clear hR
  obtain ⟨x0, e0⟩ : ∃ x : Later W0, W0 = x.w := ⟨⟨W0, Below.refl _ _⟩, rfl⟩
  have E0 := hideP e0
  clear e0
  go_enter Tryz.func171, Tryz.ntmps171
  go_wp2_with fail
  go_loopw [3, 4] (fun n i wr => ∃ (k : Nat) (x : Later W0), (k : Int) + 1 ≤ m ∧ i = .int .i64 ((k : Int) + 1) ∧ n = .int .i64 (before c y k + d) ∧ wr = x.w) (fun _ i _ => 14 - (intOf i).toNat)
  case atStart => exact ⟨0, x0, by omega, rfl, by simp [before], by rw [← HW0.out]; exact E0.out⟩
  case round =>
    obtain ⟨k, x, hk, rfl, rfl, rfl⟩ := hrel
    have h1 := before_bound c y k
    have h2 := monthDays_le c y ((k : Int) + 1)
    have HN := hideP (before_next c y k)
    have KM : Calls Tryz.prog 152 #[.int .i64 c, .int .i64 y, .int .i64 ((k : Int) + 1)] x.w fun e w' => e = .returned (.int .i64 (monthDays c y ((k : Int) + 1))) ∧ Below x.w.heap.size x.w w' := implMonthDays c y _ _ (HT.out x)
    generalize monthDays c y ((k : Int) + 1) = md at *
    by_cases hlt : (k : Int) + 1 < m
    · go_wp2_with (go_at_call 152; refine KM.mono ?_; rintro e w' ⟨rfl, hb'⟩; obtain ⟨x', rfl⟩ := x.next hb')
      exact ⟨⟨k + 1, x', by omega, by go_num, by first | (rw [HN.out]; done) | (rw [HN.out]; go_num), rfl⟩, by simp [intOf]; omega⟩
    · have HK : Hid ((m - 1).toNat = k) := by unfold Hid; omega
      go_wp2_with fail
      go_ret
      exact ⟨ret_int (by rw [HD.out, HK.out]), below_of_alloc HW0.out x.below⟩

end Go.Proofs.YtaakgidndjoocaaGreatDoor.ctr

namespace Go.Proofs.YtaakgidndjoocaaGreatDoor.ctr
open Go.RowKit

set_option maxHeartbeats 400000 in
theorem specFirst (c y : Int) (w : World) (hc : c = 0 ∨ c = 1) (hy1 : -5 ≤ y) (hy2 : y ≤ 4000) : Calls Tryz.prog 141 #[.int .i64 c, .int .i64 y] w fun e w' => e = .returned (.int .i64 (first c y)) ∧ w' = w := by
  have K4 : ∀ W, Calls Tryz.prog 196 #[.int .i64 (y - 1), .int .i64 4] W fun e w' => e = .returned (.int .i64 ((y - 1) / 4)) ∧ w' = W := fun W => by rw [← floorDiv_small (by omega) (by omega) (by omega)]; exact specFloorDiv _ _ W
  have K100 : ∀ W, Calls Tryz.prog 196 #[.int .i64 (y - 1), .int .i64 100] W fun e w' => e = .returned (.int .i64 ((y - 1) / 100)) ∧ w' = W := fun W => by rw [← floorDiv_small (by omega) (by omega) (by omega)]; exact specFloorDiv _ _ W
  have K400 : ∀ W, Calls Tryz.prog 196 #[.int .i64 (y - 1), .int .i64 400] W fun e w' => e = .returned (.int .i64 ((y - 1) / 400)) ∧ w' = W := fun W => by rw [← floorDiv_small (by omega) (by omega) (by omega)]; exact specFloorDiv _ _ W
  have b4 : -2 ≤ (y - 1) / 4 ∧ (y - 1) / 4 ≤ 1000 := by omega
  have b100 : -2 ≤ (y - 1) / 100 ∧ (y - 1) / 100 ≤ 1000 := by omega
  have b400 : -2 ≤ (y - 1) / 400 ∧ (y - 1) / 400 ≤ 1000 := by omega
  obtain ⟨R, hR⟩ : ∃ R, R = first c y := ⟨_, rfl⟩
  rw [← hR]
  rcases hc with rfl | rfl
  · rw [first_jul] at hR
    have HR := hideP hR
    clear hR K100 K400 b100 b400
    generalize (y - 1) / 4 = q4 at *
    go_enter Tryz.func141, Tryz.ntmps141
    go_wp2_with (go_at_call 196; refine (K4 _).mono ?_; rintro e w1 ⟨rfl, rfl⟩)
    go_ret
    exact ⟨ret_int (by rw [HR.out]), rfl⟩
  · rw [first_gre] at hR
    have HR := hideP hR
    clear hR
    generalize (y - 1) / 4 = q4 at *
    generalize (y - 1) / 100 = q100 at *
    generalize (y - 1) / 400 = q400 at *
    go_enter Tryz.func141, Tryz.ntmps141
    go_wp2_with (first | (go_at_call_of 196 (4 : Int); refine (K4 _).mono ?_; rintro e w1 ⟨rfl, rfl⟩) | (go_at_call_of 196 (100 : Int); refine (K100 _).mono ?_; rintro e w1 ⟨rfl, rfl⟩) | (go_at_call_of 196 (400 : Int); refine (K400 _).mono ?_; rintro e w1 ⟨rfl, rfl⟩))
    go_ret
    exact ⟨ret_int (by rw [HR.out]), rfl⟩

set_option maxHeartbeats 400000 in
theorem specDay (c y m d : Int) (w : World) (hc : c = 0 ∨ c = 1) (hy1 : -5 ≤ y) (hy2 : y ≤ 4000) (hm : m ≤ 13) (hd1 : -100 ≤ d) (hd2 : d ≤ 1000) : Calls Tryz.prog 105 #[.int .i64 c, .int .i64 y, .int .i64 m, .int .i64 d] w fun e w' => e = .returned (.int .i64 (first c y + before c y (m - 1).toNat + d - 1)) ∧ Below w.heap.size w w' := by
  have KF : ∀ W, Calls Tryz.prog 141 #[.int .i64 c, .int .i64 y] W fun e w' => e = .returned (.int .i64 (first c y)) ∧ w' = W := fun W => specFirst c y W hc hy1 hy2
  have KB : ∀ W, Calls Tryz.prog 157 #[.int .i64 c, .int .i64 y, .int .i64 m] W fun e w' => e = .returned (.int .i64 (before c y (m - 1).toNat)) ∧ Below W.heap.size W w' := fun W => specBefore c y m W hm
  have b1 := first_bound hc hy1 hy2
  have b2 := before_bound c y (m - 1).toNat
  have b3 : before c y (m - 1).toNat ≤ 372 := by omega
  have b4 := b2.1
  clear b2
  generalize first c y = F at *
  generalize before c y (m - 1).toNat = B at *
  go_enter Tryz.func105, Tryz.ntmps105
  go_wp2_with (first | (go_at_call 141; refine (KF _).mono ?_; rintro e w1 ⟨rfl, rfl⟩) | (go_at_call 157; refine (KB _).mono ?_; rintro e w1 ⟨rfl, hb⟩))
  go_ret
  exact ⟨rfl, hb⟩

set_option maxHeartbeats 400000 in
theorem specDayOf (c y m d : Int) (w : World) : Calls Tryz.prog 51 #[.agg #[.int .i64 c, .int .i64 y, .int .i64 m, .int .i64 d]] w fun e w' => e = .returned (.int .i64 (dayOf c y m d)) ∧ Below w.heap.size w w' := by
  obtain ⟨W0, hW0⟩ : ∃ W0, W0 = w.alloc (.cells #[.int .i64 c, .int .i64 y, .int .i64 m, .int .i64 d] 85) := ⟨_, rfl⟩
  have c0 : ∀ x : Later W0, x.w.cell? ⟨w.heap.size, 0, none⟩ = some (.int .i64 c) := Later.new hW0 0 rfl
  have c1 : ∀ x : Later W0, x.w.cell? ⟨w.heap.size, 1, none⟩ = some (.int .i64 y) := Later.new hW0 1 rfl
  have c2 : ∀ x : Later W0, x.w.cell? ⟨w.heap.size, 2, none⟩ = some (.int .i64 m) := Later.new hW0 2 rfl
  have c3 : ∀ x : Later W0, x.w.cell? ⟨w.heap.size, 3, none⟩ = some (.int .i64 d) := Later.new hW0 3 rfl
  have HW0 : Hid (W0 = _) := hW0
  have K0 : Calls Tryz.prog 52 #[.agg #[.int .i64 c, .int .i64 y, .int .i64 m, .int .i64 d]] W0 fun e w' => e = .returned (.bool (dateOk c y m d)) ∧ Below W0.heap.size W0 w' := specDateOk c y m d W0
  clear hW0
  by_cases hp : dateP c y m d
  · rw [dateOk_true hp] at K0
    have hm := dateP_month hp
    have hd := dateP_day hp
    have KD : ∀ W, Calls Tryz.prog 105 #[.int .i64 c, .int .i64 y, .int .i64 m, .int .i64 d] W fun e w' => e = .returned (.int .i64 (dayOf c y m d)) ∧ Below W.heap.size W w' := fun W => by
      unfold dayOf
      rw [if_pos hp]
      exact specDay c y m d W hp.1 (by have := hp.2.1; omega) (by have := hp.2.2.1; omega) (by omega) (by omega) (by omega)
    clear hp
    generalize dayOf c y m d = R at *
    go_enter Tryz.func51, Tryz.ntmps51
    go_wp2_with (go_at_call 52; rw [← HW0.out]; refine K0.mono ?_; rintro e w1 ⟨rfl, hb⟩; obtain ⟨x0, rfl⟩ := Later.of hb)
    first
      | (refine wp_region_later (W := W0) x0.below (by kernel_rfl) (by kernel_rfl) ?_
         repeat (go_big_quiet_step ((go_at_call 105; exact calls_later (KD _))))
         refine wpQuiet_nil ?_
         intro _ hw'
         obtain ⟨x, rfl⟩ := hw'
         go_wp2
         go_ret
         exact ⟨rfl, below_of_alloc HW0.out x.below⟩)
      | (refine (KD _).mono ?_
         rintro e w1 ⟨rfl, hb1⟩
         go_wp2
         go_ret
         exact ⟨rfl, below_of_alloc HW0.out (x0.on hb1)⟩)
  · rw [dateOk_false hp] at K0
    have HD : Hid (dayOf c y m d = 0) := by unfold Hid dayOf; rw [if_neg hp]
    clear hp
    go_enter Tryz.func51, Tryz.ntmps51
    go_wp2_with (go_at_call 52; rw [← HW0.out]; refine K0.mono ?_; rintro e w1 ⟨rfl, hb⟩)
    go_ret
    exact ⟨ret_int HD.out.symm, below_of_alloc HW0.out hb⟩

set_option maxHeartbeats 400000 in
theorem implEve (c y : Int) (w : World) (hc : c = 0 ∨ c = 1) (hy1 : -5 ≤ y) (hy2 : y ≤ 4000) : Calls Tryz.prog 150 #[.iface (calT c) (.agg #[]), .int .i64 y] w fun e w' => e = .returned (.int .i64 (first c y - 1)) ∧ w' = w := by
  have K4 : ∀ W, Calls Tryz.prog 205 #[.int .i64 (y - 1), .int .i64 4] W fun e w' => e = .returned (.int .i64 ((y - 1) / 4)) ∧ w' = W := fun W => by rw [← floorDiv_small (by omega) (by omega) (by omega)]; exact implFloorDiv _ _ W
  have K100 : ∀ W, Calls Tryz.prog 205 #[.int .i64 (y - 1), .int .i64 100] W fun e w' => e = .returned (.int .i64 ((y - 1) / 100)) ∧ w' = W := fun W => by rw [← floorDiv_small (by omega) (by omega) (by omega)]; exact implFloorDiv _ _ W
  have K400 : ∀ W, Calls Tryz.prog 205 #[.int .i64 (y - 1), .int .i64 400] W fun e w' => e = .returned (.int .i64 ((y - 1) / 400)) ∧ w' = W := fun W => by rw [← floorDiv_small (by omega) (by omega) (by omega)]; exact implFloorDiv _ _ W
  have b4 : -2 ≤ (y - 1) / 4 ∧ (y - 1) / 4 ≤ 1000 := by omega
  have b100 : -2 ≤ (y - 1) / 100 ∧ (y - 1) / 100 ≤ 1000 := by omega
  have b400 : -2 ≤ (y - 1) / 400 ∧ (y - 1) / 400 ≤ 1000 := by omega
  obtain ⟨R, hR⟩ : ∃ R, R = first c y - 1 := ⟨_, rfl⟩
  rw [← hR]
  rcases hc with rfl | rfl
  · rw [first_jul] at hR
    have HR := hideP hR
    clear hR K100 K400 b100 b400
    generalize (y - 1) / 4 = q4 at *
    have q1 := isJulJul
    rw [show calT 0 = 200 from rfl]
    go_enter Tryz.func150, Tryz.ntmps150
    go_wp2_with (go_at_call 205; refine (K4 _).mono ?_; rintro e w1 ⟨rfl, rfl⟩)
    go_ret
    exact ⟨ret_int (by rw [HR.out]; omega), rfl⟩
  · rw [first_gre] at hR
    have HR := hideP hR
    clear hR
    generalize (y - 1) / 4 = q4 at *
    generalize (y - 1) / 100 = q100 at *
    generalize (y - 1) / 400 = q400 at *
    have q1 := isJulGre
    have q2 := isGreGre
    rw [show calT 1 = 201 from rfl]
    go_enter Tryz.func150, Tryz.ntmps150
    go_wp2_with (first | (go_at_call_of 205 (4 : Int); refine (K4 _).mono ?_; rintro e w1 ⟨rfl, rfl⟩) | (go_at_call_of 205 (100 : Int); refine (K100 _).mono ?_; rintro e w1 ⟨rfl, rfl⟩) | (go_at_call_of 205 (400 : Int); refine (K400 _).mono ?_; rintro e w1 ⟨rfl, rfl⟩))
    go_ret
    exact ⟨ret_int (by rw [HR.out]; omega), rfl⟩

set_option maxHeartbeats 400000 in
theorem implLine (c y m d : Int) (w : World) (hT : Tab w) (hc : c = 0 ∨ c = 1) (hy1 : -5 ≤ y) (hy2 : y ≤ 4000) (hm1 : 1 ≤ m) (hm2 : m ≤ 13) (hd1 : -100 ≤ d) (hd2 : d ≤ 1000) : Calls Tryz.prog 118 #[.agg #[.int .i64 c, .int .i64 y, .int .i64 m, .int .i64 d]] w fun e w' => e = .returned (.int .i64 (first c y + before c y (m - 1).toNat + d - 1)) ∧ Below w.heap.size w w' := by
  obtain ⟨W0, hW0⟩ : ∃ W0, W0 = w.alloc (.cells #[.int .i64 c, .int .i64 y, .int .i64 m, .int .i64 d] 85) := ⟨_, rfl⟩
  have c0 : ∀ x : Later W0, x.w.cell? ⟨w.heap.size, 0, none⟩ = some (.int .i64 c) := Later.new hW0 0 rfl
  have c1 : ∀ x : Later W0, x.w.cell? ⟨w.heap.size, 1, none⟩ = some (.int .i64 y) := Later.new hW0 1 rfl
  have c2 : ∀ x : Later W0, x.w.cell? ⟨w.heap.size, 2, none⟩ = some (.int .i64 m) := Later.new hW0 2 rfl
  have c3 : ∀ x : Later W0, x.w.cell? ⟨w.heap.size, 3, none⟩ = some (.int .i64 d) := Later.new hW0 3 rfl
  have HW0 : Hid (W0 = _) := hW0
  have HT : Hid (∀ x : Later W0, Tab x.w) := fun x => hT.later (below_of_alloc HW0.out x.below)
  clear hW0 hT
  have KC := fun W => implCal c hc W
  have KE : ∀ W, Calls Tryz.prog 150 #[.iface (calT c) (.agg #[]), .int .i64 y] W fun e w' => e = .returned (.int .i64 (first c y - 1)) ∧ w' = W := fun W => implEve c y W hc hy1 hy2
  have KY : ∀ x : Later W0, Calls Tryz.prog 171 #[.agg #[.int .i64 c, .int .i64 y, .int .i64 m, .int .i64 d]] x.w fun e w' => e = .returned (.int .i64 (before c y (m - 1).toNat + d)) ∧ Below x.w.heap.size x.w w' := fun x => implUpTo c y m d x.w (HT.out x) hm1 hm2 hd1 hd2
  have b1 := first_bound hc hy1 hy2
  have b2 := before_bound c y (m - 1).toNat
  have b3 : -100 ≤ before c y (m - 1).toNat + d ∧ before c y (m - 1).toNat + d ≤ 2000 := by omega
  obtain ⟨R, hR⟩ : ∃ R, R = first c y + before c y (m - 1).toNat + d - 1 := ⟨_, rfl⟩
  rw [← hR]
  have hR' : R = first c y - 1 + (before c y (m - 1).toNat + d) := by omega
  have HR := hideP hR'
  clear hR hR' b2 hc
  generalize before c y (m - 1).toNat + d = Y at *
  generalize first c y = F at *
  generalize calT c = T at *
  go_enter Tryz.func118, Tryz.ntmps118
  go_wp2_with fail
  rw [← HW0.out]
  refine wp_region_later (W := W0) (Below.refl _ _) (by kernel_rfl) (by kernel_rfl) ?_
  repeat (go_big_quiet_step (first | (go_at_call 124; exact calls_same (KC _)) | (go_at_call 150; exact calls_same (KE _)) | (go_at_call 171; exact calls_later (KY _))))
  refine wpQuiet_nil ?_
  intro _ hw'
  obtain ⟨x, rfl⟩ := hw'
  go_wp2
  go_ret
  exact ⟨ret_int HR.out.symm, below_of_alloc HW0.out x.below⟩

set_option maxHeartbeats 400000 in
theorem implDayOf (c y m d : Int) (w : World) (hT : Tab w) : Calls Tryz.prog 68 #[.agg #[.int .i64 c, .int .i64 y, .int .i64 m, .int .i64 d]] w fun e w' => e = .returned (.int .i64 (dayOf c y m d)) ∧ Below w.heap.size w w' := by
  obtain ⟨W0, hW0⟩ : ∃ W0, W0 = w.alloc (.cells #[.int .i64 c, .int .i64 y, .int .i64 m, .int .i64 d] 85) := ⟨_, rfl⟩
  have c0 : ∀ x : Later W0, x.w.cell? ⟨w.heap.size, 0, none⟩ = some (.int .i64 c) := Later.new hW0 0 rfl
  have c1 : ∀ x : Later W0, x.w.cell? ⟨w.heap.size, 1, none⟩ = some (.int .i64 y) := Later.new hW0 1 rfl
  have c2 : ∀ x : Later W0, x.w.cell? ⟨w.heap.size, 2, none⟩ = some (.int .i64 m) := Later.new hW0 2 rfl
  have c3 : ∀ x : Later W0, x.w.cell? ⟨w.heap.size, 3, none⟩ = some (.int .i64 d) := Later.new hW0 3 rfl
  have HW0 : Hid (W0 = _) := hW0
  have HT : Hid (∀ x : Later W0, Tab x.w) := fun x => hT.later (below_of_alloc HW0.out x.below)
  have K0 : Calls Tryz.prog 117 #[.agg #[.int .i64 c, .int .i64 y, .int .i64 m, .int .i64 d]] W0 fun e w' => e = .returned (.bool (dateOk c y m d)) ∧ Below W0.heap.size W0 w' := implDateOk c y m d W0 (HT.out ⟨W0, Below.refl _ _⟩)
  clear hW0 hT
  by_cases hp : dateP c y m d
  · rw [dateOk_true hp] at K0
    have hm := dateP_month hp
    have hd := dateP_day hp
    have KU : ∀ x : Later W0, Calls Tryz.prog 118 #[.agg #[.int .i64 c, .int .i64 y, .int .i64 m, .int .i64 d]] x.w fun e w' => e = .returned (.int .i64 (first c y + before c y (m - 1).toNat + d - 1)) ∧ Below x.w.heap.size x.w w' := fun x => implLine c y m d x.w (HT.out x) hp.1 (by have := hp.2.1; omega) (by have := hp.2.2.1; omega) (by omega) (by omega) (by omega) (by omega)
    have e1 : dayOf c y m d = first c y + before c y (m - 1).toNat + d - 1 := by unfold dayOf; rw [if_pos hp]
    rw [e1]
    clear hp e1 hm hd
    generalize first c y + before c y (m - 1).toNat + d - 1 = R at *
    go_enter Tryz.func68, Tryz.ntmps68
    go_wp2_with (go_at_call 117; rw [← HW0.out]; refine K0.mono ?_; rintro e w1 ⟨rfl, hb⟩; obtain ⟨x0, rfl⟩ := Later.of hb)
    refine (KU x0).mono ?_
    rintro e w1 ⟨rfl, hb1⟩
    go_wp2
    go_ret
    exact ⟨rfl, below_of_alloc HW0.out (x0.on hb1)⟩
  · rw [dateOk_false hp] at K0
    have HD : Hid (dayOf c y m d = 0) := by unfold Hid dayOf; rw [if_neg hp]
    clear hp
    go_enter Tryz.func68, Tryz.ntmps68
    go_wp2_with (go_at_call 117; rw [← HW0.out]; refine K0.mono ?_; rintro e w1 ⟨rfl, hb⟩)
    go_ret
    exact ⟨ret_int HD.out.symm, below_of_alloc HW0.out hb⟩
end Go.Proofs.YtaakgidndjoocaaGreatDoor.ctr
