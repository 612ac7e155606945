/- Plain laws of the two calendars, of no program: leap years, a month's days, a year's first day, the year and the month that hold a day. Contracts of the model's l02Cal, Leap and of the program's calendarOf, Leap: each answers its plain function at every argument. What a style is, and its name: the model's StyleName and the program's styleOk answer their plain functions at every number. -/
import Derived.Test.YtdgolaaheakfoaaGreatDoorJnSak
import Derived.Handy
import Derived.Test.YtdgolaaheakfoaaGreatDoorJnSaa
namespace Go.Proofs.YtdgolaaheakfoaaGreatDoor.ctr
open Go.RowKit
def calB (c : Int) : Bool := decide (c = 0) || decide (c = 1)
theorem calB_iff {c : Int} : calB c = true ↔ c = 0 ∨ c = 1 := by simp [calB]
theorem calB_no {c : Int} (h : ¬ (c = 0 ∨ c = 1)) : calB c = false := by
  simp only [not_or] at h
  simp [calB, h.1, h.2]
def leapP (c y : Int) : Prop := (c = 0 ∧ y.tmod 4 = 0) ∨ (c = 1 ∧ ((y.tmod 4 = 0 ∧ ¬ y.tmod 100 = 0) ∨ y.tmod 400 = 0))
instance (c y : Int) : Decidable (leapP c y) := by unfold leapP; infer_instance
def leapB (c y : Int) : Bool := decide (leapP c y)
theorem tmod0 (y : Int) (k : Int) : y.tmod k = 0 ↔ y % k = 0 := by
  rw [← Int.dvd_iff_tmod_eq_zero, ← Int.dvd_iff_emod_eq_zero]
theorem tmod_four {y : Int} (h : y.tmod 400 = 0) : y.tmod 4 = 0 := by
  rw [tmod0] at *
  omega
theorem leap_jul {y : Int} : leapP 0 y ↔ y % 4 = 0 := by
  unfold leapP
  rw [tmod0]
  omega
theorem leap_gre {y : Int} : leapP 1 y ↔ (y % 4 = 0 ∧ ¬ y % 100 = 0) ∨ y % 400 = 0 := by
  unfold leapP
  rw [tmod0, tmod0, tmod0]
  omega
def tab12 : List Int := [31, 28, 31, 30, 31, 30, 31, 31, 30, 31, 30, 31]
def monthDays (c y m : Int) : Int :=
  if (c = 0 ∨ c = 1) ∧ 1 ≤ m ∧ m ≤ 12 then (if m = 2 ∧ leapP c y then 29 else tab12.getD (m - 1).toNat 0) else 0
theorem monthDays_no {c y m : Int} (h : ¬ ((c = 0 ∨ c = 1) ∧ 1 ≤ m ∧ m ≤ 12)) : monthDays c y m = 0 := by unfold monthDays; rw [if_neg h]
theorem month_cases {m : Int} (h1 : 1 ≤ m) (h2 : m ≤ 12) : m = 1 ∨ m = 2 ∨ m = 3 ∨ m = 4 ∨ m = 5 ∨ m = 6 ∨ m = 7 ∨ m = 8 ∨ m = 9 ∨ m = 10 ∨ m = 11 ∨ m = 12 := by omega
theorem monthDays_le (c y m : Int) : 0 ≤ monthDays c y m ∧ monthDays c y m ≤ 31 := by
  unfold monthDays
  split
  · rename_i h
    split
    · omega
    · rcases month_cases h.2.1 h.2.2 with rfl | rfl | rfl | rfl | rfl | rfl | rfl | rfl | rfl | rfl | rfl | rfl <;> decide
  · omega
theorem monthDays_ge {c y m : Int} (hc : c = 0 ∨ c = 1) (h1 : 1 ≤ m) (h2 : m ≤ 12) : 28 ≤ monthDays c y m := by
  unfold monthDays
  rw [if_pos ⟨hc, h1, h2⟩]
  split
  · omega
  · rcases month_cases h1 h2 with rfl | rfl | rfl | rfl | rfl | rfl | rfl | rfl | rfl | rfl | rfl | rfl <;> decide
theorem monthDays_plain {c y m : Int} (hc : c = 0 ∨ c = 1) (h1 : 1 ≤ m) (h2 : m ≤ 12) (hn : ¬ (m = 2 ∧ leapP c y)) : monthDays c y m = tab12.getD (m - 1).toNat 0 := by
  unfold monthDays
  rw [if_pos ⟨hc, h1, h2⟩, if_neg hn]
theorem monthDays_leap {c y : Int} (hc : c = 0 ∨ c = 1) (hl : leapP c y) : monthDays c y 2 = 29 := by
  unfold monthDays
  rw [if_pos ⟨hc, by omega, by omega⟩, if_pos ⟨rfl, hl⟩]
def dateP (c y m d : Int) : Prop := (c = 0 ∨ c = 1) ∧ 1 ≤ y ∧ y ≤ 3000 ∧ 1 ≤ d ∧ d ≤ monthDays c y m
instance (c y m d : Int) : Decidable (dateP c y m d) := by unfold dateP; infer_instance
def dateOk (c y m d : Int) : Bool := decide (dateP c y m d)
theorem dateP_month {c y m d : Int} (h : dateP c y m d) : 1 ≤ m ∧ m ≤ 12 := by
  obtain ⟨h1, h2, h3, h4, h5⟩ := h
  by_cases hm : 1 ≤ m ∧ m ≤ 12
  · exact hm
  · rw [monthDays_no (fun h => hm h.2)] at h5
    omega
theorem dateP_day {c y m d : Int} (h : dateP c y m d) : 1 ≤ d ∧ d ≤ 31 := by
  obtain ⟨h1, h2, h3, h4, h5⟩ := h
  have := monthDays_le c y m
  omega
def before (c y : Int) : Nat → Int
  | 0 => 0
  | k + 1 => before c y k + monthDays c y (k + 1 : Nat)
theorem before_bound (c y : Int) (k : Nat) : 0 ≤ before c y k ∧ before c y k ≤ 31 * k := by
  induction k with
  | zero => simp [before]
  | succ k ih =>
    have := monthDays_le c y (k + 1 : Nat)
    simp only [before]
    omega
theorem before_mono (c y : Int) (k j : Nat) : before c y k ≤ before c y (k + j) := by
  induction j with
  | zero => simp
  | succ j ih =>
    have := monthDays_le c y (k + j + 1 : Nat)
    show _ ≤ before c y (k + j) + monthDays c y (k + j + 1 : Nat)
    omega
theorem before_12 {c y : Int} (hc : c = 0 ∨ c = 1) : before c y 12 = 365 + (if leapP c y then 1 else 0) := by
  have m1 := monthDays_plain (y := y) hc (m := 1) (by omega) (by omega) (by omega)
  have m3 := monthDays_plain (y := y) hc (m := 3) (by omega) (by omega) (by omega)
  have m4 := monthDays_plain (y := y) hc (m := 4) (by omega) (by omega) (by omega)
  have m5 := monthDays_plain (y := y) hc (m := 5) (by omega) (by omega) (by omega)
  have m6 := monthDays_plain (y := y) hc (m := 6) (by omega) (by omega) (by omega)
  have m7 := monthDays_plain (y := y) hc (m := 7) (by omega) (by omega) (by omega)
  have m8 := monthDays_plain (y := y) hc (m := 8) (by omega) (by omega) (by omega)
  have m9 := monthDays_plain (y := y) hc (m := 9) (by omega) (by omega) (by omega)
  have m10 := monthDays_plain (y := y) hc (m := 10) (by omega) (by omega) (by omega)
  have m11 := monthDays_plain (y := y) hc (m := 11) (by omega) (by omega) (by omega)
  have m12 := monthDays_plain (y := y) hc (m := 12) (by omega) (by omega) (by omega)
  by_cases hl : leapP c y
  · have m2 := monthDays_leap hc hl
    simp [before, m1, m2, m3, m4, m5, m6, m7, m8, m9, m10, m11, m12, hl, tab12]
  · have m2 := monthDays_plain (y := y) hc (m := 2) (by omega) (by omega) (fun h => hl h.2)
    simp [before, m1, m2, m3, m4, m5, m6, m7, m8, m9, m10, m11, m12, hl, tab12]
def first (c y : Int) : Int := 365 * (y - 1) + (y - 1) / 4 + (if c = 0 then -1 else (y - 1) / 400 - (y - 1) / 100 + 1)
theorem first_jul (y : Int) : first 0 y = 365 * (y - 1) + (y - 1) / 4 - 1 := by unfold first; rw [if_pos rfl]; omega
theorem first_gre (y : Int) : first 1 y = 365 * (y - 1) + (y - 1) / 4 - (y - 1) / 100 + (y - 1) / 400 + 1 := by unfold first; rw [if_neg (by omega)]; omega
theorem first_step {c : Int} (hc : c = 0 ∨ c = 1) (y : Int) : first c (y + 1) = first c y + before c y 12 := by
  rw [before_12 hc]
  rcases hc with rfl | rfl
  · rw [first_jul, first_jul]
    by_cases h : leapP 0 y
    · rw [if_pos h]; rw [leap_jul] at h; omega
    · rw [if_neg h]; rw [leap_jul] at h; omega
  · rw [first_gre, first_gre]
    by_cases h : leapP 1 y
    · rw [if_pos h]; rw [leap_gre] at h; omega
    · rw [if_neg h]; rw [leap_gre] at h; omega
theorem first_lt {c y z : Int} (hc : c = 0 ∨ c = 1) (h : y < z) : first c y < first c z := by
  rcases hc with rfl | rfl
  · rw [first_jul, first_jul]; omega
  · rw [first_gre, first_gre]; omega
theorem year_one {c y z n : Int} (hc : c = 0 ∨ c = 1) (h1 : first c y ≤ n) (h2 : n < first c (y + 1)) (h3 : first c z ≤ n) (h4 : n < first c (z + 1)) : y = z := by
  by_cases h : y < z
  · by_cases h' : y + 1 = z
    · subst h'; omega
    · have := first_lt hc (show y + 1 < z by omega); omega
  · by_cases h' : z < y
    · by_cases h'' : z + 1 = y
      · subst h''; omega
      · have := first_lt hc (show z + 1 < y by omega); omega
    · omega
noncomputable def yearOf (c n : Int) : Int := Classical.epsilon fun y => first c y ≤ n ∧ n < first c (y + 1)
theorem yearOf_eq {c y n : Int} (hc : c = 0 ∨ c = 1) (h1 : first c y ≤ n) (h2 : n < first c (y + 1)) : yearOf c n = y := by
  have h := Classical.epsilon_spec (p := fun y => first c y ≤ n ∧ n < first c (y + 1)) ⟨y, h1, h2⟩
  exact year_one hc h.1 h.2 h1 h2
theorem month_one {c y n : Int} {k j : Nat} (h1 : before c y k ≤ n) (h2 : n < before c y (k + 1)) (h3 : before c y j ≤ n) (h4 : n < before c y (j + 1)) : k = j := by
  by_cases h : k < j
  · have := before_mono c y (k + 1) (j - (k + 1))
    rw [show k + 1 + (j - (k + 1)) = j from by omega] at this
    omega
  · by_cases h' : j < k
    · have := before_mono c y (j + 1) (k - (j + 1))
      rw [show j + 1 + (k - (j + 1)) = k from by omega] at this
      omega
    · omega
noncomputable def monthOf (c y n : Int) : Nat := Classical.epsilon fun k => before c y k ≤ n ∧ n < before c y (k + 1)
theorem monthOf_eq {c y n : Int} {k : Nat} (h1 : before c y k ≤ n) (h2 : n < before c y (k + 1)) : monthOf c y n = k := by
  have h := Classical.epsilon_spec (p := fun k => before c y k ≤ n ∧ n < before c y (k + 1)) ⟨k, h1, h2⟩
  exact month_one h.1 h.2 h1 h2
def dayOf (c y m d : Int) : Int := if dateP c y m d then first c y + before c y (m - 1).toNat + d - 1 else 0
theorem first_bound {c y : Int} (hc : c = 0 ∨ c = 1) (h1 : -5 ≤ y) (h2 : y ≤ 4000) : -2800 ≤ first c y ∧ first c y ≤ 1470000 := by
  rcases hc with rfl | rfl
  · rw [first_jul]; omega
  · rw [first_gre]; omega
theorem dayOf_bound (c y m d : Int) : -2800 ≤ dayOf c y m d ∧ dayOf c y m d ≤ 1500000 := by
  unfold dayOf
  split
  · rename_i h
    have h1 := first_bound h.1 (show -5 ≤ y by have := h.2.1; omega) (show y ≤ 4000 by have := h.2.2.1; omega)
    have h2 := before_bound c y (m - 1).toNat
    have h3 := dateP_month h
    have h4 := dateP_day h
    omega
  · omega
noncomputable def dateOf (c n : Int) : Int × Int × Int × Int × Bool :=
  if (c = 0 ∨ c = 1) ∧ 1 ≤ yearOf c n ∧ yearOf c n ≤ 3000 ∧ -1000 ≤ n ∧ n ≤ 1200000 then
    (c, yearOf c n, (monthOf c (yearOf c n) (n - first c (yearOf c n)) : Int) + 1, n - first c (yearOf c n) - before c (yearOf c n) (monthOf c (yearOf c n) (n - first c (yearOf c n))) + 1, true)
  else (0, 0, 0, 0, false)
theorem floorDiv_small {a b : Int} (hb : 0 < b) (h1 : -4611686018427387904 ≤ a) (h2 : a ≤ 4611686018427387904) : floorDiv a b = a / b := by
  have hd := Int.mul_tdiv_add_tmod a b
  have he := Int.mul_ediv_add_emod a b
  have he1 := Int.emod_nonneg a (show b ≠ 0 by omega)
  have he2 := Int.emod_lt_of_pos a hb
  have hq : (a.tdiv b).natAbs ≤ a.natAbs := by rw [Int.natAbs_tdiv]; exact Nat.div_le_self _ _
  have hr : a.tmod b < b := Int.tmod_lt_of_pos a hb
  have hl : -b < a.tmod b := by
    have := Int.tmod_lt_of_pos (-a) hb
    rw [Int.neg_tmod] at this
    omega
  unfold floorDiv
  rw [if_neg (by omega), in_range (a.tdiv b) (by omega)]
  by_cases h : a.tmod b < 0
  · rw [if_pos h, in_range _ (by omega)]
    apply Int.le_antisymm
    · rw [Int.le_ediv_iff_mul_le hb, Int.sub_mul, Int.mul_comm]; omega
    · have : a / b < a.tdiv b - 1 + 1 := by
        apply Int.ediv_lt_of_lt_mul hb
        rw [show a.tdiv b - 1 + 1 = a.tdiv b by omega, Int.mul_comm]; omega
      omega
  · rw [if_neg h]
    apply Int.le_antisymm
    · rw [Int.le_ediv_iff_mul_le hb, Int.mul_comm]; omega
    · have : a / b < a.tdiv b + 1 := by
        apply Int.ediv_lt_of_lt_mul hb
        rw [Int.add_mul, Int.mul_comm]; omega
      omega
end Go.Proofs.YtdgolaaheakfoaaGreatDoor.ctr
namespace Go.Proofs.YtdgolaaheakfoaaGreatDoor.ctr
open Go.RowKit
theorem specCal (c : Int) (w : World) : Calls Tryz.prog 75 #[.int .i64 c] w fun e w' => e = .returned (.bool (calB c)) ∧ w' = w := by
  by_cases h0 : c = 0
  · subst h0
    go_enter Tryz.func75, Tryz.ntmps75
    go_wp2
    go_ret
    exact ⟨by first | rfl | exact ret_bool (by simp [*]), rfl⟩
  by_cases h1 : c = 1
  · subst h1
    go_enter Tryz.func75, Tryz.ntmps75
    go_wp2
    go_ret
    exact ⟨by first | rfl | exact ret_bool (by simp [*]), rfl⟩
  rw [calB_no (by omega)]
  go_enter Tryz.func75, Tryz.ntmps75
  go_wp2
  go_ret
  exact ⟨by first | rfl | exact ret_bool (by simp [*]), rfl⟩
theorem leapB_true {c y : Int} (h : leapP c y) : leapB c y = true := decide_eq_true h
theorem leapB_false {c y : Int} (h : ¬ leapP c y) : leapB c y = false := decide_eq_false h
theorem specLeap (c y : Int) (w : World) : Calls Tryz.prog 135 #[.int .i64 c, .int .i64 y] w fun e w' => e = .returned (.bool (leapB c y)) ∧ w' = w := by
  by_cases h0 : c = 0
  · subst h0
    by_cases h4 : y.tmod 4 = 0
    · rw [leapB_true (.inl ⟨rfl, h4⟩)]
      go_enter Tryz.func135, Tryz.ntmps135
      go_wp2
      go_ret
      exact ⟨by first | rfl | exact ret_bool (by simp [*]), rfl⟩
    · rw [leapB_false (by unfold leapP; omega)]
      go_enter Tryz.func135, Tryz.ntmps135
      go_wp2
      go_ret
      exact ⟨by first | rfl | exact ret_bool (by simp [*]), rfl⟩
  by_cases h1 : c = 1
  · subst h1
    by_cases h4 : y.tmod 4 = 0
    · by_cases h100 : y.tmod 100 = 0
      · by_cases h400 : y.tmod 400 = 0
        · rw [leapB_true (.inr ⟨rfl, .inr h400⟩)]
          go_enter Tryz.func135, Tryz.ntmps135
          go_wp2
          go_ret
          exact ⟨by first | rfl | exact ret_bool (by simp [*]), rfl⟩
        · rw [leapB_false (by unfold leapP; omega)]
          go_enter Tryz.func135, Tryz.ntmps135
          go_wp2
          go_ret
          exact ⟨by first | rfl | exact ret_bool (by simp [*]), rfl⟩
      · rw [leapB_true (.inr ⟨rfl, .inl ⟨h4, h100⟩⟩)]
        go_enter Tryz.func135, Tryz.ntmps135
        go_wp2
        go_ret
        exact ⟨by first | rfl | exact ret_bool (by simp [*]), rfl⟩
    · have h400 : ¬ y.tmod 400 = 0 := fun h => h4 (tmod_four h)
      rw [leapB_false (by unfold leapP; omega)]
      go_enter Tryz.func135, Tryz.ntmps135
      go_wp2
      go_ret
      exact ⟨by first | rfl | exact ret_bool (by simp [*]), rfl⟩
  rw [leapB_false (by unfold leapP; omega)]
  go_enter Tryz.func135, Tryz.ntmps135
  go_wp2
  go_ret
  exact ⟨by first | rfl | exact ret_bool (by simp [*]), rfl⟩
theorem implCal0 (w : World) : Calls Tryz.prog 84 #[.int .i64 0] w fun e w' => e = .returned (.iface 164 (.agg #[])) ∧ w' = w := by
  go_enter Tryz.func84, Tryz.ntmps84
  go_wp2
  go_ret
  exact ⟨rfl, rfl⟩
theorem implCal1 (w : World) : Calls Tryz.prog 84 #[.int .i64 1] w fun e w' => e = .returned (.iface 165 (.agg #[])) ∧ w' = w := by
  go_enter Tryz.func84, Tryz.ntmps84
  go_wp2
  go_ret
  exact ⟨rfl, rfl⟩
theorem implCalNo (c : Int) (h0 : ¬ c = 0) (h1 : ¬ c = 1) (w : World) : Calls Tryz.prog 84 #[.int .i64 c] w fun e w' => e = .returned .nilIface ∧ w' = w := by
  go_enter Tryz.func84, Tryz.ntmps84
  go_wp2
  go_ret
  exact ⟨rfl, rfl⟩
/- What a type switch asks of a calendar: closed facts over the program's tables. -/
theorem isJulJul (w : World) : (Instr.typeAssert (.iface 164 (.agg #[])) 128 164 true).run Tryz.prog w = .ok (.tuple #[.agg #[], .bool true]) w := by kernel_rfl
theorem isJulGre (w : World) : (Instr.typeAssert (.iface 165 (.agg #[])) 128 164 true).run Tryz.prog w = .ok (.tuple #[.agg #[], .bool false]) w := by kernel_rfl
theorem isGreGre (w : World) : (Instr.typeAssert (.iface 165 (.agg #[])) 128 165 true).run Tryz.prog w = .ok (.tuple #[.agg #[], .bool true]) w := by kernel_rfl
theorem leapJul (y : Int) (w : World) : Calls Tryz.prog 226 #[.agg #[], .int .i64 y] w fun e w' => e = .returned (.bool (leapB 0 y)) ∧ Below w.heap.size w w' := by
  have h : leapB 0 y = (y.tmod 4 == 0) := by
    by_cases h : y.tmod 4 = 0
    · rw [leapB_true (.inl ⟨rfl, h⟩), h]; rfl
    · rw [leapB_false (by unfold leapP; omega)]; simp [h]
  rw [h]
  clear h
  go_enter Tryz.func226, Tryz.ntmps226
  go_wp2
  go_ret
  exact ⟨rfl, (Below.refl _ _).alloc (Nat.le_refl _) _⟩
theorem leapGre (y : Int) (w : World) : Calls Tryz.prog 228 #[.agg #[], .int .i64 y] w fun e w' => e = .returned (.bool (leapB 1 y)) ∧ Below w.heap.size w w' := by
  by_cases h4 : y.tmod 4 = 0
  · by_cases h100 : y.tmod 100 = 0
    · by_cases h400 : y.tmod 400 = 0
      · rw [leapB_true (.inr ⟨rfl, .inr h400⟩)]
        go_enter Tryz.func228, Tryz.ntmps228
        go_wp2
        go_ret
        exact ⟨by first | rfl | exact ret_bool (by simp [*]), (Below.refl _ _).alloc (Nat.le_refl _) _⟩
      · rw [leapB_false (by unfold leapP; omega)]
        go_enter Tryz.func228, Tryz.ntmps228
        go_wp2
        go_ret
        exact ⟨by first | rfl | exact ret_bool (by simp [*]), (Below.refl _ _).alloc (Nat.le_refl _) _⟩
    · rw [leapB_true (.inr ⟨rfl, .inl ⟨h4, h100⟩⟩)]
      go_enter Tryz.func228, Tryz.ntmps228
      go_wp2
      go_ret
      exact ⟨by first | rfl | exact ret_bool (by simp [*]), (Below.refl _ _).alloc (Nat.le_refl _) _⟩
  · have h400 : ¬ y.tmod 400 = 0 := fun h => h4 (tmod_four h)
    rw [leapB_false (by unfold leapP; omega)]
    go_enter Tryz.func228, Tryz.ntmps228
    go_wp2
    go_ret
    exact ⟨by first | rfl | exact ret_bool (by simp [*]), (Below.refl _ _).alloc (Nat.le_refl _) _⟩
theorem implLeap (c y : Int) (w : World) : Calls Tryz.prog 156 #[.int .i64 c, .int .i64 y] w fun e w' => e = .returned (.bool (leapB c y)) ∧ Below w.heap.size w w' := by
  by_cases h0 : c = 0
  · subst h0
    go_enter Tryz.func156, Tryz.ntmps156
    go_wp2_with fail
    refine (implCal0 _).mono ?_
    rintro e w1 ⟨rfl, rfl⟩
    go_wp2_with (go_at_call 226; refine (leapJul _ _).mono ?_; rintro e w1 ⟨rfl, hb⟩)
    go_ret
    exact ⟨rfl, hb⟩
  by_cases h1 : c = 1
  · subst h1
    go_enter Tryz.func156, Tryz.ntmps156
    go_wp2_with fail
    refine (implCal1 _).mono ?_
    rintro e w1 ⟨rfl, rfl⟩
    go_wp2_with (go_at_call 228; refine (leapGre _ _).mono ?_; rintro e w1 ⟨rfl, hb⟩)
    go_ret
    exact ⟨rfl, hb⟩
  rw [leapB_false (by unfold leapP; omega)]
  go_enter Tryz.func156, Tryz.ntmps156
  go_wp2_with fail
  refine (implCalNo _ h0 h1 _).mono ?_
  rintro e w1 ⟨rfl, rfl⟩
  go_wp2
  go_ret
  exact ⟨rfl, Below.refl _ _⟩
end Go.Proofs.YtdgolaaheakfoaaGreatDoor.ctr
namespace Go.Proofs.YtdgolaaheakfoaaGreatDoor.ctr
open Go.RowKit
def styleP (s : Int) : Prop := 0 ≤ s ∧ s ≤ 6
instance (s : Int) : Decidable (styleP s) := by unfold styleP; infer_instance
def styleB (s : Int) : Bool := decide (styleP s)
theorem styleB_true {s : Int} (h : styleP s) : styleB s = true := decide_eq_true h
theorem styleB_false {s : Int} (h : ¬ styleP s) : styleB s = false := decide_eq_false h
theorem style_cases {s : Int} (h : styleP s) : s = 0 ∨ s = 1 ∨ s = 2 ∨ s = 3 ∨ s = 4 ∨ s = 5 ∨ s = 6 := by unfold styleP at h; omega
def stys : List (List UInt8) := [[106, 97, 110], [109, 97, 114, 99, 104], [108, 97, 100, 121], [112, 105, 115, 97], [101, 97, 115, 116, 101, 114], [115, 101, 112, 116], [121, 117, 108, 101]]
def styText (s : Int) : ByteArray := ⟨(if styleP s then stys.getD s.toNat [] else []).toArray⟩
theorem styText_no {s : Int} (h : ¬ styleP s) : styText s = ⟨#[]⟩ := by unfold styText; rw [if_neg h]
theorem styText_some {s : Int} (h : styleP s) : (styText s).toList.isEmpty = false := by
  rw [ByteArray.toList_eq]
  rcases style_cases h with rfl | rfl | rfl | rfl | rfl | rfl | rfl <;> rfl
theorem styText_none {s : Int} (h : ¬ styleP s) : (styText s).toList.isEmpty = true := by rw [styText_no h, ByteArray.toList_eq]; rfl
theorem styleB_in (s : Int) : inB s 0 6 = styleB s := by
  by_cases h : styleP s
  · rw [styleB_true h, inB_true h.1 h.2]
  · rw [styleB_false h, inB_false]
    unfold styleP at h
    omega
def styVals : Array Value := (stys.map fun s => Value.string ⟨s.toArray⟩).toArray
theorem specNames (w : World) : Calls Tryz.prog 153 #[] w fun e w' => e = .returned (.slice (some ⟨w.heap.size, 0, none⟩) 7 7) ∧ w' = w.alloc (.cells styVals 9) := by
  go_enter Tryz.func153, Tryz.ntmps153
  go_wp2
  go_ret
  exact ⟨rfl, rfl⟩
set_option maxHeartbeats 400000 in
theorem specStyleName (s : Int) (w : World) : Calls Tryz.prog 124 #[.int .i64 s] w fun e w' => e = .returned (.string (styText s)) ∧ Below w.heap.size w w' := by
  have KI := l01In s 0 6 w
  rw [styleB_in] at KI
  by_cases h : styleP s
  · rw [styleB_true h] at KI
    rcases style_cases h with rfl | rfl | rfl | rfl | rfl | rfl | rfl
    · clear h
      go_enter Tryz.func124, Tryz.ntmps124
      go_wp2_with fail
      refine KI.mono ?_
      rintro e w1 ⟨rfl, hw0⟩
      rw [hw0]
      clear hw0
      go_wp2_with fail
      refine (specNames _).mono ?_
      rintro e w1 ⟨rfl, hw⟩
      have c : w1.cell? ⟨w.heap.size, 0, none⟩ = some (.string (styText 0)) := by rw [hw]; exact (Blk.new w styVals _).cell 0 rfl
      have HB : Hid (Below w.heap.size w w1) := by unfold Hid; rw [hw]; exact (Below.refl _ _).alloc (Nat.le_refl _) _
      clear hw
      go_wp2
      go_ret
      exact ⟨rfl, HB.out⟩
    · clear h
      go_enter Tryz.func124, Tryz.ntmps124
      go_wp2_with fail
      refine KI.mono ?_
      rintro e w1 ⟨rfl, hw0⟩
      rw [hw0]
      clear hw0
      go_wp2_with fail
      refine (specNames _).mono ?_
      rintro e w1 ⟨rfl, hw⟩
      have c : w1.cell? ⟨w.heap.size, 1, none⟩ = some (.string (styText 1)) := by rw [hw]; exact (Blk.new w styVals _).cell 1 rfl
      have HB : Hid (Below w.heap.size w w1) := by unfold Hid; rw [hw]; exact (Below.refl _ _).alloc (Nat.le_refl _) _
      clear hw
      go_wp2
      go_ret
      exact ⟨rfl, HB.out⟩
    · clear h
      go_enter Tryz.func124, Tryz.ntmps124
      go_wp2_with fail
      refine KI.mono ?_
      rintro e w1 ⟨rfl, hw0⟩
      rw [hw0]
      clear hw0
      go_wp2_with fail
      refine (specNames _).mono ?_
      rintro e w1 ⟨rfl, hw⟩
      have c : w1.cell? ⟨w.heap.size, 2, none⟩ = some (.string (styText 2)) := by rw [hw]; exact (Blk.new w styVals _).cell 2 rfl
      have HB : Hid (Below w.heap.size w w1) := by unfold Hid; rw [hw]; exact (Below.refl _ _).alloc (Nat.le_refl _) _
      clear hw
      go_wp2
      go_ret
      exact ⟨rfl, HB.out⟩
    · clear h
      go_enter Tryz.func124, Tryz.ntmps124
      go_wp2_with fail
      refine KI.mono ?_
      rintro e w1 ⟨rfl, hw0⟩
      rw [hw0]
      clear hw0
      go_wp2_with fail
      refine (specNames _).mono ?_
      rintro e w1 ⟨rfl, hw⟩
      have c : w1.cell? ⟨w.heap.size, 3, none⟩ = some (.string (styText 3)) := by rw [hw]; exact (Blk.new w styVals _).cell 3 rfl
      have HB : Hid (Below w.heap.size w w1) := by unfold Hid; rw [hw]; exact (Below.refl _ _).alloc (Nat.le_refl _) _
      clear hw
      go_wp2
      go_ret
      exact ⟨rfl, HB.out⟩
    · clear h
      go_enter Tryz.func124, Tryz.ntmps124
      go_wp2_with fail
      refine KI.mono ?_
      rintro e w1 ⟨rfl, hw0⟩
      rw [hw0]
      clear hw0
      go_wp2_with fail
      refine (specNames _).mono ?_
      rintro e w1 ⟨rfl, hw⟩
      have c : w1.cell? ⟨w.heap.size, 4, none⟩ = some (.string (styText 4)) := by rw [hw]; exact (Blk.new w styVals _).cell 4 rfl
      have HB : Hid (Below w.heap.size w w1) := by unfold Hid; rw [hw]; exact (Below.refl _ _).alloc (Nat.le_refl _) _
      clear hw
      go_wp2
      go_ret
      exact ⟨rfl, HB.out⟩
    · clear h
      go_enter Tryz.func124, Tryz.ntmps124
      go_wp2_with fail
      refine KI.mono ?_
      rintro e w1 ⟨rfl, hw0⟩
      rw [hw0]
      clear hw0
      go_wp2_with fail
      refine (specNames _).mono ?_
      rintro e w1 ⟨rfl, hw⟩
      have c : w1.cell? ⟨w.heap.size, 5, none⟩ = some (.string (styText 5)) := by rw [hw]; exact (Blk.new w styVals _).cell 5 rfl
      have HB : Hid (Below w.heap.size w w1) := by unfold Hid; rw [hw]; exact (Below.refl _ _).alloc (Nat.le_refl _) _
      clear hw
      go_wp2
      go_ret
      exact ⟨rfl, HB.out⟩
    · clear h
      go_enter Tryz.func124, Tryz.ntmps124
      go_wp2_with fail
      refine KI.mono ?_
      rintro e w1 ⟨rfl, hw0⟩
      rw [hw0]
      clear hw0
      go_wp2_with fail
      refine (specNames _).mono ?_
      rintro e w1 ⟨rfl, hw⟩
      have c : w1.cell? ⟨w.heap.size, 6, none⟩ = some (.string (styText 6)) := by rw [hw]; exact (Blk.new w styVals _).cell 6 rfl
      have HB : Hid (Below w.heap.size w w1) := by unfold Hid; rw [hw]; exact (Below.refl _ _).alloc (Nat.le_refl _) _
      clear hw
      go_wp2
      go_ret
      exact ⟨rfl, HB.out⟩
  · rw [styleB_false h] at KI
    rw [styText_no h]
    clear h
    go_enter Tryz.func124, Tryz.ntmps124
    go_wp2_with fail
    refine KI.mono ?_
    rintro e w1 ⟨rfl, rfl⟩
    go_wp2
    go_ret
    exact ⟨rfl, Below.refl _ _⟩
theorem implStyleOk (s : Int) (w : World) : Calls Tryz.prog 131 #[.int .i64 s] w fun e w' => e = .returned (.bool (styleB s)) ∧ w' = w := by
  by_cases h1 : 0 ≤ s
  · by_cases h2 : s < 7
    · rw [styleB_true ⟨h1, by omega⟩]
      go_enter Tryz.func131, Tryz.ntmps131
      go_wp2
      go_ret
      exact ⟨rfl, rfl⟩
    · rw [styleB_false (by unfold styleP; omega)]
      have hd : decide (s < 7) = false := decide_eq_false h2
      go_enter Tryz.func131, Tryz.ntmps131
      go_wp2
      go_ret
      exact ⟨rfl, rfl⟩
  · rw [styleB_false (by unfold styleP; omega)]
    have hd : decide (0 ≤ s) = false := decide_eq_false h1
    go_enter Tryz.func131, Tryz.ntmps131
    go_wp2
    go_ret
    exact ⟨rfl, rfl⟩
end Go.Proofs.YtdgolaaheakfoaaGreatDoor.ctr
