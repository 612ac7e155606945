/- Contracts of both Nones and Ides, and of the program's markDay, monthBehind, monthAhead: each answers its plain function and writes nothing. -/
import Derived.Test.YtoofnjccpoeomaaGreatDoorRomPlain
import Derived.Test.YtoofnjccpoeomaaGreatDoorLaterKit
namespace Go.Proofs.YtoofnjccpoeomaaGreatDoor.ctr
open Go.RowKit

theorem nones_no {m : Int} (h : m < 1 ∨ 12 < m) : nones m = 0 := by unfold nones; rw [if_neg (by omega)]
theorem ides_no {m : Int} (h : m < 1 ∨ 12 < m) : ides m = 0 := by unfold ides; rw [if_neg (by omega)]
set_option maxHeartbeats 1000000 in
theorem specNones (m : Int) (w : World) : Calls Tryz.prog 101 #[.int .i64 m] w fun e w' => e = .returned (.int .i64 (nones m)) ∧ w' = w := by
  have KI : ∀ W, Calls Tryz.prog 40 #[.int .i64 m, .int .i64 1, .int .i64 12] W fun e w' => e = .returned (.bool (inB m 1 12)) ∧ w' = W := l01In m 1 12
  by_cases h : 1 ≤ m ∧ m ≤ 12
  case neg =>
    rw [nones_no (by omega)]
    rw [inB_false (by omega)] at KI
    go_enter Tryz.func101, Tryz.ntmps101
    go_wp2_with fail
    refine (KI _).mono ?_
    rintro e w1 ⟨rfl, rfl⟩
    go_wp2
    go_ret
    exact ⟨rfl, rfl⟩
  obtain ⟨h1, h2⟩ := h
  rw [inB_true h1 h2] at KI
  rcases month_cases h1 h2 with rfl | rfl | rfl | rfl | rfl | rfl | rfl | rfl | rfl | rfl | rfl | rfl
  all_goals
    go_enter Tryz.func101, Tryz.ntmps101
    go_wp2_with fail
    refine (KI _).mono ?_
    rintro e w1 ⟨rfl, rfl⟩
    go_wp2
    go_ret
    exact ⟨rfl, rfl⟩
set_option maxHeartbeats 1000000 in
theorem specIdes (m : Int) (w : World) : Calls Tryz.prog 102 #[.int .i64 m] w fun e w' => e = .returned (.int .i64 (ides m)) ∧ w' = w := by
  have KI : ∀ W, Calls Tryz.prog 40 #[.int .i64 m, .int .i64 1, .int .i64 12] W fun e w' => e = .returned (.bool (inB m 1 12)) ∧ w' = W := l01In m 1 12
  have KN : ∀ W, Calls Tryz.prog 101 #[.int .i64 m] W fun e w' => e = .returned (.int .i64 (nones m)) ∧ w' = W := specNones m
  have hb := nones_b m
  by_cases h : 1 ≤ m ∧ m ≤ 12
  · rw [ides_in h.1 h.2]
    rw [inB_true h.1 h.2] at KI
    generalize nones m = n at *
    go_enter Tryz.func102, Tryz.ntmps102
    go_wp2_with fail
    refine (KI _).mono ?_
    rintro e w1 ⟨rfl, rfl⟩
    go_wp2_with fail
    refine (KN _).mono ?_
    rintro e w1 ⟨rfl, rfl⟩
    go_wp2
    go_ret
    exact ⟨rfl, rfl⟩
  · rw [ides_no (by omega)]
    rw [inB_false (by omega)] at KI
    clear KN
    go_enter Tryz.func102, Tryz.ntmps102
    go_wp2_with fail
    refine (KI _).mono ?_
    rintro e w1 ⟨rfl, rfl⟩
    go_wp2
    go_ret
    exact ⟨rfl, rfl⟩
set_option maxHeartbeats 1000000 in
theorem implNones (m : Int) (w : World) : Calls Tryz.prog 123 #[.int .i64 m] w fun e w' => e = .returned (.int .i64 (nones m)) ∧ w' = w := by
  by_cases h : 1 ≤ m ∧ m ≤ 12
  · obtain ⟨h1, h2⟩ := h
    rcases month_cases h1 h2 with rfl | rfl | rfl | rfl | rfl | rfl | rfl | rfl | rfl | rfl | rfl | rfl
    all_goals
      go_enter Tryz.func123, Tryz.ntmps123
      go_wp2
      go_ret
      exact ⟨rfl, rfl⟩
  · rw [nones_no (by omega)]
    have e1 : (m == 1) = false := by simp; omega
    have e2 : (m == 2) = false := by simp; omega
    have e3 : (m == 3) = false := by simp; omega
    have e4 : (m == 4) = false := by simp; omega
    have e5 : (m == 5) = false := by simp; omega
    have e6 : (m == 6) = false := by simp; omega
    have e7 : (m == 7) = false := by simp; omega
    have e8 : (m == 8) = false := by simp; omega
    have e9 : (m == 9) = false := by simp; omega
    have e10 : (m == 10) = false := by simp; omega
    have e11 : (m == 11) = false := by simp; omega
    have e12 : (m == 12) = false := by simp; omega
    go_enter Tryz.func123, Tryz.ntmps123
    go_wp2
    go_ret
    exact ⟨rfl, rfl⟩
set_option maxHeartbeats 1000000 in
theorem implIdes (m : Int) (w : World) : Calls Tryz.prog 124 #[.int .i64 m] w fun e w' => e = .returned (.int .i64 (ides m)) ∧ w' = w := by
  have KN : ∀ W, Calls Tryz.prog 123 #[.int .i64 m] W fun e w' => e = .returned (.int .i64 (nones m)) ∧ w' = W := implNones m
  have hb := nones_b m
  by_cases h : 1 ≤ m ∧ m ≤ 12
  · rw [ides_in h.1 h.2]
    have h5 := nones_in h.1 h.2
    generalize nones m = n at *
    have hn : (n == 0) = false := by simp; omega
    go_enter Tryz.func124, Tryz.ntmps124
    go_wp2_with fail
    refine (KN _).mono ?_
    rintro e w1 ⟨rfl, rfl⟩
    go_wp2
    go_ret
    exact ⟨rfl, rfl⟩
  · rw [ides_no (by omega)]
    rw [nones_no (by omega)] at KN
    go_enter Tryz.func124, Tryz.ntmps124
    go_wp2_with fail
    refine (KN _).mono ?_
    rintro e w1 ⟨rfl, rfl⟩
    go_wp2
    go_ret
    exact ⟨rfl, rfl⟩
/-- The day of a mark in its month. -/
def markN (m k : Int) : Int := if k = 0 then 1 else if k = 1 then nones m else if k = 2 then ides m else 0
theorem markN_b (m k : Int) : 0 ≤ markN m k ∧ markN m k ≤ 15 := by
  have := nones_b m
  have := ides_b m
  unfold markN
  repeat' split
  all_goals omega
set_option maxHeartbeats 1000000 in
theorem implMarkDay (m k : Int) (w : World) : Calls Tryz.prog 104 #[.int .i64 m, .int .i64 k] w fun e w' => e = .returned (.int .i64 (markN m k)) ∧ w' = w := by
  by_cases h0 : k = 0
  · subst h0
    rw [show markN m 0 = 1 from rfl]
    go_enter Tryz.func104, Tryz.ntmps104
    go_wp2
    go_ret
    exact ⟨rfl, rfl⟩
  have e0 : (k == 0) = false := by simp [h0]
  by_cases h1 : k = 1
  · subst h1
    rw [show markN m 1 = nones m from rfl]
    have KN := implNones m
    generalize nones m = n at *
    go_enter Tryz.func104, Tryz.ntmps104
    go_wp2_with fail
    refine (KN _).mono ?_
    rintro e w1 ⟨rfl, rfl⟩
    go_wp2
    go_ret
    exact ⟨rfl, rfl⟩
  have e1 : (k == 1) = false := by simp [h1]
  by_cases h2 : k = 2
  · subst h2
    rw [show markN m 2 = ides m from rfl]
    have KN := implIdes m
    generalize ides m = n at *
    go_enter Tryz.func104, Tryz.ntmps104
    go_wp2_with fail
    refine (KN _).mono ?_
    rintro e w1 ⟨rfl, rfl⟩
    go_wp2
    go_ret
    exact ⟨rfl, rfl⟩
  have e2 : (k == 2) = false := by simp [h2]
  rw [show markN m k = 0 from by unfold markN; rw [if_neg h0, if_neg h1, if_neg h2]]
  go_enter Tryz.func104, Tryz.ntmps104
  go_wp2
  go_ret
  exact ⟨rfl, rfl⟩
theorem implMonthBehind (m : Int) (w : World) (h1 : 1 ≤ m) (h2 : m ≤ 12) : Calls Tryz.prog 125 #[.int .i64 m] w fun e w' => e = .returned (.int .i64 (m % 12 + 1)) ∧ w' = w := by
  go_enter Tryz.func125, Tryz.ntmps125
  go_wp2
  go_ret
  exact ⟨rfl, rfl⟩
def monAheadW (m : Int) : Int := if m = 1 then 12 else wrap64 (m - 1)
theorem implMonthAhead (m : Int) (w : World) : Calls Tryz.prog 105 #[.int .i64 m] w fun e w' => e = .returned (.int .i64 (monAheadW m)) ∧ w' = w := by
  by_cases h : m = 1
  · subst h
    go_enter Tryz.func105, Tryz.ntmps105
    go_wp2
    go_ret
    exact ⟨rfl, rfl⟩
  · have e0 : (m == 1) = false := by simp [h]
    have HR : Hid (monAheadW m = wrap64 (m - 1)) := by unfold Hid monAheadW; rw [if_neg h]
    go_enter Tryz.func105, Tryz.ntmps105
    go_wp2
    go_ret
    exact ⟨ret_int HR.out.symm, rfl⟩
end Go.Proofs.YtoofnjccpoeomaaGreatDoor.ctr
