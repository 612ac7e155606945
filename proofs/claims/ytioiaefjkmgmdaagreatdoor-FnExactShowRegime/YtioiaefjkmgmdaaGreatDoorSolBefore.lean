/- Contracts of the days ahead of a month: the model's l02Before, DayInYear; the program's daysUpTo, DayInYear: each answers its plain function. -/
import Derived.Test.YtioiaefjkmgmdaaGreatDoorSolOkImpl
namespace Go.Proofs.YtioiaefjkmgmdaaGreatDoor.ctr
open Go.RowKit

theorem before_next (c y : Int) (k : Nat) : before c y (k + 1) = before c y k + monthDays c y ((k : Int) + 1) := by
  simp [before]

set_option maxHeartbeats 400000 in
theorem specBefore (c y m : Int) (w : World) (hm : m ≤ 13) : Calls Tryz.prog 229 #[.int .i64 c, .int .i64 y, .int .i64 m] w fun e w' => e = .returned (.int .i64 (before c y (m - 1).toNat)) ∧ Below w.heap.size w w' := by
  obtain ⟨R, hR⟩ : ∃ R, R = before c y (m - 1).toNat := ⟨_, rfl⟩
  rw [← hR]
  have HR := hideP hR
  clear hR
  go_enter Tryz.func229, Tryz.ntmps229
  go_wp2
  go_loopw [7, 8] (fun n i wr => ∃ k : Nat, (k = 0 ∨ (k : Int) + 1 ≤ m) ∧ i = .int .i64 ((k : Int) + 1) ∧ n = .int .i64 (before c y k) ∧ Below w.heap.size w wr) (fun _ i _ => 14 - (intOf i).toNat)
  case atStart => exact ⟨0, by omega, rfl, rfl, Below.refl _ _⟩
  case round =>
    obtain ⟨k, hk, rfl, rfl, hb⟩ := hrel
    have h1 := before_bound c y k
    have h2 := monthDays_le c y ((k : Int) + 1)
    have HN := hideP (before_next c y k)
    have KM : ∀ W, Calls Tryz.prog 139 #[.int .i64 c, .int .i64 y, .int .i64 ((k : Int) + 1)] W fun e w' => e = .returned (.int .i64 (monthDays c y ((k : Int) + 1))) ∧ Below W.heap.size W w' := specMonthDays c y _
    generalize monthDays c y ((k : Int) + 1) = md at *
    by_cases hlt : (k : Int) + 1 < m
    · go_wp2_with (go_at_call 139; refine (KM _).mono ?_; rintro e w' ⟨rfl, hb'⟩)
      exact ⟨⟨k + 1, by omega, by go_num, by first | (rw [HN.out]; done) | (rw [HN.out]; go_num), hb.trans (hb'.mono hb.size)⟩, by simp [intOf]; omega⟩
    · have HK : Hid ((m - 1).toNat = k) := by unfold Hid; omega
      go_wp2_with fail
      go_ret
      exact ⟨ret_int (by rw [HR.out, HK.out]), hb⟩

set_option maxHeartbeats 400000 in
theorem implUpTo (c y m d : Int) (w : World) (hT : Tab w) (hm1 : 1 ≤ m) (hm2 : m ≤ 13) (hd1 : -100 ≤ d) (hd2 : d ≤ 1000) : Calls Tryz.prog 267 #[.agg #[.int .i64 c, .int .i64 y, .int .i64 m, .int .i64 d]] w fun e w' => e = .returned (.int .i64 (before c y (m - 1).toNat + d)) ∧ Below w.heap.size w w' := by
  obtain ⟨W0, hW0⟩ : ∃ W0, W0 = w.alloc (.cells #[.int .i64 c, .int .i64 y, .int .i64 m, .int .i64 d] 36) := ⟨_, rfl⟩
  have c0 : ∀ x : Later W0, x.w.cell? ⟨w.heap.size, 0, none⟩ = some (.int .i64 c) := Later.new hW0 0 rfl
  have c1 : ∀ x : Later W0, x.w.cell? ⟨w.heap.size, 1, none⟩ = some (.int .i64 y) := Later.new hW0 1 rfl
  have c2 : ∀ x : Later W0, x.w.cell? ⟨w.heap.size, 2, none⟩ = some (.int .i64 m) := Later.new hW0 2 rfl
  have c3 : ∀ x : Later W0, x.w.cell? ⟨w.heap.size, 3, none⟩ = some (.int .i64 d) := Later.new hW0 3 rfl
  have HW0 : Hid (W0 = _) := hW0
  have HT : Hid (∀ x : Later W0, Tab x.w) := fun x => hT.later (below_of_alloc HW0.out x.below)
  clear hW0 hT
  obtain ⟨R, hR⟩ : ∃ R, R = before c y (m - 1).toNat + d := ⟨_, rfl⟩
  rw [← hR]
  have HD := hideP hR
  clear hR
  obtain ⟨x0, e0⟩ : ∃ x : Later W0, W0 = x.w := ⟨⟨W0, Below.refl _ _⟩, rfl⟩
  have E0 := hideP e0
  clear e0
  go_enter Tryz.func267, Tryz.ntmps267
  go_wp2_with fail
  go_loopw [3, 4] (fun n i wr => ∃ (k : Nat) (x : Later W0), (k : Int) + 1 ≤ m ∧ i = .int .i64 ((k : Int) + 1) ∧ n = .int .i64 (before c y k + d) ∧ wr = x.w) (fun _ i _ => 14 - (intOf i).toNat)
  case atStart => exact ⟨0, x0, by omega, rfl, by simp [before], by rw [← HW0.out]; exact E0.out⟩
  case round =>
    obtain ⟨k, x, hk, rfl, rfl, rfl⟩ := hrel
    have h1 := before_bound c y k
    have h2 := monthDays_le c y ((k : Int) + 1)
    have HN := hideP (before_next c y k)
    have KM : Calls Tryz.prog 141 #[.int .i64 c, .int .i64 y, .int .i64 ((k : Int) + 1)] x.w fun e w' => e = .returned (.int .i64 (monthDays c y ((k : Int) + 1))) ∧ Below x.w.heap.size x.w w' := implMonthDays c y _ _ (HT.out x)
    generalize monthDays c y ((k : Int) + 1) = md at *
    by_cases hlt : (k : Int) + 1 < m
    · go_wp2_with (go_at_call 141; refine KM.mono ?_; rintro e w' ⟨rfl, hb'⟩; obtain ⟨x', rfl⟩ := x.next hb')
      exact ⟨⟨k + 1, x', by omega, by go_num, by first | (rw [HN.out]; done) | (rw [HN.out]; go_num), rfl⟩, by simp [intOf]; omega⟩
    · have HK : Hid ((m - 1).toNat = k) := by unfold Hid; omega
      go_wp2_with fail
      go_ret
      exact ⟨ret_int (by rw [HD.out, HK.out]), below_of_alloc HW0.out x.below⟩

end Go.Proofs.YtioiaefjkmgmdaaGreatDoor.ctr
