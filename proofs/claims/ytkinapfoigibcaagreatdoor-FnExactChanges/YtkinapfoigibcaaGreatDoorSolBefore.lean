/- Contracts of the days ahead of a month: the model's l02Before, DayInYear; the program's daysUpTo, DayInYear: each answers its plain function. -/
import Derived.Test.YtkinapfoigibcaaGreatDoorSolOkImpl
namespace Go.Proofs.YtkinapfoigibcaaGreatDoor.ctr
open Go.RowKit

theorem before_next (c y : Int) (k : Nat) : before c y (k + 1) = before c y k + monthDays c y ((k : Int) + 1) := by
  simp [before]

set_option maxHeartbeats 400000 in
theorem specBefore (c y m : Int) (w : World) (hm : m ≤ 13) : Calls Tryz.prog 119 #[.int .i64 c, .int .i64 y, .int .i64 m] w fun e w' => e = .returned (.int .i64 (before c y (m - 1).toNat)) ∧ Below w.heap.size w w' := by
  obtain ⟨R, hR⟩ : ∃ R, R = before c y (m - 1).toNat := ⟨_, rfl⟩
  rw [← hR]
  have HR := hideP hR
  clear hR
  go_enter Tryz.func119, Tryz.ntmps119
  go_wp2
  go_loopw [7, 8] (fun n i wr => ∃ k : Nat, (k = 0 ∨ (k : Int) + 1 ≤ m) ∧ i = .int .i64 ((k : Int) + 1) ∧ n = .int .i64 (before c y k) ∧ Below w.heap.size w wr) (fun _ i _ => 14 - (intOf i).toNat)
  case atStart => exact ⟨0, by omega, rfl, rfl, Below.refl _ _⟩
  case round =>
    obtain ⟨k, hk, rfl, rfl, hb⟩ := hrel
    have h1 := before_bound c y k
    have h2 := monthDays_le c y ((k : Int) + 1)
    have HN := hideP (before_next c y k)
    have KM : ∀ W, Calls Tryz.prog 118 #[.int .i64 c, .int .i64 y, .int .i64 ((k : Int) + 1)] W fun e w' => e = .returned (.int .i64 (monthDays c y ((k : Int) + 1))) ∧ Below W.heap.size W w' := specMonthDays c y _
    generalize monthDays c y ((k : Int) + 1) = md at *
    by_cases hlt : (k : Int) + 1 < m
    · go_wp2_with (go_at_call 118; refine (KM _).mono ?_; rintro e w' ⟨rfl, hb'⟩)
      exact ⟨⟨k + 1, by omega, by go_num, by first | (rw [HN.out]; done) | (rw [HN.out]; go_num), hb.trans (hb'.mono hb.size)⟩, by simp [intOf]; omega⟩
    · have HK : Hid ((m - 1).toNat = k) := by unfold Hid; omega
      go_wp2_with fail
      go_ret
      exact ⟨ret_int (by rw [HR.out, HK.out]), hb⟩

end Go.Proofs.YtkinapfoigibcaaGreatDoor.ctr
