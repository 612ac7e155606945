/- Contracts of the program's calendars' own rules of Easter: yearOk, epact, fullMoon, closedSum of julian and gregorian. -/
import Derived.Test.YtaakgidndjoocaaGreatDoorEasSpecM
import Derived.Test.YtaakgidndjoocaaGreatDoorBlkKitM
namespace Go.Proofs.YtaakgidndjoocaaGreatDoor.ctr
open Go.RowKit

theorem implYearOk (c y : Int) (w : World) (hT : Tab w) : Calls Tryz.prog 370 #[.int .i64 c, .int .i64 y] w fun e w' => e = .returned (.bool (yearB c y)) ∧ Below w.heap.size w w' := by
  have K : Calls Tryz.prog 117 #[.agg #[.int .i64 c, .int .i64 y, .int .i64 1, .int .i64 1]] w fun e w' => e = .returned (.bool (yearB c y)) ∧ Below w.heap.size w w' := by
    rw [← dateOk_year]
    exact implDateOk c y 1 1 w hT
  clear hT
  generalize yearB c y = b at *
  go_enter Tryz.func370, Tryz.ntmps370
  go_wp2_with fail
  refine K.mono ?_
  rintro e w1 ⟨rfl, hb⟩
  go_wp2
  go_ret
  exact ⟨rfl, hb⟩

theorem adj_b {E g : Int} (h : 0 ≤ E ∧ E ≤ 29) : 0 ≤ adjG E g ∧ adjG E g ≤ 30 := by
  unfold adjG
  split <;> omega
theorem ep_b (c g y : Int) : 0 ≤ ep c g y ∧ ep c g y ≤ 30 := by
  unfold ep
  split
  · omega
  · exact adj_b (by unfold e0G; omega)

theorem julSum (y : Int) (w : World) (h1 : 1 ≤ y) (h2 : y ≤ 4000) : Calls Tryz.prog 355 #[.agg #[], .int .i64 y] w fun e w' => e = .returned (.int .i64 (sumJ y)) ∧ Below w.heap.size w w' := by
  obtain ⟨R, hR⟩ : ∃ R, R = sumJ y := ⟨_, rfl⟩
  rw [← hR]
  have HR := hideP hR
  clear hR
  unfold sumJ at HR
  go_enter Tryz.func355, Tryz.ntmps355
  go_wp2
  go_ret
  exact ⟨ret_int (by rw [HR.out]; unfold dJ; omega), (Below.refl _ _).alloc (Nat.le_refl _) _⟩
theorem greSum (y : Int) (w : World) (h1 : 1 ≤ y) (h2 : y ≤ 4000) : Calls Tryz.prog 357 #[.agg #[], .int .i64 y] w fun e w' => e = .returned (.int .i64 (sumG y)) ∧ Below w.heap.size w w' := by
  obtain ⟨R, hR⟩ : ∃ R, R = sumG y := ⟨_, rfl⟩
  rw [← hR]
  have HR := hideP hR
  clear hR
  go_enter Tryz.func357, Tryz.ntmps357
  go_wp2
  go_ret
  exact ⟨ret_int (by rw [HR.out]; unfold sumG mG lG hG gG; rw [show y % 100 % 4 = y % 4 by omega]), (Below.refl _ _).alloc (Nat.le_refl _) _⟩
end Go.Proofs.YtaakgidndjoocaaGreatDoor.ctr
