/- Contracts of the golden number: the model's and the program's Golden answer the plain function at every int. -/
import Derived.Test.YtckjcaloofjeoaaDoorBase
namespace Go.Proofs.YtckjcaloofjeoaaDoor.ctr
open Go.RowKit

def golden (y : Int) : Int := if 1 ≤ y ∧ y ≤ 3000 then y % 19 + 1 else 0
theorem specGolden (y : Int) (w : World) : Calls Tryd.prog 66 #[.int .i64 y] w fun e w' => e = .returned (.int .i64 (golden y)) ∧ w' = w := by
  by_cases h : 1 ≤ y ∧ y ≤ 3000
  · have hI := inB_true h.1 h.2
    have HG : Hid (golden y = y % 19 + 1) := by unfold Hid golden; rw [if_pos h]
    have h1 := h.1
    have h2 := h.2
    go_enter Tryd.func66, Tryd.ntmps66
    go_wp2_with fail
    refine (l01In _ _ _ _).mono ?_
    rintro e w1 ⟨rfl, rfl⟩
    rw [hI]
    go_wp2
    go_ret
    exact ⟨ret_int HG.out.symm, rfl⟩
  · have hI : inB y 1 3000 = false := inB_false (by omega)
    have HG : Hid (golden y = 0) := by unfold Hid golden; rw [if_neg h]
    clear h
    go_enter Tryd.func66, Tryd.ntmps66
    go_wp2_with fail
    refine (l01In _ _ _ _).mono ?_
    rintro e w1 ⟨rfl, rfl⟩
    rw [hI]
    go_wp2
    go_ret
    exact ⟨ret_int HG.out.symm, rfl⟩
theorem implGolden (y : Int) (w : World) : Calls Tryd.prog 65 #[.int .i64 y] w fun e w' => e = .returned (.int .i64 (golden y)) ∧ w' = w := by
  by_cases h1 : 1 ≤ y
  · by_cases h2 : y ≤ 3000
    · have HG : Hid (golden y = y % 19 + 1) := by unfold Hid golden; rw [if_pos ⟨h1, h2⟩]
      go_enter Tryd.func65, Tryd.ntmps65
      go_wp2
      go_ret
      exact ⟨ret_int HG.out.symm, rfl⟩
    · have HG : Hid (golden y = 0) := by unfold Hid golden; rw [if_neg (by omega)]
      go_enter Tryd.func65, Tryd.ntmps65
      go_wp2
      go_ret
      exact ⟨ret_int HG.out.symm, rfl⟩
  · have HG : Hid (golden y = 0) := by unfold Hid golden; rw [if_neg (by omega)]
    go_enter Tryd.func65, Tryd.ntmps65
    go_wp2
    go_ret
    exact ⟨ret_int HG.out.symm, rfl⟩
end Go.Proofs.YtckjcaloofjeoaaDoor.ctr
