/- Plain facts for the law FnWeek: of what is left by seven, and of the order of dates. -/
import Derived.Test.YtckjcaloofjeoaaDoorSolCmp2
namespace Go.Proofs.YtckjcaloofjeoaaDoor.ctr
open Go.RowKit

theorem floorMod7 (n : Int) : floorMod n 7 = n % 7 := by
  have hd := Int.mul_tdiv_add_tmod n 7
  have h1 : n.tmod 7 < 7 := Int.tmod_lt_of_pos n (by omega)
  have h2 : -7 < n.tmod 7 := by have := Int.lt_tmod_of_pos n (show (0 : Int) < 7 by omega); omega
  unfold floorMod
  rw [if_neg (by omega)]
  generalize n.tmod 7 = r at *
  generalize n.tdiv 7 = q at *
  split
  · rw [in_range _ ⟨by omega, by omega⟩]; omega
  · omega
theorem week_range (n : Int) : 0 ≤ floorMod n 7 ∧ floorMod n 7 ≤ 6 := by rw [floorMod7]; omega
theorem week_seven (x : Int) : floorMod (x + 7) 7 = floorMod x 7 := by rw [floorMod7, floorMod7]; omega
theorem week_next (x : Int) : floorMod (x + 1) 7 = (floorMod x 7 + 1).tmod 7 := by
  rw [floorMod7, floorMod7, Int.tmod_eq_emod_of_nonneg (by omega)]
  omega
theorem small_rest (n : Int) : -1000000 < n.tmod 1000000 ∧ n.tmod 1000000 < 1000000 :=
  ⟨Int.lt_tmod_of_pos n (by omega), Int.tmod_lt_of_pos n (by omega)⟩
theorem cmp_swap (x y : Int) : cmpI y x = - cmpI x y := by
  unfold cmpI
  split <;> split <;> (try split) <;> (try split) <;> omega
theorem cmp_range (x y : Int) : -1 ≤ cmpI x y ∧ cmpI x y ≤ 1 := by
  unfold cmpI
  split
  · omega
  · split <;> omega
theorem compare_swap (a b c d a' b' c' d' : Int) : compareD a' b' c' d' a b c d = - compareD a b c d a' b' c' d' := by
  unfold compareD
  by_cases h : dateP a b c d ∧ dateP a' b' c' d'
  · rw [if_pos h, if_pos h.symm, cmp_swap]
  · rw [if_neg h, if_neg (fun h' => h h'.symm)]
    omega
theorem compare_self (a b c d : Int) : compareD a b c d a b c d = 0 := by
  unfold compareD
  split
  · exact cmp_eq rfl
  · rfl
theorem compare_range (a b c d a' b' c' d' : Int) : -1 ≤ compareD a b c d a' b' c' d' ∧ compareD a b c d a' b' c' d' ≤ 1 := by
  unfold compareD
  split
  · exact cmp_range _ _
  · omega
end Go.Proofs.YtckjcaloofjeoaaDoor.ctr
