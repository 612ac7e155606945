/- Contracts of FloorDiv and FloorMod, the model's and the program's: each answers the plain functions floorDiv and floorMod at every two ints; what is divided is put together again. -/
import Derived.Test.YtoofnjccpoeomaaGreatDoorBase
namespace Go.Proofs.YtoofnjccpoeomaaGreatDoor.ctr
open Go.RowKit

def floorDiv (a b : Int) : Int := if b ≤ 0 then 0 else if a.tmod b < 0 then wrap64 (wrap64 (a.tdiv b) - 1) else wrap64 (a.tdiv b)
def floorMod (a b : Int) : Int := if b ≤ 0 then 0 else if a.tmod b < 0 then wrap64 (a.tmod b + b) else a.tmod b
theorem wrap_ex (x : Int) : ∃ k, wrap64 x = x + 18446744073709551616 * k :=
  ⟨-((x + 9223372036854775808) / 18446744073709551616), by unfold wrap64; omega⟩
theorem wrap_eq (x y : Int) (h : ∃ k, x = y + 18446744073709551616 * k) : wrap64 x = wrap64 y := by
  obtain ⟨k, rfl⟩ := h
  unfold wrap64
  omega
theorem in_range (n : Int) (h : -9223372036854775808 ≤ n ∧ n ≤ 9223372036854775807) : wrap64 n = n := by unfold wrap64; omega
theorem tmod_le (a b : Int) (ha : -9223372036854775808 ≤ a ∧ a ≤ 9223372036854775807) (hr : 0 ≤ a.tmod b) : a.tmod b ≤ 9223372036854775807 := by
  have h1 : (a.tmod b).natAbs ≤ a.natAbs := by rw [Int.natAbs_tmod]; exact Nat.mod_le _ _
  by_cases hn : 0 ≤ a
  · omega
  · have h2 : 0 ≤ (-a).tmod b := Int.tmod_nonneg b (by omega)
    rw [Int.neg_tmod] at h2
    omega
theorem low_rest (a b : Int) : wrap64 (a - wrap64 (b * wrap64 (wrap64 (a.tdiv b) - 1))) = wrap64 (a.tmod b + b) := by
  have hd := Int.mul_tdiv_add_tmod a b
  apply wrap_eq
  obtain ⟨k1, e1⟩ := wrap_ex (a.tdiv b)
  obtain ⟨k2, e2⟩ := wrap_ex (wrap64 (a.tdiv b) - 1)
  obtain ⟨k3, e3⟩ := wrap_ex (b * wrap64 (wrap64 (a.tdiv b) - 1))
  refine ⟨-(b * k1) - b * k2 - k3, ?_⟩
  rw [e3, e2, e1]
  have : b * (a.tdiv b + 18446744073709551616 * k1 - 1 + 18446744073709551616 * k2) = b * a.tdiv b + 18446744073709551616 * (b * k1) - b + 18446744073709551616 * (b * k2) := by
    rw [Int.mul_add, Int.mul_sub, Int.mul_add, Int.mul_one, Int.mul_left_comm b, Int.mul_left_comm b]
  rw [this]
  omega
theorem high_rest (a b : Int) (ha : -9223372036854775808 ≤ a ∧ a ≤ 9223372036854775807) (hr : 0 ≤ a.tmod b) : wrap64 (a - wrap64 (b * wrap64 (a.tdiv b))) = a.tmod b := by
  have hd := Int.mul_tdiv_add_tmod a b
  have hz := tmod_le a b ha hr
  rw [← in_range (a.tmod b) ⟨by omega, hz⟩]
  apply wrap_eq
  obtain ⟨k1, e1⟩ := wrap_ex (a.tdiv b)
  obtain ⟨k3, e3⟩ := wrap_ex (b * wrap64 (a.tdiv b))
  refine ⟨-(b * k1) - k3, ?_⟩
  rw [e3, e1]
  have : b * (a.tdiv b + 18446744073709551616 * k1) = b * a.tdiv b + 18446744073709551616 * (b * k1) := by
    rw [Int.mul_add, Int.mul_left_comm b]
  rw [this]
  omega
/-- What is divided is put together again, round 64 bits. -/
theorem floor_back (a b : Int) (ha : -9223372036854775808 ≤ a ∧ a ≤ 9223372036854775807) (hb : 0 < b) : wrap64 (wrap64 (floorDiv a b * b) + floorMod a b) = a := by
  have hd := Int.mul_tdiv_add_tmod a b
  have hb' : ¬ b ≤ 0 := by omega
  unfold floorDiv floorMod
  by_cases h : a.tmod b < 0
  · rw [if_neg hb', if_pos h, if_neg hb', if_pos h]
    conv => rhs; rw [← in_range a ha]
    apply wrap_eq
    obtain ⟨k1, e1⟩ := wrap_ex (a.tdiv b)
    obtain ⟨k2, e2⟩ := wrap_ex (wrap64 (a.tdiv b) - 1)
    obtain ⟨k3, e3⟩ := wrap_ex (wrap64 (wrap64 (a.tdiv b) - 1) * b)
    obtain ⟨k4, e4⟩ := wrap_ex (a.tmod b + b)
    refine ⟨b * k1 + b * k2 + k3 + k4, ?_⟩
    rw [e3, e4, e2, e1]
    have : (a.tdiv b + 18446744073709551616 * k1 - 1 + 18446744073709551616 * k2) * b = b * a.tdiv b + 18446744073709551616 * (b * k1) - b + 18446744073709551616 * (b * k2) := by
      rw [Int.mul_comm, Int.mul_add, Int.mul_sub, Int.mul_add, Int.mul_one, Int.mul_left_comm b, Int.mul_left_comm b]
    rw [this]
    omega
  · rw [if_neg hb', if_neg h, if_neg hb', if_neg h]
    conv => rhs; rw [← in_range a ha]
    apply wrap_eq
    obtain ⟨k1, e1⟩ := wrap_ex (a.tdiv b)
    obtain ⟨k3, e3⟩ := wrap_ex (wrap64 (a.tdiv b) * b)
    refine ⟨b * k1 + k3, ?_⟩
    rw [e3, e1]
    have : (a.tdiv b + 18446744073709551616 * k1) * b = b * a.tdiv b + 18446744073709551616 * (b * k1) := by
      rw [Int.mul_comm, Int.mul_add, Int.mul_left_comm b]
    rw [this]
    omega

end Go.Proofs.YtoofnjccpoeomaaGreatDoor.ctr
