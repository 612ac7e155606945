/- The date of Easter's day: where there is such a year, DateOf tells it. -/
import Derived.Test.YtckjcaloofjeoaaDoorSolDateImpl
import Derived.Test.YtckjcaloofjeoaaDoorEasSpec
namespace Go.Proofs.YtckjcaloofjeoaaDoor.ctr
open Go.RowKit

theorem easter_dateOf {c y : Int} (h : yearP c y) : dateOf c (easter c y) = (c, y, sumE c y / 31, sumE c y % 31 + 1, true) := by
  have k := easter_fact h
  have hb := easter_b h
  have hp := sum_month h
  have hd := dateP_day hp
  have e := easter_day h
  obtain ⟨m, hm⟩ := Int.eq_ofNat_of_zero_le (show 0 ≤ sumE c y / 31 - 1 by omega)
  have hm2 : m = 2 ∨ m = 3 := by omega
  have hle : sumE c y % 31 + 1 ≤ monthDays c y ((m + 1 : Nat) : Int) := by
    have := hp.2.2.2.2
    rw [show ((m + 1 : Nat) : Int) = sumE c y / 31 by omega]
    exact this
  have hn : before c y (m + 1) = before c y m + monthDays c y ((m + 1 : Nat) : Int) := rfl
  have h12 := before_mono c y (m + 1) (12 - (m + 1))
  rw [show m + 1 + (12 - (m + 1)) = 12 by omega] at h12
  have h0 := (before_bound c y m).1
  have hs := first_step h.1 y
  rw [hm, show ((m : Int)).toNat = m from rfl] at e
  have hf := first_bound (y := y) h.1 (by have := h.2.1; omega) (by have := h.2.2; omega)
  have hb11 : easter c y ≤ 1200000 := by
    have h1 := h.2.2
    have h2 := before_bound c y m
    have : first c y ≤ 1096000 := by
      have h0 := h.2.1
      rcases h.1 with rfl | rfl
      · rw [first_jul]; omega
      · rw [first_gre]; omega
    omega
  have hy : yearOf c (easter c y) = y := yearOf_eq h.1 (by omega) (by omega)
  have hk : monthOf c y (easter c y - first c y) = m := monthOf_eq (by omega) (by omega)
  rw [dateOf_yes h.1 (by omega) hb11 hy hk h.2.1 h.2.2]
  congr 3
  · omega
  · congr 1
    omega
end Go.Proofs.YtckjcaloofjeoaaDoor.ctr
