/- Contracts of the model's functions of Easter: each answers its plain function. -/
import Derived.Test.YtchhdoipkimbgaaGreatDoorEasPlainM
namespace Go.Proofs.YtchhdoipkimbgaaGreatDoor.ctr
open Go.RowKit

theorem golden_year {c y : Int} (h : yearP c y) : golden y = y % 19 + 1 := by unfold golden; rw [if_pos h.2]

theorem fullMoon_b {c y : Int} (h : yearP c y) : 0 < fullMoon c y ∧ fullMoon c y ≤ 3000000 := by
  have h1 := march_b h
  have h2 := moonOff_b h
  unfold fullMoon
  rw [if_pos h]
  omega
theorem easter_day {c y : Int} (h : yearP c y) : easter c y = first c y + before c y (sumE c y / 31 - 1).toNat + (sumE c y % 31 + 1) - 1 := by
  unfold easter dayOf
  rw [if_pos h, if_pos (sum_month h)]
theorem easter_b {c y : Int} (h : yearP c y) : 0 < easter c y ∧ easter c y ≤ 3000000 := by
  have h1 := march_b h
  have h2 := easter_fact h
  rw [easter_eq h]
  omega
end Go.Proofs.YtchhdoipkimbgaaGreatDoor.ctr
