/- Contracts of the model's l06Start, l06Year, YearStart, YearDays, StyleYear: each answers its plain function. -/
import Derived.Test.YtchhdoipkimbgaaGreatDoorStyBaseM
import Derived.Test.YtchhdoipkimbgaaGreatDoorStyPlainM
import Derived.Test.YtchhdoipkimbgaaGreatDoorEasSpecM
import Derived.Test.YtchhdoipkimbgaaGreatDoorSolB
namespace Go.Proofs.YtchhdoipkimbgaaGreatDoor.ctr
open Go.RowKit

theorem calls_below {P : Program} {f : FuncId} {args : Array Value} {W : World} {v : Value} (h : Calls P f args W fun e w' => e = .returned v ∧ w' = W) : Calls P f args W fun e w' => e = .returned v ∧ Below W.heap.size W w' :=
  h.mono fun _ _ ⟨he, hm⟩ => ⟨he, by rw [hm]; exact Below.refl _ _⟩
theorem yB_true {c s y : Int} (h : yearP c y ∧ styleP s) : (yearB c y && styleB s) = true := by rw [yearB_true h.1, styleB_true h.2]; rfl
theorem yB_false {c s y : Int} (h : ¬ (yearP c y ∧ styleP s)) : (yearB c y && styleB s) = false := by
  by_cases hy : yearP c y
  · rw [styleB_false (fun k => h ⟨hy, k⟩), Bool.and_false]
  · rw [yearB_false hy, Bool.false_and]
/-- The date of a day: there is none, or it is a date of that calendar, whose year holds the day. -/
theorem date_cases (c n : Int) : dateOf c n = (0, 0, 0, 0, false) ∨ ∃ Y m d, dateOf c n = (c, Y, m, d, true) ∧ (c = 0 ∨ c = 1) ∧ 1 ≤ Y ∧ Y ≤ 3000 ∧ first c Y ≤ n ∧ n < first c (Y + 1) := by
  by_cases h : (c = 0 ∨ c = 1) ∧ 1 ≤ yearOf c n ∧ yearOf c n ≤ 3000 ∧ -1000 ≤ n ∧ n ≤ 1200000
  · right
    have k : dateOf c n = (c, yearOf c n, (monthOf c (yearOf c n) (n - first c (yearOf c n)) : Int) + 1, n - first c (yearOf c n) - before c (yearOf c n) (monthOf c (yearOf c n) (n - first c (yearOf c n))) + 1, true) := by
      unfold dateOf
      rw [if_pos h]
    obtain ⟨_, hd, hn⟩ := date_back k
    have hl := line_in h.1 (dateP_month hd).1 (dateP_month hd).2 hd.2.2.2.1 hd.2.2.2.2
    rw [← lineD_dayOf hd, hn] at hl
    exact ⟨_, _, _, k, h.1, h.2.1, h.2.2.1, hl.1, hl.2⟩
  · exact .inl (dateOf_no h)
noncomputable def styR (c s n : Int) : Value := .tuple #[.int .i64 (styYear c s n).1, .bool (styYear c s n).2]
theorem styR_no {c s n : Int} (h : styYear c s n = (0, false)) : styR c s n = .tuple #[.int .i64 0, .bool false] := by unfold styR; rw [h]
theorem styR_yes {c s n y : Int} (h : styYear c s n = (y, true)) : styR c s n = .tuple #[.int .i64 y, .bool true] := by unfold styR; rw [h]
theorem raw_of {c s Y n y : Int} (h : y = Y - 1 ∨ y = Y ∨ y = Y + 1) (h1 : Y ≤ y → start c s Y ≤ n) (h2 : Y + 1 ≤ y → start c s (Y + 1) ≤ n) (he : y ≤ Y → n < start c s (y + 1)) : rawYear c s Y n = y := by
  rcases h with rfl | rfl | rfl
  · have := he (by omega)
    rw [show Y - 1 + 1 = Y by omega] at this
    exact raw_lo this
  · exact raw_mid (by have := h1 (by omega); omega) (he (by omega))
  · exact raw_hi (by have := h1 (by omega); have := h2 (by omega); omega) (by have := h2 (by omega); omega)
theorem date_blk2 (W : World) (a y m d : Int) : Blk (W.alloc (.cells #[.int .i64 a, .int .i64 y, .int .i64 m, .int .i64 d] 36)) W.heap.size #[.int .i64 a, .int .i64 y, .int .i64 m, .int .i64 d] 36 := Blk.new W _ _

end Go.Proofs.YtchhdoipkimbgaaGreatDoor.ctr
