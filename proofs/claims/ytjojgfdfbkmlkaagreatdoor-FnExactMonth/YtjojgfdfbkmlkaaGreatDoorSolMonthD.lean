/- Contracts of the model's MonthDays and DateOk: each answers its plain function at every argument. -/
import Derived.Test.YtjojgfdfbkmlkaaGreatDoorJnDaa
import Derived.Deep.RegionWith
namespace Go.Proofs.YtjojgfdfbkmlkaaGreatDoor.ctr
open Go.RowKit
set_option maxHeartbeats 2000000 in
theorem specMonthDays (c y m : Int) (w : World) : Calls Tryz.prog 115 #[.int .i64 c, .int .i64 y, .int .i64 m] w fun e w' => e = .returned (.int .i64 (monthDays c y m)) ∧ Below w.heap.size w w' := by
  by_cases hc : c = 0 ∨ c = 1
  · have hC : calB c = true := calB_iff.2 hc
    by_cases hm : 1 ≤ m ∧ m ≤ 12
    · have hI : inB m 1 12 = true := inB_true hm.1 hm.2
      by_cases h2 : m = 2
      · subst h2
        by_cases hl : leapP c y
        · rw [monthDays_leap hc hl]
          have hL := leapB_true hl
          clear hl hc hm
          go_enter Tryz.func115, Tryz.ntmps115
          go_wp2_with fail
          refine (specCal _ _).mono ?_
          rintro e w1 ⟨rfl, rfl⟩
          rw [hC]
          go_wp2_with fail
          refine (l01In _ _ _ _).mono ?_
          rintro e w1 ⟨rfl, rfl⟩
          rw [hI]
          go_wp2_with fail
          refine (specLeap _ _ _).mono ?_
          rintro e w1 ⟨rfl, rfl⟩
          rw [hL]
          go_wp2
          go_ret
          exact ⟨rfl, Below.refl _ _⟩
        · have hL := leapB_false hl
          rw [monthDays_plain hc hm.1 hm.2 (fun h => hl h.2)]
          clear hl hc hm
          go_enter Tryz.func115, Tryz.ntmps115
          go_wp2_with fail
          refine (specCal _ _).mono ?_
          rintro e w1 ⟨rfl, rfl⟩
          rw [hC]
          go_wp2_with fail
          refine (l01In _ _ _ _).mono ?_
          rintro e w1 ⟨rfl, rfl⟩
          rw [hI]
          go_wp2_with fail
          refine (specLeap _ _ _).mono ?_
          rintro e w1 ⟨rfl, rfl⟩
          rw [hL]
          go_wp2
          go_ret
          exact ⟨rfl, (Below.refl _ _).alloc (Nat.le_refl _) _⟩
      · rw [monthDays_plain hc hm.1 hm.2 (fun h => h2 h.1)]
        have hm1 := hm.1
        have hm2 := hm.2
        clear hm hc
        rcases month_cases hm1 hm2 with rfl | rfl | rfl | rfl | rfl | rfl | rfl | rfl | rfl | rfl | rfl | rfl
        all_goals first
          | exact absurd rfl h2
          | (clear hm1 hm2 h2
             go_enter Tryz.func115, Tryz.ntmps115
             go_wp2_with fail
             refine (specCal _ _).mono ?_
             rintro e w1 ⟨rfl, rfl⟩
             rw [hC]
             go_wp2_with fail
             refine (l01In _ _ _ _).mono ?_
             rintro e w1 ⟨rfl, rfl⟩
             rw [hI]
             go_wp2
             go_ret
             exact ⟨rfl, (Below.refl _ _).alloc (Nat.le_refl _) _⟩)
    · have hI : inB m 1 12 = false := inB_false (by omega)
      rw [monthDays_no (fun h => hm h.2)]
      go_enter Tryz.func115, Tryz.ntmps115
      go_wp2_with fail
      refine (specCal _ _).mono ?_
      rintro e w1 ⟨rfl, rfl⟩
      rw [hC]
      go_wp2_with fail
      refine (l01In _ _ _ _).mono ?_
      rintro e w1 ⟨rfl, rfl⟩
      rw [hI]
      go_wp2
      go_ret
      exact ⟨rfl, Below.refl _ _⟩
  · have hC : calB c = false := calB_no hc
    rw [monthDays_no (fun h => hc h.1)]
    go_enter Tryz.func115, Tryz.ntmps115
    go_wp2_with fail
    refine (specCal _ _).mono ?_
    rintro e w1 ⟨rfl, rfl⟩
    rw [hC]
    go_wp2
    go_ret
    exact ⟨rfl, Below.refl _ _⟩
end Go.Proofs.YtjojgfdfbkmlkaaGreatDoor.ctr
