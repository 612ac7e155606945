/- Contracts of the program's MonthDays: it answers its plain function at every argument, where its table holds its numbers. -/
import Derived.Test.YtoofnjccpoeomaaGreatDoorSolLeap
import Derived.Test.YtoofnjccpoeomaaGreatDoorLaterKit
import Derived.Test.YtoofnjccpoeomaaGreatDoorVarsKit
namespace Go.Proofs.YtoofnjccpoeomaaGreatDoor.ctr
open Go.RowKit

def calT (c : Int) : TypeId := if c = 0 then 89 else 90
theorem implCal (c : Int) (h : c = 0 ∨ c = 1) (w : World) : Calls Tryz.prog 51 #[.int .i64 c] w fun e w' => e = .returned (.iface (calT c) (.agg #[])) ∧ w' = w := by
  rcases h with rfl | rfl
  · exact implCal0 w
  · exact implCal1 w
abbrev Tab (w : World) : Prop := Lib.TabIs Tryz.prog w "loop.example/g00638/impl.monthLengths" .i64 tab12
theorem tabCell {w : World} (h : Tab w) (i : Nat) (hi : i < 12) : w.cell? ⟨3, i, none⟩ = some (.int .i64 (tab12.getD i 0)) :=
  h.cell (by kernel_rfl) i hi
theorem Tab.later {w w1 : World} (h : Tab w) (hb : Below w.heap.size w w1) : Tab w1 := kit.tab_below h hb (g := 3) (by kernel_rfl)

set_option maxHeartbeats 2000000 in
theorem implMonthDays (c y m : Int) (w : World) (hT : Tab w) : Calls Tryz.prog 103 #[.int .i64 c, .int .i64 y, .int .i64 m] w fun e w' => e = .returned (.int .i64 (monthDays c y m)) ∧ Below w.heap.size w w' := by
  by_cases hc : c = 0 ∨ c = 1
  · have KC := fun W => implCal c hc W
    by_cases h1 : m < 1
    · rw [monthDays_no (by omega)]
      clear hT hc
      go_enter Tryz.func103, Tryz.ntmps103
      go_wp2_with (go_at_call 51; refine (KC _).mono ?_; rintro e w1 ⟨rfl, rfl⟩)
      go_ret
      exact ⟨rfl, Below.refl _ _⟩
    by_cases h2 : 12 < m
    · rw [monthDays_no (by omega)]
      clear hT hc
      go_enter Tryz.func103, Tryz.ntmps103
      go_wp2_with (go_at_call 51; refine (KC _).mono ?_; rintro e w1 ⟨rfl, rfl⟩)
      go_ret
      exact ⟨rfl, Below.refl _ _⟩
    by_cases hm : m = 2
    · subst hm
      have hL : ∀ W, Calls Tryz.prog 122 #[.int .i64 c, .int .i64 y] W fun e w' => e = .returned (.bool (leapB c y)) ∧ Below W.heap.size W w' := implLeap c y
      have c1 : ∀ x : Later w, x.w.cell? ⟨3, 1, none⟩ = some (.int .i64 28) := Later.at (tabCell hT 1 (by omega))
      by_cases hl : leapP c y
      · rw [leapB_true hl] at hL
        rw [monthDays_leap hc hl]
        clear hT hc hl
        go_enter Tryz.func103, Tryz.ntmps103
        go_wp2_with (first | (go_at_call 51; refine (KC _).mono ?_; rintro e w1 ⟨rfl, rfl⟩) | (go_at_call 122; refine (hL _).mono ?_; rintro e w2 ⟨rfl, hb⟩; obtain ⟨x, rfl⟩ := Later.of hb))
        go_ret
        exact ⟨rfl, x.below⟩
      · rw [leapB_false hl] at hL
        rw [monthDays_plain hc (by omega) (by omega) (fun h => hl h.2)]
        clear hT hc hl
        go_enter Tryz.func103, Tryz.ntmps103
        go_wp2_with (first | (go_at_call 51; refine (KC _).mono ?_; rintro e w1 ⟨rfl, rfl⟩) | (go_at_call 122; refine (hL _).mono ?_; rintro e w2 ⟨rfl, hb⟩; obtain ⟨x, rfl⟩ := Later.of hb))
        go_ret
        exact ⟨rfl, x.below⟩
    rw [monthDays_plain hc (by omega) (by omega) (fun h => hm h.1)]
    clear hc
    rcases month_cases (m := m) (by omega) (by omega) with rfl | rfl | rfl | rfl | rfl | rfl | rfl | rfl | rfl | rfl | rfl | rfl
    · have c1 := tabCell hT 0 (by omega)
      clear hT h1 h2 hm
      go_enter Tryz.func103, Tryz.ntmps103
      go_wp2_with (go_at_call 51; refine (KC _).mono ?_; rintro e w1 ⟨rfl, rfl⟩)
      go_ret
      exact ⟨rfl, Below.refl _ _⟩
    · exact absurd rfl hm
    · have c1 := tabCell hT 2 (by omega)
      clear hT h1 h2 hm
      go_enter Tryz.func103, Tryz.ntmps103
      go_wp2_with (go_at_call 51; refine (KC _).mono ?_; rintro e w1 ⟨rfl, rfl⟩)
      go_ret
      exact ⟨rfl, Below.refl _ _⟩
    · have c1 := tabCell hT 3 (by omega)
      clear hT h1 h2 hm
      go_enter Tryz.func103, Tryz.ntmps103
      go_wp2_with (go_at_call 51; refine (KC _).mono ?_; rintro e w1 ⟨rfl, rfl⟩)
      go_ret
      exact ⟨rfl, Below.refl _ _⟩
    · have c1 := tabCell hT 4 (by omega)
      clear hT h1 h2 hm
      go_enter Tryz.func103, Tryz.ntmps103
      go_wp2_with (go_at_call 51; refine (KC _).mono ?_; rintro e w1 ⟨rfl, rfl⟩)
      go_ret
      exact ⟨rfl, Below.refl _ _⟩
    · have c1 := tabCell hT 5 (by omega)
      clear hT h1 h2 hm
      go_enter Tryz.func103, Tryz.ntmps103
      go_wp2_with (go_at_call 51; refine (KC _).mono ?_; rintro e w1 ⟨rfl, rfl⟩)
      go_ret
      exact ⟨rfl, Below.refl _ _⟩
    · have c1 := tabCell hT 6 (by omega)
      clear hT h1 h2 hm
      go_enter Tryz.func103, Tryz.ntmps103
      go_wp2_with (go_at_call 51; refine (KC _).mono ?_; rintro e w1 ⟨rfl, rfl⟩)
      go_ret
      exact ⟨rfl, Below.refl _ _⟩
    · have c1 := tabCell hT 7 (by omega)
      clear hT h1 h2 hm
      go_enter Tryz.func103, Tryz.ntmps103
      go_wp2_with (go_at_call 51; refine (KC _).mono ?_; rintro e w1 ⟨rfl, rfl⟩)
      go_ret
      exact ⟨rfl, Below.refl _ _⟩
    · have c1 := tabCell hT 8 (by omega)
      clear hT h1 h2 hm
      go_enter Tryz.func103, Tryz.ntmps103
      go_wp2_with (go_at_call 51; refine (KC _).mono ?_; rintro e w1 ⟨rfl, rfl⟩)
      go_ret
      exact ⟨rfl, Below.refl _ _⟩
    · have c1 := tabCell hT 9 (by omega)
      clear hT h1 h2 hm
      go_enter Tryz.func103, Tryz.ntmps103
      go_wp2_with (go_at_call 51; refine (KC _).mono ?_; rintro e w1 ⟨rfl, rfl⟩)
      go_ret
      exact ⟨rfl, Below.refl _ _⟩
    · have c1 := tabCell hT 10 (by omega)
      clear hT h1 h2 hm
      go_enter Tryz.func103, Tryz.ntmps103
      go_wp2_with (go_at_call 51; refine (KC _).mono ?_; rintro e w1 ⟨rfl, rfl⟩)
      go_ret
      exact ⟨rfl, Below.refl _ _⟩
    · have c1 := tabCell hT 11 (by omega)
      clear hT h1 h2 hm
      go_enter Tryz.func103, Tryz.ntmps103
      go_wp2_with (go_at_call 51; refine (KC _).mono ?_; rintro e w1 ⟨rfl, rfl⟩)
      go_ret
      exact ⟨rfl, Below.refl _ _⟩
  rw [monthDays_no (fun h => hc h.1)]
  clear hT
  go_enter Tryz.func103, Tryz.ntmps103
  go_wp2_with (go_at_call 51; refine (implCalNo c (by omega) (by omega) _).mono ?_; rintro e w1 ⟨rfl, rfl⟩)
  go_ret
  exact ⟨rfl, Below.refl _ _⟩
end Go.Proofs.YtoofnjccpoeomaaGreatDoor.ctr
