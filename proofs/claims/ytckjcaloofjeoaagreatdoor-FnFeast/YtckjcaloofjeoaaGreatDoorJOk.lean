/- Contracts of the program's MonthDays: it answers its plain function at every argument, where its table holds its numbers. Contract of the model's DateOk: it answers its plain function at every argument. Contract of the program's DateOk: it answers its plain function at every argument, where its table holds its numbers. -/
import Derived.Test.YtckjcaloofjeoaaGreatDoorJSol
import Derived.Test.YtckjcaloofjeoaaGreatDoorJKit
import Derived.Test.YtckjcaloofjeoaaGreatDoorSolMonth
namespace Go.Proofs.YtckjcaloofjeoaaGreatDoor.ctr
open Go.RowKit

def calT (c : Int) : TypeId := if c = 0 then 97 else 98
theorem implCal (c : Int) (h : c = 0 ∨ c = 1) (w : World) : Calls Tryz.prog 62 #[.int .i64 c] w fun e w' => e = .returned (.iface (calT c) (.agg #[])) ∧ w' = w := by
  rcases h with rfl | rfl
  · exact implCal0 w
  · exact implCal1 w
abbrev Tab (w : World) : Prop := Lib.TabIs Tryz.prog w "loop.example/g00638/impl.monthLengths" .i64 tab12
theorem tabCell {w : World} (h : Tab w) (i : Nat) (hi : i < 12) : w.cell? ⟨0, i, none⟩ = some (.int .i64 (tab12.getD i 0)) :=
  h.cell (by kernel_rfl) i hi
theorem Tab.later {w w1 : World} (h : Tab w) (hb : Below w.heap.size w w1) : Tab w1 := kit.tab_below h hb (g := 0) (by kernel_rfl)

set_option maxHeartbeats 2000000 in
theorem implMonthDays (c y m : Int) (w : World) (hT : Tab w) : Calls Tryz.prog 65 #[.int .i64 c, .int .i64 y, .int .i64 m] w fun e w' => e = .returned (.int .i64 (monthDays c y m)) ∧ Below w.heap.size w w' := by
  by_cases hc : c = 0 ∨ c = 1
  · have KC := fun W => implCal c hc W
    by_cases h1 : m < 1
    · rw [monthDays_no (by omega)]
      clear hT hc
      go_enter Tryz.func65, Tryz.ntmps65
      go_wp2_with (go_at_call 62; refine (KC _).mono ?_; rintro e w1 ⟨rfl, rfl⟩)
      go_ret
      exact ⟨rfl, Below.refl _ _⟩
    by_cases h2 : 12 < m
    · rw [monthDays_no (by omega)]
      clear hT hc
      go_enter Tryz.func65, Tryz.ntmps65
      go_wp2_with (go_at_call 62; refine (KC _).mono ?_; rintro e w1 ⟨rfl, rfl⟩)
      go_ret
      exact ⟨rfl, Below.refl _ _⟩
    by_cases hm : m = 2
    · subst hm
      have hL : ∀ W, Calls Tryz.prog 90 #[.int .i64 c, .int .i64 y] W fun e w' => e = .returned (.bool (leapB c y)) ∧ Below W.heap.size W w' := implLeap c y
      have c1 : ∀ x : Later w, x.w.cell? ⟨0, 1, none⟩ = some (.int .i64 28) := Later.at (tabCell hT 1 (by omega))
      by_cases hl : leapP c y
      · rw [leapB_true hl] at hL
        rw [monthDays_leap hc hl]
        clear hT hc hl
        go_enter Tryz.func65, Tryz.ntmps65
        go_wp2_with (first | (go_at_call 62; refine (KC _).mono ?_; rintro e w1 ⟨rfl, rfl⟩) | (go_at_call 90; refine (hL _).mono ?_; rintro e w2 ⟨rfl, hb⟩; obtain ⟨x, rfl⟩ := Later.of hb))
        go_ret
        exact ⟨rfl, x.below⟩
      · rw [leapB_false hl] at hL
        rw [monthDays_plain hc (by omega) (by omega) (fun h => hl h.2)]
        clear hT hc hl
        go_enter Tryz.func65, Tryz.ntmps65
        go_wp2_with (first | (go_at_call 62; refine (KC _).mono ?_; rintro e w1 ⟨rfl, rfl⟩) | (go_at_call 90; refine (hL _).mono ?_; rintro e w2 ⟨rfl, hb⟩; obtain ⟨x, rfl⟩ := Later.of hb))
        go_ret
        exact ⟨rfl, x.below⟩
    rw [monthDays_plain hc (by omega) (by omega) (fun h => hm h.1)]
    clear hc
    rcases month_cases (m := m) (by omega) (by omega) with rfl | rfl | rfl | rfl | rfl | rfl | rfl | rfl | rfl | rfl | rfl | rfl
    · have c1 := tabCell hT 0 (by omega)
      clear hT h1 h2 hm
      go_enter Tryz.func65, Tryz.ntmps65
      go_wp2_with (go_at_call 62; refine (KC _).mono ?_; rintro e w1 ⟨rfl, rfl⟩)
      go_ret
      exact ⟨rfl, Below.refl _ _⟩
    · exact absurd rfl hm
    · have c1 := tabCell hT 2 (by omega)
      clear hT h1 h2 hm
      go_enter Tryz.func65, Tryz.ntmps65
      go_wp2_with (go_at_call 62; refine (KC _).mono ?_; rintro e w1 ⟨rfl, rfl⟩)
      go_ret
      exact ⟨rfl, Below.refl _ _⟩
    · have c1 := tabCell hT 3 (by omega)
      clear hT h1 h2 hm
      go_enter Tryz.func65, Tryz.ntmps65
      go_wp2_with (go_at_call 62; refine (KC _).mono ?_; rintro e w1 ⟨rfl, rfl⟩)
      go_ret
      exact ⟨rfl, Below.refl _ _⟩
    · have c1 := tabCell hT 4 (by omega)
      clear hT h1 h2 hm
      go_enter Tryz.func65, Tryz.ntmps65
      go_wp2_with (go_at_call 62; refine (KC _).mono ?_; rintro e w1 ⟨rfl, rfl⟩)
      go_ret
      exact ⟨rfl, Below.refl _ _⟩
    · have c1 := tabCell hT 5 (by omega)
      clear hT h1 h2 hm
      go_enter Tryz.func65, Tryz.ntmps65
      go_wp2_with (go_at_call 62; refine (KC _).mono ?_; rintro e w1 ⟨rfl, rfl⟩)
      go_ret
      exact ⟨rfl, Below.refl _ _⟩
    · have c1 := tabCell hT 6 (by omega)
      clear hT h1 h2 hm
      go_enter Tryz.func65, Tryz.ntmps65
      go_wp2_with (go_at_call 62; refine (KC _).mono ?_; rintro e w1 ⟨rfl, rfl⟩)
      go_ret
      exact ⟨rfl, Below.refl _ _⟩
    · have c1 := tabCell hT 7 (by omega)
      clear hT h1 h2 hm
      go_enter Tryz.func65, Tryz.ntmps65
      go_wp2_with (go_at_call 62; refine (KC _).mono ?_; rintro e w1 ⟨rfl, rfl⟩)
      go_ret
      exact ⟨rfl, Below.refl _ _⟩
    · have c1 := tabCell hT 8 (by omega)
      clear hT h1 h2 hm
      go_enter Tryz.func65, Tryz.ntmps65
      go_wp2_with (go_at_call 62; refine (KC _).mono ?_; rintro e w1 ⟨rfl, rfl⟩)
      go_ret
      exact ⟨rfl, Below.refl _ _⟩
    · have c1 := tabCell hT 9 (by omega)
      clear hT h1 h2 hm
      go_enter Tryz.func65, Tryz.ntmps65
      go_wp2_with (go_at_call 62; refine (KC _).mono ?_; rintro e w1 ⟨rfl, rfl⟩)
      go_ret
      exact ⟨rfl, Below.refl _ _⟩
    · have c1 := tabCell hT 10 (by omega)
      clear hT h1 h2 hm
      go_enter Tryz.func65, Tryz.ntmps65
      go_wp2_with (go_at_call 62; refine (KC _).mono ?_; rintro e w1 ⟨rfl, rfl⟩)
      go_ret
      exact ⟨rfl, Below.refl _ _⟩
    · have c1 := tabCell hT 11 (by omega)
      clear hT h1 h2 hm
      go_enter Tryz.func65, Tryz.ntmps65
      go_wp2_with (go_at_call 62; refine (KC _).mono ?_; rintro e w1 ⟨rfl, rfl⟩)
      go_ret
      exact ⟨rfl, Below.refl _ _⟩
  rw [monthDays_no (fun h => hc h.1)]
  clear hT
  go_enter Tryz.func65, Tryz.ntmps65
  go_wp2_with (go_at_call 62; refine (implCalNo c (by omega) (by omega) _).mono ?_; rintro e w1 ⟨rfl, rfl⟩)
  go_ret
  exact ⟨rfl, Below.refl _ _⟩
end Go.Proofs.YtckjcaloofjeoaaGreatDoor.ctr

namespace Go.Proofs.YtckjcaloofjeoaaGreatDoor.ctr
open Go.RowKit

theorem dateOk_true {c y m d : Int} (h : dateP c y m d) : dateOk c y m d = true := decide_eq_true h
theorem dateOk_false {c y m d : Int} (h : ¬ dateP c y m d) : dateOk c y m d = false := decide_eq_false h

set_option maxHeartbeats 400000 in
theorem specDateOk (c y m d : Int) (w : World) : Calls Tryz.prog 85 #[.agg #[.int .i64 c, .int .i64 y, .int .i64 m, .int .i64 d]] w fun e w' => e = .returned (.bool (dateOk c y m d)) ∧ Below w.heap.size w w' := by
  have hD : dateOk c y m d = (calB c && (inB y 1 3000 && inB d 1 (monthDays c y m))) := by
    by_cases hc : c = 0 ∨ c = 1
    · rw [calB_iff.2 hc]
      by_cases hp : dateP c y m d
      · rw [dateOk_true hp, inB_true hp.2.1 hp.2.2.1, inB_true hp.2.2.2.1 hp.2.2.2.2]; rfl
      · rw [dateOk_false hp]
        by_cases hy : 1 ≤ y ∧ y ≤ 3000
        · rw [inB_true hy.1 hy.2, inB_false (x := d)]; rfl
          by_cases h1 : d < 1
          · exact .inl h1
          · refine .inr ?_
            by_cases h2 : monthDays c y m < d
            · exact h2
            · exact absurd ⟨hc, hy.1, hy.2, by omega, by omega⟩ hp
        · rw [inB_false (x := y) (by omega)]; rfl
    · rw [calB_no hc, dateOk_false (fun h => hc h.1)]; rfl
  rw [hD]
  clear hD
  cases hC : calB c
  · have KC : ∀ W, Calls Tryz.prog 79 #[.int .i64 c] W fun e w' => e = .returned (.bool false) ∧ w' = W := fun W => by rw [← hC]; exact specCal c W
    go_enter Tryz.func85, Tryz.ntmps85
    go_wp2
    go_quiet ((go_at_call 79; exact Calls.quiet_of_same (KC _)))
    go_wp2
    go_ret
    exact ⟨rfl, Below_drewN ((Below.refl _ _).alloc (Nat.le_refl _) _) _⟩
  have KC : ∀ W, Calls Tryz.prog 79 #[.int .i64 c] W fun e w' => e = .returned (.bool true) ∧ w' = W := fun W => by rw [← hC]; exact specCal c W
  cases hY : inB y 1 3000
  · have KY : ∀ W, Calls Tryz.prog 47 #[.int .i64 y, .int .i64 1, .int .i64 3000] W fun e w' => e = .returned (.bool false) ∧ w' = W := fun W => by rw [← hY]; exact l01In y 1 3000 W
    go_enter Tryz.func85, Tryz.ntmps85
    go_wp2
    go_quiet (first | (go_at_call 79; exact Calls.quiet_of_same (KC _)) | (go_at_call 47; exact Calls.quiet_of_same (KY _)))
    go_wp2
    go_ret
    exact ⟨rfl, Below_drewN ((Below.refl _ _).alloc (Nat.le_refl _) _) _⟩
  have KY : ∀ W, Calls Tryz.prog 47 #[.int .i64 y, .int .i64 1, .int .i64 3000] W fun e w' => e = .returned (.bool true) ∧ w' = W := fun W => by rw [← hY]; exact l01In y 1 3000 W
  have W0 : ∃ W0, W0 = w.alloc (.cells #[.int .i64 c, .int .i64 y, .int .i64 m, .int .i64 d] 48) := ⟨_, rfl⟩
  obtain ⟨W0, hW0⟩ := W0
  have c0 : ∀ x : Later W0, x.w.cell? ⟨w.heap.size, 0, none⟩ = some (.int .i64 c) := Later.new hW0 0 rfl
  have c1 : ∀ x : Later W0, x.w.cell? ⟨w.heap.size, 1, none⟩ = some (.int .i64 y) := Later.new hW0 1 rfl
  have c2 : ∀ x : Later W0, x.w.cell? ⟨w.heap.size, 2, none⟩ = some (.int .i64 m) := Later.new hW0 2 rfl
  have c3 : ∀ x : Later W0, x.w.cell? ⟨w.heap.size, 3, none⟩ = some (.int .i64 d) := Later.new hW0 3 rfl
  have HW0 : Hid (W0 = _) := hW0
  clear hW0
  have KM : ∀ W, Calls Tryz.prog 51 #[.int .i64 c, .int .i64 y, .int .i64 m] W fun e w' => e = .returned (.int .i64 (monthDays c y m)) ∧ Below W.heap.size W w' := specMonthDays c y m
  have KD : ∀ W, Calls Tryz.prog 47 #[.int .i64 d, .int .i64 1, .int .i64 (monthDays c y m)] W fun e w' => e = .returned (.bool (inB d 1 (monthDays c y m))) ∧ w' = W := l01In d 1 (monthDays c y m)
  clear hC hY
  generalize inB d 1 (monthDays c y m) = bd at *
  generalize monthDays c y m = md at *
  go_enter Tryz.func85, Tryz.ntmps85
  go_wp2
  rw [← HW0.out]
  refine wp_region_later (W := W0) (Below.refl _ _) (by kernel_rfl) (by kernel_rfl) ?_
  repeat (go_big_quiet_step (first | (go_at_call 79; exact calls_same (KC _)) | (go_at_call_of 47 y; exact calls_same (KY _)) | (go_at_call_of 47 d; exact calls_same (KD _)) | (go_at_call 51; exact calls_later (KM _))))
  refine wpQuiet_nil ?_
  intro _ hw'
  obtain ⟨x, rfl⟩ := hw'
  go_wp2
  go_ret
  exact ⟨rfl, below_of_alloc HW0.out x.below⟩
end Go.Proofs.YtckjcaloofjeoaaGreatDoor.ctr

namespace Go.Proofs.YtckjcaloofjeoaaGreatDoor.ctr
open Go.RowKit

/-- A date, as a value. -/
abbrev dateV (c y m d : Int) : Value := .agg #[.int .i64 c, .int .i64 y, .int .i64 m, .int .i64 d]
abbrev dateO (c y m d : Int) : Obj := .cells #[.int .i64 c, .int .i64 y, .int .i64 m, .int .i64 d] 48

set_option maxHeartbeats 1000000 in
theorem implDateOk (c y m d : Int) (w : World) (hT : Tab w) : Calls Tryz.prog 68 #[.agg #[.int .i64 c, .int .i64 y, .int .i64 m, .int .i64 d]] w fun e w' => e = .returned (.bool (dateOk c y m d)) ∧ Below w.heap.size w w' := by
  obtain ⟨W0, hW0⟩ : ∃ W0, W0 = w.alloc (.cells #[.int .i64 c, .int .i64 y, .int .i64 m, .int .i64 d] 48) := ⟨_, rfl⟩
  have c0 : ∀ x : Later W0, x.w.cell? ⟨w.heap.size, 0, none⟩ = some (.int .i64 c) := Later.new hW0 0 rfl
  have c1 : ∀ x : Later W0, x.w.cell? ⟨w.heap.size, 1, none⟩ = some (.int .i64 y) := Later.new hW0 1 rfl
  have c2 : ∀ x : Later W0, x.w.cell? ⟨w.heap.size, 2, none⟩ = some (.int .i64 m) := Later.new hW0 2 rfl
  have c3 : ∀ x : Later W0, x.w.cell? ⟨w.heap.size, 3, none⟩ = some (.int .i64 d) := Later.new hW0 3 rfl
  have HW0 : Hid (W0 = _) := hW0
  have KM : ∀ x : Later W0, Calls Tryz.prog 65 #[.int .i64 c, .int .i64 y, .int .i64 m] x.w fun e w' => e = .returned (.int .i64 (monthDays c y m)) ∧ Below x.w.heap.size x.w w' :=
    fun x => implMonthDays c y m x.w (hT.later (below_of_alloc HW0.out x.below))
  clear hW0 hT
  by_cases h1 : y < 1
  · rw [dateOk_false (fun h => by have := h.2.1; omega)]
    clear KM
    have g1 : decide (1 ≤ y) = false := decide_eq_false (by omega)
    go_enter Tryz.func68, Tryz.ntmps68
    go_wp2
    rw [← HW0.out]
    refine wp_region_later (W := W0) (Below.refl _ _) (by kernel_rfl) (by kernel_rfl) ?_
    repeat (go_big_quiet_step (fail))
    refine wpQuiet_nil ?_
    intro _ hw'
    obtain ⟨x, rfl⟩ := hw'
    go_wp2
    go_ret
    exact ⟨by first | rfl | exact ret_bool (by simp [*]), below_of_alloc HW0.out x.below⟩
  by_cases h2 : 3000 < y
  · rw [dateOk_false (fun h => by have := h.2.2.1; omega)]
    clear KM
    have g1 : decide (1 ≤ y) = true := decide_eq_true (by omega)
    have g2 : decide (y ≤ 3000) = false := decide_eq_false (by omega)
    go_enter Tryz.func68, Tryz.ntmps68
    go_wp2
    rw [← HW0.out]
    refine wp_region_later (W := W0) (Below.refl _ _) (by kernel_rfl) (by kernel_rfl) ?_
    repeat (go_big_quiet_step (fail))
    refine wpQuiet_nil ?_
    intro _ hw'
    obtain ⟨x, rfl⟩ := hw'
    go_wp2
    go_ret
    exact ⟨by first | rfl | exact ret_bool (by simp [*]), below_of_alloc HW0.out x.below⟩
  by_cases h3 : d < 1
  · rw [dateOk_false (fun h => by have := h.2.2.2.1; omega)]
    clear KM
    have g1 : decide (1 ≤ y) = true := decide_eq_true (by omega)
    have g2 : decide (y ≤ 3000) = true := decide_eq_true (by omega)
    have g3 : decide (1 ≤ d) = false := decide_eq_false (by omega)
    go_enter Tryz.func68, Tryz.ntmps68
    go_wp2
    rw [← HW0.out]
    refine wp_region_later (W := W0) (Below.refl _ _) (by kernel_rfl) (by kernel_rfl) ?_
    repeat (go_big_quiet_step (fail))
    refine wpQuiet_nil ?_
    intro _ hw'
    obtain ⟨x, rfl⟩ := hw'
    go_wp2
    go_ret
    exact ⟨by first | rfl | exact ret_bool (by simp [*]), below_of_alloc HW0.out x.below⟩
  have hD : dateOk c y m d = decide (d ≤ monthDays c y m) := by
    by_cases h : d ≤ monthDays c y m
    · have hc : c = 0 ∨ c = 1 := by
        by_cases hc : c = 0 ∨ c = 1
        · exact hc
        · rw [monthDays_no (fun h => hc h.1)] at h
          omega
      rw [dateOk_true ⟨hc, by omega, by omega, by omega, h⟩, decide_eq_true h]
    · rw [dateOk_false (fun k => h k.2.2.2.2), decide_eq_false h]
  rw [hD]
  clear hD
  generalize monthDays c y m = md at *
  have g1 : decide (1 ≤ y) = true := decide_eq_true (by omega)
  have g2 : decide (y ≤ 3000) = true := decide_eq_true (by omega)
  have g3 : decide (1 ≤ d) = true := decide_eq_true (by omega)
  go_enter Tryz.func68, Tryz.ntmps68
  go_wp2
  rw [← HW0.out]
  refine wp_region_later (W := W0) (Below.refl _ _) (by kernel_rfl) (by kernel_rfl) ?_
  repeat (go_big_quiet_step ((go_at_call 65; exact calls_later (KM _))))
  refine wpQuiet_nil ?_
  intro _ hw'
  obtain ⟨x, rfl⟩ := hw'
  go_wp2
  go_ret
  exact ⟨by first | rfl | exact ret_bool (by simp [*]), below_of_alloc HW0.out x.below⟩
end Go.Proofs.YtckjcaloofjeoaaGreatDoor.ctr
