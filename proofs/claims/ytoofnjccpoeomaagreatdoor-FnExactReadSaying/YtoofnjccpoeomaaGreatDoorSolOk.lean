/- Contract of the model's DateOk: it answers its plain function at every argument. -/
import Derived.Test.YtoofnjccpoeomaaGreatDoorSolMonth
import Derived.Test.YtoofnjccpoeomaaGreatDoorLaterKit
namespace Go.Proofs.YtoofnjccpoeomaaGreatDoor.ctr
open Go.RowKit

theorem dateOk_true {c y m d : Int} (h : dateP c y m d) : dateOk c y m d = true := decide_eq_true h
theorem dateOk_false {c y m d : Int} (h : ¬ dateP c y m d) : dateOk c y m d = false := decide_eq_false h

set_option maxHeartbeats 400000 in
theorem specDateOk (c y m d : Int) (w : World) : Calls Tryz.prog 66 #[.agg #[.int .i64 c, .int .i64 y, .int .i64 m, .int .i64 d]] w fun e w' => e = .returned (.bool (dateOk c y m d)) ∧ Below w.heap.size w w' := by
  have hD : dateOk c y m d = (calB c && (inB y 1 3000 && inB d 1 (monthDays c y m))) := by
    by_cases hc : c = 0 ∨ c = 1
    · rw [calB_iff.2 hc]
      by_cases hp : dateP c y m d
      · rw [dateOk_true hp, inB_true hp.2.1 hp.2.2.1, inB_true hp.2.2.2.1 hp.2.2.2.2]; rfl
      · rw [dateOk_false hp]
        by_cases hy : 1 ≤ y ∧ y ≤ 3000
        · rw [inB_true hy.1 hy.2, inB_false (x := d)]; rfl
          by_cases h1 : d < 1
          · exact .inl h1
          · refine .inr ?_
            by_cases h2 : monthDays c y m < d
            · exact h2
            · exact absurd ⟨hc, hy.1, hy.2, by omega, by omega⟩ hp
        · rw [inB_false (x := y) (by omega)]; rfl
    · rw [calB_no hc, dateOk_false (fun h => hc h.1)]; rfl
  rw [hD]
  clear hD
  cases hC : calB c
  · have KC : ∀ W, Calls Tryz.prog 49 #[.int .i64 c] W fun e w' => e = .returned (.bool false) ∧ w' = W := fun W => by rw [← hC]; exact specCal c W
    go_enter Tryz.func66, Tryz.ntmps66
    go_wp2
    go_quiet ((go_at_call 49; exact Calls.quiet_of_same (KC _)))
    go_wp2
    go_ret
    exact ⟨rfl, Below_drewN ((Below.refl _ _).alloc (Nat.le_refl _) _) _⟩
  have KC : ∀ W, Calls Tryz.prog 49 #[.int .i64 c] W fun e w' => e = .returned (.bool true) ∧ w' = W := fun W => by rw [← hC]; exact specCal c W
  cases hY : inB y 1 3000
  · have KY : ∀ W, Calls Tryz.prog 40 #[.int .i64 y, .int .i64 1, .int .i64 3000] W fun e w' => e = .returned (.bool false) ∧ w' = W := fun W => by rw [← hY]; exact l01In y 1 3000 W
    go_enter Tryz.func66, Tryz.ntmps66
    go_wp2
    go_quiet (first | (go_at_call 49; exact Calls.quiet_of_same (KC _)) | (go_at_call 40; exact Calls.quiet_of_same (KY _)))
    go_wp2
    go_ret
    exact ⟨rfl, Below_drewN ((Below.refl _ _).alloc (Nat.le_refl _) _) _⟩
  have KY : ∀ W, Calls Tryz.prog 40 #[.int .i64 y, .int .i64 1, .int .i64 3000] W fun e w' => e = .returned (.bool true) ∧ w' = W := fun W => by rw [← hY]; exact l01In y 1 3000 W
  have W0 : ∃ W0, W0 = w.alloc (.cells #[.int .i64 c, .int .i64 y, .int .i64 m, .int .i64 d] 101) := ⟨_, rfl⟩
  obtain ⟨W0, hW0⟩ := W0
  have c0 : ∀ x : Later W0, x.w.cell? ⟨w.heap.size, 0, none⟩ = some (.int .i64 c) := Later.new hW0 0 rfl
  have c1 : ∀ x : Later W0, x.w.cell? ⟨w.heap.size, 1, none⟩ = some (.int .i64 y) := Later.new hW0 1 rfl
  have c2 : ∀ x : Later W0, x.w.cell? ⟨w.heap.size, 2, none⟩ = some (.int .i64 m) := Later.new hW0 2 rfl
  have c3 : ∀ x : Later W0, x.w.cell? ⟨w.heap.size, 3, none⟩ = some (.int .i64 d) := Later.new hW0 3 rfl
  have HW0 : Hid (W0 = _) := hW0
  clear hW0
  have KM : ∀ W, Calls Tryz.prog 87 #[.int .i64 c, .int .i64 y, .int .i64 m] W fun e w' => e = .returned (.int .i64 (monthDays c y m)) ∧ Below W.heap.size W w' := specMonthDays c y m
  have KD : ∀ W, Calls Tryz.prog 40 #[.int .i64 d, .int .i64 1, .int .i64 (monthDays c y m)] W fun e w' => e = .returned (.bool (inB d 1 (monthDays c y m))) ∧ w' = W := l01In d 1 (monthDays c y m)
  clear hC hY
  generalize inB d 1 (monthDays c y m) = bd at *
  generalize monthDays c y m = md at *
  go_enter Tryz.func66, Tryz.ntmps66
  go_wp2
  rw [← HW0.out]
  refine wp_region_later (W := W0) (Below.refl _ _) (by kernel_rfl) (by kernel_rfl) ?_
  repeat (go_big_quiet_step (first | (go_at_call 49; exact calls_same (KC _)) | (go_at_call_of 40 y; exact calls_same (KY _)) | (go_at_call_of 40 d; exact calls_same (KD _)) | (go_at_call 87; exact calls_later (KM _))))
  refine wpQuiet_nil ?_
  intro _ hw'
  obtain ⟨x, rfl⟩ := hw'
  go_wp2
  go_ret
  exact ⟨rfl, below_of_alloc HW0.out x.below⟩
end Go.Proofs.YtoofnjccpoeomaaGreatDoor.ctr
