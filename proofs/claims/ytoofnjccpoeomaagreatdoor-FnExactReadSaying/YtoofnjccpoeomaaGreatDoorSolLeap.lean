/- Contracts of the model's l02Cal, Leap and of the program's calendarOf, Leap: each answers its plain function at every argument. -/
import Derived.Test.YtoofnjccpoeomaaGreatDoorSolPlain
import Derived.Handy
namespace Go.Proofs.YtoofnjccpoeomaaGreatDoor.ctr
open Go.RowKit

theorem specCal (c : Int) (w : World) : Calls Tryz.prog 49 #[.int .i64 c] w fun e w' => e = .returned (.bool (calB c)) ∧ w' = w := by
  by_cases h0 : c = 0
  · subst h0
    go_enter Tryz.func49, Tryz.ntmps49
    go_wp2
    go_ret
    exact ⟨by first | rfl | exact ret_bool (by simp [*]), rfl⟩
  by_cases h1 : c = 1
  · subst h1
    go_enter Tryz.func49, Tryz.ntmps49
    go_wp2
    go_ret
    exact ⟨by first | rfl | exact ret_bool (by simp [*]), rfl⟩
  rw [calB_no (by omega)]
  go_enter Tryz.func49, Tryz.ntmps49
  go_wp2
  go_ret
  exact ⟨by first | rfl | exact ret_bool (by simp [*]), rfl⟩

theorem leapB_true {c y : Int} (h : leapP c y) : leapB c y = true := decide_eq_true h
theorem leapB_false {c y : Int} (h : ¬ leapP c y) : leapB c y = false := decide_eq_false h

theorem specLeap (c y : Int) (w : World) : Calls Tryz.prog 100 #[.int .i64 c, .int .i64 y] w fun e w' => e = .returned (.bool (leapB c y)) ∧ w' = w := by
  by_cases h0 : c = 0
  · subst h0
    by_cases h4 : y.tmod 4 = 0
    · rw [leapB_true (.inl ⟨rfl, h4⟩)]
      go_enter Tryz.func100, Tryz.ntmps100
      go_wp2
      go_ret
      exact ⟨by first | rfl | exact ret_bool (by simp [*]), rfl⟩
    · rw [leapB_false (by unfold leapP; omega)]
      go_enter Tryz.func100, Tryz.ntmps100
      go_wp2
      go_ret
      exact ⟨by first | rfl | exact ret_bool (by simp [*]), rfl⟩
  by_cases h1 : c = 1
  · subst h1
    by_cases h4 : y.tmod 4 = 0
    · by_cases h100 : y.tmod 100 = 0
      · by_cases h400 : y.tmod 400 = 0
        · rw [leapB_true (.inr ⟨rfl, .inr h400⟩)]
          go_enter Tryz.func100, Tryz.ntmps100
          go_wp2
          go_ret
          exact ⟨by first | rfl | exact ret_bool (by simp [*]), rfl⟩
        · rw [leapB_false (by unfold leapP; omega)]
          go_enter Tryz.func100, Tryz.ntmps100
          go_wp2
          go_ret
          exact ⟨by first | rfl | exact ret_bool (by simp [*]), rfl⟩
      · rw [leapB_true (.inr ⟨rfl, .inl ⟨h4, h100⟩⟩)]
        go_enter Tryz.func100, Tryz.ntmps100
        go_wp2
        go_ret
        exact ⟨by first | rfl | exact ret_bool (by simp [*]), rfl⟩
    · have h400 : ¬ y.tmod 400 = 0 := fun h => h4 (tmod_four h)
      rw [leapB_false (by unfold leapP; omega)]
      go_enter Tryz.func100, Tryz.ntmps100
      go_wp2
      go_ret
      exact ⟨by first | rfl | exact ret_bool (by simp [*]), rfl⟩
  rw [leapB_false (by unfold leapP; omega)]
  go_enter Tryz.func100, Tryz.ntmps100
  go_wp2
  go_ret
  exact ⟨by first | rfl | exact ret_bool (by simp [*]), rfl⟩


theorem implCal0 (w : World) : Calls Tryz.prog 51 #[.int .i64 0] w fun e w' => e = .returned (.iface 89 (.agg #[])) ∧ w' = w := by
  go_enter Tryz.func51, Tryz.ntmps51
  go_wp2
  go_ret
  exact ⟨rfl, rfl⟩
theorem implCal1 (w : World) : Calls Tryz.prog 51 #[.int .i64 1] w fun e w' => e = .returned (.iface 90 (.agg #[])) ∧ w' = w := by
  go_enter Tryz.func51, Tryz.ntmps51
  go_wp2
  go_ret
  exact ⟨rfl, rfl⟩
theorem implCalNo (c : Int) (h0 : ¬ c = 0) (h1 : ¬ c = 1) (w : World) : Calls Tryz.prog 51 #[.int .i64 c] w fun e w' => e = .returned .nilIface ∧ w' = w := by
  go_enter Tryz.func51, Tryz.ntmps51
  go_wp2
  go_ret
  exact ⟨rfl, rfl⟩

/- What a type switch asks of a calendar: closed facts over the program's tables. -/
theorem isJulJul (w : World) : (Instr.typeAssert (.iface 89 (.agg #[])) 86 89 true).run Tryz.prog w = .ok (.tuple #[.agg #[], .bool true]) w := by kernel_rfl
theorem isJulGre (w : World) : (Instr.typeAssert (.iface 90 (.agg #[])) 86 89 true).run Tryz.prog w = .ok (.tuple #[.agg #[], .bool false]) w := by kernel_rfl
theorem isGreGre (w : World) : (Instr.typeAssert (.iface 90 (.agg #[])) 86 90 true).run Tryz.prog w = .ok (.tuple #[.agg #[], .bool true]) w := by kernel_rfl
theorem isJulNil (w : World) : (Instr.typeAssert .nilIface 86 89 true).run Tryz.prog w = .ok (.tuple #[.agg #[], .bool false]) w := by kernel_rfl
theorem isGreNil (w : World) : (Instr.typeAssert .nilIface 86 90 true).run Tryz.prog w = .ok (.tuple #[.agg #[], .bool false]) w := by kernel_rfl

theorem leapJul (y : Int) (w : World) : Calls Tryz.prog 179 #[.agg #[], .int .i64 y] w fun e w' => e = .returned (.bool (leapB 0 y)) ∧ Below w.heap.size w w' := by
  have h : leapB 0 y = (y.tmod 4 == 0) := by
    by_cases h : y.tmod 4 = 0
    · rw [leapB_true (.inl ⟨rfl, h⟩), h]; rfl
    · rw [leapB_false (by unfold leapP; omega)]; simp [h]
  rw [h]
  clear h
  go_enter Tryz.func179, Tryz.ntmps179
  go_wp2
  go_ret
  exact ⟨rfl, (Below.refl _ _).alloc (Nat.le_refl _) _⟩
theorem leapGre (y : Int) (w : World) : Calls Tryz.prog 181 #[.agg #[], .int .i64 y] w fun e w' => e = .returned (.bool (leapB 1 y)) ∧ Below w.heap.size w w' := by
  by_cases h4 : y.tmod 4 = 0
  · by_cases h100 : y.tmod 100 = 0
    · by_cases h400 : y.tmod 400 = 0
      · rw [leapB_true (.inr ⟨rfl, .inr h400⟩)]
        go_enter Tryz.func181, Tryz.ntmps181
        go_wp2
        go_ret
        exact ⟨by first | rfl | exact ret_bool (by simp [*]), (Below.refl _ _).alloc (Nat.le_refl _) _⟩
      · rw [leapB_false (by unfold leapP; omega)]
        go_enter Tryz.func181, Tryz.ntmps181
        go_wp2
        go_ret
        exact ⟨by first | rfl | exact ret_bool (by simp [*]), (Below.refl _ _).alloc (Nat.le_refl _) _⟩
    · rw [leapB_true (.inr ⟨rfl, .inl ⟨h4, h100⟩⟩)]
      go_enter Tryz.func181, Tryz.ntmps181
      go_wp2
      go_ret
      exact ⟨by first | rfl | exact ret_bool (by simp [*]), (Below.refl _ _).alloc (Nat.le_refl _) _⟩
  · have h400 : ¬ y.tmod 400 = 0 := fun h => h4 (tmod_four h)
    rw [leapB_false (by unfold leapP; omega)]
    go_enter Tryz.func181, Tryz.ntmps181
    go_wp2
    go_ret
    exact ⟨by first | rfl | exact ret_bool (by simp [*]), (Below.refl _ _).alloc (Nat.le_refl _) _⟩

theorem implLeap (c y : Int) (w : World) : Calls Tryz.prog 122 #[.int .i64 c, .int .i64 y] w fun e w' => e = .returned (.bool (leapB c y)) ∧ Below w.heap.size w w' := by
  by_cases h0 : c = 0
  · subst h0
    go_enter Tryz.func122, Tryz.ntmps122
    go_wp2_with fail
    refine (implCal0 _).mono ?_
    rintro e w1 ⟨rfl, rfl⟩
    go_wp2_with (go_at_call 179; refine (leapJul _ _).mono ?_; rintro e w1 ⟨rfl, hb⟩)
    go_ret
    exact ⟨rfl, hb⟩
  by_cases h1 : c = 1
  · subst h1
    go_enter Tryz.func122, Tryz.ntmps122
    go_wp2_with fail
    refine (implCal1 _).mono ?_
    rintro e w1 ⟨rfl, rfl⟩
    go_wp2_with (go_at_call 181; refine (leapGre _ _).mono ?_; rintro e w1 ⟨rfl, hb⟩)
    go_ret
    exact ⟨rfl, hb⟩
  rw [leapB_false (by unfold leapP; omega)]
  go_enter Tryz.func122, Tryz.ntmps122
  go_wp2_with fail
  refine (implCalNo _ h0 h1 _).mono ?_
  rintro e w1 ⟨rfl, rfl⟩
  go_wp2
  go_ret
  exact ⟨rfl, Below.refl _ _⟩

def calText (c : Int) : ByteArray := if c = 0 then ⟨#[106, 117, 108]⟩ else if c = 1 then ⟨#[103, 114, 101]⟩ else ⟨#[]⟩
theorem specCalName (c : Int) (w : World) : Calls Tryz.prog 26 #[.int .i64 c] w fun e w' => e = .returned (.string (calText c)) ∧ w' = w := by
  by_cases h0 : c = 0
  · subst h0
    go_enter Tryz.func26, Tryz.ntmps26
    go_wp2
    go_ret
    exact ⟨rfl, rfl⟩
  by_cases h1 : c = 1
  · subst h1
    go_enter Tryz.func26, Tryz.ntmps26
    go_wp2
    go_ret
    exact ⟨rfl, rfl⟩
  rw [show calText c = ⟨#[]⟩ from by unfold calText; rw [if_neg h0, if_neg h1]]
  go_enter Tryz.func26, Tryz.ntmps26
  go_wp2
  go_ret
  exact ⟨rfl, rfl⟩
theorem implCalName (c : Int) (w : World) : Calls Tryz.prog 29 #[.int .i64 c] w fun e w' => e = .returned (.string (calText c)) ∧ w' = w := by
  by_cases h0 : c = 0
  · subst h0
    go_enter Tryz.func29, Tryz.ntmps29
    go_wp2_with fail
    refine (implCal0 _).mono ?_
    rintro e w1 ⟨rfl, rfl⟩
    have q1 := isJulJul
    go_wp2
    go_ret
    exact ⟨rfl, rfl⟩
  by_cases h1 : c = 1
  · subst h1
    go_enter Tryz.func29, Tryz.ntmps29
    go_wp2_with fail
    refine (implCal1 _).mono ?_
    rintro e w1 ⟨rfl, rfl⟩
    have q1 := isJulGre
    have q2 := isGreGre
    go_wp2
    go_ret
    exact ⟨rfl, rfl⟩
  rw [show calText c = ⟨#[]⟩ from by unfold calText; rw [if_neg h0, if_neg h1]]
  go_enter Tryz.func29, Tryz.ntmps29
  go_wp2_with fail
  refine (implCalNo _ h0 h1 _).mono ?_
  rintro e w1 ⟨rfl, rfl⟩
  have q1 := isJulNil
  have q2 := isGreNil
  go_wp2
  go_ret
  exact ⟨rfl, rfl⟩
end Go.Proofs.YtoofnjccpoeomaaGreatDoor.ctr
