/- Contracts of the Sunday letter: the model's and the program's Letter answer the plain function. -/
import Derived.Test.YtckjcaloofjeoaaDoorEasFun2
namespace Go.Proofs.YtckjcaloofjeoaaDoor.ctr
open Go.RowKit

def letText (n : Int) : ByteArray := ⟨#[([65, 66, 67, 68, 69, 70, 71] : List UInt8).getD n.toNat 0]⟩
def letterN (c y : Int) : Int := (-(first c y % 7) - (if leapP c y then 1 else 0)) % 7
def letter (c y : Int) : ByteArray := if yearP c y then letText (letterN c y) else ⟨#[]⟩

set_option maxHeartbeats 1000000 in
theorem specLetter (c y : Int) (w : World) : Calls Tryd.prog 68 #[.int .i64 c, .int .i64 y] w fun e w' => e = .returned (.string (letter c y)) ∧ Below w.heap.size w w' := by
  have KY : ∀ W, Calls Tryd.prog 99 #[.int .i64 c, .int .i64 y] W fun e w' => e = .returned (.bool (yearB c y)) ∧ w' = W := specYearOk c y
  by_cases h : yearP c y
  · rw [yearB_true h] at KY
    have HR : Hid (letter c y = letText (letterN c y)) := by unfold Hid letter; rw [if_pos h]
    rw [HR.out]
    clear HR
    have KF : ∀ W, Calls Tryd.prog 85 #[.int .i64 c, .int .i64 y] W fun e w' => e = .returned (.int .i64 (first c y)) ∧ w' = W := fun W => specFirst c y W h.1 (by have := h.2.1; omega) (by have := h.2.2; omega)
    have KW : ∀ W, Calls Tryd.prog 40 #[.int .i64 (first c y)] W fun e w' => e = .returned (.int .i64 (first c y % 7)) ∧ w' = W := specWeek _
    have KL : ∀ W, Calls Tryd.prog 28 #[.int .i64 c, .int .i64 y] W fun e w' => e = .returned (.bool (leapB c y)) ∧ w' = W := specLeap c y
    have KM : ∀ (n : Int) W, Calls Tryd.prog 95 #[.int .i64 n, .int .i64 7] W fun e w' => e = .returned (.int .i64 (n % 7)) ∧ w' = W := fun n W => by
      rw [← floorMod_pos n (b := 7) (by omega) (by omega)]
      exact specFloorMod n 7 W
    have hD : 0 ≤ first c y % 7 ∧ first c y % 7 ≤ 6 := by omega
    by_cases hl : leapP c y
    · have hN : letterN c y = ((-(first c y % 7)) % 7 - 1) % 7 := by unfold letterN; rw [if_pos hl]; omega
      rw [leapB_true hl] at KL
      rw [hN]
      clear h hl hN
      generalize first c y % 7 = D at *
      generalize first c y = F at *
      have KM0 := KM (-D)
      have h0 : 0 ≤ (-D) % 7 ∧ (-D) % 7 ≤ 6 := by omega
      generalize (-D) % 7 = M0 at *
      have KM1 := KM (M0 - 1)
      have h1 : 0 ≤ (M0 - 1) % 7 ∧ (M0 - 1) % 7 ≤ 6 := by omega
      generalize (M0 - 1) % 7 = N at *
      clear KM
      go_enter Tryd.func68, Tryd.ntmps68
      go_wp2_with fail
      refine (KY _).mono ?_
      rintro e w1 ⟨rfl, rfl⟩
      go_wp2_with fail
      refine (KF _).mono ?_
      rintro e w1 ⟨rfl, rfl⟩
      go_wp2_with fail
      refine (KW _).mono ?_
      rintro e w1 ⟨rfl, rfl⟩
      go_wp2_with fail
      refine (KM0 _).mono ?_
      rintro e w1 ⟨rfl, rfl⟩
      go_wp2_with fail
      refine (KL _).mono ?_
      rintro e w1 ⟨rfl, rfl⟩
      go_wp2_with fail
      refine (KM1 _).mono ?_
      rintro e w1 ⟨rfl, rfl⟩
      clear KM0 KM1
      rcases (show N = 0 ∨ N = 1 ∨ N = 2 ∨ N = 3 ∨ N = 4 ∨ N = 5 ∨ N = 6 by omega) with rfl | rfl | rfl | rfl | rfl | rfl | rfl
      all_goals
        go_wp2
        go_ret
        exact ⟨rfl, Below.refl _ _⟩
    · have hN : letterN c y = (-(first c y % 7)) % 7 := by unfold letterN; rw [if_neg hl]; omega
      rw [leapB_false hl] at KL
      rw [hN]
      clear h hl hN
      generalize first c y % 7 = D at *
      generalize first c y = F at *
      have KM0 := KM (-D)
      have h0 : 0 ≤ (-D) % 7 ∧ (-D) % 7 ≤ 6 := by omega
      generalize (-D) % 7 = N at *
      clear KM
      go_enter Tryd.func68, Tryd.ntmps68
      go_wp2_with fail
      refine (KY _).mono ?_
      rintro e w1 ⟨rfl, rfl⟩
      go_wp2_with fail
      refine (KF _).mono ?_
      rintro e w1 ⟨rfl, rfl⟩
      go_wp2_with fail
      refine (KW _).mono ?_
      rintro e w1 ⟨rfl, rfl⟩
      go_wp2_with fail
      refine (KM0 _).mono ?_
      rintro e w1 ⟨rfl, rfl⟩
      go_wp2_with fail
      refine (KL _).mono ?_
      rintro e w1 ⟨rfl, rfl⟩
      clear KM0
      rcases (show N = 0 ∨ N = 1 ∨ N = 2 ∨ N = 3 ∨ N = 4 ∨ N = 5 ∨ N = 6 by omega) with rfl | rfl | rfl | rfl | rfl | rfl | rfl
      all_goals
        go_wp2
        go_ret
        exact ⟨rfl, Below.refl _ _⟩
  · rw [yearB_false h] at KY
    have HR : Hid (letter c y = ⟨#[]⟩) := by unfold Hid letter; rw [if_neg h]
    rw [HR.out]
    clear h HR
    go_enter Tryd.func68, Tryd.ntmps68
    go_wp2_with fail
    refine (KY _).mono ?_
    rintro e w1 ⟨rfl, rfl⟩
    go_wp2
    go_ret
    exact ⟨rfl, Below.refl _ _⟩

theorem dayOf_jan {c y : Int} (h : yearP c y) : dayOf c y 1 1 = first c y := by
  have := monthDays_ge (y := y) h.1 (m := 1) (by omega) (by omega)
  unfold dayOf
  rw [if_pos ⟨h.1, h.2.1, h.2.2, by omega, by omega⟩, show ((1 : Int) - 1).toNat = 0 from rfl]
  simp [before]

set_option maxHeartbeats 1000000 in
theorem implLetter (c y : Int) (w : World) (hT : Tab w) : Calls Tryd.prog 67 #[.int .i64 c, .int .i64 y] w fun e w' => e = .returned (.string (letter c y)) ∧ Below w.heap.size w w' := by
  have KT : ∀ x : Later w, Tab x.w := fun x => hT.later x.below
  have KY := implYearOk c y w hT
  by_cases h : yearP c y
  · rw [yearB_true h] at KY
    have HR : Hid (letter c y = letText (letterN c y)) := by unfold Hid letter; rw [if_pos h]
    rw [HR.out]
    clear HR
    have KF : ∀ x : Later w, Calls Tryd.prog 17 #[.agg #[.int .i64 c, .int .i64 y, .int .i64 1, .int .i64 1]] x.w fun e w' => e = .returned (.int .i64 (first c y)) ∧ Below x.w.heap.size x.w w' := fun x => by
      rw [← dayOf_jan h]
      exact implDayOf c y 1 1 x.w (KT x)
    have hb := first_bound (y := y) h.1 (by have := h.2.1; omega) (by have := h.2.2; omega)
    have KW : ∀ W, Calls Tryd.prog 39 #[.int .i64 (first c y)] W fun e w' => e = .returned (.int .i64 (first c y % 7)) ∧ w' = W := fun W => implWeek _ W (by omega)
    have KL : ∀ W, Calls Tryd.prog 27 #[.int .i64 c, .int .i64 y] W fun e w' => e = .returned (.bool (leapB c y)) ∧ Below W.heap.size W w' := implLeap c y
    have KM : ∀ (n : Int) W, -100 ≤ n ∧ n ≤ 100 → Calls Tryd.prog 94 #[.int .i64 n, .int .i64 7] W fun e w' => e = .returned (.int .i64 (n % 7)) ∧ w' = W := fun n W hn => by
      rw [← floorMod_pos n (b := 7) (by omega) (by omega)]
      exact implFloorMod n 7 W (by omega)
    have hD : 0 ≤ first c y % 7 ∧ first c y % 7 ≤ 6 := by omega
    clear hT KT
    by_cases hl : leapP c y
    · have hN : letterN c y = (-(first c y % 7) - 1) % 7 := by unfold letterN; rw [if_pos hl]
      rw [leapB_true hl] at KL
      rw [hN]
      clear h hl hN
      generalize first c y % 7 = D at *
      generalize first c y = F at *
      have KM0 := fun W => KM (-D - 1) W (by omega)
      have h0 : 0 ≤ (-D - 1) % 7 ∧ (-D - 1) % 7 ≤ 6 := by omega
      generalize (-D - 1) % 7 = N at *
      clear KM
      go_enter Tryd.func67, Tryd.ntmps67
      go_wp2_with fail
      refine KY.mono ?_
      rintro e w1 ⟨rfl, hb⟩
      obtain ⟨x1, rfl⟩ := Later.of hb
      clear hb
      go_wp2_with fail
      refine (KF x1).mono ?_
      rintro e w1 ⟨rfl, hb⟩
      obtain ⟨x2, rfl⟩ := x1.next hb
      clear hb
      go_wp2_with fail
      refine (KW _).mono ?_
      rintro e w1 ⟨rfl, rfl⟩
      go_wp2_with fail
      refine (KL _).mono ?_
      rintro e w1 ⟨rfl, hb⟩
      obtain ⟨x3, rfl⟩ := x2.next hb
      clear hb
      go_wp2_with fail
      refine (KM0 _).mono ?_
      rintro e w1 ⟨rfl, rfl⟩
      clear KM0
      rcases (show N = 0 ∨ N = 1 ∨ N = 2 ∨ N = 3 ∨ N = 4 ∨ N = 5 ∨ N = 6 by omega) with rfl | rfl | rfl | rfl | rfl | rfl | rfl
      all_goals
        go_wp2
        go_ret
        exact ⟨rfl, x3.below⟩
    · have hN : letterN c y = (-(first c y % 7)) % 7 := by unfold letterN; rw [if_neg hl]; omega
      rw [leapB_false hl] at KL
      rw [hN]
      clear h hl hN
      generalize first c y % 7 = D at *
      generalize first c y = F at *
      have KM0 := fun W => KM (-D) W (by omega)
      have h0 : 0 ≤ (-D) % 7 ∧ (-D) % 7 ≤ 6 := by omega
      generalize (-D) % 7 = N at *
      clear KM
      go_enter Tryd.func67, Tryd.ntmps67
      go_wp2_with fail
      refine KY.mono ?_
      rintro e w1 ⟨rfl, hb⟩
      obtain ⟨x1, rfl⟩ := Later.of hb
      clear hb
      go_wp2_with fail
      refine (KF x1).mono ?_
      rintro e w1 ⟨rfl, hb⟩
      obtain ⟨x2, rfl⟩ := x1.next hb
      clear hb
      go_wp2_with fail
      refine (KW _).mono ?_
      rintro e w1 ⟨rfl, rfl⟩
      go_wp2_with fail
      refine (KL _).mono ?_
      rintro e w1 ⟨rfl, hb⟩
      obtain ⟨x3, rfl⟩ := x2.next hb
      clear hb
      go_wp2_with fail
      refine (KM0 _).mono ?_
      rintro e w1 ⟨rfl, rfl⟩
      clear KM0
      rcases (show N = 0 ∨ N = 1 ∨ N = 2 ∨ N = 3 ∨ N = 4 ∨ N = 5 ∨ N = 6 by omega) with rfl | rfl | rfl | rfl | rfl | rfl | rfl
      all_goals
        go_wp2
        go_ret
        exact ⟨rfl, x3.below⟩
  · rw [yearB_false h] at KY
    have HR : Hid (letter c y = ⟨#[]⟩) := by unfold Hid letter; rw [if_neg h]
    rw [HR.out]
    clear h HR hT KT
    go_enter Tryd.func67, Tryd.ntmps67
    go_wp2_with fail
    refine KY.mono ?_
    rintro e w1 ⟨rfl, hb⟩
    go_wp2
    go_ret
    exact ⟨rfl, hb⟩
end Go.Proofs.YtckjcaloofjeoaaDoor.ctr
