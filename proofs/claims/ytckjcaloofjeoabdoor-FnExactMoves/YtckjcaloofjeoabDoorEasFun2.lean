/- Contracts of the program's EasterDays: it answers its plain function, where the table of months holds its numbers. -/
import Derived.Test.YtckjcaloofjeoabDoorEasOnly
namespace Go.Proofs.YtckjcaloofjeoabDoor.ctr
open Go.RowKit

set_option maxHeartbeats 1000000 in
theorem implEasterDays (c y : Int) (w : World) (hT : Tab w) : Calls Tryd.prog 10 #[.int .i64 c, .int .i64 y] w fun e w' => e = .returned (.int .i64 (easterDays c y)) ∧ Below w.heap.size w w' := by
  have KT : ∀ x : Later w, Tab x.w := fun x => hT.later x.below
  have KY := implYearOk c y w hT
  by_cases h : yearP c y
  · rw [yearB_true h] at KY
    have KE : ∀ x : Later w, Calls Tryd.prog 33 #[.int .i64 c, .int .i64 y] x.w fun e w' => e = .returned (.int .i64 (easter c y)) ∧ Below x.w.heap.size x.w w' := fun x => implEaster c y x.w (KT x)
    have KD : ∀ x : Later w, Calls Tryd.prog 34 #[.agg #[.int .i64 c, .int .i64 y, .int .i64 3, .int .i64 21]] x.w fun e w' => e = .returned (.int .i64 (march c y + 20)) ∧ Below x.w.heap.size x.w w' := fun x => by
      have k := implMarch c y 21 x.w (KT x) h (by omega) (by omega)
      rw [show march c y + 21 - 1 = march c y + 20 from by omega] at k
      exact k
    have HR : Hid (easterDays c y = easter c y - (march c y + 20)) := by unfold Hid easterDays; rw [if_pos h]
    have b1 := easter_b h
    have b2 := march_b h
    rw [HR.out]
    clear h HR hT KT
    generalize easter c y = R at *
    generalize march c y = M at *
    go_enter Tryd.func10, Tryd.ntmps10
    go_wp2_with fail
    refine KY.mono ?_
    rintro e w1 ⟨rfl, hb⟩
    obtain ⟨x1, rfl⟩ := Later.of hb
    clear hb
    go_wp2_with fail
    refine (KE x1).mono ?_
    rintro e w2 ⟨rfl, hb⟩
    obtain ⟨x2, rfl⟩ := x1.next hb
    clear hb
    go_wp2_with fail
    refine (KD x2).mono ?_
    rintro e w3 ⟨rfl, hb⟩
    obtain ⟨x3, rfl⟩ := x2.next hb
    clear hb
    go_wp2
    go_ret
    exact ⟨rfl, x3.below⟩
  · rw [yearB_false h] at KY
    have HR : Hid (easterDays c y = 0) := by unfold Hid easterDays; rw [if_neg h]
    clear h hT KT
    go_enter Tryd.func10, Tryd.ntmps10
    go_wp2_with fail
    refine KY.mono ?_
    rintro e w1 ⟨rfl, hb⟩
    go_wp2
    go_ret
    exact ⟨ret_int HR.out.symm, hb⟩
end Go.Proofs.YtckjcaloofjeoabDoor.ctr
