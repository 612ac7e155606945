/- Contracts of the program's Epact, FullMoon, EasterTable, Easter, EasterDays: each answers its plain function, where the table of months holds its numbers. -/
import Derived.Test.YtckjcaloofjeoaaDoorEasMoon
namespace Go.Proofs.YtckjcaloofjeoaaDoor.ctr
open Go.RowKit

theorem moonInt_epact (c y : Int) : moonInt c y 0 = epact c y := by
  unfold moonInt epact
  split <;> simp
theorem rowField (u v : Int) (W : World) : (Instr.field 74 (.agg #[.int .i64 u, .int .i64 v]) 0).run Tryd.prog W = .ok (.int .i64 u) W ∧ (Instr.field 74 (.agg #[.int .i64 u, .int .i64 v]) 1).run Tryd.prog W = .ok (.int .i64 v) W := by
  constructor <;> simp [Instr.field, run_underlying Tryd.underlying74, go_sem, part, asAgg]
theorem implEpact (c y : Int) (w : World) (hT : Tab w) : Calls Tryd.prog 63 #[.int .i64 c, .int .i64 y] w fun e w' => e = .returned (.int .i64 (epact c y)) ∧ Below w.heap.size w w' := by
  have KM := implMoon c y w hT
  clear hT
  rw [← moonInt_epact]
  generalize moonInt c y 0 = r0 at *
  generalize moonInt c y 1 = r1 at *
  have KI := fun W => (rowField r0 r1 W).1
  go_enter Tryd.func63, Tryd.ntmps63
  go_wp2_with fail
  refine KM.mono ?_
  rintro e w1 ⟨rfl, hb⟩
  go_wp2
  go_ret
  exact ⟨rfl, hb⟩

theorem dayOf_march {c y d : Int} (h : yearP c y) (h1 : 1 ≤ d) (h2 : d ≤ 31) : dayOf c y 3 d = march c y + d - 1 := by
  have h3 := monthDays_plain (y := y) h.1 (m := 3) (by omega) (by omega) (by omega)
  have h3' : monthDays c y 3 = 31 := h3
  unfold dayOf march
  rw [if_pos ⟨h.1, h.2.1, h.2.2, h1, by omega⟩, show ((3 : Int) - 1).toNat = 2 from rfl]
theorem implMarch (c y d : Int) (w : World) (hT : Tab w) (h : yearP c y) (h1 : 1 ≤ d) (h2 : d ≤ 31) : Calls Tryd.prog 17 #[.agg #[.int .i64 c, .int .i64 y, .int .i64 3, .int .i64 d]] w fun e w' => e = .returned (.int .i64 (march c y + d - 1)) ∧ Below w.heap.size w w' := by
  rw [← dayOf_march h h1 h2]
  exact implDayOf c y 3 d w hT

set_option maxHeartbeats 1000000 in
theorem implFullMoon (c y : Int) (w : World) (hT : Tab w) : Calls Tryd.prog 61 #[.int .i64 c, .int .i64 y] w fun e w' => e = .returned (.int .i64 (fullMoon c y)) ∧ Below w.heap.size w w' := by
  have KT : ∀ x : Later w, Tab x.w := fun x => hT.later x.below
  have KY := implYearOk c y w hT
  by_cases h : yearP c y
  · rw [yearB_true h] at KY
    have HR : Hid (fullMoon c y = march c y + moonOff c y) := by unfold Hid fullMoon; rw [if_pos h]
    have KM : ∀ x : Later w, Calls Tryd.prog 101 #[.int .i64 c, .int .i64 y] x.w fun e w' => e = .returned (.agg #[.int .i64 (moonInt c y 0), .int .i64 (moonInt c y 1)]) ∧ Below x.w.heap.size x.w w' := fun x => implMoon c y x.w (KT x)
    have KD : ∀ x : Later w, Calls Tryd.prog 17 #[.agg #[.int .i64 c, .int .i64 y, .int .i64 3, .int .i64 1]] x.w fun e w' => e = .returned (.int .i64 (march c y)) ∧ Below x.w.heap.size x.w w' := fun x => by
      have k := implMarch c y 1 x.w (KT x) h (by omega) (by omega)
      rw [show march c y + 1 - 1 = march c y from by omega] at k
      exact k
    have h1 : moonInt c y 1 = moonOff c y := by unfold moonInt; rw [if_pos h, if_neg (by omega)]
    rw [h1] at KM
    rw [HR.out]
    have b1 := march_b h
    have b2 := moonOff_b h
    clear h h1 HR hT KT
    generalize moonInt c y 0 = r0 at *
    generalize moonOff c y = O at *
    generalize march c y = M at *
    have KI := fun W => (rowField r0 O W).2
    go_enter Tryd.func61, Tryd.ntmps61
    go_wp2_with fail
    refine KY.mono ?_
    rintro e w1 ⟨rfl, hb⟩
    obtain ⟨x1, rfl⟩ := Later.of hb
    clear hb
    go_wp2_with fail
    refine (KD x1).mono ?_
    rintro e w2 ⟨rfl, hb⟩
    obtain ⟨x2, rfl⟩ := x1.next hb
    clear hb
    go_wp2_with fail
    refine (KM x2).mono ?_
    rintro e w3 ⟨rfl, hb⟩
    obtain ⟨x3, rfl⟩ := x2.next hb
    clear hb
    go_wp2
    go_ret
    exact ⟨rfl, x3.below⟩
  · rw [yearB_false h] at KY
    have HR : Hid (fullMoon c y = 0) := by unfold Hid fullMoon; rw [if_neg h]
    clear h hT KT
    go_enter Tryd.func61, Tryd.ntmps61
    go_wp2_with fail
    refine KY.mono ?_
    rintro e w1 ⟨rfl, hb⟩
    go_wp2
    go_ret
    exact ⟨ret_int HR.out.symm, hb⟩

theorem implWeek (n : Int) (w : World) (hn : -9223372036854775808 ≤ n ∧ n ≤ 9223372036854775807) : Calls Tryd.prog 39 #[.int .i64 n] w fun e w' => e = .returned (.int .i64 (n % 7)) ∧ w' = w := by
  rw [← floorMod_pos n (b := 7) (by omega) (by omega)]
  exact implWeekday n w hn
set_option maxHeartbeats 1000000 in
theorem implEasterTable (c y : Int) (w : World) (hT : Tab w) : Calls Tryd.prog 59 #[.int .i64 c, .int .i64 y] w fun e w' => e = .returned (.int .i64 (easterTable c y)) ∧ Below w.heap.size w w' := by
  have KT : ∀ x : Later w, Tab x.w := fun x => hT.later x.below
  have KY := implYearOk c y w hT
  by_cases h : yearP c y
  · rw [yearB_true h] at KY
    have HR : Hid (easterTable c y = fullMoon c y + 7 - fullMoon c y % 7) := by unfold Hid easterTable; rw [if_pos h]
    have KF : ∀ x : Later w, Calls Tryd.prog 61 #[.int .i64 c, .int .i64 y] x.w fun e w' => e = .returned (.int .i64 (fullMoon c y)) ∧ Below x.w.heap.size x.w w' := fun x => implFullMoon c y x.w (KT x)
    have b1 := fullMoon_b h
    have KW : ∀ W, Calls Tryd.prog 39 #[.int .i64 (fullMoon c y)] W fun e w' => e = .returned (.int .i64 (fullMoon c y % 7)) ∧ w' = W := fun W => implWeek _ W (by omega)
    have b2 : 0 ≤ fullMoon c y % 7 ∧ fullMoon c y % 7 ≤ 6 := by omega
    rw [HR.out]
    clear h HR hT KT
    generalize fullMoon c y % 7 = D at *
    generalize fullMoon c y = M at *
    go_enter Tryd.func59, Tryd.ntmps59
    go_wp2_with fail
    refine KY.mono ?_
    rintro e w1 ⟨rfl, hb⟩
    obtain ⟨x1, rfl⟩ := Later.of hb
    clear hb
    go_wp2_with fail
    refine (KF x1).mono ?_
    rintro e w2 ⟨rfl, hb⟩
    obtain ⟨x2, rfl⟩ := x1.next hb
    clear hb
    go_wp2_with fail
    refine (KW _).mono ?_
    rintro e w3 ⟨rfl, rfl⟩
    go_wp2
    go_ret
    exact ⟨rfl, x2.below⟩
  · rw [yearB_false h] at KY
    have HR : Hid (easterTable c y = 0) := by unfold Hid easterTable; rw [if_neg h]
    clear h hT KT
    go_enter Tryd.func59, Tryd.ntmps59
    go_wp2_with fail
    refine KY.mono ?_
    rintro e w1 ⟨rfl, hb⟩
    go_wp2
    go_ret
    exact ⟨ret_int HR.out.symm, hb⟩
end Go.Proofs.YtckjcaloofjeoaaDoor.ctr
