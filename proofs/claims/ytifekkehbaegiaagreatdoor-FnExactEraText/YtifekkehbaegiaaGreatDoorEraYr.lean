/- Contracts of both EraYear and EraSpan, and of the program's numbering with its two closures: each answers its plain function, where the table of months holds its numbers. -/
import Derived.Test.YtifekkehbaegiaaGreatDoorEraPlain
import Derived.Test.YtifekkehbaegiaaGreatDoorStyFun
import Derived.Test.YtifekkehbaegiaaGreatDoorFloorCtr
namespace Go.Proofs.YtifekkehbaegiaaGreatDoor.ctr
open Go.RowKit

noncomputable def eraR (c : Int) (s : ByteArray) (st ad cy n : Int) : Value := .tuple #[.int .i64 (eraYr c s st ad cy n).1, .bool (eraYr c s st ad cy n).2]
theorem eraR_of {c : Int} {s : ByteArray} {st ad cy n y : Int} {b : Bool} (h : eraYr c s st ad cy n = (y, b)) : eraR c s st ad cy n = .tuple #[.int .i64 y, .bool b] := by unfold eraR; rw [h]
theorem ret_to {v v' : Value} (h : v' = v) : Ending.returned v = Ending.returned v' := by rw [h]
theorem implNum1 (x : Int) (w : World) : Calls Tryz.prog 73 #[.int .i64 x] w fun e w' => e = .returned (.int .i64 x) ∧ w' = w := by
  go_enter Tryz.func73, Tryz.ntmps73
  go_wp2
  go_ret
  exact ⟨rfl, rfl⟩
theorem floor_small {a b : Int} (hb : 0 < b) (ha : 0 ≤ a) : floorMod a b = a % b := by
  unfold floorMod
  rw [if_neg (by omega), Int.tmod_eq_emod_of_nonneg ha, if_neg (by have := Int.emod_nonneg a (show b ≠ 0 by omega); omega)]
theorem implNum2 (x cy : Int) (B : Nat) (w : World) (hc : w.cell? ⟨B, 0, none⟩ = some (.int .i64 cy)) (x1 : 1 ≤ x) (x2 : x ≤ 12000) (c1 : 2 ≤ cy) (c2 : cy ≤ 600) :
    Calls Tryz.prog 74 #[.int .i64 x, .pointer (some ⟨B, 0, none⟩)] w fun e w' => e = .returned (.int .i64 ((x - 1) % cy + 1)) ∧ w' = w := by
  have KF : Calls Tryz.prog 75 #[.int .i64 (x - 1), .int .i64 cy] w fun e w' => e = .returned (.int .i64 ((x - 1) % cy)) ∧ w' = w := by
    rw [← floor_small (by omega) (by omega)]
    exact implFloorMod (x - 1) cy w (by omega)
  have m1 := Int.emod_nonneg (x - 1) (show cy ≠ 0 by omega)
  have m2 := Int.emod_lt_of_pos (x - 1) (show 0 < cy by omega)
  generalize (x - 1) % cy = M at *
  go_enter Tryz.func74, Tryz.ntmps74
  go_wp2_with fail
  refine KF.mono ?_
  rintro e w1 ⟨rfl, rfl⟩
  go_wp2
  go_ret
  exact ⟨rfl, rfl⟩
theorem implNumbering0 (w : World) : Calls Tryz.prog 38 #[.int .i64 0] w fun e w' => e = .returned (.func (.func 73) #[] #[]) ∧ Below w.heap.size w w' := by
  go_enter Tryz.func38, Tryz.ntmps38
  go_wp2
  go_ret
  exact ⟨rfl, (Below.refl _ _).alloc (Nat.le_refl _) _⟩
theorem implNumbering (cy : Int) (w : World) (h : cy ≠ 0) : Calls Tryz.prog 38 #[.int .i64 cy] w fun e w' => e = .returned (.func (.func 74) #[] #[.pointer (some ⟨w.heap.size, 0, none⟩)]) ∧ w' = w.alloc (.cells #[.int .i64 cy] 3) := by
  have h' : (cy == 0) = false := by simp [h]
  go_enter Tryz.func38, Tryz.ntmps38
  go_wp2
  go_ret
  exact ⟨rfl, rfl⟩

set_option maxHeartbeats 2000000 in
theorem implEraYear (c : Int) (s : ByteArray) (st ad cy n : Int) (w : World) (hs : s.size ≤ maxLen) (hT : Tab w) : Calls Tryz.prog 8 #[.int .i64 c, .agg #[.string s, .int .i64 st, .int .i64 ad, .int .i64 cy], .int .i64 n] w fun e w' => e = .returned (eraR c s st ad cy n) ∧ Below w.heap.size w w' := by
  obtain ⟨W0, hW0, c0, c1, c2, c3, hBl⟩ := era_box w s st ad cy 25
  have HW0 := hideP hW0
  have HBl := hideP hBl
  have KT : ∀ x : Later W0, Tab x.w := fun x => hT.later (hBl x)
  have KO : ∀ x : Later W0, Calls Tryz.prog 21 #[.agg #[.string s, .int .i64 st, .int .i64 ad, .int .i64 cy]] x.w fun e w' => e = .returned (.bool (eraOkB s st ad cy)) ∧ Below x.w.heap.size x.w w' := fun x => implEraOk s st ad cy x.w hs
  have KS : ∀ x : Later W0, Calls Tryz.prog 37 #[.int .i64 c, .int .i64 st, .int .i64 n] x.w fun e w' => e = .returned (styR c st n) ∧ Below x.w.heap.size x.w w' := fun x => implStyleYear c st n x.w (KT x)
  clear hs hW0 hBl hT KT
  cases ho : eraOkB s st ad cy
  · simp only [ho] at KO
    have HR := hideP (eraR_of (eraYr_bad (c := c) (n := n) ho))
    clear ho KS
    go_enter Tryz.func8, Tryz.ntmps8
    go_wp2_with fail
    rw [← HW0.out]
    refine (KO ⟨W0, Below.refl _ _⟩).mono ?_
    rintro e w1 ⟨rfl, hb⟩
    obtain ⟨x1, rfl⟩ := Later.of hb
    clear hb
    go_wp2
    go_returns
    exact ⟨ret_to HR.out, HBl.out x1⟩
  simp only [ho] at KO
  rcases sty_cases c st n with hn | ⟨y, hy, hP, _⟩
  · simp only [styR_no hn] at KS
    have HR := hideP (eraR_of (eraYr_no (s := s) (add := ad) (cyc := cy) hn))
    clear hn ho
    go_enter Tryz.func8, Tryz.ntmps8
    go_wp2_with fail
    rw [← HW0.out]
    refine (KO ⟨W0, Below.refl _ _⟩).mono ?_
    rintro e w1 ⟨rfl, hb⟩
    obtain ⟨x1, rfl⟩ := Later.of hb
    clear hb
    go_wp2_with fail
    refine (KS x1).mono ?_
    rintro e w2 ⟨rfl, hb⟩
    obtain ⟨x2, rfl⟩ := x1.next hb
    clear hb
    go_wp2
    go_returns
    exact ⟨ret_to HR.out, HBl.out x2⟩
  simp only [styR_yes hy] at KS
  have HR := hideP (eraR_of (eraYr_yes ho hy))
  obtain ⟨_, _, a1, a2, hcy⟩ := eraOk_parts ho
  have y1 := hP.2.1
  have y2 := hP.2.2
  clear ho hy hP
  rcases hcy with rfl | ⟨d1, d2⟩
  · have HN : Hid (eraNum ad 0 y = y + ad) := by unfold Hid eraNum; rw [if_pos rfl]
    rw [HN.out] at HR
    go_enter Tryz.func8, Tryz.ntmps8
    go_wp2_with fail
    rw [← HW0.out]
    refine (KO ⟨W0, Below.refl _ _⟩).mono ?_
    rintro e w1 ⟨rfl, hb⟩
    obtain ⟨x1, rfl⟩ := Later.of hb
    clear hb
    go_wp2_with fail
    refine (KS x1).mono ?_
    rintro e w2 ⟨rfl, hb⟩
    obtain ⟨x2, rfl⟩ := x1.next hb
    clear hb
    go_wp2_with fail
    refine (implNumbering0 _).mono ?_
    rintro e w3 ⟨rfl, hb⟩
    obtain ⟨x3, rfl⟩ := x2.next hb
    clear hb
    go_wp2_with fail
    refine (implNum1 (y + ad) _).mono ?_
    rintro e w4 ⟨rfl, rfl⟩
    go_wp2
    go_returns
    exact ⟨ret_to HR.out, HBl.out x3⟩
  · have HN : Hid (eraNum ad cy y = (y + ad - 1) % cy + 1) := by unfold Hid eraNum; rw [if_neg (by omega)]
    rw [HN.out] at HR
    have hc0 : cy ≠ 0 := by omega
    go_enter Tryz.func8, Tryz.ntmps8
    go_wp2_with fail
    rw [← HW0.out]
    refine (KO ⟨W0, Below.refl _ _⟩).mono ?_
    rintro e w1 ⟨rfl, hb⟩
    obtain ⟨x1, rfl⟩ := Later.of hb
    clear hb
    go_wp2_with fail
    refine (KS x1).mono ?_
    rintro e w2 ⟨rfl, hb⟩
    obtain ⟨x2, rfl⟩ := x1.next hb
    clear hb
    go_wp2_with fail
    refine (implNumbering cy _ hc0).mono ?_
    rintro e w3 ⟨rfl, hw3⟩
    have hc3 : w3.cell? ⟨x2.w.heap.size, 0, none⟩ = some (.int .i64 cy) := by rw [hw3, World.cell?_alloc_at _ _ _ _ rfl]; rfl
    obtain ⟨x3, rfl⟩ := x2.next (w' := w3) (by rw [hw3]; exact (Below.refl _ _).alloc (Nat.le_refl _) _)
    clear hw3
    go_wp2_with fail
    refine (implNum2 (y + ad) cy x2.w.heap.size _ hc3 (by omega) (by omega) d1 d2).mono ?_
    rintro e w4 ⟨rfl, rfl⟩
    generalize (y + ad - 1) % cy = M at *
    go_wp2
    go_returns
    exact ⟨ret_to HR.out, HBl.out x3⟩

set_option maxHeartbeats 2000000 in
theorem specEraYear (c : Int) (s : ByteArray) (st ad cy n : Int) (w : World) (hs : s.size ≤ maxLen) : Calls Tryz.prog 9 #[.int .i64 c, .agg #[.string s, .int .i64 st, .int .i64 ad, .int .i64 cy], .int .i64 n] w fun e w' => e = .returned (eraR c s st ad cy n) ∧ Below w.heap.size w w' := by
  obtain ⟨W0, hW0, c0, c1, c2, c3, hBl⟩ := era_box w s st ad cy 25
  have HW0 := hideP hW0
  have HBl := hideP hBl
  have KO : ∀ x : Later W0, Calls Tryz.prog 22 #[.agg #[.string s, .int .i64 st, .int .i64 ad, .int .i64 cy]] x.w fun e w' => e = .returned (.bool (eraOkB s st ad cy)) ∧ Below x.w.heap.size x.w w' := fun x => specEraOk s st ad cy x.w hs
  have KS : ∀ x : Later W0, Calls Tryz.prog 39 #[.int .i64 c, .int .i64 st, .int .i64 n] x.w fun e w' => e = .returned (styR c st n) ∧ Below x.w.heap.size x.w w' := fun x => specStyleYear c st n x.w
  clear hs hW0 hBl
  cases ho : eraOkB s st ad cy
  · simp only [ho] at KO
    have HR := hideP (eraR_of (eraYr_bad (c := c) (n := n) ho))
    clear ho
    obtain ⟨y, b, hy⟩ : ∃ y b, styR c st n = .tuple #[.int .i64 y, .bool b] := ⟨_, _, rfl⟩
    simp only [hy] at KS
    go_enter Tryz.func9, Tryz.ntmps9
    go_wp2_with fail
    rw [← HW0.out]
    refine (KS ⟨W0, Below.refl _ _⟩).mono ?_
    rintro e w1 ⟨rfl, hb⟩
    obtain ⟨x1, rfl⟩ := Later.of hb
    clear hb
    go_wp2_with fail
    refine (KO x1).mono ?_
    rintro e w2 ⟨rfl, hb⟩
    obtain ⟨x2, rfl⟩ := x1.next hb
    clear hb
    go_wp2
    go_returns
    exact ⟨ret_to HR.out, HBl.out x2⟩
  simp only [ho] at KO
  rcases sty_cases c st n with hn | ⟨y, hy, hP, _⟩
  · simp only [styR_no hn] at KS
    have HR := hideP (eraR_of (eraYr_no (s := s) (add := ad) (cyc := cy) hn))
    clear hn ho
    go_enter Tryz.func9, Tryz.ntmps9
    go_wp2_with fail
    rw [← HW0.out]
    refine (KS ⟨W0, Below.refl _ _⟩).mono ?_
    rintro e w1 ⟨rfl, hb⟩
    obtain ⟨x1, rfl⟩ := Later.of hb
    clear hb
    go_wp2_with fail
    refine (KO x1).mono ?_
    rintro e w2 ⟨rfl, hb⟩
    obtain ⟨x2, rfl⟩ := x1.next hb
    clear hb
    go_wp2
    go_returns
    exact ⟨ret_to HR.out, HBl.out x2⟩
  simp only [styR_yes hy] at KS
  have HR := hideP (eraR_of (eraYr_yes ho hy))
  obtain ⟨_, _, a1, a2, hcy⟩ := eraOk_parts ho
  have y1 := hP.2.1
  have y2 := hP.2.2
  clear ho hy hP
  rcases hcy with rfl | ⟨d1, d2⟩
  · have HN : Hid (eraNum ad 0 y = y + ad) := by unfold Hid eraNum; rw [if_pos rfl]
    rw [HN.out] at HR
    go_enter Tryz.func9, Tryz.ntmps9
    go_wp2_with fail
    rw [← HW0.out]
    refine (KS ⟨W0, Below.refl _ _⟩).mono ?_
    rintro e w1 ⟨rfl, hb⟩
    obtain ⟨x1, rfl⟩ := Later.of hb
    clear hb
    go_wp2_with fail
    refine (KO x1).mono ?_
    rintro e w2 ⟨rfl, hb⟩
    obtain ⟨x2, rfl⟩ := x1.next hb
    clear hb
    go_wp2
    go_returns
    exact ⟨ret_to HR.out, HBl.out x2⟩
  · have HN : Hid (eraNum ad cy y = (y + ad - 1) % cy + 1) := by unfold Hid eraNum; rw [if_neg (by omega)]
    rw [HN.out] at HR
    have hc0 : (cy == 0) = false := by simp; omega
    have hc1 : ¬ cy = 0 := by omega
    have m1 : 0 ≤ (y + ad - 1) % cy := Int.emod_nonneg _ (by omega)
    have m2 : (y + ad - 1) % cy < 600 := by
      have := Int.emod_lt_of_pos (y + ad - 1) (show 0 < cy by omega)
      omega
    go_enter Tryz.func9, Tryz.ntmps9
    go_wp2_with fail
    rw [← HW0.out]
    refine (KS ⟨W0, Below.refl _ _⟩).mono ?_
    rintro e w1 ⟨rfl, hb⟩
    obtain ⟨x1, rfl⟩ := Later.of hb
    clear hb
    go_wp2_with fail
    refine (KO x1).mono ?_
    rintro e w2 ⟨rfl, hb⟩
    obtain ⟨x2, rfl⟩ := x1.next hb
    clear hb
    go_wp2
    go_returns
    exact ⟨ret_to HR.out, HBl.out x2⟩
end Go.Proofs.YtifekkehbaegiaaGreatDoor.ctr
