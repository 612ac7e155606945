/- The walk of the law FnWeek: for every []byte it returns true and turns nothing that was there, where the listed tables hold what they list. -/
import Derived.Test.YtckjcaloofjeoaaDoorWeekPlain
import Derived.Test.YtckjcaloofjeoaaDoorWeekDraw3
import Derived.Test.YtckjcaloofjeoaaDoorLawBase
import Derived.Test.YtckjcaloofjeoaaDoorSolName
namespace Go.Proofs.YtckjcaloofjeoaaDoor.kit
theorem gs_two {H : Type} {enc : TypeId × Value → H} {P : Program} {W : World} {sp : Nat → Bool} {a b : String} {gs : List (DataW H)} {q : List MemPlace} (h : DataW.TrodVars enc P W sp [a, b] gs q) : ∃ g1 g2, gs = [g1, g2] := by
  match gs, h with
  | [], h => exact h.elim
  | [g1], h =>
    obtain ⟨_, _, _, _, _, _, _, _, _, _, h5, _⟩ := h
    exact h5.elim
  | [g1, g2], _ => exact ⟨g1, g2, rfl⟩
  | g1 :: g2 :: g3 :: r, h =>
    obtain ⟨_, _, _, _, _, _, _, _, _, _, h5, _⟩ := h
    obtain ⟨_, _, _, _, _, _, _, _, _, _, h6, _⟩ := h5
    exact h6.elim
end Go.Proofs.YtckjcaloofjeoaaDoor.kit
namespace Go.Proofs.YtckjcaloofjeoaaDoor.ctr
open Go.RowKit Go.ChangeShapes

set_option maxHeartbeats 4000000 in
theorem weekWalk (a0 : Option Addr) (len0 cap0 : Nat) (z0 : List Int) (w : World) (w0 : kit.IsRow .u8 w a0 len0 cap0 z0) (t0 : Tab w) (t1 : Days w) :
    Calls Tryd.prog 4 #[.slice a0 len0 cap0] w fun e w' => e = .returned (.bool true) ∧ Below w.heap.size w w' := by
  obtain ⟨hcode, hlen⟩ := code_of w0
  have HT : Hid (Tab w) := t0
  have HS : Hid (Days w) := t1
  have HC : Hid (CodeAt w.heap.size w a0 len0) := hcode
  have HC' : ∀ W', Below w.heap.size w W' → CodeAt W'.heap.size W' a0 len0 := fun W' hb => CodeAt.up HC.out hb
  have KC : Hid _ := HC'
  clear t0 t1 hcode w0 HC'
  by_cases hbig : (1048576 : Int) < (len0 : Int)
  · have hbd : decide ((1048576 : Int) < (len0 : Int)) = true := by simp; omega
    go_enter Tryd.func4, Tryd.ntmps4
    go_wp2_with fail
    refine (big_ _ _ _ _).mono ?_
    rintro e w' ⟨rfl, rfl⟩
    go_wp2_with fail
    go_ret
    exact ⟨rfl, Below.refl _ _⟩
  have hbd : decide ((1048576 : Int) < (len0 : Int)) = false := by simp; omega
  go_enter Tryd.func4, Tryd.ntmps4
  go_wp2_with fail
  refine (big_ _ _ _ _).mono ?_
  rintro e w' ⟨rfl, rfl⟩
  have HB0 : Hid (Below w'.heap.size w' w') := Below.refl _ _
  go_wp2_with fail
  refine (drawWeekday _ a0 len0 cap0 hlen (KC.out _ HB0.out)).mono ?_
  rintro e W1 ⟨n, rfl, hn, hb⟩
  have HB1 : Hid (Below w'.heap.size w' W1) := HB0.out.trans (hb.mono HB0.out.size)
  have HN : Hid (I64 n) := hn
  clear hb hn
  go_wp2_with fail
  refine (drawWeekdayName _ a0 len0 cap0 hlen (KC.out _ HB1.out)).mono ?_
  rintro e W2 ⟨wd, rfl, hb⟩
  have HB2 : Hid (Below w'.heap.size w' W2) := HB1.out.trans (hb.mono HB1.out.size)
  clear hb
  go_wp2_with fail
  refine (drawCalName _ a0 len0 cap0 hlen (KC.out _ HB2.out)).mono ?_
  rintro e W3 ⟨cn, rfl, hb⟩
  have HB3 : Hid (Below w'.heap.size w' W3) := HB2.out.trans (hb.mono HB2.out.size)
  clear hb
  go_wp2_with fail
  refine (drawApart _ a0 len0 cap0 hlen (KC.out _ HB3.out)).mono ?_
  rintro e W4 ⟨py, pm, pd, rfl, hb⟩
  have HB4 : Hid (Below w'.heap.size w' W4) := HB3.out.trans (hb.mono HB3.out.size)
  clear hb
  go_wp2_with fail
  refine (drawCompare _ a0 len0 cap0 hlen (KC.out _ HB4.out)).mono ?_
  rintro e W5 ⟨c, y, m, d, c', y', m', d', rfl, hb⟩
  have HB5 : Hid (Below w'.heap.size w' W5) := HB4.out.trans (hb.mono HB4.out.size)
  clear hb
  go_wp2_with fail
  obtain ⟨W0, hW0⟩ : ∃ W0, W0 = (W5.alloc (.cells #[.int .i64 c, .int .i64 y, .int .i64 m, .int .i64 d] 25)).alloc (.cells #[.int .i64 c', .int .i64 y', .int .i64 m', .int .i64 d'] 25) := ⟨_, rfl⟩
  have c0 : ∀ x : Later W0, x.w.cell? ⟨W5.heap.size, 0, none⟩ = some (.int .i64 c) := two_a hW0 0 rfl
  have c1 : ∀ x : Later W0, x.w.cell? ⟨W5.heap.size, 1, none⟩ = some (.int .i64 y) := two_a hW0 1 rfl
  have c2 : ∀ x : Later W0, x.w.cell? ⟨W5.heap.size, 2, none⟩ = some (.int .i64 m) := two_a hW0 2 rfl
  have c3 : ∀ x : Later W0, x.w.cell? ⟨W5.heap.size, 3, none⟩ = some (.int .i64 d) := two_a hW0 3 rfl
  have g0 : ∀ x : Later W0, x.w.cell? ⟨W5.heap.size + 1, 0, none⟩ = some (.int .i64 c') := two_b hW0 0 rfl
  have g1 : ∀ x : Later W0, x.w.cell? ⟨W5.heap.size + 1, 1, none⟩ = some (.int .i64 y') := two_b hW0 1 rfl
  have g2 : ∀ x : Later W0, x.w.cell? ⟨W5.heap.size + 1, 2, none⟩ = some (.int .i64 m') := two_b hW0 2 rfl
  have g3 : ∀ x : Later W0, x.w.cell? ⟨W5.heap.size + 1, 3, none⟩ = some (.int .i64 d') := two_b hW0 3 rfl
  have hBW : Below w'.heap.size w' W0 := HB5.out.trans ((two_below hW0 (Below.refl _ _)).mono HB5.out.size)
  have HB : Hid (Below w'.heap.size w' W0) := hBW
  have KT : ∀ x : Later W0, Tab x.w := fun x => Tab.later (Tab.later HT.out hBW) x.below
  have KS : ∀ x : Later W0, Days x.w := fun x => Days.later (Days.later HS.out hBW) x.below
  have K1 : ∀ x : Later W0, Calls Tryd.prog 38 #[.agg #[.int .i64 c, .int .i64 y, .int .i64 m, .int .i64 d], .agg #[.int .i64 c', .int .i64 y', .int .i64 m', .int .i64 d']] x.w fun e w1 => e = .returned (.int .i64 (compareD c y m d c' y' m' d')) ∧ Below x.w.heap.size x.w w1 := fun x => implCompare c y m d c' y' m' d' x.w (KT x)
  have K2 : ∀ x : Later W0, Calls Tryd.prog 47 #[.agg #[.int .i64 c, .int .i64 y, .int .i64 m, .int .i64 d], .agg #[.int .i64 c', .int .i64 y', .int .i64 m', .int .i64 d']] x.w fun e w1 => e = .returned (.int .i64 (compareD c y m d c' y' m' d')) ∧ Below x.w.heap.size x.w w1 := fun x => specCompare c y m d c' y' m' d' x.w
  have K3 : ∀ x : Later W0, Calls Tryd.prog 38 #[.agg #[.int .i64 c', .int .i64 y', .int .i64 m', .int .i64 d'], .agg #[.int .i64 c, .int .i64 y, .int .i64 m, .int .i64 d]] x.w fun e w1 => e = .returned (.int .i64 (- compareD c y m d c' y' m' d')) ∧ Below x.w.heap.size x.w w1 := fun x => by rw [← compare_swap]; exact implCompare c' y' m' d' c y m d x.w (KT x)
  have K4 : ∀ x : Later W0, Calls Tryd.prog 38 #[.agg #[.int .i64 c, .int .i64 y, .int .i64 m, .int .i64 d], .agg #[.int .i64 c, .int .i64 y, .int .i64 m, .int .i64 d]] x.w fun e w1 => e = .returned (.int .i64 0) ∧ Below x.w.heap.size x.w w1 := fun x => by have h := implCompare c y m d c y m d x.w (KT x); rw [compare_self] at h; exact h
  have K5 : ∀ x : Later W0, Calls Tryd.prog 39 #[.int .i64 n] x.w fun e w1 => e = .returned (.int .i64 (floorMod n 7)) ∧ w1 = x.w := fun x => implWeekday n x.w HN.out
  have K6 : ∀ x : Later W0, Calls Tryd.prog 40 #[.int .i64 n] x.w fun e w1 => e = .returned (.int .i64 (floorMod n 7)) ∧ w1 = x.w := fun x => specWeekday n x.w
  have K7 : ∀ x : Later W0, Calls Tryd.prog 41 #[.int .i64 wd] x.w fun e w1 => e = .returned (.string (dayText wd)) ∧ w1 = x.w := fun x => implWeekdayName wd x.w (KS x)
  have K8 : ∀ x : Later W0, Calls Tryd.prog 42 #[.int .i64 wd] x.w fun e w1 => e = .returned (.string (dayText wd)) ∧ Below x.w.heap.size x.w w1 := fun x => specWeekdayName wd x.w
  have K9 : ∀ x : Later W0, Calls Tryd.prog 43 #[.int .i64 cn] x.w fun e w1 => e = .returned (.string (calText cn)) ∧ w1 = x.w := fun x => implCalName cn x.w
  have K10 : ∀ x : Later W0, Calls Tryd.prog 44 #[.int .i64 cn] x.w fun e w1 => e = .returned (.string (calText cn)) ∧ w1 = x.w := fun x => specCalName cn x.w
  have K11 : ∀ x : Later W0, Calls Tryd.prog 45 #[.int .i64 py, .int .i64 pm, .int .i64 pd] x.w fun e w1 => e = .returned (.int .i64 (apart py pm pd)) ∧ Below x.w.heap.size x.w w1 := fun x => implApart py pm pd x.w (KT x)
  have K12 : ∀ x : Later W0, Calls Tryd.prog 46 #[.int .i64 py, .int .i64 pm, .int .i64 pd] x.w fun e w1 => e = .returned (.int .i64 (apart py pm pd)) ∧ Below x.w.heap.size x.w w1 := fun x => specApart py pm pd x.w
  obtain ⟨X, hX⟩ : ∃ X, X = n.tmod 1000000 := ⟨_, rfl⟩
  have hX1 := small_rest n
  rw [← hX] at hX1
  have K13 : ∀ x : Later W0, Calls Tryd.prog 39 #[.int .i64 (X + 7)] x.w fun e w1 => e = .returned (.int .i64 (floorMod X 7)) ∧ w1 = x.w := fun x => by rw [← week_seven]; exact implWeekday (X + 7) x.w (by omega)
  have K14 : ∀ x : Later W0, Calls Tryd.prog 39 #[.int .i64 X] x.w fun e w1 => e = .returned (.int .i64 (floorMod X 7)) ∧ w1 = x.w := fun x => implWeekday X x.w (by omega)
  have K15 : ∀ x : Later W0, Calls Tryd.prog 39 #[.int .i64 (X + 1)] x.w fun e w1 => e = .returned (.int .i64 ((floorMod X 7 + 1).tmod 7)) ∧ w1 = x.w := fun x => by rw [← week_next]; exact implWeekday (X + 1) x.w (by omega)
  have r1 := compare_range c y m d c' y' m' d'
  have r2 := week_range n
  have r3 := week_range X
  generalize compareD c y m d c' y' m' d' = k at *
  generalize floorMod n 7 = wn at *
  generalize floorMod X 7 = wx at *
  generalize dayText wd = sd at *
  generalize calText cn = sc at *
  generalize apart py pm pd = ap at *
  have HX : Hid (X = n.tmod 1000000) := hX
  clear hX hBW KT KS HT HS HC KC HB0 HB1 HB2 HB3 HB4 HN HB5
  rw [← hW0]
  clear hW0
  refine (K1 ⟨W0, Below.refl _ _⟩).mono ?_
  rintro e w1 ⟨rfl, hb⟩
  obtain ⟨x1, rfl⟩ := Later.of hb
  clear hb
  go_wp2_with fail
  refine (K5 x1).mono ?_
  rintro e w1 ⟨rfl, rfl⟩
  go_wp2_with fail
  refine (K6 x1).mono ?_
  rintro e w1 ⟨rfl, rfl⟩
  go_wp2_with fail
  refine (K7 x1).mono ?_
  rintro e w1 ⟨rfl, rfl⟩
  go_wp2_with fail
  refine (K8 x1).mono ?_
  rintro e w1 ⟨rfl, hb⟩
  obtain ⟨x2, rfl⟩ := x1.next hb
  clear hb
  go_wp2_with fail
  refine (K9 x2).mono ?_
  rintro e w1 ⟨rfl, rfl⟩
  go_wp2_with fail
  refine (K10 x2).mono ?_
  rintro e w1 ⟨rfl, rfl⟩
  go_wp2_with fail
  refine (K11 x2).mono ?_
  rintro e w1 ⟨rfl, hb⟩
  obtain ⟨x3, rfl⟩ := x2.next hb
  clear hb
  go_wp2_with fail
  refine (K12 x3).mono ?_
  rintro e w1 ⟨rfl, hb⟩
  obtain ⟨x4, rfl⟩ := x3.next hb
  clear hb
  go_wp2_with fail
  refine (K2 x4).mono ?_
  rintro e w1 ⟨rfl, hb⟩
  obtain ⟨x5, rfl⟩ := x4.next hb
  clear hb
  go_wp2_with fail
  refine (K3 x5).mono ?_
  rintro e w1 ⟨rfl, hb⟩
  obtain ⟨x6, rfl⟩ := x5.next hb
  clear hb
  go_wp2_with fail
  refine (K4 x6).mono ?_
  rintro e w1 ⟨rfl, hb⟩
  obtain ⟨x7, rfl⟩ := x6.next hb
  clear hb
  go_wp2_with fail
  refine (K5 x7).mono ?_
  rintro e w1 ⟨rfl, rfl⟩
  go_wp2_with fail
  refine (K5 x7).mono ?_
  rintro e w1 ⟨rfl, rfl⟩
  go_wp2_with fail
  rw [← HX.out, in_range (X + 7) (by omega)]
  refine (K13 x7).mono ?_
  rintro e w1 ⟨rfl, rfl⟩
  go_wp2_with fail
  refine (K14 x7).mono ?_
  rintro e w1 ⟨rfl, rfl⟩
  go_wp2_with fail
  refine (K15 x7).mono ?_
  rintro e w1 ⟨rfl, rfl⟩
  go_wp2_with fail
  refine (K14 x7).mono ?_
  rintro e w1 ⟨rfl, rfl⟩
  go_wp2_with fail
  go_ret
  exact ⟨rfl, HB.out.trans (x7.below.mono HB.out.size)⟩
end Go.Proofs.YtckjcaloofjeoaaDoor.ctr
