/- Contracts of both ReignYear and LastYear: each answers its plain function, where the table of months holds its numbers. -/
import Derived.Test.YtcdcniniafejbaaGreatDoorRgnYear
namespace Go.Proofs.YtcdcniniafejbaaGreatDoor.ctr
open Go.RowKit

theorem datedP_no {c n : Int} (h : dateOf c n = (0, 0, 0, 0, false)) : ¬ datedP c n := by unfold datedP; rw [h]; simp
theorem datedP_yes {c n Y m d : Int} (h : dateOf c n = (c, Y, m, d, true)) : datedP c n := by unfold datedP; rw [h]
theorem ry_yd {c s f t n : Int} (h1 : f ≤ n) (h2 : n ≤ t) (hs : styleP s) : reignYear c s 0 f t n = yd c f n := by
  rcases date_cases c f with hf | ⟨_, _, _, hf, _⟩
  · rw [yd_no1 hf, ry_no (fun h => datedP_no hf h.2.2.2.1)]
  · rcases date_cases c n with hn | ⟨_, _, _, hn, _⟩
    · rw [yd_no2 hn, ry_no (fun h => datedP_no hn h.2.2.2.2)]
    · rw [yd_yes hf hn, ry_day ⟨h1, h2, hs, datedP_yes hf, datedP_yes hn⟩]
theorem ry_bs {c s f t n : Int} (h1 : f ≤ n) (h2 : n ≤ t) (hs : styleP s) : reignYear c s 1 f t n = byStyle c s f n := by
  rcases date_cases c f with hf | ⟨_, _, _, hf, _⟩
  · rw [bs_no1 (sty_none hf), ry_no (fun h => datedP_no hf h.2.2.2.1)]
  · rcases date_cases c n with hn | ⟨_, _, _, hn, _⟩
    · rw [bs_no2 (sty_none hn), ry_no (fun h => datedP_no hn h.2.2.2.2)]
    · rw [ry_sty ⟨h1, h2, hs, datedP_yes hf, datedP_yes hn⟩]
theorem inB_iff {x a b : Int} : inB x a b = true ↔ a ≤ x ∧ x ≤ b := by simp [inB]

set_option maxHeartbeats 2000000 in
theorem implReignYear (c s ru : Int) (nm : ByteArray) (f t n : Int) (w : World) (hT : Tab w) : Calls Tryz.prog 9 #[.int .i64 c, .int .i64 s, .int .i64 ru, .agg #[.string nm, .int .i64 f, .int .i64 t], .int .i64 n] w fun e w' => e = .returned (.int .i64 (reignYear c s ru f t n)) ∧ Below w.heap.size w w' := by
  obtain ⟨W0, hW0, c0, c1, c2, hBl⟩ := rgn_box w nm f t 29
  have HW0 := hideP hW0
  have HBl := hideP hBl
  have KH : ∀ x : Later W0, Calls Tryz.prog 37 #[.agg #[.string nm, .int .i64 f, .int .i64 t], .int .i64 n] x.w fun e w' => e = .returned (.bool (inB n f t)) ∧ Below x.w.heap.size x.w w' := fun x => implHasDay nm f t n x.w
  have KS : ∀ x : Later W0, Calls Tryz.prog 38 #[.int .i64 s] x.w fun e w' => e = .returned (.bool (styleB s)) ∧ Below x.w.heap.size x.w w' := fun x => calls_below (implStyleOk s x.w)
  have KD : ∀ x : Later W0, Calls Tryz.prog 39 #[.int .i64 c, .int .i64 f, .int .i64 n] x.w fun e w' => e = .returned (.int .i64 (yd c f n)) ∧ Below x.w.heap.size x.w w' := fun x => implByDay c f n x.w (hT.later (hBl x))
  have KY : ∀ x : Later W0, Calls Tryz.prog 40 #[.int .i64 c, .int .i64 s, .int .i64 f, .int .i64 n] x.w fun e w' => e = .returned (.int .i64 (byStyle c s f n)) ∧ Below x.w.heap.size x.w w' := fun x => implByStyle c s f n x.w (hT.later (hBl x))
  clear hW0 hBl hT
  have hI := inB_iff (x := n) (a := f) (b := t)
  generalize hib : inB n f t = ib at *
  cases ib
  · have HR : Hid (reignYear c s ru f t n = 0) := ry_no (fun h => by have := hI.2 ⟨h.1, h.2.1⟩; cases this)
    clear hI hib
    go_enter Tryz.func9, Tryz.ntmps9
    go_wp2_with fail
    rw [← HW0.out]
    refine (KH ⟨W0, Below.refl _ _⟩).mono ?_
    rintro e w1 ⟨rfl, hb⟩
    obtain ⟨x1, rfl⟩ := Later.of hb
    clear hb
    go_wp2
    go_ret
    exact ⟨ret_int HR.out.symm, HBl.out x1⟩
  obtain ⟨h1, h2⟩ := hI.1 rfl
  clear hI hib
  by_cases hs : styleP s
  case neg =>
    have HR : Hid (reignYear c s ru f t n = 0) := ry_no (fun h => hs h.2.2.1)
    simp only [styleB_false hs] at KS
    clear hs
    go_enter Tryz.func9, Tryz.ntmps9
    go_wp2_with fail
    rw [← HW0.out]
    refine (KH ⟨W0, Below.refl _ _⟩).mono ?_
    rintro e w1 ⟨rfl, hb⟩
    obtain ⟨x1, rfl⟩ := Later.of hb
    clear hb
    go_wp2_with fail
    refine (KS x1).mono ?_
    rintro e w2 ⟨rfl, hb⟩
    obtain ⟨x2, rfl⟩ := x1.next hb
    clear hb
    go_wp2
    go_ret
    exact ⟨ret_int HR.out.symm, HBl.out x2⟩
  simp only [styleB_true hs] at KS
  by_cases hr0 : ru = 0
  · subst hr0
    have HR := hideP (ry_yd (c := c) h1 h2 hs)
    clear hs
    generalize yd c f n = R at *
    go_enter Tryz.func9, Tryz.ntmps9
    go_wp2_with fail
    rw [← HW0.out]
    refine (KH ⟨W0, Below.refl _ _⟩).mono ?_
    rintro e w1 ⟨rfl, hb⟩
    obtain ⟨x1, rfl⟩ := Later.of hb
    clear hb
    go_wp2_with fail
    refine (KS x1).mono ?_
    rintro e w2 ⟨rfl, hb⟩
    obtain ⟨x2, rfl⟩ := x1.next hb
    clear hb
    go_wp2_with fail
    refine (KD x2).mono ?_
    rintro e w3 ⟨rfl, hb⟩
    obtain ⟨x3, rfl⟩ := x2.next hb
    clear hb
    go_wp2
    go_ret
    exact ⟨ret_int HR.out.symm, HBl.out x3⟩
  have hq0 : (ru == 0) = false := by simp [hr0]
  by_cases hr1 : ru = 1
  · subst hr1
    have HR := hideP (ry_bs (c := c) h1 h2 hs)
    clear hs hr0
    generalize byStyle c s f n = R at *
    go_enter Tryz.func9, Tryz.ntmps9
    go_wp2_with fail
    rw [← HW0.out]
    refine (KH ⟨W0, Below.refl _ _⟩).mono ?_
    rintro e w1 ⟨rfl, hb⟩
    obtain ⟨x1, rfl⟩ := Later.of hb
    clear hb
    go_wp2_with fail
    refine (KS x1).mono ?_
    rintro e w2 ⟨rfl, hb⟩
    obtain ⟨x2, rfl⟩ := x1.next hb
    clear hb
    go_wp2_with fail
    refine (KY x2).mono ?_
    rintro e w3 ⟨rfl, hb⟩
    obtain ⟨x3, rfl⟩ := x2.next hb
    clear hb
    go_wp2
    go_ret
    exact ⟨ret_int HR.out.symm, HBl.out x3⟩
  have hq1 : (ru == 1) = false := by simp [hr1]
  have HR := hideP (ry_rule (c := c) (s := s) (f := f) (t := t) (n := n) hr0 hr1)
  clear hs
  go_enter Tryz.func9, Tryz.ntmps9
  go_wp2_with fail
  rw [← HW0.out]
  refine (KH ⟨W0, Below.refl _ _⟩).mono ?_
  rintro e w1 ⟨rfl, hb⟩
  obtain ⟨x1, rfl⟩ := Later.of hb
  clear hb
  go_wp2_with fail
  refine (KS x1).mono ?_
  rintro e w2 ⟨rfl, hb⟩
  obtain ⟨x2, rfl⟩ := x1.next hb
  clear hb
  go_wp2
  go_ret
  exact ⟨ret_int HR.out.symm, HBl.out x2⟩

set_option maxHeartbeats 4000000 in
theorem specReignYear (c s ru : Int) (nm : ByteArray) (f t n : Int) (w : World) : Calls Tryz.prog 25 #[.int .i64 c, .int .i64 s, .int .i64 ru, .agg #[.string nm, .int .i64 f, .int .i64 t], .int .i64 n] w fun e w' => e = .returned (.int .i64 (reignYear c s ru f t n)) ∧ Below w.heap.size w w' := by
  obtain ⟨W0, hW0, c0, c1, c2, hBl⟩ := rgn_box w nm f t 29
  have HW0 := hideP hW0
  have HBl := hideP hBl
  have KF : ∀ W, Calls Tryz.prog 59 #[.int .i64 c, .int .i64 f] W fun e w' => e = .returned (dateR c f) ∧ Below W.heap.size W w' := fun W => specDateOf c f W
  have KN : ∀ W, Calls Tryz.prog 59 #[.int .i64 c, .int .i64 n] W fun e w' => e = .returned (dateR c n) ∧ Below W.heap.size W w' := fun W => specDateOf c n W
  have KI : ∀ W, Calls Tryz.prog 58 #[.int .i64 n, .int .i64 f, .int .i64 t] W fun e w' => e = .returned (.bool (inB n f t)) ∧ w' = W := fun W => l01In n f t W
  have KS : ∀ W, Calls Tryz.prog 60 #[.int .i64 s] W fun e w' => e = .returned (.string (styText s)) ∧ Below W.heap.size W w' := fun W => specStyleName s W
  have KX : ∀ W, Calls Tryz.prog 62 #[.int .i64 c, .int .i64 s, .int .i64 f] W fun e w' => e = .returned (styR c s f) ∧ Below W.heap.size W w' := fun W => specStyleYear c s f W
  have KY : ∀ W, Calls Tryz.prog 62 #[.int .i64 c, .int .i64 s, .int .i64 n] W fun e w' => e = .returned (styR c s n) ∧ Below W.heap.size W w' := fun W => specStyleYear c s n W
  clear hW0 hBl
  have hI := inB_iff (x := n) (a := f) (b := t)
  rcases date_cases c f with hf | ⟨Y0, m, d, hf, _⟩
  · have HR : Hid (reignYear c s ru f t n = 0) := ry_no (fun h => datedP_no hf h.2.2.2.1)
    simp only [dateR_no hf] at KF
    obtain ⟨z0, z1, z2, z3, b, hz⟩ : ∃ z0 z1 z2 z3 b, dateR c n = .tuple #[.agg #[.int .i64 z0, .int .i64 z1, .int .i64 z2, .int .i64 z3], .bool b] := ⟨_, _, _, _, _, rfl⟩
    simp only [hz] at KN
    clear hf hz hI
    go_enter Tryz.func25, Tryz.ntmps25
    go_wp2_with fail
    rw [← HW0.out]
    refine (KF _).mono ?_
    rintro e w1 ⟨rfl, hb⟩
    obtain ⟨x1, rfl⟩ := Later.of hb
    clear hb
    go_wp2_with fail
    obtain ⟨W2, hW2⟩ : ∃ W2, W2 = x1.w.alloc (.cells #[.int .i64 0, .int .i64 0, .int .i64 0, .int .i64 0] 87) := ⟨_, rfl⟩
    have hbl2 : ∀ y : Later W2, Below W0.heap.size W0 y.w := fun y => x1.below.trans ((below_of_alloc hW2 y.below).mono x1.below.size)
    have HB2 : Hid (∀ y : Later W2, Below w.heap.size w y.w) := fun y => HBl.out ⟨y.w, hbl2 y⟩
    have r1 : ∀ (y : Later W2) (o : Obj), (y.w.alloc o).cell? ⟨w.heap.size, 1, none⟩ = some (.int .i64 f) := fun y o => c1 ⟨y.w.alloc o, (hbl2 y).alloc (hbl2 y).size o⟩
    have r2 : ∀ (y : Later W2) (o : Obj), (y.w.alloc o).cell? ⟨w.heap.size, 2, none⟩ = some (.int .i64 t) := fun y o => c2 ⟨y.w.alloc o, (hbl2 y).alloc (hbl2 y).size o⟩
    have s1 : ∀ (y : Later W2), y.w.cell? ⟨w.heap.size, 1, none⟩ = some (.int .i64 f) := fun y => c1 ⟨y.w, hbl2 y⟩
    have HW2 := hideP hW2
    rw [← HW2.out]
    clear hW2 hbl2
    refine (KN _).mono ?_
    rintro e w2 ⟨rfl, hb⟩
    obtain ⟨y1, rfl⟩ := Later.of hb
    clear hb
    go_wp2
    go_ret
    exact ⟨ret_int HR.out.symm, (HB2.out y1).alloc (HB2.out y1).size _⟩
  simp only [dateR_yes hf] at KF
  rcases date_cases c n with hn | ⟨Y, M, D, hn, _⟩
  · have HR : Hid (reignYear c s ru f t n = 0) := ry_no (fun h => datedP_no hn h.2.2.2.2)
    simp only [dateR_no hn] at KN
    clear hf hn hI
    go_enter Tryz.func25, Tryz.ntmps25
    go_wp2_with fail
    rw [← HW0.out]
    refine (KF _).mono ?_
    rintro e w1 ⟨rfl, hb⟩
    obtain ⟨x1, rfl⟩ := Later.of hb
    clear hb
    go_wp2_with fail
    obtain ⟨W2, hW2⟩ : ∃ W2, W2 = x1.w.alloc (.cells #[.int .i64 c, .int .i64 Y0, .int .i64 m, .int .i64 d] 87) := ⟨_, rfl⟩
    have hbl2 : ∀ y : Later W2, Below W0.heap.size W0 y.w := fun y => x1.below.trans ((below_of_alloc hW2 y.below).mono x1.below.size)
    have HB2 : Hid (∀ y : Later W2, Below w.heap.size w y.w) := fun y => HBl.out ⟨y.w, hbl2 y⟩
    have r1 : ∀ (y : Later W2) (o : Obj), (y.w.alloc o).cell? ⟨w.heap.size, 1, none⟩ = some (.int .i64 f) := fun y o => c1 ⟨y.w.alloc o, (hbl2 y).alloc (hbl2 y).size o⟩
    have r2 : ∀ (y : Later W2) (o : Obj), (y.w.alloc o).cell? ⟨w.heap.size, 2, none⟩ = some (.int .i64 t) := fun y o => c2 ⟨y.w.alloc o, (hbl2 y).alloc (hbl2 y).size o⟩
    have s1 : ∀ (y : Later W2), y.w.cell? ⟨w.heap.size, 1, none⟩ = some (.int .i64 f) := fun y => c1 ⟨y.w, hbl2 y⟩
    have HW2 := hideP hW2
    rw [← HW2.out]
    clear hW2 hbl2
    refine (KN _).mono ?_
    rintro e w2 ⟨rfl, hb⟩
    obtain ⟨y1, rfl⟩ := Later.of hb
    clear hb
    go_wp2
    go_ret
    exact ⟨ret_int HR.out.symm, (HB2.out y1).alloc (HB2.out y1).size _⟩
  simp only [dateR_yes hn] at KN
  generalize hib : inB n f t = ib at *
  cases ib
  · have HR : Hid (reignYear c s ru f t n = 0) := ry_no (fun h => by have := hI.2 ⟨h.1, h.2.1⟩; cases this)
    clear hI hib hf hn
    go_enter Tryz.func25, Tryz.ntmps25
    go_wp2_with fail
    rw [← HW0.out]
    refine (KF _).mono ?_
    rintro e w1 ⟨rfl, hb⟩
    obtain ⟨x1, rfl⟩ := Later.of hb
    clear hb
    go_wp2_with fail
    obtain ⟨W2, hW2⟩ : ∃ W2, W2 = x1.w.alloc (.cells #[.int .i64 c, .int .i64 Y0, .int .i64 m, .int .i64 d] 87) := ⟨_, rfl⟩
    have hbl2 : ∀ y : Later W2, Below W0.heap.size W0 y.w := fun y => x1.below.trans ((below_of_alloc hW2 y.below).mono x1.below.size)
    have HB2 : Hid (∀ y : Later W2, Below w.heap.size w y.w) := fun y => HBl.out ⟨y.w, hbl2 y⟩
    have r1 : ∀ (y : Later W2) (o : Obj), (y.w.alloc o).cell? ⟨w.heap.size, 1, none⟩ = some (.int .i64 f) := fun y o => c1 ⟨y.w.alloc o, (hbl2 y).alloc (hbl2 y).size o⟩
    have r2 : ∀ (y : Later W2) (o : Obj), (y.w.alloc o).cell? ⟨w.heap.size, 2, none⟩ = some (.int .i64 t) := fun y o => c2 ⟨y.w.alloc o, (hbl2 y).alloc (hbl2 y).size o⟩
    have s1 : ∀ (y : Later W2), y.w.cell? ⟨w.heap.size, 1, none⟩ = some (.int .i64 f) := fun y => c1 ⟨y.w, hbl2 y⟩
    have HW2 := hideP hW2
    rw [← HW2.out]
    clear hW2 hbl2
    refine (KN _).mono ?_
    rintro e w2 ⟨rfl, hb⟩
    obtain ⟨y1, rfl⟩ := Later.of hb
    clear hb
    go_wp2_with fail
    refine (KI _).mono ?_
    rintro e w3 ⟨rfl, rfl⟩
    go_wp2
    go_ret
    exact ⟨ret_int HR.out.symm, (HB2.out y1).alloc (HB2.out y1).size _⟩
  obtain ⟨h1, h2⟩ := hI.1 rfl
  clear hI hib
  by_cases hs : styleP s
  case neg =>
    have HR : Hid (reignYear c s ru f t n = 0) := ry_no (fun h => hs h.2.2.1)
    have hem := styText_none hs
    clear hs hf hn
    generalize styText s = tx at *
    go_enter Tryz.func25, Tryz.ntmps25
    go_wp2_with fail
    rw [← HW0.out]
    refine (KF _).mono ?_
    rintro e w1 ⟨rfl, hb⟩
    obtain ⟨x1, rfl⟩ := Later.of hb
    clear hb
    go_wp2_with fail
    obtain ⟨W2, hW2⟩ : ∃ W2, W2 = x1.w.alloc (.cells #[.int .i64 c, .int .i64 Y0, .int .i64 m, .int .i64 d] 87) := ⟨_, rfl⟩
    have hbl2 : ∀ y : Later W2, Below W0.heap.size W0 y.w := fun y => x1.below.trans ((below_of_alloc hW2 y.below).mono x1.below.size)
    have HB2 : Hid (∀ y : Later W2, Below w.heap.size w y.w) := fun y => HBl.out ⟨y.w, hbl2 y⟩
    have r1 : ∀ (y : Later W2) (o : Obj), (y.w.alloc o).cell? ⟨w.heap.size, 1, none⟩ = some (.int .i64 f) := fun y o => c1 ⟨y.w.alloc o, (hbl2 y).alloc (hbl2 y).size o⟩
    have r2 : ∀ (y : Later W2) (o : Obj), (y.w.alloc o).cell? ⟨w.heap.size, 2, none⟩ = some (.int .i64 t) := fun y o => c2 ⟨y.w.alloc o, (hbl2 y).alloc (hbl2 y).size o⟩
    have s1 : ∀ (y : Later W2), y.w.cell? ⟨w.heap.size, 1, none⟩ = some (.int .i64 f) := fun y => c1 ⟨y.w, hbl2 y⟩
    have HW2 := hideP hW2
    rw [← HW2.out]
    clear hW2 hbl2
    refine (KN _).mono ?_
    rintro e w2 ⟨rfl, hb⟩
    obtain ⟨y1, rfl⟩ := Later.of hb
    clear hb
    go_wp2_with fail
    refine (KI _).mono ?_
    rintro e w3 ⟨rfl, rfl⟩
    go_wp2_with fail
    refine (KS _).mono ?_
    rintro e w4 ⟨rfl, hb⟩
    obtain ⟨y2, rfl⟩ := y1.next (below_alloc hb)
    clear hb
    go_wp2
    go_ret
    exact ⟨ret_int HR.out.symm, HB2.out y2⟩
  have hem := styText_some hs
  by_cases hr0 : ru = 0
  · subst hr0
    have HR := hideP ((ry_yd (c := c) h1 h2 hs).trans (yd_yes hf hn))
    have KB : Hid (∀ W, Calls Tryz.prog 61 #[.int .i64 c, .agg #[.int .i64 c, .int .i64 Y0, .int .i64 m, .int .i64 d], .int .i64 n] W fun e w' => e = .returned (.int .i64 (byDay c f n)) ∧ Below W.heap.size W w') := fun W => specByDay W hf hn h1
    clear hs hf hn
    generalize byDay c f n = R at *
    generalize styText s = tx at *
    go_enter Tryz.func25, Tryz.ntmps25
    go_wp2_with fail
    rw [← HW0.out]
    refine (KF _).mono ?_
    rintro e w1 ⟨rfl, hb⟩
    obtain ⟨x1, rfl⟩ := Later.of hb
    clear hb
    go_wp2_with fail
    obtain ⟨W2, hW2⟩ : ∃ W2, W2 = x1.w.alloc (.cells #[.int .i64 c, .int .i64 Y0, .int .i64 m, .int .i64 d] 87) := ⟨_, rfl⟩
    have hbl2 : ∀ y : Later W2, Below W0.heap.size W0 y.w := fun y => x1.below.trans ((below_of_alloc hW2 y.below).mono x1.below.size)
    have HB2 : Hid (∀ y : Later W2, Below w.heap.size w y.w) := fun y => HBl.out ⟨y.w, hbl2 y⟩
    have r1 : ∀ (y : Later W2) (o : Obj), (y.w.alloc o).cell? ⟨w.heap.size, 1, none⟩ = some (.int .i64 f) := fun y o => c1 ⟨y.w.alloc o, (hbl2 y).alloc (hbl2 y).size o⟩
    have r2 : ∀ (y : Later W2) (o : Obj), (y.w.alloc o).cell? ⟨w.heap.size, 2, none⟩ = some (.int .i64 t) := fun y o => c2 ⟨y.w.alloc o, (hbl2 y).alloc (hbl2 y).size o⟩
    have s1 : ∀ (y : Later W2), y.w.cell? ⟨w.heap.size, 1, none⟩ = some (.int .i64 f) := fun y => c1 ⟨y.w, hbl2 y⟩
    have q0 : ∀ y : Later W2, y.w.cell? ⟨x1.w.heap.size, 0, none⟩ = some (.int .i64 c) := Later.new hW2 0 rfl
    have q1 : ∀ y : Later W2, y.w.cell? ⟨x1.w.heap.size, 1, none⟩ = some (.int .i64 Y0) := Later.new hW2 1 rfl
    have q2 : ∀ y : Later W2, y.w.cell? ⟨x1.w.heap.size, 2, none⟩ = some (.int .i64 m) := Later.new hW2 2 rfl
    have q3 : ∀ y : Later W2, y.w.cell? ⟨x1.w.heap.size, 3, none⟩ = some (.int .i64 d) := Later.new hW2 3 rfl
    have HW2 := hideP hW2
    rw [← HW2.out]
    clear hW2 hbl2
    refine (KN _).mono ?_
    rintro e w2 ⟨rfl, hb⟩
    obtain ⟨y1, rfl⟩ := Later.of hb
    clear hb
    go_wp2_with fail
    refine (KI _).mono ?_
    rintro e w3 ⟨rfl, rfl⟩
    go_wp2_with fail
    refine (KS _).mono ?_
    rintro e w4 ⟨rfl, hb⟩
    obtain ⟨y2, rfl⟩ := y1.next (below_alloc hb)
    clear hb
    go_wp2_with fail
    refine (KB.out _).mono ?_
    rintro e w5 ⟨rfl, hb⟩
    obtain ⟨y3, rfl⟩ := y2.next hb
    clear hb
    go_wp2
    go_ret
    exact ⟨ret_int HR.out.symm, HB2.out y3⟩
  have hq0 : (ru == 0) = false := by simp [hr0]
  by_cases hr1 : ru = 1
  case neg =>
    have hq1 : (ru == 1) = false := by simp [hr1]
    have HR := hideP (ry_rule (c := c) (s := s) (f := f) (t := t) (n := n) hr0 hr1)
    clear hs hf hn
    generalize styText s = tx at *
    go_enter Tryz.func25, Tryz.ntmps25
    go_wp2_with fail
    rw [← HW0.out]
    refine (KF _).mono ?_
    rintro e w1 ⟨rfl, hb⟩
    obtain ⟨x1, rfl⟩ := Later.of hb
    clear hb
    go_wp2_with fail
    obtain ⟨W2, hW2⟩ : ∃ W2, W2 = x1.w.alloc (.cells #[.int .i64 c, .int .i64 Y0, .int .i64 m, .int .i64 d] 87) := ⟨_, rfl⟩
    have hbl2 : ∀ y : Later W2, Below W0.heap.size W0 y.w := fun y => x1.below.trans ((below_of_alloc hW2 y.below).mono x1.below.size)
    have HB2 : Hid (∀ y : Later W2, Below w.heap.size w y.w) := fun y => HBl.out ⟨y.w, hbl2 y⟩
    have r1 : ∀ (y : Later W2) (o : Obj), (y.w.alloc o).cell? ⟨w.heap.size, 1, none⟩ = some (.int .i64 f) := fun y o => c1 ⟨y.w.alloc o, (hbl2 y).alloc (hbl2 y).size o⟩
    have r2 : ∀ (y : Later W2) (o : Obj), (y.w.alloc o).cell? ⟨w.heap.size, 2, none⟩ = some (.int .i64 t) := fun y o => c2 ⟨y.w.alloc o, (hbl2 y).alloc (hbl2 y).size o⟩
    have s1 : ∀ (y : Later W2), y.w.cell? ⟨w.heap.size, 1, none⟩ = some (.int .i64 f) := fun y => c1 ⟨y.w, hbl2 y⟩
    have HW2 := hideP hW2
    rw [← HW2.out]
    clear hW2 hbl2
    refine (KN _).mono ?_
    rintro e w2 ⟨rfl, hb⟩
    obtain ⟨y1, rfl⟩ := Later.of hb
    clear hb
    go_wp2_with fail
    refine (KI _).mono ?_
    rintro e w3 ⟨rfl, rfl⟩
    go_wp2_with fail
    refine (KS _).mono ?_
    rintro e w4 ⟨rfl, hb⟩
    obtain ⟨y2, rfl⟩ := y1.next (below_alloc hb)
    clear hb
    go_wp2
    go_ret
    exact ⟨ret_int HR.out.symm, HB2.out y2⟩
  subst hr1
  have HR0 := hideP (ry_bs (c := c) h1 h2 hs)
  clear hr0 hf hn hs
  generalize styText s = tx at *
  rcases sty_all c s f with gf | ⟨x, gf⟩
  · have HR := hideP (HR0.out.trans (bs_no1 (n := n) gf))
    simp only [styR_no gf] at KX
    obtain ⟨z, b, hz⟩ : ∃ z b, styR c s n = .tuple #[.int .i64 z, .bool b] := ⟨_, _, rfl⟩
    simp only [hz] at KY
    clear gf hz
    go_enter Tryz.func25, Tryz.ntmps25
    go_wp2_with fail
    rw [← HW0.out]
    refine (KF _).mono ?_
    rintro e w1 ⟨rfl, hb⟩
    obtain ⟨x1, rfl⟩ := Later.of hb
    clear hb
    go_wp2_with fail
    obtain ⟨W2, hW2⟩ : ∃ W2, W2 = x1.w.alloc (.cells #[.int .i64 c, .int .i64 Y0, .int .i64 m, .int .i64 d] 87) := ⟨_, rfl⟩
    have hbl2 : ∀ y : Later W2, Below W0.heap.size W0 y.w := fun y => x1.below.trans ((below_of_alloc hW2 y.below).mono x1.below.size)
    have HB2 : Hid (∀ y : Later W2, Below w.heap.size w y.w) := fun y => HBl.out ⟨y.w, hbl2 y⟩
    have r1 : ∀ (y : Later W2) (o : Obj), (y.w.alloc o).cell? ⟨w.heap.size, 1, none⟩ = some (.int .i64 f) := fun y o => c1 ⟨y.w.alloc o, (hbl2 y).alloc (hbl2 y).size o⟩
    have r2 : ∀ (y : Later W2) (o : Obj), (y.w.alloc o).cell? ⟨w.heap.size, 2, none⟩ = some (.int .i64 t) := fun y o => c2 ⟨y.w.alloc o, (hbl2 y).alloc (hbl2 y).size o⟩
    have s1 : ∀ (y : Later W2), y.w.cell? ⟨w.heap.size, 1, none⟩ = some (.int .i64 f) := fun y => c1 ⟨y.w, hbl2 y⟩
    have HW2 := hideP hW2
    rw [← HW2.out]
    clear hW2 hbl2
    refine (KN _).mono ?_
    rintro e w2 ⟨rfl, hb⟩
    obtain ⟨y1, rfl⟩ := Later.of hb
    clear hb
    go_wp2_with fail
    refine (KI _).mono ?_
    rintro e w3 ⟨rfl, rfl⟩
    go_wp2_with fail
    refine (KS _).mono ?_
    rintro e w4 ⟨rfl, hb⟩
    obtain ⟨y2, rfl⟩ := y1.next (below_alloc hb)
    clear hb
    go_wp2_with fail
    refine (KX _).mono ?_
    rintro e w5 ⟨rfl, hb⟩
    obtain ⟨y3, rfl⟩ := y2.next hb
    clear hb
    go_wp2_with fail
    refine (KY _).mono ?_
    rintro e w5 ⟨rfl, hb⟩
    obtain ⟨y4, rfl⟩ := y3.next hb
    clear hb
    go_wp2
    go_ret
    exact ⟨ret_int HR.out.symm, HB2.out y4⟩
  simp only [styR_yes gf] at KX
  rcases sty_all c s n with gn | ⟨y, gn⟩
  · have HR := hideP (HR0.out.trans (bs_no2 (f := f) gn))
    simp only [styR_no gn] at KY
    clear gf gn
    go_enter Tryz.func25, Tryz.ntmps25
    go_wp2_with fail
    rw [← HW0.out]
    refine (KF _).mono ?_
    rintro e w1 ⟨rfl, hb⟩
    obtain ⟨x1, rfl⟩ := Later.of hb
    clear hb
    go_wp2_with fail
    obtain ⟨W2, hW2⟩ : ∃ W2, W2 = x1.w.alloc (.cells #[.int .i64 c, .int .i64 Y0, .int .i64 m, .int .i64 d] 87) := ⟨_, rfl⟩
    have hbl2 : ∀ y : Later W2, Below W0.heap.size W0 y.w := fun y => x1.below.trans ((below_of_alloc hW2 y.below).mono x1.below.size)
    have HB2 : Hid (∀ y : Later W2, Below w.heap.size w y.w) := fun y => HBl.out ⟨y.w, hbl2 y⟩
    have r1 : ∀ (y : Later W2) (o : Obj), (y.w.alloc o).cell? ⟨w.heap.size, 1, none⟩ = some (.int .i64 f) := fun y o => c1 ⟨y.w.alloc o, (hbl2 y).alloc (hbl2 y).size o⟩
    have r2 : ∀ (y : Later W2) (o : Obj), (y.w.alloc o).cell? ⟨w.heap.size, 2, none⟩ = some (.int .i64 t) := fun y o => c2 ⟨y.w.alloc o, (hbl2 y).alloc (hbl2 y).size o⟩
    have s1 : ∀ (y : Later W2), y.w.cell? ⟨w.heap.size, 1, none⟩ = some (.int .i64 f) := fun y => c1 ⟨y.w, hbl2 y⟩
    have HW2 := hideP hW2
    rw [← HW2.out]
    clear hW2 hbl2
    refine (KN _).mono ?_
    rintro e w2 ⟨rfl, hb⟩
    obtain ⟨y1, rfl⟩ := Later.of hb
    clear hb
    go_wp2_with fail
    refine (KI _).mono ?_
    rintro e w3 ⟨rfl, rfl⟩
    go_wp2_with fail
    refine (KS _).mono ?_
    rintro e w4 ⟨rfl, hb⟩
    obtain ⟨y2, rfl⟩ := y1.next (below_alloc hb)
    clear hb
    go_wp2_with fail
    refine (KX _).mono ?_
    rintro e w5 ⟨rfl, hb⟩
    obtain ⟨y3, rfl⟩ := y2.next hb
    clear hb
    go_wp2_with fail
    refine (KY _).mono ?_
    rintro e w5 ⟨rfl, hb⟩
    obtain ⟨y4, rfl⟩ := y3.next hb
    clear hb
    go_wp2
    go_ret
    exact ⟨ret_int HR.out.symm, HB2.out y4⟩
  simp only [styR_yes gn] at KY
  have HR := hideP (HR0.out.trans (bs_yes gf gn))
  obtain ⟨_, _, _, g1, g2, _⟩ := sty_parts gf
  obtain ⟨_, _, _, g3, g4, _⟩ := sty_parts gn
  clear gf gn
  go_enter Tryz.func25, Tryz.ntmps25
  go_wp2_with fail
  rw [← HW0.out]
  refine (KF _).mono ?_
  rintro e w1 ⟨rfl, hb⟩
  obtain ⟨x1, rfl⟩ := Later.of hb
  clear hb
  go_wp2_with fail
  obtain ⟨W2, hW2⟩ : ∃ W2, W2 = x1.w.alloc (.cells #[.int .i64 c, .int .i64 Y0, .int .i64 m, .int .i64 d] 87) := ⟨_, rfl⟩
  have hbl2 : ∀ y : Later W2, Below W0.heap.size W0 y.w := fun y => x1.below.trans ((below_of_alloc hW2 y.below).mono x1.below.size)
  have HB2 : Hid (∀ y : Later W2, Below w.heap.size w y.w) := fun y => HBl.out ⟨y.w, hbl2 y⟩
  have r1 : ∀ (y : Later W2) (o : Obj), (y.w.alloc o).cell? ⟨w.heap.size, 1, none⟩ = some (.int .i64 f) := fun y o => c1 ⟨y.w.alloc o, (hbl2 y).alloc (hbl2 y).size o⟩
  have r2 : ∀ (y : Later W2) (o : Obj), (y.w.alloc o).cell? ⟨w.heap.size, 2, none⟩ = some (.int .i64 t) := fun y o => c2 ⟨y.w.alloc o, (hbl2 y).alloc (hbl2 y).size o⟩
  have s1 : ∀ (y : Later W2), y.w.cell? ⟨w.heap.size, 1, none⟩ = some (.int .i64 f) := fun y => c1 ⟨y.w, hbl2 y⟩
  have HW2 := hideP hW2
  rw [← HW2.out]
  clear hW2 hbl2
  refine (KN _).mono ?_
  rintro e w2 ⟨rfl, hb⟩
  obtain ⟨y1, rfl⟩ := Later.of hb
  clear hb
  go_wp2_with fail
  refine (KI _).mono ?_
  rintro e w3 ⟨rfl, rfl⟩
  go_wp2_with fail
  refine (KS _).mono ?_
  rintro e w4 ⟨rfl, hb⟩
  obtain ⟨y2, rfl⟩ := y1.next (below_alloc hb)
  clear hb
  go_wp2_with fail
  refine (KX _).mono ?_
  rintro e w5 ⟨rfl, hb⟩
  obtain ⟨y3, rfl⟩ := y2.next hb
  clear hb
  go_wp2_with fail
  refine (KY _).mono ?_
  rintro e w5 ⟨rfl, hb⟩
  obtain ⟨y4, rfl⟩ := y3.next hb
  clear hb
  go_wp2
  go_ret
  exact ⟨ret_int HR.out.symm, HB2.out y4⟩

set_option maxHeartbeats 1000000 in
theorem implLastYear (c s ru : Int) (nm : ByteArray) (f t : Int) (w : World) (hT : Tab w) : Calls Tryz.prog 29 #[.int .i64 c, .int .i64 s, .int .i64 ru, .agg #[.string nm, .int .i64 f, .int .i64 t]] w fun e w' => e = .returned (.int .i64 (reignYear c s ru f t t)) ∧ Below w.heap.size w w' := by
  obtain ⟨W0, hW0, c0, c1, c2, hBl⟩ := rgn_box w nm f t 29
  have HW0 := hideP hW0
  have HBl := hideP hBl
  have K : ∀ x : Later W0, Calls Tryz.prog 9 #[.int .i64 c, .int .i64 s, .int .i64 ru, .agg #[.string nm, .int .i64 f, .int .i64 t], .int .i64 t] x.w fun e w' => e = .returned (.int .i64 (reignYear c s ru f t t)) ∧ Below x.w.heap.size x.w w' := fun x => implReignYear c s ru nm f t t x.w (hT.later (hBl x))
  clear hW0 hBl hT
  generalize reignYear c s ru f t t = R at *
  go_enter Tryz.func29, Tryz.ntmps29
  go_wp2_with fail
  rw [← HW0.out]
  refine (K ⟨W0, Below.refl _ _⟩).mono ?_
  rintro e w1 ⟨rfl, hb⟩
  obtain ⟨x1, rfl⟩ := Later.of hb
  clear hb
  go_wp2
  go_ret
  exact ⟨rfl, HBl.out x1⟩

set_option maxHeartbeats 1000000 in
theorem specLastYear (c s ru : Int) (nm : ByteArray) (f t : Int) (w : World) : Calls Tryz.prog 30 #[.int .i64 c, .int .i64 s, .int .i64 ru, .agg #[.string nm, .int .i64 f, .int .i64 t]] w fun e w' => e = .returned (.int .i64 (reignYear c s ru f t t)) ∧ Below w.heap.size w w' := by
  obtain ⟨W0, hW0, c0, c1, c2, hBl⟩ := rgn_box w nm f t 29
  have HW0 := hideP hW0
  have HBl := hideP hBl
  have K : ∀ x : Later W0, Calls Tryz.prog 25 #[.int .i64 c, .int .i64 s, .int .i64 ru, .agg #[.string nm, .int .i64 f, .int .i64 t], .int .i64 t] x.w fun e w' => e = .returned (.int .i64 (reignYear c s ru f t t)) ∧ Below x.w.heap.size x.w w' := fun x => specReignYear c s ru nm f t t x.w 
  clear hW0 hBl
  generalize reignYear c s ru f t t = R at *
  go_enter Tryz.func30, Tryz.ntmps30
  go_wp2_with fail
  rw [← HW0.out]
  refine (K ⟨W0, Below.refl _ _⟩).mono ?_
  rintro e w1 ⟨rfl, hb⟩
  obtain ⟨x1, rfl⟩ := Later.of hb
  clear hb
  go_wp2
  go_ret
  exact ⟨rfl, HBl.out x1⟩
end Go.Proofs.YtcdcniniafejbaaGreatDoor.ctr
