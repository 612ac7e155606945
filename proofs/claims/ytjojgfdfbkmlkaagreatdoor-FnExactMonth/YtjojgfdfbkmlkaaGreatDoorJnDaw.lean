/- Contracts of both SegmentOk: each answers its plain function at every segment. What a law is told of a struct of ints that comes in by value. -/
import Derived.Test.YtjojgfdfbkmlkaaGreatDoorJnDav
import Derived.Test.YtjojgfdfbkmlkaaGreatDoorJnDaa
import Derived.Test.YtjojgfdfbkmlkaaGreatDoorJnDaq
namespace Go.Proofs.YtjojgfdfbkmlkaaGreatDoor.ctr
open Go.RowKit
def dayB (n : Int) : Bool := inB n 400 1090000
def segOkB (s : Seg) : Bool := dayB s.fr && (dayB s.to && (decide (s.fr ≤ s.to) && (calB s.cal && (styleB s.sty && inB s.off (-3) 3))))
theorem implOnLine (n : Int) (w : World) : Calls Tryz.prog 103 #[.int .i64 n] w fun e w' => e = .returned (.bool (dayB n)) ∧ w' = w := by
  unfold dayB
  by_cases h1 : 400 ≤ n
  · by_cases h2 : n ≤ 1090000
    · rw [inB_true h1 h2]
      go_enter Tryz.func103, Tryz.ntmps103
      go_wp2
      go_ret
      exact ⟨rfl, rfl⟩
    · rw [inB_false (.inr (by omega))]
      have hd : decide (n ≤ 1090000) = false := decide_eq_false h2
      go_enter Tryz.func103, Tryz.ntmps103
      go_wp2
      go_ret
      exact ⟨rfl, rfl⟩
  · rw [inB_false (.inl (by omega))]
    have hd : decide (400 ≤ n) = false := decide_eq_false h1
    go_enter Tryz.func103, Tryz.ntmps103
    go_wp2
    go_ret
    exact ⟨rfl, rfl⟩
theorem specDay9 (n : Int) (w : World) : Calls Tryz.prog 102 #[.int .i64 n] w fun e w' => e = .returned (.bool (dayB n)) ∧ w' = w := by
  go_enter Tryz.func102, Tryz.ntmps102
  go_wp2_with (go_at_call 96; refine (l01In n 400 1090000 _).mono ?_; rintro e w1 ⟨rfl, rfl⟩)
  go_ret
  exact ⟨rfl, rfl⟩
theorem seg_box (w : World) (a b c d e : Int) (t : TypeId) : ∃ W0, W0 = w.alloc (.cells #[.int .i64 a, .int .i64 b, .int .i64 c, .int .i64 d, .int .i64 e] t) ∧ (∀ x : Later W0, x.w.cell? ⟨w.heap.size, 0, none⟩ = some (.int .i64 a)) ∧ (∀ x : Later W0, x.w.cell? ⟨w.heap.size, 1, none⟩ = some (.int .i64 b)) ∧ (∀ x : Later W0, x.w.cell? ⟨w.heap.size, 2, none⟩ = some (.int .i64 c)) ∧ (∀ x : Later W0, x.w.cell? ⟨w.heap.size, 3, none⟩ = some (.int .i64 d)) ∧ (∀ x : Later W0, x.w.cell? ⟨w.heap.size, 4, none⟩ = some (.int .i64 e)) ∧ ∀ x : Later W0, Below w.heap.size w x.w :=
  ⟨_, rfl, Later.new rfl 0 rfl, Later.new rfl 1 rfl, Later.new rfl 2 rfl, Later.new rfl 3 rfl, Later.new rfl 4 rfl, fun x => below_alloc x.below⟩
set_option maxHeartbeats 1000000 in
theorem implSegOk (s : Seg) (w : World) : Calls Tryz.prog 179 #[.agg #[.int .i64 s.fr, .int .i64 s.to, .int .i64 s.cal, .int .i64 s.sty, .int .i64 s.off]] w fun e w' => e = .returned (.bool (segOkB s)) ∧ Below w.heap.size w w' := by
  have K1 : ∀ W, Calls Tryz.prog 103 #[.int .i64 s.fr] W fun e w' => e = .returned (.bool (dayB s.fr)) ∧ Below W.heap.size W w' := fun W => (implOnLine s.fr W).mono fun _ _ h => ⟨h.1, same_bel h.2⟩
  have K2 : ∀ W, Calls Tryz.prog 103 #[.int .i64 s.to] W fun e w' => e = .returned (.bool (dayB s.to)) ∧ Below W.heap.size W w' := fun W => (implOnLine s.to W).mono fun _ _ h => ⟨h.1, same_bel h.2⟩
  have K5 : ∀ W, Calls Tryz.prog 192 #[.int .i64 s.sty] W fun e w' => e = .returned (.bool (styleB s.sty)) ∧ Below W.heap.size W w' := fun W => (implStyleOk s.sty W).mono fun _ _ h => ⟨h.1, same_bel h.2⟩
  obtain ⟨W0, hW0, c0, c1, c2, c3, c4, hBl⟩ := seg_box w s.fr s.to s.cal s.sty s.off 92
  have HW0 := hideP hW0
  have HBl := hideP hBl
  clear hW0 hBl
  unfold segOkB
  generalize dayB s.fr = b1 at *
  generalize dayB s.to = b2 at *
  generalize styleB s.sty = b5 at *
  cases b1
  · rw [Bool.false_and]
    go_enter Tryz.func179, Tryz.ntmps179
    go_wp2_with fail
    rw [← HW0.out]
    refine (K1 _).mono ?_
    rintro e w1 ⟨rfl, hb⟩
    obtain ⟨x1, rfl⟩ := Later.of hb
    clear hb
    go_wp2
    go_ret
    exact ⟨rfl, HBl.out x1⟩
  rw [Bool.true_and]
  cases b2
  · rw [Bool.false_and]
    go_enter Tryz.func179, Tryz.ntmps179
    go_wp2_with fail
    rw [← HW0.out]
    refine (K1 _).mono ?_
    rintro e w1 ⟨rfl, hb⟩
    obtain ⟨x1, rfl⟩ := Later.of hb
    clear hb
    go_wp2_with fail
    refine (K2 _).mono ?_
    rintro e w2 ⟨rfl, hb⟩
    obtain ⟨x2, rfl⟩ := x1.next hb
    clear hb
    go_wp2
    go_ret
    exact ⟨rfl, HBl.out x2⟩
  rw [Bool.true_and]
  by_cases h3 : s.fr ≤ s.to
  case neg =>
    rw [decide_eq_false h3, Bool.false_and]
    have hd : decide (s.fr ≤ s.to) = false := decide_eq_false h3
    go_enter Tryz.func179, Tryz.ntmps179
    go_wp2_with fail
    rw [← HW0.out]
    refine (K1 _).mono ?_
    rintro e w1 ⟨rfl, hb⟩
    obtain ⟨x1, rfl⟩ := Later.of hb
    clear hb
    go_wp2_with fail
    refine (K2 _).mono ?_
    rintro e w2 ⟨rfl, hb⟩
    obtain ⟨x2, rfl⟩ := x1.next hb
    clear hb
    go_wp2
    go_ret
    exact ⟨rfl, HBl.out x2⟩
  rw [decide_eq_true h3, Bool.true_and]
  by_cases hc : s.cal = 0 ∨ s.cal = 1
  case neg =>
    rw [calB_no hc, Bool.false_and]
    have K4 : ∀ W, Calls Tryz.prog 144 #[.int .i64 s.cal] W fun e w' => e = .returned (.nilIface) ∧ Below W.heap.size W w' := fun W => (implCalNo s.cal (fun e => hc (.inl e)) (fun e => hc (.inr e)) W).mono fun _ _ h => ⟨h.1, same_bel h.2⟩
    go_enter Tryz.func179, Tryz.ntmps179
    go_wp2_with fail
    rw [← HW0.out]
    refine (K1 _).mono ?_
    rintro e w1 ⟨rfl, hb⟩
    obtain ⟨x1, rfl⟩ := Later.of hb
    clear hb
    go_wp2_with fail
    refine (K2 _).mono ?_
    rintro e w2 ⟨rfl, hb⟩
    obtain ⟨x2, rfl⟩ := x1.next hb
    clear hb
    go_wp2_with fail
    refine (K4 _).mono ?_
    rintro e w3 ⟨rfl, hb⟩
    obtain ⟨x3, rfl⟩ := x2.next hb
    clear hb
    go_wp2
    go_ret
    exact ⟨rfl, HBl.out x3⟩
  rw [calB_iff.2 hc, Bool.true_and]
  obtain ⟨ct, K4⟩ : ∃ ct, ∀ W, Calls Tryz.prog 144 #[.int .i64 s.cal] W fun e w' => e = .returned (.iface ct (.agg #[])) ∧ Below W.heap.size W w' := by
    rcases hc with hc | hc
    · rw [hc]; exact ⟨_, fun W => (implCal0 W).mono fun _ _ h => ⟨h.1, same_bel h.2⟩⟩
    · rw [hc]; exact ⟨_, fun W => (implCal1 W).mono fun _ _ h => ⟨h.1, same_bel h.2⟩⟩
  clear hc
  cases b5
  · rw [Bool.false_and]
    go_enter Tryz.func179, Tryz.ntmps179
    go_wp2_with fail
    rw [← HW0.out]
    refine (K1 _).mono ?_
    rintro e w1 ⟨rfl, hb⟩
    obtain ⟨x1, rfl⟩ := Later.of hb
    clear hb
    go_wp2_with fail
    refine (K2 _).mono ?_
    rintro e w2 ⟨rfl, hb⟩
    obtain ⟨x2, rfl⟩ := x1.next hb
    clear hb
    go_wp2_with fail
    refine (K4 _).mono ?_
    rintro e w3 ⟨rfl, hb⟩
    obtain ⟨x3, rfl⟩ := x2.next hb
    clear hb
    go_wp2_with fail
    refine (K5 _).mono ?_
    rintro e w4 ⟨rfl, hb⟩
    obtain ⟨x4, rfl⟩ := x3.next hb
    clear hb
    go_wp2
    go_ret
    exact ⟨rfl, HBl.out x4⟩
  rw [Bool.true_and]
  by_cases h6 : -3 ≤ s.off
  case neg =>
    rw [inB_false (by omega)]
    have hd : decide (-3 ≤ s.off) = false := decide_eq_false h6
    go_enter Tryz.func179, Tryz.ntmps179
    go_wp2_with fail
    rw [← HW0.out]
    refine (K1 _).mono ?_
    rintro e w1 ⟨rfl, hb⟩
    obtain ⟨x1, rfl⟩ := Later.of hb
    clear hb
    go_wp2_with fail
    refine (K2 _).mono ?_
    rintro e w2 ⟨rfl, hb⟩
    obtain ⟨x2, rfl⟩ := x1.next hb
    clear hb
    go_wp2_with fail
    refine (K4 _).mono ?_
    rintro e w3 ⟨rfl, hb⟩
    obtain ⟨x3, rfl⟩ := x2.next hb
    clear hb
    go_wp2_with fail
    refine (K5 _).mono ?_
    rintro e w4 ⟨rfl, hb⟩
    obtain ⟨x4, rfl⟩ := x3.next hb
    clear hb
    go_wp2
    go_ret
    exact ⟨rfl, HBl.out x4⟩
  by_cases h7 : s.off ≤ 3
  case neg =>
    rw [inB_false (by omega)]
    have hd : decide (s.off ≤ 3) = false := decide_eq_false h7
    go_enter Tryz.func179, Tryz.ntmps179
    go_wp2_with fail
    rw [← HW0.out]
    refine (K1 _).mono ?_
    rintro e w1 ⟨rfl, hb⟩
    obtain ⟨x1, rfl⟩ := Later.of hb
    clear hb
    go_wp2_with fail
    refine (K2 _).mono ?_
    rintro e w2 ⟨rfl, hb⟩
    obtain ⟨x2, rfl⟩ := x1.next hb
    clear hb
    go_wp2_with fail
    refine (K4 _).mono ?_
    rintro e w3 ⟨rfl, hb⟩
    obtain ⟨x3, rfl⟩ := x2.next hb
    clear hb
    go_wp2_with fail
    refine (K5 _).mono ?_
    rintro e w4 ⟨rfl, hb⟩
    obtain ⟨x4, rfl⟩ := x3.next hb
    clear hb
    go_wp2
    go_ret
    exact ⟨rfl, HBl.out x4⟩
  rw [inB_true h6 h7]
  go_enter Tryz.func179, Tryz.ntmps179
  go_wp2_with fail
  rw [← HW0.out]
  refine (K1 _).mono ?_
  rintro e w1 ⟨rfl, hb⟩
  obtain ⟨x1, rfl⟩ := Later.of hb
  clear hb
  go_wp2_with fail
  refine (K2 _).mono ?_
  rintro e w2 ⟨rfl, hb⟩
  obtain ⟨x2, rfl⟩ := x1.next hb
  clear hb
  go_wp2_with fail
  refine (K4 _).mono ?_
  rintro e w3 ⟨rfl, hb⟩
  obtain ⟨x3, rfl⟩ := x2.next hb
  clear hb
  go_wp2_with fail
  refine (K5 _).mono ?_
  rintro e w4 ⟨rfl, hb⟩
  obtain ⟨x4, rfl⟩ := x3.next hb
  clear hb
  go_wp2
  go_ret
  exact ⟨rfl, HBl.out x4⟩
set_option maxHeartbeats 1000000 in
theorem specSegOk (s : Seg) (w : World) : Calls Tryz.prog 171 #[.agg #[.int .i64 s.fr, .int .i64 s.to, .int .i64 s.cal, .int .i64 s.sty, .int .i64 s.off]] w fun e w' => e = .returned (.bool (segOkB s)) ∧ Below w.heap.size w w' := by
  have K1 : ∀ W, Calls Tryz.prog 102 #[.int .i64 s.fr] W fun e w' => e = .returned (.bool (dayB s.fr)) ∧ Below W.heap.size W w' := fun W => (specDay9 s.fr W).mono fun _ _ h => ⟨h.1, same_bel h.2⟩
  have K2 : ∀ W, Calls Tryz.prog 102 #[.int .i64 s.to] W fun e w' => e = .returned (.bool (dayB s.to)) ∧ Below W.heap.size W w' := fun W => (specDay9 s.to W).mono fun _ _ h => ⟨h.1, same_bel h.2⟩
  have K4 : ∀ W, Calls Tryz.prog 114 #[.int .i64 s.cal] W fun e w' => e = .returned (.bool (calB s.cal)) ∧ Below W.heap.size W w' := fun W => (specCal s.cal W).mono fun _ _ h => ⟨h.1, same_bel h.2⟩
  have K5 : ∀ W, Calls Tryz.prog 177 #[.int .i64 s.sty] W fun e w' => e = .returned (.string (styText s.sty)) ∧ Below W.heap.size W w' := fun W => specStyleName s.sty W
  have K6 : ∀ W, Calls Tryz.prog 96 #[.int .i64 s.off, .int .i64 (-3), .int .i64 3] W fun e w' => e = .returned (.bool (inB s.off (-3) 3)) ∧ Below W.heap.size W w' := fun W => (l01In s.off (-3) 3 W).mono fun _ _ h => ⟨h.1, same_bel h.2⟩
  obtain ⟨W0, hW0, c0, c1, c2, c3, c4, hBl⟩ := seg_box w s.fr s.to s.cal s.sty s.off 92
  have HW0 := hideP hW0
  have HBl := hideP hBl
  clear hW0 hBl
  unfold segOkB
  generalize dayB s.fr = b1 at *
  generalize dayB s.to = b2 at *
  generalize calB s.cal = b4 at *
  generalize inB s.off (-3) 3 = b6 at *
  cases b1
  · rw [Bool.false_and]
    go_enter Tryz.func171, Tryz.ntmps171
    go_wp2_with fail
    rw [← HW0.out]
    refine (K1 _).mono ?_
    rintro e w1 ⟨rfl, hb⟩
    obtain ⟨x1, rfl⟩ := Later.of hb
    clear hb
    go_wp2
    go_ret
    exact ⟨rfl, HBl.out x1⟩
  rw [Bool.true_and]
  cases b2
  · rw [Bool.false_and]
    go_enter Tryz.func171, Tryz.ntmps171
    go_wp2_with fail
    rw [← HW0.out]
    refine (K1 _).mono ?_
    rintro e w1 ⟨rfl, hb⟩
    obtain ⟨x1, rfl⟩ := Later.of hb
    clear hb
    go_wp2_with fail
    refine (K2 _).mono ?_
    rintro e w2 ⟨rfl, hb⟩
    obtain ⟨x2, rfl⟩ := x1.next hb
    clear hb
    go_wp2
    go_ret
    exact ⟨rfl, HBl.out x2⟩
  rw [Bool.true_and]
  by_cases h3 : s.fr ≤ s.to
  case neg =>
    rw [decide_eq_false h3, Bool.false_and]
    have hd : decide (s.fr ≤ s.to) = false := decide_eq_false h3
    go_enter Tryz.func171, Tryz.ntmps171
    go_wp2_with fail
    rw [← HW0.out]
    refine (K1 _).mono ?_
    rintro e w1 ⟨rfl, hb⟩
    obtain ⟨x1, rfl⟩ := Later.of hb
    clear hb
    go_wp2_with fail
    refine (K2 _).mono ?_
    rintro e w2 ⟨rfl, hb⟩
    obtain ⟨x2, rfl⟩ := x1.next hb
    clear hb
    go_wp2
    go_ret
    exact ⟨rfl, HBl.out x2⟩
  rw [decide_eq_true h3, Bool.true_and]
  cases b4
  · rw [Bool.false_and]
    go_enter Tryz.func171, Tryz.ntmps171
    go_wp2_with fail
    rw [← HW0.out]
    refine (K1 _).mono ?_
    rintro e w1 ⟨rfl, hb⟩
    obtain ⟨x1, rfl⟩ := Later.of hb
    clear hb
    go_wp2_with fail
    refine (K2 _).mono ?_
    rintro e w2 ⟨rfl, hb⟩
    obtain ⟨x2, rfl⟩ := x1.next hb
    clear hb
    go_wp2_with fail
    refine (K4 _).mono ?_
    rintro e w3 ⟨rfl, hb⟩
    obtain ⟨x3, rfl⟩ := x2.next hb
    clear hb
    go_wp2
    go_ret
    exact ⟨rfl, HBl.out x3⟩
  rw [Bool.true_and]
  by_cases hs : styleP s.sty
  case neg =>
    rw [styleB_false hs, Bool.false_and]
    have hE := styText_none hs
    generalize styText s.sty = t at *
    go_enter Tryz.func171, Tryz.ntmps171
    go_wp2_with fail
    rw [← HW0.out]
    refine (K1 _).mono ?_
    rintro e w1 ⟨rfl, hb⟩
    obtain ⟨x1, rfl⟩ := Later.of hb
    clear hb
    go_wp2_with fail
    refine (K2 _).mono ?_
    rintro e w2 ⟨rfl, hb⟩
    obtain ⟨x2, rfl⟩ := x1.next hb
    clear hb
    go_wp2_with fail
    refine (K4 _).mono ?_
    rintro e w3 ⟨rfl, hb⟩
    obtain ⟨x3, rfl⟩ := x2.next hb
    clear hb
    go_wp2_with fail
    refine (K5 _).mono ?_
    rintro e w4 ⟨rfl, hb⟩
    obtain ⟨x4, rfl⟩ := x3.next hb
    clear hb
    go_wp2
    go_ret
    exact ⟨rfl, HBl.out x4⟩
  rw [styleB_true hs, Bool.true_and]
  have hE := styText_some hs
  generalize styText s.sty = t at *
  go_enter Tryz.func171, Tryz.ntmps171
  go_wp2_with fail
  rw [← HW0.out]
  refine (K1 _).mono ?_
  rintro e w1 ⟨rfl, hb⟩
  obtain ⟨x1, rfl⟩ := Later.of hb
  clear hb
  go_wp2_with fail
  refine (K2 _).mono ?_
  rintro e w2 ⟨rfl, hb⟩
  obtain ⟨x2, rfl⟩ := x1.next hb
  clear hb
  go_wp2_with fail
  refine (K4 _).mono ?_
  rintro e w3 ⟨rfl, hb⟩
  obtain ⟨x3, rfl⟩ := x2.next hb
  clear hb
  go_wp2_with fail
  refine (K5 _).mono ?_
  rintro e w4 ⟨rfl, hb⟩
  obtain ⟨x4, rfl⟩ := x3.next hb
  clear hb
  go_wp2_with fail
  refine (K6 _).mono ?_
  rintro e w5 ⟨rfl, hb⟩
  obtain ⟨x5, rfl⟩ := x4.next hb
  clear hb
  go_wp2
  go_ret
  exact ⟨rfl, HBl.out x5⟩
end Go.Proofs.YtjojgfdfbkmlkaaGreatDoor.ctr
namespace Go.Proofs.YtjojgfdfbkmlkaaGreatDoor.kit
open Go.RowKit Go.WideShapes Go.Deep Go.ChangeShapes
end Go.Proofs.YtjojgfdfbkmlkaaGreatDoor.kit
