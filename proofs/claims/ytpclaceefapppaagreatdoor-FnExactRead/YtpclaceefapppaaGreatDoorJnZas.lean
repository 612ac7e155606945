/- Contracts of both SegmentOk: each answers its plain function at every segment; and what else the law reaches. -/
import Derived.Test.YtpclaceefapppaaGreatDoorJnZak
import Derived.Test.YtpclaceefapppaaGreatDoorJnZaa
import Derived.Test.YtpclaceefapppaaGreatDoorJnZah
import Derived.Test.YtpclaceefapppaaGreatDoorJnZam
import Derived.Test.YtpclaceefapppaaGreatDoorJnZan
import Derived.Test.YtpclaceefapppaaGreatDoorJnZag
import Derived.Test.YtpclaceefapppaaGreatDoorJnZad
import Derived.Test.YtpclaceefapppaaGreatDoorJnZaf
set_option maxHeartbeats 2000000
namespace Go.Proofs.YtpclaceefapppaaGreatDoor.ctr
open Go.RowKit
def dayB (n : Int) : Bool := inB n 400 1090000
def segOkB (s : Seg) : Bool := dayB s.fr && (dayB s.to && (decide (s.fr ≤ s.to) && (calB s.cal && (styleB s.sty && inB s.off (-3) 3))))
theorem implOnLine (n : Int) (w : World) : CS 74 #[.int .i64 n] w (.bool (dayB n)) := by
 unfold dayB
 by_cases h1 : 400 ≤ n
 · by_cases h2 : n ≤ 1090000
   · rw [inB_true h1 h2]
     go_enter Tryz.func74, Tryz.ntmps74
     go_wp2
     go_ret
     exact ⟨rfl, rfl⟩
   · rw [inB_false (.inr (by omega))]
     have hd : decide (n ≤ 1090000) = false := decide_eq_false h2
     go_enter Tryz.func74, Tryz.ntmps74
     go_wp2
     go_ret
     exact ⟨rfl, rfl⟩
 · rw [inB_false (.inl (by omega))]
   have hd : decide (400 ≤ n) = false := decide_eq_false h1
   go_enter Tryz.func74, Tryz.ntmps74
   go_wp2
   go_ret
   exact ⟨rfl, rfl⟩
theorem specDay9 (n : Int) (w : World) : CS 58 #[.int .i64 n] w (.bool (dayB n)) := by
 go_enter Tryz.func58, Tryz.ntmps58
 go_wp2_with (go_at_call 98; refine (l01In n 400 1090000 _).mono ?_; rintro e w1 ⟨rfl, rfl⟩)
 go_ret
 exact ⟨rfl, rfl⟩
theorem seg_box (w : World) (a b c d e : Int) (t : TypeId) : ∃ W0, W0 = w.alloc (.cells #[.int .i64 a, .int .i64 b, .int .i64 c, .int .i64 d, .int .i64 e] t) ∧ (∀ x : Later W0, x.w.cell? ⟨w.heap.size, 0, none⟩ = some (.int .i64 a)) ∧ (∀ x : Later W0, x.w.cell? ⟨w.heap.size, 1, none⟩ = some (.int .i64 b)) ∧ (∀ x : Later W0, x.w.cell? ⟨w.heap.size, 2, none⟩ = some (.int .i64 c)) ∧ (∀ x : Later W0, x.w.cell? ⟨w.heap.size, 3, none⟩ = some (.int .i64 d)) ∧ (∀ x : Later W0, x.w.cell? ⟨w.heap.size, 4, none⟩ = some (.int .i64 e)) ∧ ∀ x : Later W0, Below w.heap.size w x.w :=
 ⟨_, rfl, Later.new rfl 0 rfl, Later.new rfl 1 rfl, Later.new rfl 2 rfl, Later.new rfl 3 rfl, Later.new rfl 4 rfl, fun x => below_alloc x.below⟩
theorem implSegOk (s : Seg) (w : World) : CR 125 #[.agg #[.int .i64 s.fr, .int .i64 s.to, .int .i64 s.cal, .int .i64 s.sty, .int .i64 s.off]] w (.bool (segOkB s)) := by
 have K1 : ∀ W, CR 74 #[.int .i64 s.fr] W (.bool (dayB s.fr)) := fun W => (implOnLine s.fr W).mono fun _ _ h => ⟨h.1, same_bel h.2⟩
 have K2 : ∀ W, CR 74 #[.int .i64 s.to] W (.bool (dayB s.to)) := fun W => (implOnLine s.to W).mono fun _ _ h => ⟨h.1, same_bel h.2⟩
 have K5 : ∀ W, CR 178 #[.int .i64 s.sty] W (.bool (styleB s.sty)) := fun W => (implStyleOk s.sty W).mono fun _ _ h => ⟨h.1, same_bel h.2⟩
 obtain ⟨W0, hW0, c0, c1, c2, c3, c4, hBl⟩ := seg_box w s.fr s.to s.cal s.sty s.off 91
 have HW0 := hideP hW0
 have HBl := hideP hBl
 clear hW0 hBl
 unfold segOkB
 generalize dayB s.fr = b1 at *
 generalize dayB s.to = b2 at *
 generalize styleB s.sty = b5 at *
 cases b1
 · rw [Bool.false_and]
   go_enter Tryz.func125, Tryz.ntmps125
   go_wp2_with fail
   rw [← HW0.out]
   refine latO (K1 _) fun x1 => ?_
   go_wp2
   go_ret
   exact ⟨rfl, HBl.out x1⟩
 rw [Bool.true_and]
 cases b2
 · rw [Bool.false_and]
   go_enter Tryz.func125, Tryz.ntmps125
   go_wp2_with fail
   rw [← HW0.out]
   refine latO (K1 _) fun x1 => ?_
   go_wp2_with fail
   refine lat (K2 _) fun x2 => ?_
   go_wp2
   go_ret
   exact ⟨rfl, HBl.out x2⟩
 rw [Bool.true_and]
 by_cases h3 : s.fr ≤ s.to
 case neg =>
  rw [decide_eq_false h3, Bool.false_and]
  have hd : decide (s.fr ≤ s.to) = false := decide_eq_false h3
  go_enter Tryz.func125, Tryz.ntmps125
  go_wp2_with fail
  rw [← HW0.out]
  refine latO (K1 _) fun x1 => ?_
  go_wp2_with fail
  refine lat (K2 _) fun x2 => ?_
  go_wp2
  go_ret
  exact ⟨rfl, HBl.out x2⟩
 rw [decide_eq_true h3, Bool.true_and]
 by_cases hc : s.cal = 0 ∨ s.cal = 1
 case neg =>
  rw [calB_no hc, Bool.false_and]
  have K4 : ∀ W, CR 132 #[.int .i64 s.cal] W (.nilIface) := fun W => (implCalNo s.cal (fun e => hc (.inl e)) (fun e => hc (.inr e)) W).mono fun _ _ h => ⟨h.1, same_bel h.2⟩
  go_enter Tryz.func125, Tryz.ntmps125
  go_wp2_with fail
  rw [← HW0.out]
  refine latO (K1 _) fun x1 => ?_
  go_wp2_with fail
  refine lat (K2 _) fun x2 => ?_
  go_wp2_with fail
  refine lat (K4 _) fun x3 => ?_
  go_wp2
  go_ret
  exact ⟨rfl, HBl.out x3⟩
 rw [calB_iff.2 hc, Bool.true_and]
 obtain ⟨ct, K4⟩ : ∃ ct, ∀ W, CR 132 #[.int .i64 s.cal] W (.iface ct (.agg #[])) := by
  rcases hc with hc | hc
  · rw [hc]; exact ⟨_, fun W => (implCal0 W).mono fun _ _ h => ⟨h.1, same_bel h.2⟩⟩
  · rw [hc]; exact ⟨_, fun W => (implCal1 W).mono fun _ _ h => ⟨h.1, same_bel h.2⟩⟩
 clear hc
 cases b5
 focus
   rw [Bool.false_and]
 rotate_left
 focus
   rw [Bool.true_and]
   by_cases h6 : -3 ≤ s.off
   case neg =>
    rw [inB_false (by omega)]
    have hd : decide (-3 ≤ s.off) = false := decide_eq_false h6
    go_enter Tryz.func125, Tryz.ntmps125
    go_wp2_with fail
    rw [← HW0.out]
    refine latO (K1 _) fun x1 => ?_
    go_wp2_with fail
    refine lat (K2 _) fun x2 => ?_
    go_wp2_with fail
    refine lat (K4 _) fun x3 => ?_
    go_wp2_with fail
    refine lat (K5 _) fun x4 => ?_
    go_wp2
    go_ret
    exact ⟨rfl, HBl.out x4⟩
   by_cases h7 : s.off ≤ 3
   case neg =>
    rw [inB_false (by omega)]
    have hd : decide (s.off ≤ 3) = false := decide_eq_false h7
    go_enter Tryz.func125, Tryz.ntmps125
    go_wp2_with fail
    rw [← HW0.out]
    refine latO (K1 _) fun x1 => ?_
    go_wp2_with fail
    refine lat (K2 _) fun x2 => ?_
    go_wp2_with fail
    refine lat (K4 _) fun x3 => ?_
    go_wp2_with fail
    refine lat (K5 _) fun x4 => ?_
    go_wp2
    go_ret
    exact ⟨rfl, HBl.out x4⟩
   rw [inB_true h6 h7]
 rotate_left
 all_goals
  go_enter Tryz.func125, Tryz.ntmps125
  go_wp2_with fail
  rw [← HW0.out]
  refine latO (K1 _) fun x1 => ?_
  go_wp2_with fail
  refine lat (K2 _) fun x2 => ?_
  go_wp2_with fail
  refine lat (K4 _) fun x3 => ?_
  go_wp2_with fail
  refine lat (K5 _) fun x4 => ?_
  go_wp2
  go_ret
  exact ⟨rfl, HBl.out x4⟩
theorem specSegOk (s : Seg) (w : World) : CR 105 #[.agg #[.int .i64 s.fr, .int .i64 s.to, .int .i64 s.cal, .int .i64 s.sty, .int .i64 s.off]] w (.bool (segOkB s)) := by
 have K1 : ∀ W, CR 58 #[.int .i64 s.fr] W (.bool (dayB s.fr)) := fun W => (specDay9 s.fr W).mono fun _ _ h => ⟨h.1, same_bel h.2⟩
 have K2 : ∀ W, CR 58 #[.int .i64 s.to] W (.bool (dayB s.to)) := fun W => (specDay9 s.to W).mono fun _ _ h => ⟨h.1, same_bel h.2⟩
 have K4 : ∀ W, CR 109 #[.int .i64 s.cal] W (.bool (calB s.cal)) := fun W => (specCal s.cal W).mono fun _ _ h => ⟨h.1, same_bel h.2⟩
 have K5 : ∀ W, CR 152 #[.int .i64 s.sty] W (.string (styText s.sty)) := fun W => specStyleName s.sty W
 have K6 : ∀ W, CR 98 #[.int .i64 s.off, .int .i64 (-3), .int .i64 3] W (.bool (inB s.off (-3) 3)) := fun W => (l01In s.off (-3) 3 W).mono fun _ _ h => ⟨h.1, same_bel h.2⟩
 obtain ⟨W0, hW0, c0, c1, c2, c3, c4, hBl⟩ := seg_box w s.fr s.to s.cal s.sty s.off 91
 have HW0 := hideP hW0
 have HBl := hideP hBl
 clear hW0 hBl
 unfold segOkB
 generalize dayB s.fr = b1 at *
 generalize dayB s.to = b2 at *
 generalize calB s.cal = b4 at *
 generalize inB s.off (-3) 3 = b6 at *
 cases b1
 · rw [Bool.false_and]
   go_enter Tryz.func105, Tryz.ntmps105
   go_wp2_with fail
   rw [← HW0.out]
   refine latO (K1 _) fun x1 => ?_
   go_wp2
   go_ret
   exact ⟨rfl, HBl.out x1⟩
 rw [Bool.true_and]
 cases b2
 · rw [Bool.false_and]
   go_enter Tryz.func105, Tryz.ntmps105
   go_wp2_with fail
   rw [← HW0.out]
   refine latO (K1 _) fun x1 => ?_
   go_wp2_with fail
   refine lat (K2 _) fun x2 => ?_
   go_wp2
   go_ret
   exact ⟨rfl, HBl.out x2⟩
 rw [Bool.true_and]
 by_cases h3 : s.fr ≤ s.to
 case neg =>
  rw [decide_eq_false h3, Bool.false_and]
  have hd : decide (s.fr ≤ s.to) = false := decide_eq_false h3
  go_enter Tryz.func105, Tryz.ntmps105
  go_wp2_with fail
  rw [← HW0.out]
  refine latO (K1 _) fun x1 => ?_
  go_wp2_with fail
  refine lat (K2 _) fun x2 => ?_
  go_wp2
  go_ret
  exact ⟨rfl, HBl.out x2⟩
 rw [decide_eq_true h3, Bool.true_and]
 cases b4
 focus
   rw [Bool.false_and]
 rotate_left
 focus
   rw [Bool.true_and]
   by_cases hs : styleP s.sty
   case neg =>
    rw [styleB_false hs, Bool.false_and]
    have hE := styText_none hs
    generalize styText s.sty = t at *
    go_enter Tryz.func105, Tryz.ntmps105
    go_wp2_with fail
    rw [← HW0.out]
    refine latO (K1 _) fun x1 => ?_
    go_wp2_with fail
    refine lat (K2 _) fun x2 => ?_
    go_wp2_with fail
    refine lat (K4 _) fun x3 => ?_
    go_wp2_with fail
    refine lat (K5 _) fun x4 => ?_
    go_wp2
    go_ret
    exact ⟨rfl, HBl.out x4⟩
   rw [styleB_true hs, Bool.true_and]
   have hE := styText_some hs
   generalize styText s.sty = t at *
 rotate_left
 all_goals
  go_enter Tryz.func105, Tryz.ntmps105
  go_wp2_with fail
  rw [← HW0.out]
  refine latO (K1 _) fun x1 => ?_
  go_wp2_with fail
  refine lat (K2 _) fun x2 => ?_
  go_wp2_with fail
  refine lat (K4 _) fun x3 => ?_
 · go_wp2
   go_ret
   exact ⟨rfl, HBl.out x3⟩
 go_wp2_with fail
 refine lat (K5 _) fun x4 => ?_
 go_wp2_with fail
 refine lat (K6 _) fun x5 => ?_
 go_wp2
 go_ret
 exact ⟨rfl, HBl.out x5⟩
def lineD (c y m d : Int) : Int := first c y + before c y (m - 1).toNat + d - 1
theorem lineD_dayOf {c y m d : Int} (h : dateP c y m d) : dayOf c y m d = lineD c y m d := by unfold dayOf lineD; rw [if_pos h]
def start (c s y : Int) : Int :=
 if s = 1 then lineD c y 3 1
 else if s = 2 then lineD c y 3 25
 else if s = 3 then lineD c (y - 1) 3 25
 else if s = 4 then easL c y
 else if s = 5 then lineD c (y - 1) 9 1
 else if s = 6 then lineD c (y - 1) 12 25
 else first c y
theorem start_0 (c y : Int) : start c 0 y = lineD c y 1 1 := by
 unfold start lineD
 rw [if_neg (by omega), if_neg (by omega), if_neg (by omega), if_neg (by omega), if_neg (by omega), if_neg (by omega), show ((1 : Int) - 1).toNat = 0 from rfl]
 simp only [before]
 omega
theorem start_1 (c y : Int) : start c 1 y = lineD c y 3 1 := by unfold start; rw [if_pos rfl]
theorem start_2 (c y : Int) : start c 2 y = lineD c y 3 25 := by unfold start; rw [if_neg (by omega), if_pos rfl]
theorem start_3 (c y : Int) : start c 3 y = lineD c (y - 1) 3 25 := by unfold start; rw [if_neg (by omega), if_neg (by omega), if_pos rfl]
theorem start_4 (c y : Int) : start c 4 y = easL c y := by unfold start; rw [if_neg (by omega), if_neg (by omega), if_neg (by omega), if_pos rfl]
theorem start_5 (c y : Int) : start c 5 y = lineD c (y - 1) 9 1 := by unfold start; rw [if_neg (by omega), if_neg (by omega), if_neg (by omega), if_neg (by omega), if_pos rfl]
theorem start_6 (c y : Int) : start c 6 y = lineD c (y - 1) 12 25 := by unfold start; rw [if_neg (by omega), if_neg (by omega), if_neg (by omega), if_neg (by omega), if_neg (by omega), if_pos rfl]
theorem line_in {c y m d : Int} (hc : c = 0 ∨ c = 1) (h1 : 1 ≤ m) (h2 : m ≤ 12) (d1 : 1 ≤ d) (d2 : d ≤ monthDays c y m) : first c y ≤ lineD c y m d ∧ lineD c y m d < first c (y + 1) := by
 have k1 := before_bound c y (m - 1).toNat
 have k2 := before_mono c y (m - 1).toNat 1
 have k3 : before c y ((m - 1).toNat + 1) = before c y (m - 1).toNat + monthDays c y (((m - 1).toNat + 1 : Nat) : Int) := rfl
 have k4 := before_mono c y ((m - 1).toNat + 1) (12 - ((m - 1).toNat + 1))
 rw [show (m - 1).toNat + 1 + (12 - ((m - 1).toNat + 1)) = 12 by omega] at k4
 rw [show (((m - 1).toNat + 1 : Nat) : Int) = m by omega] at k3
 have k5 := first_step hc y
 unfold lineD
 omega
theorem md3 {c y : Int} (hc : c = 0 ∨ c = 1) : monthDays c y 3 = 31 := monthDays_plain (y := y) hc (m := 3) (by omega) (by omega) (by omega)
theorem md4 {c y : Int} (hc : c = 0 ∨ c = 1) : monthDays c y 4 = 30 := monthDays_plain (y := y) hc (m := 4) (by omega) (by omega) (by omega)
theorem md1 {c y : Int} (hc : c = 0 ∨ c = 1) : monthDays c y 1 = 31 := monthDays_plain (y := y) hc (m := 1) (by omega) (by omega) (by omega)
theorem md9 {c y : Int} (hc : c = 0 ∨ c = 1) : monthDays c y 9 = 30 := monthDays_plain (y := y) hc (m := 9) (by omega) (by omega) (by omega)
theorem md12 {c y : Int} (hc : c = 0 ∨ c = 1) : monthDays c y 12 = 31 := monthDays_plain (y := y) hc (m := 12) (by omega) (by omega) (by omega)
theorem easL_in {c y : Int} (hc : c = 0 ∨ c = 1) (h1 : 1 ≤ y) (h2 : y ≤ 4000) : first c y ≤ easL c y ∧ easL c y < first c (y + 1) := by
 have k := easter_fact_at hc h1 h2
 have h3 := md3 (y := y) hc
 have h4 := md4 (y := y) hc
 show first c y ≤ lineD c y (sumE c y / 31) (sumE c y % 31 + 1) ∧ lineD c y (sumE c y / 31) (sumE c y % 31 + 1) < _
 by_cases hm : sumE c y / 31 = 3
 · rw [hm]
   exact line_in hc (by omega) (by omega) (by omega) (by omega)
 · rw [show sumE c y / 31 = 4 by omega]
   exact line_in hc (by omega) (by omega) (by omega) (by omega)
theorem start_in {c s y : Int} (hc : c = 0 ∨ c = 1) (hs : styleP s) (h1 : 1 ≤ y) (h2 : y ≤ 4000) : first c (y - 1) ≤ start c s y ∧ start c s y < first c (y + 1) := by
 have f1 := first_lt hc (show y - 1 < y by omega)
 have f2 := first_lt hc (show y < y + 1 by omega)
 rcases style_cases hs with rfl | rfl | rfl | rfl | rfl | rfl | rfl
 · rw [start_0]
   have k := line_in (c := c) (y := y) (m := 1) (d := 1) hc (by omega) (by omega) (by omega) (by rw [md1 hc]; omega)
   omega
 · rw [start_1]
   have k := line_in (c := c) (y := y) (m := 3) (d := 1) hc (by omega) (by omega) (by omega) (by rw [md3 hc]; omega)
   omega
 · rw [start_2]
   have k := line_in (c := c) (y := y) (m := 3) (d := 25) hc (by omega) (by omega) (by omega) (by rw [md3 hc]; omega)
   omega
 · rw [start_3]
   have k := line_in (c := c) (y := y - 1) (m := 3) (d := 25) hc (by omega) (by omega) (by omega) (by rw [md3 hc]; omega)
   rw [show y - 1 + 1 = y by omega] at k
   omega
 · rw [start_4]
   have k := easL_in hc h1 h2
   omega
 · rw [start_5]
   have k := line_in (c := c) (y := y - 1) (m := 9) (d := 1) hc (by omega) (by omega) (by omega) (by rw [md9 hc]; omega)
   rw [show y - 1 + 1 = y by omega] at k
   omega
 · rw [start_6]
   have k := line_in (c := c) (y := y - 1) (m := 12) (d := 25) hc (by omega) (by omega) (by omega) (by rw [md12 hc]; omega)
   rw [show y - 1 + 1 = y by omega] at k
   omega
theorem start_lt {c s y : Int} (hc : c = 0 ∨ c = 1) (hs : styleP s) (h1 : 1 ≤ y) (h2 : y ≤ 3999) : start c s y < start c s (y + 1) := by
 rcases style_cases hs with rfl | rfl | rfl | rfl | rfl | rfl | rfl
 · rw [start_0, start_0]
   have k := line_in (c := c) (y := y) (m := 1) (d := 1) hc (by omega) (by omega) (by omega) (by rw [md1 hc]; omega)
   have k' := line_in (c := c) (y := y + 1) (m := 1) (d := 1) hc (by omega) (by omega) (by omega) (by rw [md1 hc]; omega)
   omega
 · rw [start_1, start_1]
   have k := line_in (c := c) (y := y) (m := 3) (d := 1) hc (by omega) (by omega) (by omega) (by rw [md3 hc]; omega)
   have k' := line_in (c := c) (y := y + 1) (m := 3) (d := 1) hc (by omega) (by omega) (by omega) (by rw [md3 hc]; omega)
   omega
 · rw [start_2, start_2]
   have k := line_in (c := c) (y := y) (m := 3) (d := 25) hc (by omega) (by omega) (by omega) (by rw [md3 hc]; omega)
   have k' := line_in (c := c) (y := y + 1) (m := 3) (d := 25) hc (by omega) (by omega) (by omega) (by rw [md3 hc]; omega)
   omega
 · rw [start_3, start_3, show y + 1 - 1 = y by omega]
   have k := line_in (c := c) (y := y - 1) (m := 3) (d := 25) hc (by omega) (by omega) (by omega) (by rw [md3 hc]; omega)
   have k' := line_in (c := c) (y := y) (m := 3) (d := 25) hc (by omega) (by omega) (by omega) (by rw [md3 hc]; omega)
   rw [show y - 1 + 1 = y by omega] at k
   omega
 · rw [start_4, start_4]
   have k := easL_in hc h1 (by omega)
   have k' := easL_in (y := y + 1) hc (by omega) (by omega)
   omega
 · rw [start_5, start_5, show y + 1 - 1 = y by omega]
   have k := line_in (c := c) (y := y - 1) (m := 9) (d := 1) hc (by omega) (by omega) (by omega) (by rw [md9 hc]; omega)
   have k' := line_in (c := c) (y := y) (m := 9) (d := 1) hc (by omega) (by omega) (by omega) (by rw [md9 hc]; omega)
   rw [show y - 1 + 1 = y by omega] at k
   omega
 · rw [start_6, start_6, show y + 1 - 1 = y by omega]
   have k := line_in (c := c) (y := y - 1) (m := 12) (d := 25) hc (by omega) (by omega) (by omega) (by rw [md12 hc]; omega)
   have k' := line_in (c := c) (y := y) (m := 12) (d := 25) hc (by omega) (by omega) (by omega) (by rw [md12 hc]; omega)
   rw [show y - 1 + 1 = y by omega] at k
   omega
theorem start_bound {c s y : Int} (hc : c = 0 ∨ c = 1) (hs : styleP s) (h1 : 1 ≤ y) (h2 : y ≤ 3900) : -2800 ≤ start c s y ∧ start c s y ≤ 1470000 := by
 have k := start_in hc hs h1 (by omega)
 have k1 := first_bound hc (show -5 ≤ y - 1 by omega) (show y - 1 ≤ 4000 by omega)
 have k2 := first_bound hc (show -5 ≤ y + 1 by omega) (show y + 1 ≤ 4000 by omega)
 omega
def rawYear (c s Y n : Int) : Int := if n < start c s Y then Y - 1 else if n < start c s (Y + 1) then Y else Y + 1
theorem raw_lo {c s Y n : Int} (h : n < start c s Y) : rawYear c s Y n = Y - 1 := by unfold rawYear; rw [if_pos h]
theorem raw_mid {c s Y n : Int} (h : ¬ n < start c s Y) (h' : n < start c s (Y + 1)) : rawYear c s Y n = Y := by unfold rawYear; rw [if_neg h, if_pos h']
theorem raw_hi {c s Y n : Int} (h : ¬ n < start c s Y) (h' : ¬ n < start c s (Y + 1)) : rawYear c s Y n = Y + 1 := by unfold rawYear; rw [if_neg h, if_neg h']
theorem start_far {c s Y n : Int} (hc : c = 0 ∨ c = 1) (hs : styleP s) (h1 : 1 ≤ Y) (h2 : Y ≤ 3000) (hn : n < first c (Y + 1)) : n < start c s (Y + 2) := by
 have k := start_in (y := Y + 2) hc hs (by omega) (by omega)
 rw [show Y + 2 - 1 = Y + 1 by omega] at k
 omega
theorem raw_iff {c s Y n y : Int} (hc : c = 0 ∨ c = 1) (hs : styleP s) (h1 : 1 ≤ Y) (h2 : Y ≤ 3000) (hn1 : first c Y ≤ n) (hn2 : n < first c (Y + 1)) (y1 : 1 ≤ y) (y2 : y ≤ 3000) : rawYear c s Y n = y ↔ start c s y ≤ n ∧ n < start c s (y + 1) := by
 have hf := start_far hc hs h1 h2 hn2
 have hl : 2 ≤ Y → start c s (Y - 1) ≤ n := fun h => by
  have k := start_in (y := Y - 1) hc hs (by omega) (by omega)
  rw [show Y - 1 + 1 = Y by omega] at k
  omega
 constructor
 · intro h
   by_cases a : n < start c s Y
   · rw [raw_lo a] at h
     subst h
     rw [show Y - 1 + 1 = Y by omega]
     exact ⟨hl (by omega), a⟩
   · by_cases b : n < start c s (Y + 1)
     · rw [raw_mid a b] at h
       subst h
       exact ⟨by omega, b⟩
     · rw [raw_hi a b] at h
       subst h
       rw [show Y + 1 + 1 = Y + 2 by omega]
       exact ⟨by omega, hf⟩
 · rintro ⟨g1, g2⟩
   -- y is one of Y - 1, Y, Y + 1
   have mono : ∀ k : Nat, ∀ z : Int, 1 ≤ z → z + k ≤ 3900 → start c s z ≤ start c s (z + k) := fun k => by
    induction k with
    | zero => intro z _ _; simp
    | succ k ih =>
     intro z h h'
     have a := ih z h (by omega)
     have b := start_lt (y := z + k) hc hs (by omega) (by omega)
     rw [show z + ((k + 1 : Nat) : Int) = z + k + 1 by omega]
     omega
   have hhi : y ≤ Y + 1 := by
    by_cases h : y ≤ Y + 1
    · exact h
    · have m := mono (y - (Y + 2)).toNat (Y + 2) (by omega) (by omega)
      rw [show Y + 2 + ((y - (Y + 2)).toNat : Int) = y by omega] at m
      omega
   have hlo : Y - 1 ≤ y := by
    by_cases h : Y - 1 ≤ y
    · exact h
    · have m := mono (Y - 1 - (y + 1)).toNat (y + 1) (by omega) (by omega)
      rw [show y + 1 + ((Y - 1 - (y + 1)).toNat : Int) = Y - 1 by omega] at m
      have := hl (by omega)
      omega
   rcases (show y = Y - 1 ∨ y = Y ∨ y = Y + 1 by omega) with rfl | rfl | rfl
   · rw [show Y - 1 + 1 = Y by omega] at g2
     exact raw_lo g2
   · exact raw_mid (by omega) g2
   · have := start_lt (y := Y) hc hs h1 (by omega)
     exact raw_hi (by omega) (by omega)
noncomputable def styYear (c s n : Int) : Int × Bool :=
 if (dateOf c n).2.2.2.2 = true ∧ styleP s ∧ 1 ≤ rawYear c s (dateOf c n).2.1 n ∧ rawYear c s (dateOf c n).2.1 n ≤ 3000 then (rawYear c s (dateOf c n).2.1 n, true) else (0, false)
theorem sty_none {c s n : Int} (h : dateOf c n = (0, 0, 0, 0, false)) : styYear c s n = (0, false) := by
 unfold styYear
 rw [if_neg (by rw [h]; simp)]
theorem sty_style {c s n : Int} (h : ¬ styleP s) : styYear c s n = (0, false) := by
 unfold styYear
 rw [if_neg (fun k => h k.2.1)]
theorem sty_yes {c s n Y m d : Int} (h : dateOf c n = (c, Y, m, d, true)) (hs : styleP s) (h1 : 1 ≤ rawYear c s Y n) (h2 : rawYear c s Y n ≤ 3000) : styYear c s n = (rawYear c s Y n, true) := by
 unfold styYear
 rw [h]
 exact if_pos ⟨rfl, hs, h1, h2⟩
theorem sty_out {c s n Y m d : Int} (h : dateOf c n = (c, Y, m, d, true)) (h1 : ¬ (1 ≤ rawYear c s Y n ∧ rawYear c s Y n ≤ 3000)) : styYear c s n = (0, false) := by
 unfold styYear
 rw [h]
 exact if_neg (fun k => h1 ⟨k.2.2.1, k.2.2.2⟩)
theorem sty_iff {c s n Y m d y : Int} (hc : c = 0 ∨ c = 1) (h : dateOf c n = (c, Y, m, d, true)) : styYear c s n = (y, true) ↔ styleP s ∧ 1 ≤ y ∧ y ≤ 3000 ∧ start c s y ≤ n ∧ n < start c s (y + 1) := by
 obtain ⟨_, hd, hn⟩ := date_back h
 have hl := line_in hc (dateP_month hd).1 (dateP_month hd).2 hd.2.2.2.1 hd.2.2.2.2
 rw [← lineD_dayOf hd, hn] at hl
 constructor
 · intro k
   by_cases hs : styleP s
   · by_cases hr : 1 ≤ rawYear c s Y n ∧ rawYear c s Y n ≤ 3000
     · rw [sty_yes h hs hr.1 hr.2] at k
       have e : rawYear c s Y n = y := by simpa using congrArg Prod.fst k
       have := (raw_iff hc hs hd.2.1 hd.2.2.1 hl.1 hl.2 (by omega) (by omega)).1 e
       exact ⟨hs, by omega, by omega, this.1, this.2⟩
     · rw [sty_out h hr] at k
       simp at k
   · rw [sty_style hs] at k
     simp at k
 · rintro ⟨hs, y1, y2, g1, g2⟩
   have e := (raw_iff hc hs hd.2.1 hd.2.2.1 hl.1 hl.2 y1 y2).2 ⟨g1, g2⟩
   rw [sty_yes h hs (by omega) (by omega), e]
theorem calls_below {P : Program} {f : FuncId} {args : Array Value} {W : World} {v : Value} (h : Calls P f args W fun e w' => e = .returned v ∧ w' = W) : Calls P f args W fun e w' => e = .returned v ∧ Below W.heap.size W w' :=
 h.mono fun _ _ ⟨he, hm⟩ => ⟨he, by rw [hm]; exact Below.refl _ _⟩
theorem specStart (c s y : Int) (w : World) (hc : c = 0 ∨ c = 1) (hs : styleP s) (hy1 : 1 ≤ y) (hy2 : y ≤ 3900) : CR 111 #[.int .i64 c, .int .i64 s, .int .i64 y] w (.int .i64 (start c s y)) := by
 rcases style_cases hs with rfl | rfl | rfl | rfl | rfl | rfl | rfl
 focus
   have K : ∀ x : Later w, CR 158 #[.int .i64 c, .int .i64 y] x.w (.int .i64 (start c 0 y)) := fun x => calls_below (specFirst c y x.w hc (by omega) (by omega))
   generalize start c 0 y = R at *
 rotate_left
 focus
   have K : ∀ x : Later w, CR 156 #[.int .i64 c, .int .i64 y, .int .i64 3, .int .i64 1] x.w (.int .i64 (start c 1 y)) := fun x => by rw [start_1]; exact specDay c y 3 1 x.w hc (by omega) (by omega) (by omega) (by omega) (by omega)
   generalize start c 1 y = R at *
 rotate_left
 focus
   have K : ∀ x : Later w, CR 156 #[.int .i64 c, .int .i64 y, .int .i64 3, .int .i64 25] x.w (.int .i64 (start c 2 y)) := fun x => by rw [start_2]; exact specDay c y 3 25 x.w hc (by omega) (by omega) (by omega) (by omega) (by omega)
   generalize start c 2 y = R at *
 rotate_left
 focus
   have K : ∀ x : Later w, CR 156 #[.int .i64 c, .int .i64 (y - 1), .int .i64 3, .int .i64 25] x.w (.int .i64 (start c 3 y)) := fun x => by rw [start_3]; exact specDay c (y - 1) 3 25 x.w hc (by omega) (by omega) (by omega) (by omega) (by omega)
   generalize start c 3 y = R at *
 rotate_left
 focus
   have K : ∀ x : Later w, CR 157 #[.int .i64 c, .int .i64 y] x.w (.int .i64 (start c 4 y)) := fun x => by rw [start_4]; exact specL03 c y x.w hc hy1 (by omega)
   generalize start c 4 y = R at *
 rotate_left
 focus
   have K : ∀ x : Later w, CR 156 #[.int .i64 c, .int .i64 (y - 1), .int .i64 9, .int .i64 1] x.w (.int .i64 (start c 5 y)) := fun x => by rw [start_5]; exact specDay c (y - 1) 9 1 x.w hc (by omega) (by omega) (by omega) (by omega) (by omega)
   generalize start c 5 y = R at *
 rotate_left
 focus
   have K : ∀ x : Later w, CR 156 #[.int .i64 c, .int .i64 (y - 1), .int .i64 12, .int .i64 25] x.w (.int .i64 (start c 6 y)) := fun x => by rw [start_6]; exact specDay c (y - 1) 12 25 x.w hc (by omega) (by omega) (by omega) (by omega) (by omega)
   generalize start c 6 y = R at *
 rotate_left
 all_goals
  clear hc hs
  go_enter Tryz.func111, Tryz.ntmps111
  go_wp2_with fail
  refine latO (K ⟨w, Below.refl _ _⟩) fun x1 => ?_
  go_wp2
  go_ret
  exact ⟨rfl, x1.below⟩
theorem date_cases (c n : Int) : dateOf c n = (0, 0, 0, 0, false) ∨ ∃ Y m d, dateOf c n = (c, Y, m, d, true) ∧ (c = 0 ∨ c = 1) ∧ 1 ≤ Y ∧ Y ≤ 3000 ∧ first c Y ≤ n ∧ n < first c (Y + 1) := by
 by_cases h : (c = 0 ∨ c = 1) ∧ 1 ≤ yearOf c n ∧ yearOf c n ≤ 3000 ∧ -1000 ≤ n ∧ n ≤ 1200000
 · right
   have k : dateOf c n = (c, yearOf c n, (monthOf c (yearOf c n) (n - first c (yearOf c n)) : Int) + 1, n - first c (yearOf c n) - before c (yearOf c n) (monthOf c (yearOf c n) (n - first c (yearOf c n))) + 1, true) := by
    unfold dateOf
    rw [if_pos h]
   obtain ⟨_, hd, hn⟩ := date_back k
   have hl := line_in h.1 (dateP_month hd).1 (dateP_month hd).2 hd.2.2.2.1 hd.2.2.2.2
   rw [← lineD_dayOf hd, hn] at hl
   exact ⟨_, _, _, k, h.1, h.2.1, h.2.2.1, hl.1, hl.2⟩
 · exact .inl (dateOf_no h)
noncomputable def styR (c s n : Int) : Value := .tuple #[.int .i64 (styYear c s n).1, .bool (styYear c s n).2]
theorem styR_no {c s n : Int} (h : styYear c s n = (0, false)) : styR c s n = .tuple #[.int .i64 0, .bool false] := by unfold styR; rw [h]
theorem styR_yes {c s n y : Int} (h : styYear c s n = (y, true)) : styR c s n = .tuple #[.int .i64 y, .bool true] := by unfold styR; rw [h]
theorem raw_of {c s Y n y : Int} (h : y = Y - 1 ∨ y = Y ∨ y = Y + 1) (h1 : Y ≤ y → start c s Y ≤ n) (h2 : Y + 1 ≤ y → start c s (Y + 1) ≤ n) (he : y ≤ Y → n < start c s (y + 1)) : rawYear c s Y n = y := by
 rcases h with rfl | rfl | rfl
 · have := he (by omega)
   rw [show Y - 1 + 1 = Y by omega] at this
   exact raw_lo this
 · exact raw_mid (by have := h1 (by omega); omega) (he (by omega))
 · exact raw_hi (by have := h1 (by omega); have := h2 (by omega); omega) (by have := h2 (by omega); omega)
theorem specStyleYear (c s n : Int) (w : World) : CR 160 #[.int .i64 c, .int .i64 s, .int .i64 n] w (styR c s n) := by
 have KD := specDateOf c n w
 rcases date_cases c n with hD | ⟨Y, m, d, hD, hc, hY1, hY2, hn1, hn2⟩
 · rw [dateR_no hD] at KD
   have HR : Hid (styR c s n = .tuple #[.int .i64 0, .bool false]) := styR_no (sty_none hD)
   rw [HR.out]
   clear hD HR
   unfold z4 at KD
   go_enter Tryz.func160, Tryz.ntmps160
   go_wp2_with fail
   refine KD.mono ?_
   rintro e w1 ⟨rfl, hb⟩
   go_wp2
   go_returns
   exact ⟨rfl, hb.alloc hb.size _⟩
 · rw [dateR_yes hD] at KD
   by_cases hs : styleP s
   · have hE := styText_some hs
     have KS : ∀ W, CR 152 #[.int .i64 s] W (.string (styText s)) := fun W => specStyleName s W
     have KB : Hid (∀ (y : Int), 0 ≤ y → y ≤ 3001 → ∀ W, CR 111 #[.int .i64 c, .int .i64 s, .int .i64 (y + 1)] W (.int .i64 (start c s (y + 1)))) := fun y h1 h2 W => specStart c s (y + 1) W hc hs (by omega) (by omega)
     have HF := hideP (start_far hc hs hY1 hY2 hn2)
     have HRaw : Hid (∀ y, (y = Y - 1 ∨ y = Y ∨ y = Y + 1) → (Y ≤ y → start c s Y ≤ n) → (Y + 1 ≤ y → start c s (Y + 1) ≤ n) → (y ≤ Y → n < start c s (y + 1)) → rawYear c s Y n = y) := fun y h h1 h2 he => raw_of h h1 h2 he
     have HO : Hid (1 ≤ rawYear c s Y n → rawYear c s Y n ≤ 3000 → styR c s n = .tuple #[.int .i64 (rawYear c s Y n), .bool true]) := fun h1 h2 => styR_yes (sty_yes hD hs h1 h2)
     have HN : Hid (¬ (1 ≤ rawYear c s Y n ∧ rawYear c s Y n ≤ 3000) → styR c s n = .tuple #[.int .i64 0, .bool false]) := fun h => styR_no (sty_out hD h)
     generalize styR c s n = R at *
     generalize styText s = t at *
     clear hD hn1 hn2 hc hs
     go_enter Tryz.func160, Tryz.ntmps160
     go_wp2_with fail
     refine KD.mono ?_
     rintro e w1 ⟨rfl, hb1⟩
     have HB1 := hideP hb1
     obtain ⟨W0, hW0⟩ : ∃ W0, W0 = w1.alloc (.cells #[.int .i64 c, .int .i64 Y, .int .i64 m, .int .i64 d] 161) := ⟨_, rfl⟩
     have HW0 := hideP hW0
     have c1 : ∀ x : Later W0, x.w.cell? ⟨w1.heap.size, 1, none⟩ = some (.int .i64 Y) := Later.new hW0 1 rfl
     have HL : Hid (∀ x : Later W0, Below w.heap.size w x.w) := fun x => HB1.out.trans ((below_of_alloc HW0.out x.below).mono HB1.out.size)
     clear hb1 hW0 KD
     go_wp2_with fail
     rw [← HW0.out]
     refine latO (KS _) fun x1 => ?_
     go_wp2_with fail
     go_loopw [10] (fun i wr => ∃ (y : Int) (x : Later W0), i = .int .i64 y ∧ wr = x.w ∧ Y - 1 ≤ y ∧ y ≤ Y + 1 ∧ Hid (Y ≤ y → start c s Y ≤ n) ∧ Hid (Y + 1 ≤ y → start c s (Y + 1) ≤ n)) (fun i _ => (4000 - intOf i).toNat)
     case atStart => exact ⟨Y - 1, x1, rfl, rfl, by omega, by omega, fun h => by omega, fun h => by omega⟩
     case round =>
      obtain ⟨y, x, rfl, rfl, y1, y2, H1, H2⟩ := hrel
      have K := KB.out y (by omega) (by omega)
      by_cases hle : start c s (y + 1) ≤ n
      · have hyY : y ≤ Y := by
         by_cases h : y ≤ Y
         · exact h
         · have e : y = Y + 1 := by omega
           subst e
           have := HF.out
           rw [show Y + 1 + 1 = Y + 2 by omega] at hle
           omega
        have H1' : Hid (Y ≤ y + 1 → start c s Y ≤ n) := fun h => by
         by_cases e : Y ≤ y
         · exact H1.out e
         · rw [show Y = y + 1 by omega]; exact hle
        have H2' : Hid (Y + 1 ≤ y + 1 → start c s (Y + 1) ≤ n) := fun h => by
         rw [show Y = y by omega]; exact hle
        clear H1 H2 HF
        generalize start c s (y + 1) = S at *
        go_wp2_with fail
        refine lat (K _) fun x3 => ?_
        go_wp2
        exact ⟨⟨y + 1, x3, rfl, rfl, by omega, by omega, H1', H2'⟩, by simp [intOf]; omega⟩
      · have hraw : rawYear c s Y n = y := HRaw.out y (by omega) H1.out H2.out (fun _ => by omega)
        rw [hraw] at HO HN
        clear H1 H2 HF HRaw hraw KB
        generalize start c s (y + 1) = S at *
        by_cases hin : 1 ≤ y ∧ y ≤ 3000
        · have hI : inB y 1 3000 = true := inB_true hin.1 hin.2
          have KI := fun W => l01In y 1 3000 W
          rw [hI] at KI
          go_wp2_with fail
          refine lat (K _) fun x3 => ?_
          go_wp2_with fail
          refine (KI _).mono ?_
          rintro e w4 ⟨rfl, hw⟩
          rw [hw]
          clear hw
          go_wp2
          go_returns
          rw [HO.out hin.1 hin.2]
          exact ⟨rfl, HL.out x3⟩
        · have hI : inB y 1 3000 = false := inB_false (by omega)
          have KI := fun W => l01In y 1 3000 W
          rw [hI] at KI
          go_wp2_with fail
          refine lat (K _) fun x3 => ?_
          go_wp2_with fail
          refine (KI _).mono ?_
          rintro e w4 ⟨rfl, hw⟩
          rw [hw]
          clear hw
          go_wp2
          go_returns
          rw [HN.out hin]
          exact ⟨rfl, HL.out x3⟩
   · have hE := styText_none hs
     have KS : ∀ W, CR 152 #[.int .i64 s] W (.string (styText s)) := fun W => specStyleName s W
     have HR : Hid (styR c s n = .tuple #[.int .i64 0, .bool false]) := styR_no (sty_style hs)
     rw [HR.out]
     clear hD HR hs hn1 hn2 hc
     generalize styText s = t at *
     go_enter Tryz.func160, Tryz.ntmps160
     go_wp2_with fail
     refine KD.mono ?_
     rintro e w1 ⟨rfl, hb1⟩
     have HB1 := hideP hb1
     clear hb1
     go_wp2_with fail
     refine (KS _).mono ?_
     rintro e w2 ⟨rfl, hb⟩
     have HB2 := hideP (below_alloc hb)
     clear hb
     go_wp2
     go_returns
     exact ⟨rfl, HB1.out.trans (HB2.out.mono HB1.out.size)⟩
theorem implYearOk (c y : Int) (w : World) (hT : Tab w) : CR 340 #[.int .i64 c, .int .i64 y] w (.bool (yearB c y)) := by
 have K : CR 252 #[.agg #[.int .i64 c, .int .i64 y, .int .i64 1, .int .i64 1]] w (.bool (yearB c y)) := by
  rw [← dateOk_year]
  exact implDateOk c y 1 1 w hT
 clear hT
 generalize yearB c y = b at *
 go_enter Tryz.func340, Tryz.ntmps340
 go_wp2_with fail
 refine K.mono ?_
 rintro e w1 ⟨rfl, hb⟩
 go_wp2
 go_ret
 exact ⟨rfl, hb⟩
theorem julSum (y : Int) (w : World) (h1 : 1 ≤ y) (h2 : y ≤ 4000) : CR 368 #[.agg #[], .int .i64 y] w (.int .i64 (sumJ y)) := by
 obtain ⟨R, hR⟩ : ∃ R, R = sumJ y := ⟨_, rfl⟩
 rw [← hR]
 have HR := hideP hR
 clear hR
 unfold sumJ at HR
 go_enter Tryz.func368, Tryz.ntmps368
 go_wp2
 go_ret
 exact ⟨ret_int (by rw [HR.out]; unfold dJ; omega), (Below.refl _ _).alloc (Nat.le_refl _) _⟩
theorem greSum (y : Int) (w : World) (h1 : 1 ≤ y) (h2 : y ≤ 4000) : CR 370 #[.agg #[], .int .i64 y] w (.int .i64 (sumG y)) := by
 obtain ⟨R, hR⟩ : ∃ R, R = sumG y := ⟨_, rfl⟩
 rw [← hR]
 have HR := hideP hR
 clear hR
 go_enter Tryz.func370, Tryz.ntmps370
 go_wp2
 go_ret
 exact ⟨ret_int (by rw [HR.out]; unfold sumG mG lG hG gG; rw [show y % 100 % 4 = y % 4 by omega]), (Below.refl _ _).alloc (Nat.le_refl _) _⟩
theorem julDate (y : Int) (w : World) (h1 : 1 ≤ y) (h2 : y ≤ 4000) : CR 315 #[.agg #[], .int .i64 0, .int .i64 y] w (.agg #[.int .i64 0, .int .i64 y, .int .i64 (sumE 0 y / 31), .int .i64 (sumE 0 y % 31 + 1)]) := by
 have k := easter_fact_at (c := 0) (y := y) (by omega) h1 h2
 have KS : ∀ W, CR 368 #[.agg #[], .int .i64 y] W (.int .i64 (sumE 0 y)) := fun W => by
  rw [show sumE 0 y = sumJ y from by unfold sumE; first | rw [if_pos rfl] | rw [if_neg (by omega)]]
  exact julSum y W h1 h2
 have k1 := k.1
 have k2 := k.2.1
 clear k h1 h2
 generalize sumE 0 y = s at *
 obtain ⟨W0, hW0⟩ : ∃ W0, W0 = (w.alloc (.cells #[] 200)).alloc (.cells #[.int .i64 0, .int .i64 0, .int .i64 0, .int .i64 0] 161) := ⟨_, rfl⟩
 have hB0 : ∀ x : Later W0, Blk x.w (w.heap.size + 1) #[.int .i64 0, .int .i64 0, .int .i64 0, .int .i64 0] 161 := fun x => (by rw [hW0]; simpa using Blk.new (w.alloc (.cells #[] 200)) #[.int .i64 0, .int .i64 0, .int .i64 0, .int .i64 0] 161 : Blk W0 (w.heap.size + 1) #[.int .i64 0, .int .i64 0, .int .i64 0, .int .i64 0] 161).later x
 have hBw : Below w.heap.size w W0 := by rw [hW0]; exact ((Below.refl _ _).alloc (Nat.le_refl _) _).alloc (by simp) _
 have HB0 := hideP hB0
 have HBw := hideP hBw
 have HW0 := hideP hW0
 clear hB0 hBw hW0
 go_enter Tryz.func315, Tryz.ntmps315
 go_wp2_with fail
 rw [← HW0.out]
 refine latO (KS _) fun x1 => ?_
 have b0 : x1.w.cell? ⟨w.heap.size + 1, 0, none⟩ = some (.int .i64 0) := (HB0.out x1).cell 0 rfl
 have b1 : x1.w.cell? ⟨w.heap.size + 1, 1, none⟩ = some (.int .i64 0) := (HB0.out x1).cell 1 rfl
 have b2 : x1.w.cell? ⟨w.heap.size + 1, 2, none⟩ = some (.int .i64 0) := (HB0.out x1).cell 2 rfl
 have b3 : x1.w.cell? ⟨w.heap.size + 1, 3, none⟩ = some (.int .i64 0) := (HB0.out x1).cell 3 rfl
 have f0 := (HB0.out x1).thaw 0
 have f1 := (HB0.out x1).thaw 1
 have f2 := (HB0.out x1).thaw 2
 have f3 := (HB0.out x1).thaw 3
 go_wp2_with fail
 obtain ⟨W9, e9⟩ : ∃ W9, W9 = (((x1.w.setCell ⟨w.heap.size + 1, 0, none⟩ (.int .i64 0)).setCell ⟨w.heap.size + 1, 1, none⟩ (.int .i64 y)).setCell ⟨w.heap.size + 1, 2, none⟩ (.int .i64 (s / 31))).setCell ⟨w.heap.size + 1, 3, none⟩ (.int .i64 (s % 31 + 1)) := ⟨_, rfl⟩
 have Z9 : Blk W9 (w.heap.size + 1) #[.int .i64 0, .int .i64 y, .int .i64 (s / 31), .int .i64 (s % 31 + 1)] 161 := by rw [e9]; exact ((((HB0.out x1).set 0 _).set 1 _).set 2 _).set 3 _
 have B9 : Below w.heap.size w W9 := by rw [e9]; exact below_store (below_store (below_store (below_store (HBw.out.trans (x1.below.mono HBw.out.size)) _ (by omega)) _ (by omega)) _ (by omega)) _ (by omega)
 rw [← e9]
 clear e9
 have z0 : W9.cell? ⟨w.heap.size + 1, 0, none⟩ = some (.int .i64 0) := Z9.cell 0 rfl
 have z1 : W9.cell? ⟨w.heap.size + 1, 1, none⟩ = some (.int .i64 y) := Z9.cell 1 rfl
 have z2 : W9.cell? ⟨w.heap.size + 1, 2, none⟩ = some (.int .i64 (s / 31)) := Z9.cell 2 rfl
 have z3 : W9.cell? ⟨w.heap.size + 1, 3, none⟩ = some (.int .i64 (s % 31 + 1)) := Z9.cell 3 rfl
 exact bodyPost_ret (by simp [results, Tryz.results315, go_sem, z0, z1, z2, z3]; try rfl) rfl ⟨rfl, B9⟩
theorem greDate (y : Int) (w : World) (h1 : 1 ≤ y) (h2 : y ≤ 4000) : CR 316 #[.agg #[], .int .i64 1, .int .i64 y] w (.agg #[.int .i64 1, .int .i64 y, .int .i64 (sumE 1 y / 31), .int .i64 (sumE 1 y % 31 + 1)]) := by
 have k := easter_fact_at (c := 1) (y := y) (by omega) h1 h2
 have KS : ∀ W, CR 370 #[.agg #[], .int .i64 y] W (.int .i64 (sumE 1 y)) := fun W => by
  rw [show sumE 1 y = sumG y from by unfold sumE; first | rw [if_pos rfl] | rw [if_neg (by omega)]]
  exact greSum y W h1 h2
 have k1 := k.1
 have k2 := k.2.1
 clear k h1 h2
 generalize sumE 1 y = s at *
 obtain ⟨W0, hW0⟩ : ∃ W0, W0 = (w.alloc (.cells #[] 201)).alloc (.cells #[.int .i64 0, .int .i64 0, .int .i64 0, .int .i64 0] 161) := ⟨_, rfl⟩
 have hB0 : ∀ x : Later W0, Blk x.w (w.heap.size + 1) #[.int .i64 0, .int .i64 0, .int .i64 0, .int .i64 0] 161 := fun x => (by rw [hW0]; simpa using Blk.new (w.alloc (.cells #[] 201)) #[.int .i64 0, .int .i64 0, .int .i64 0, .int .i64 0] 161 : Blk W0 (w.heap.size + 1) #[.int .i64 0, .int .i64 0, .int .i64 0, .int .i64 0] 161).later x
 have hBw : Below w.heap.size w W0 := by rw [hW0]; exact ((Below.refl _ _).alloc (Nat.le_refl _) _).alloc (by simp) _
 have HB0 := hideP hB0
 have HBw := hideP hBw
 have HW0 := hideP hW0
 clear hB0 hBw hW0
 go_enter Tryz.func316, Tryz.ntmps316
 go_wp2_with fail
 rw [← HW0.out]
 refine latO (KS _) fun x1 => ?_
 have b0 : x1.w.cell? ⟨w.heap.size + 1, 0, none⟩ = some (.int .i64 0) := (HB0.out x1).cell 0 rfl
 have b1 : x1.w.cell? ⟨w.heap.size + 1, 1, none⟩ = some (.int .i64 0) := (HB0.out x1).cell 1 rfl
 have b2 : x1.w.cell? ⟨w.heap.size + 1, 2, none⟩ = some (.int .i64 0) := (HB0.out x1).cell 2 rfl
 have b3 : x1.w.cell? ⟨w.heap.size + 1, 3, none⟩ = some (.int .i64 0) := (HB0.out x1).cell 3 rfl
 have f0 := (HB0.out x1).thaw 0
 have f1 := (HB0.out x1).thaw 1
 have f2 := (HB0.out x1).thaw 2
 have f3 := (HB0.out x1).thaw 3
 go_wp2_with fail
 obtain ⟨W9, e9⟩ : ∃ W9, W9 = (((x1.w.setCell ⟨w.heap.size + 1, 0, none⟩ (.int .i64 1)).setCell ⟨w.heap.size + 1, 1, none⟩ (.int .i64 y)).setCell ⟨w.heap.size + 1, 2, none⟩ (.int .i64 (s / 31))).setCell ⟨w.heap.size + 1, 3, none⟩ (.int .i64 (s % 31 + 1)) := ⟨_, rfl⟩
 have Z9 : Blk W9 (w.heap.size + 1) #[.int .i64 1, .int .i64 y, .int .i64 (s / 31), .int .i64 (s % 31 + 1)] 161 := by rw [e9]; exact ((((HB0.out x1).set 0 _).set 1 _).set 2 _).set 3 _
 have B9 : Below w.heap.size w W9 := by rw [e9]; exact below_store (below_store (below_store (below_store (HBw.out.trans (x1.below.mono HBw.out.size)) _ (by omega)) _ (by omega)) _ (by omega)) _ (by omega)
 rw [← e9]
 clear e9
 have z0 : W9.cell? ⟨w.heap.size + 1, 0, none⟩ = some (.int .i64 1) := Z9.cell 0 rfl
 have z1 : W9.cell? ⟨w.heap.size + 1, 1, none⟩ = some (.int .i64 y) := Z9.cell 1 rfl
 have z2 : W9.cell? ⟨w.heap.size + 1, 2, none⟩ = some (.int .i64 (s / 31)) := Z9.cell 2 rfl
 have z3 : W9.cell? ⟨w.heap.size + 1, 3, none⟩ = some (.int .i64 (s % 31 + 1)) := Z9.cell 3 rfl
 exact bodyPost_ret (by simp [results, Tryz.results316, go_sem, z0, z1, z2, z3]; try rfl) rfl ⟨rfl, B9⟩
theorem implLineEaster (c y : Int) (w : World) (hT : Tab w) (hc : c = 0 ∨ c = 1) (hy1 : 1 ≤ y) (hy2 : y ≤ 4000) : CR 294 #[.int .i64 c, .int .i64 y] w (.int .i64 (easL c y)) := by
 have k := easter_fact_at hc hy1 hy2
 have KD : ∀ x : Later w, CR 314 #[.agg #[.int .i64 c, .int .i64 y, .int .i64 (sumE c y / 31), .int .i64 (sumE c y % 31 + 1)]] x.w (.int .i64 (easL c y)) := fun x =>
  implLine c y (sumE c y / 31) (sumE c y % 31 + 1) x.w (hT.later x.below) hc (by omega) (by omega) (by omega) (by omega) (by omega) (by omega)
 clear hT k
 rcases hc with rfl | rfl
 · have KE : ∀ W, CR 315 #[.agg #[], .int .i64 0, .int .i64 y] W (.agg #[.int .i64 0, .int .i64 y, .int .i64 (sumE 0 y / 31), .int .i64 (sumE 0 y % 31 + 1)]) := fun W => julDate y W hy1 hy2
   generalize sumE 0 y / 31 = m at *
   generalize sumE 0 y % 31 + 1 = d at *
   generalize easL 0 y = R at *
   go_enter Tryz.func294, Tryz.ntmps294
   go_wp2_with fail
   refine latO (KE _) fun x2 => ?_
   go_wp2_with fail
   refine lat (KD x2) fun x3 => ?_
   go_wp2
   go_ret
   exact ⟨rfl, x3.below⟩
 · have KE : ∀ W, CR 316 #[.agg #[], .int .i64 1, .int .i64 y] W (.agg #[.int .i64 1, .int .i64 y, .int .i64 (sumE 1 y / 31), .int .i64 (sumE 1 y % 31 + 1)]) := fun W => greDate y W hy1 hy2
   generalize sumE 1 y / 31 = m at *
   generalize sumE 1 y % 31 + 1 = d at *
   generalize easL 1 y = R at *
   go_enter Tryz.func294, Tryz.ntmps294
   go_wp2_with fail
   refine latO (KE _) fun x2 => ?_
   go_wp2_with fail
   refine lat (KD x2) fun x3 => ?_
   go_wp2
   go_ret
   exact ⟨rfl, x3.below⟩
theorem implEaster (c y : Int) (w : World) (hT : Tab w) : CR 347 #[.int .i64 c, .int .i64 y] w (.int .i64 (easter c y)) := by
 have KT : ∀ x : Later w, Tab x.w := fun x => hT.later x.below
 have KY := implYearOk c y w hT
 by_cases h : yearP c y
 · rw [yearB_true h] at KY
   have KE : ∀ x : Later w, CR 294 #[.int .i64 c, .int .i64 y] x.w (.int .i64 (easter c y)) := fun x => by
    rw [show easter c y = easL c y from easter_day h]
    exact implLineEaster c y x.w (KT x) h.1 h.2.1 (by have := h.2.2; omega)
   clear h hT KT
   generalize easter c y = R at *
   go_enter Tryz.func347, Tryz.ntmps347
   go_wp2_with fail
   refine latO KY fun x1 => ?_
   go_wp2_with fail
   refine lat (KE x1) fun x3 => ?_
   go_wp2
   go_ret
   exact ⟨rfl, x3.below⟩
 · rw [yearB_false h] at KY
   have HR : Hid (easter c y = 0) := by unfold Hid easter; rw [if_neg h]
   clear h hT KT
   go_enter Tryz.func347, Tryz.ntmps347
   go_wp2_with fail
   refine KY.mono ?_
   rintro e w1 ⟨rfl, hb⟩
   go_wp2
   go_ret
   exact ⟨ret_int HR.out.symm, hb⟩
theorem implDayOn (c y m d : Int) (w : World) (hT : Tab w) (hc : c = 0 ∨ c = 1) (hy1 : -5 ≤ y) (hy2 : y ≤ 4000) (hm1 : 1 ≤ m) (hm2 : m ≤ 13) (hd1 : -100 ≤ d) (hd2 : d ≤ 1000) : CR 292 #[.agg #[.int .i64 c, .int .i64 y], .int .i64 m, .int .i64 d] w (.int .i64 (lineD c y m d)) := by
 obtain ⟨W0, hW0⟩ : ∃ W0, W0 = w.alloc (.cells #[.int .i64 c, .int .i64 y] 284) := ⟨_, rfl⟩
 have HW0 := hideP hW0
 have KT : ∀ x : Later W0, Tab x.w := fun x => hT.later (below_of_alloc hW0 x.below)
 clear hW0 hT
 have KL : CR 314 #[.agg #[.int .i64 c, .int .i64 y, .int .i64 m, .int .i64 d]] W0 (.int .i64 (lineD c y m d)) := implLine c y m d W0 (KT ⟨W0, Below.refl _ _⟩) hc hy1 hy2 hm1 hm2 hd1 hd2
 clear hc KT
 generalize lineD c y m d = R at *
 go_enter Tryz.func292, Tryz.ntmps292
 go_wp2_with fail
 rw [← HW0.out]
 refine KL.mono ?_
 rintro e w1 ⟨rfl, hb⟩
 go_wp2
 go_ret
 exact ⟨rfl, below_of_alloc HW0.out hb⟩
theorem implAhead (c y : Int) (w : World) (hy1 : -4 ≤ y) (hy2 : y ≤ 4000) : CR 293 #[.agg #[.int .i64 c, .int .i64 y]] w (.agg #[.int .i64 c, .int .i64 (y - 1)]) := by
 go_enter Tryz.func293, Tryz.ntmps293
 go_wp2
 go_returns
 refine ⟨rfl, ?_⟩
 go_grown
theorem impl_january (c y : Int) (w : World) (hT : Tab w) (hc : c = 0 ∨ c = 1) (hy1 : -5 ≤ y) (hy2 : y ≤ 4000) : CR 254 #[.agg #[.int .i64 c, .int .i64 y]] w (.int .i64 (lineD c y 1 1)) := by
 obtain ⟨W0, hW0⟩ : ∃ W0, W0 = w.alloc (.cells #[.int .i64 c, .int .i64 y] 284) := ⟨_, rfl⟩
 have HW0 := hideP hW0
 have KT : ∀ x : Later W0, Tab x.w := fun x => hT.later (below_of_alloc hW0 x.below)
 clear hW0 hT
 have KL : CR 292 #[.agg #[.int .i64 c, .int .i64 y], .int .i64 1, .int .i64 1] W0 (.int .i64 (lineD c y 1 1)) := implDayOn c y 1 1 W0 (KT ⟨W0, Below.refl _ _⟩) hc hy1 hy2 (by omega) (by omega) (by omega) (by omega)
 clear hc KT
 generalize lineD c y 1 1 = R at *
 go_enter Tryz.func254, Tryz.ntmps254
 go_wp2_with fail
 rw [← HW0.out]
 refine KL.mono ?_
 rintro e w1 ⟨rfl, hb⟩
 go_wp2
 go_ret
 exact ⟨rfl, below_of_alloc HW0.out hb⟩
theorem impl_march (c y : Int) (w : World) (hT : Tab w) (hc : c = 0 ∨ c = 1) (hy1 : -5 ≤ y) (hy2 : y ≤ 4000) : CR 255 #[.agg #[.int .i64 c, .int .i64 y]] w (.int .i64 (lineD c y 3 1)) := by
 obtain ⟨W0, hW0⟩ : ∃ W0, W0 = w.alloc (.cells #[.int .i64 c, .int .i64 y] 284) := ⟨_, rfl⟩
 have HW0 := hideP hW0
 have KT : ∀ x : Later W0, Tab x.w := fun x => hT.later (below_of_alloc hW0 x.below)
 clear hW0 hT
 have KL : CR 292 #[.agg #[.int .i64 c, .int .i64 y], .int .i64 3, .int .i64 1] W0 (.int .i64 (lineD c y 3 1)) := implDayOn c y 3 1 W0 (KT ⟨W0, Below.refl _ _⟩) hc hy1 hy2 (by omega) (by omega) (by omega) (by omega)
 clear hc KT
 generalize lineD c y 3 1 = R at *
 go_enter Tryz.func255, Tryz.ntmps255
 go_wp2_with fail
 rw [← HW0.out]
 refine KL.mono ?_
 rintro e w1 ⟨rfl, hb⟩
 go_wp2
 go_ret
 exact ⟨rfl, below_of_alloc HW0.out hb⟩
theorem impl_lady (c y : Int) (w : World) (hT : Tab w) (hc : c = 0 ∨ c = 1) (hy1 : -5 ≤ y) (hy2 : y ≤ 4000) : CR 256 #[.agg #[.int .i64 c, .int .i64 y]] w (.int .i64 (lineD c y 3 25)) := by
 obtain ⟨W0, hW0⟩ : ∃ W0, W0 = w.alloc (.cells #[.int .i64 c, .int .i64 y] 284) := ⟨_, rfl⟩
 have HW0 := hideP hW0
 have KT : ∀ x : Later W0, Tab x.w := fun x => hT.later (below_of_alloc hW0 x.below)
 clear hW0 hT
 have KL : CR 292 #[.agg #[.int .i64 c, .int .i64 y], .int .i64 3, .int .i64 25] W0 (.int .i64 (lineD c y 3 25)) := implDayOn c y 3 25 W0 (KT ⟨W0, Below.refl _ _⟩) hc hy1 hy2 (by omega) (by omega) (by omega) (by omega)
 clear hc KT
 generalize lineD c y 3 25 = R at *
 go_enter Tryz.func256, Tryz.ntmps256
 go_wp2_with fail
 rw [← HW0.out]
 refine KL.mono ?_
 rintro e w1 ⟨rfl, hb⟩
 go_wp2
 go_ret
 exact ⟨rfl, below_of_alloc HW0.out hb⟩
theorem impl_pisa (c y : Int) (w : World) (hT : Tab w) (hc : c = 0 ∨ c = 1) (hy1 : -4 ≤ y) (hy2 : y ≤ 4000) : CR 257 #[.agg #[.int .i64 c, .int .i64 y]] w (.int .i64 (lineD c (y - 1) 3 25)) := by
 obtain ⟨W0, hW0⟩ : ∃ W0, W0 = w.alloc (.cells #[.int .i64 c, .int .i64 y] 284) := ⟨_, rfl⟩
 have HW0 := hideP hW0
 have KT : ∀ x : Later W0, Tab x.w := fun x => hT.later (below_of_alloc hW0 x.below)
 clear hW0 hT
 have KA : CR 293 #[.agg #[.int .i64 c, .int .i64 y]] W0 (.agg #[.int .i64 c, .int .i64 (y - 1)]) := implAhead c y W0 hy1 hy2
 have KL : ∀ x : Later W0, CR 256 #[.agg #[.int .i64 c, .int .i64 (y - 1)]] x.w (.int .i64 (lineD c (y - 1) 3 25)) := fun x => impl_lady c (y - 1) x.w (KT x) hc (by omega) (by omega)
 clear hc KT
 generalize lineD c (y - 1) 3 25 = R at *
 go_enter Tryz.func257, Tryz.ntmps257
 go_wp2_with fail
 rw [← HW0.out]
 refine latO KA fun x1 => ?_
 go_wp2_with fail
 refine (KL x1).mono ?_
 rintro e w2 ⟨rfl, hb⟩
 go_wp2
 go_ret
 exact ⟨rfl, below_of_alloc HW0.out (x1.on hb)⟩
theorem impl_september (c y : Int) (w : World) (hT : Tab w) (hc : c = 0 ∨ c = 1) (hy1 : -4 ≤ y) (hy2 : y ≤ 4000) : CR 259 #[.agg #[.int .i64 c, .int .i64 y]] w (.int .i64 (lineD c (y - 1) 9 1)) := by
 obtain ⟨W0, hW0⟩ : ∃ W0, W0 = w.alloc (.cells #[.int .i64 c, .int .i64 y] 284) := ⟨_, rfl⟩
 have HW0 := hideP hW0
 have KT : ∀ x : Later W0, Tab x.w := fun x => hT.later (below_of_alloc hW0 x.below)
 clear hW0 hT
 have KA : CR 293 #[.agg #[.int .i64 c, .int .i64 y]] W0 (.agg #[.int .i64 c, .int .i64 (y - 1)]) := implAhead c y W0 hy1 hy2
 have KL : ∀ x : Later W0, CR 292 #[.agg #[.int .i64 c, .int .i64 (y - 1)], .int .i64 9, .int .i64 1] x.w (.int .i64 (lineD c (y - 1) 9 1)) := fun x => implDayOn c (y - 1) 9 1 x.w (KT x) hc (by omega) (by omega) (by omega) (by omega) (by omega) (by omega)
 clear hc KT
 generalize lineD c (y - 1) 9 1 = R at *
 go_enter Tryz.func259, Tryz.ntmps259
 go_wp2_with fail
 rw [← HW0.out]
 refine latO KA fun x1 => ?_
 go_wp2_with fail
 refine (KL x1).mono ?_
 rintro e w2 ⟨rfl, hb⟩
 go_wp2
 go_ret
 exact ⟨rfl, below_of_alloc HW0.out (x1.on hb)⟩
theorem impl_yule (c y : Int) (w : World) (hT : Tab w) (hc : c = 0 ∨ c = 1) (hy1 : -4 ≤ y) (hy2 : y ≤ 4000) : CR 260 #[.agg #[.int .i64 c, .int .i64 y]] w (.int .i64 (lineD c (y - 1) 12 25)) := by
 obtain ⟨W0, hW0⟩ : ∃ W0, W0 = w.alloc (.cells #[.int .i64 c, .int .i64 y] 284) := ⟨_, rfl⟩
 have HW0 := hideP hW0
 have KT : ∀ x : Later W0, Tab x.w := fun x => hT.later (below_of_alloc hW0 x.below)
 clear hW0 hT
 have KA : CR 293 #[.agg #[.int .i64 c, .int .i64 y]] W0 (.agg #[.int .i64 c, .int .i64 (y - 1)]) := implAhead c y W0 hy1 hy2
 have KL : ∀ x : Later W0, CR 292 #[.agg #[.int .i64 c, .int .i64 (y - 1)], .int .i64 12, .int .i64 25] x.w (.int .i64 (lineD c (y - 1) 12 25)) := fun x => implDayOn c (y - 1) 12 25 x.w (KT x) hc (by omega) (by omega) (by omega) (by omega) (by omega) (by omega)
 clear hc KT
 generalize lineD c (y - 1) 12 25 = R at *
 go_enter Tryz.func260, Tryz.ntmps260
 go_wp2_with fail
 rw [← HW0.out]
 refine latO KA fun x1 => ?_
 go_wp2_with fail
 refine (KL x1).mono ?_
 rintro e w2 ⟨rfl, hb⟩
 go_wp2
 go_ret
 exact ⟨rfl, below_of_alloc HW0.out (x1.on hb)⟩
theorem impl_easter (c y : Int) (w : World) (hT : Tab w) (hc : c = 0 ∨ c = 1) (hy1 : 1 ≤ y) (hy2 : y ≤ 4000) : CR 258 #[.agg #[.int .i64 c, .int .i64 y]] w (.int .i64 (easL c y)) := by
 obtain ⟨W0, hW0⟩ : ∃ W0, W0 = w.alloc (.cells #[.int .i64 c, .int .i64 y] 284) := ⟨_, rfl⟩
 have HW0 := hideP hW0
 have KT : ∀ x : Later W0, Tab x.w := fun x => hT.later (below_of_alloc hW0 x.below)
 clear hW0 hT
 have KL : CR 294 #[.int .i64 c, .int .i64 y] W0 (.int .i64 (easL c y)) := implLineEaster c y W0 (KT ⟨W0, Below.refl _ _⟩) hc hy1 hy2
 clear hc KT
 generalize easL c y = R at *
 go_enter Tryz.func258, Tryz.ntmps258
 go_wp2_with fail
 rw [← HW0.out]
 refine KL.mono ?_
 rintro e w1 ⟨rfl, hb⟩
 go_wp2
 go_ret
 exact ⟨rfl, below_of_alloc HW0.out hb⟩
theorem specFeaDay (c y : Int) (s : ByteArray) (mv : Bool) (o m d : Int) (w : World) (hs : s.size ≤ maxLen) : CR 163 #[.int .i64 c, .int .i64 y, .agg #[.string s, .bool mv, .int .i64 o, .int .i64 m, .int .i64 d]] w (.int .i64 (feaDay c y s mv o m d)) := by
 have KO : ∀ W, CR 230 #[.agg #[.string s, .bool mv, .int .i64 o, .int .i64 m, .int .i64 d]] W (.bool (feaOk s mv o m d)) := fun W => specFeaOk s mv o m d W hs
 have KY : ∀ W, CS 110 #[.int .i64 c, .int .i64 y] W (.bool (yearB c y)) := specYearOk c y
 obtain ⟨W0, hW0, c0, c1, c2, c3, c4, hBl⟩ := fea_box w s mv o m d 126
 have HW0 := hideP hW0
 have HBl := hideP hBl
 clear hs hW0 hBl
 cases hok : feaOk s mv o m d
 · have HR := hideP (feaDay_no (c := c) (y := y) hok)
   rw [hok] at KO
   clear hok
   go_enter Tryz.func163, Tryz.ntmps163
   go_wp2_with fail
   rw [← HW0.out]
   refine latO (KO _) fun x1 => ?_
   go_wp2
   go_ret
   exact ⟨ret_int HR.out.symm, HBl.out x1⟩
 by_cases hy : yearP c y
 case neg =>
  have HR := hideP (feaDay_noYear (s := s) (mv := mv) (o := o) (m := m) (d := d) hy)
  rw [hok] at KO
  simp only [yearB_false hy] at KY
  clear hok
  go_enter Tryz.func163, Tryz.ntmps163
  go_wp2_with fail
  rw [← HW0.out]
  refine latO (KO _) fun x1 => ?_
  go_wp2_with fail
  refine sameC (KY _) ?_
  go_wp2
  go_ret
  exact ⟨ret_int HR.out.symm, HBl.out x1⟩
 simp only [yearB_true hy] at KY
 cases mv
 · have HR : Hid (feaDay c y s false o m d = first c y + before c y (m - 1).toNat + d - 1) := (feaDay_fix hok hy).trans (fixed_day hy (ok_fix hok))
   have hdt := fixed_date hy (ok_fix hok)
   have hm := dateP_month hdt
   have hd := dateP_day hdt
   have KD : ∀ W, CR 156 #[.int .i64 c, .int .i64 y, .int .i64 m, .int .i64 d] W (.int .i64 (first c y + before c y (m - 1).toNat + d - 1)) := fun W => specDay c y m d W hy.1 (by have := hy.2.1; omega) (by have := hy.2.2; omega) (by omega) (by omega) (by omega)
   rw [hok] at KO
   rw [HR.out]
   clear hok hdt hm hd hy HR
   generalize first c y + before c y (m - 1).toNat + d - 1 = R at *
   go_enter Tryz.func163, Tryz.ntmps163
   go_wp2_with fail
   rw [← HW0.out]
   refine latO (KO _) fun x1 => ?_
   go_wp2_with fail
   refine sameC (KY _) ?_
   go_wp2_with fail
   refine lat (KD _) fun x2 => ?_
   go_wp2
   go_ret
   exact ⟨rfl, HBl.out x2⟩
 · have HR : Hid (feaDay c y s true o m d = easter c y + o) := feaDay_mv hok hy
   have hb1 := easter_near hy
   have hb2 := ok_mv hok
   have KE : ∀ W, CR 231 #[.int .i64 c, .int .i64 y] W (.int .i64 (easter c y)) := specEaster c y
   rw [hok] at KO
   rw [HR.out]
   clear hok hy HR
   generalize easter c y = E at *
   go_enter Tryz.func163, Tryz.ntmps163
   go_wp2_with fail
   rw [← HW0.out]
   refine latO (KO _) fun x1 => ?_
   go_wp2_with fail
   refine sameC (KY _) ?_
   go_wp2_with fail
   refine wp_region_later (W := W0) x1.below (by kernel_rfl) (by kernel_rfl) ?_
   repeat (go_big_quiet_step (first | (go_at_call 231; exact calls_later (KE _))))
   refine quietE fun x => ?_
   go_wp2
   go_ret
   exact ⟨ret_int (by first | rfl | (unfold wrap64; omega)), HBl.out x⟩
theorem implMovDay (c y : Int) (s : ByteArray) (o m d : Int) (w : World) (hT : Tab w) (hy : yearP c y) (h1 : -63 ≤ o) (h2 : o ≤ 63) : CR 341 #[.agg #[.string s, .bool true, .int .i64 o, .int .i64 m, .int .i64 d], .int .i64 c, .int .i64 y] w (.int .i64 (easter c y + o)) := by
 obtain ⟨W0, hW0, c0, c1, c2, c3, c4, hBl⟩ := fea_box w s true o m d 194
 have HW0 := hideP hW0
 have HBl := hideP hBl
 have KE : ∀ x : Later W0, CR 347 #[.int .i64 c, .int .i64 y] x.w (.int .i64 (easter c y)) := fun x => implEaster c y x.w (hT.later (HBl.out x))
 have hb1 := easter_near hy
 clear hW0 hBl hT hy
 generalize easter c y = E at *
 go_enter Tryz.func341, Tryz.ntmps341
 go_wp2_with fail
 rw [← HW0.out]
 refine wp_region_later (W := W0) (Below.refl _ _) (by kernel_rfl) (by kernel_rfl) ?_
 repeat (go_big_quiet_step (first | (go_at_call 347; exact calls_later (KE _))))
 refine quietE fun x => ?_
 go_wp2
 go_ret
 exact ⟨ret_int (by first | rfl | (unfold wrap64; omega)), HBl.out x⟩
theorem implFixDay (c y : Int) (s : ByteArray) (o m d : Int) (w : World) (hT : Tab w) : CR 342 #[.agg #[.string s, .bool false, .int .i64 o, .int .i64 m, .int .i64 d], .int .i64 c, .int .i64 y] w (.int .i64 (dayOf c y m d)) := by
 obtain ⟨W0, hW0, c0, c1, c2, c3, c4, hBl⟩ := fea_box w s false o m d 126
 have HW0 := hideP hW0
 have HBl := hideP hBl
 have KI : ∀ W, CR 348 #[.agg #[.string s, .bool false, .int .i64 o, .int .i64 m, .int .i64 d], .int .i64 c, .int .i64 y] W (.agg #[.int .i64 c, .int .i64 y, .int .i64 m, .int .i64 d]) := implDateIn s false o m d c y
 have KD : ∀ x : Later W0, CR 301 #[.agg #[.int .i64 c, .int .i64 y, .int .i64 m, .int .i64 d]] x.w (.int .i64 (dayOf c y m d)) := fun x => implDayOf c y m d x.w (hT.later (HBl.out x))
 clear hW0 hBl hT
 generalize dayOf c y m d = R at *
 go_enter Tryz.func342, Tryz.ntmps342
 go_wp2_with fail
 rw [← HW0.out]
 refine latO (KI _) fun x1 => ?_
 go_wp2_with fail
 refine lat (KD _) fun x2 => ?_
 go_wp2
 go_ret
 exact ⟨rfl, HBl.out x2⟩
theorem implFeaDay (c y : Int) (s : ByteArray) (mv : Bool) (o m d : Int) (w : World) (hs : s.size ≤ maxLen) (hT : Tab w) : CR 332 #[.int .i64 c, .int .i64 y, .agg #[.string s, .bool mv, .int .i64 o, .int .i64 m, .int .i64 d]] w (.int .i64 (feaDay c y s mv o m d)) := by
 obtain ⟨W0, hW0, c0, c1, c2, c3, c4, hBl⟩ := fea_box w s mv o m d 126
 have KT : ∀ x : Later W0, Tab x.w := fun x => hT.later (hBl x)
 obtain ⟨x0, hx0⟩ := Later.of (Below.refl W0.heap.size W0)
 have KO : CR 339 #[.agg #[.string s, .bool mv, .int .i64 o, .int .i64 m, .int .i64 d]] W0 (.bool (feaOk s mv o m d)) := implFeaOk s mv o m d W0 hs (by rw [hx0]; exact KT x0)
 have KY : ∀ x : Later W0, CR 340 #[.int .i64 c, .int .i64 y] x.w (.bool (yearB c y)) := fun x => implYearOk c y x.w (KT x)
 have HW0 := hideP hW0
 have HBl := hideP hBl
 clear hs hW0 hBl hT hx0 x0
 cases hok : feaOk s mv o m d
 · have HR := hideP (feaDay_no (c := c) (y := y) hok)
   rw [hok] at KO
   clear hok KT
   go_enter Tryz.func332, Tryz.ntmps332
   go_wp2_with fail
   rw [← HW0.out]
   refine latO KO fun x1 => ?_
   go_wp2
   go_ret
   exact ⟨ret_int HR.out.symm, HBl.out x1⟩
 by_cases hy : yearP c y
 case neg =>
  have HR := hideP (feaDay_noYear (s := s) (mv := mv) (o := o) (m := m) (d := d) hy)
  rw [hok] at KO
  simp only [yearB_false hy] at KY
  clear hok KT
  go_enter Tryz.func332, Tryz.ntmps332
  go_wp2_with fail
  rw [← HW0.out]
  refine latO KO fun x1 => ?_
  go_wp2_with fail
  refine lat (KY x1) fun x2 => ?_
  go_wp2
  go_ret
  exact ⟨ret_int HR.out.symm, HBl.out x2⟩
 simp only [yearB_true hy] at KY
 cases mv
 focus
   have HR : Hid (feaDay c y s false o m d = dayOf c y m d) := feaDay_fix hok hy
   have KD : ∀ x : Later W0, CR 342 #[.agg #[.string s, .bool false, .int .i64 o, .int .i64 m, .int .i64 d], .int .i64 c, .int .i64 y] x.w (.int .i64 (dayOf c y m d)) := fun x => implFixDay c y s o m d x.w (KT x)
   rw [hok] at KO
   rw [HR.out]
   clear hok hy HR KT
   generalize dayOf c y m d = R at *
 rotate_left
 focus
   have HR : Hid (feaDay c y s true o m d = easter c y + o) := feaDay_mv hok hy
   have hb2 := ok_mv hok
   have KD : ∀ x : Later W0, CR 341 #[.agg #[.string s, .bool true, .int .i64 o, .int .i64 m, .int .i64 d], .int .i64 c, .int .i64 y] x.w (.int .i64 (easter c y + o)) := fun x => implMovDay c y s o m d x.w (KT x) hy hb2.1 hb2.2
   rw [hok] at KO
   rw [HR.out]
   clear hok hy HR KT hb2
   generalize easter c y + o = R at *
 rotate_left
 all_goals
  go_enter Tryz.func332, Tryz.ntmps332
  go_wp2_with fail
  rw [← HW0.out]
  refine latO KO fun x1 => ?_
  go_wp2_with fail
  refine lat (KY x1) fun x2 => ?_
  go_wp2_with fail
  refine lat (KD x2) fun x3 => ?_
  go_wp2
  go_ret
  exact ⟨rfl, HBl.out x3⟩
def FeaBlk (W : World) (g : Nat) (cur : Array Value) : Prop := Blk W g cur 126 ∧ ∀ k, k < 20 → ∀ j, j < 5 → cur[k * 5 + j]? = (feaAt k).cs[j]?
theorem FeaOwn.blk {w W : World} {v : Value} (h : FeaOwn w W v) : ∃ g cap cur, v = .slice (some ⟨g, 0, none⟩) 20 cap ∧ w.heap.size ≤ g ∧ FeaBlk W g cur := by
 rcases h.2 with ⟨_, h0⟩ | ⟨g, cap, cur, hv, hb, hh, hcap, _, hsz, htake⟩
 · simp at h0
 · refine ⟨g, cap, cur, hv, hb, hh, fun k hk j hj => ?_⟩
   rw [← feaCell hk hj, ← htake, List.getElem?_take, if_pos (by omega)]
   simp
theorem FeaBlk.at {W : World} {g : Nat} {cur : Array Value} (h : FeaBlk W g cur) {k : Nat} (hk : k < 20) : W.cell? ⟨g, k * 5, none⟩ = some (.string (feaAt k).name) ∧ W.cell? ⟨g, k * 5 + 1, none⟩ = some (.bool (feaAt k).mv) ∧ W.cell? ⟨g, k * 5 + 2, none⟩ = some (.int .i64 (feaAt k).off) ∧ W.cell? ⟨g, k * 5 + 3, none⟩ = some (.int .i64 (feaAt k).m) ∧ W.cell? ⟨g, k * 5 + 4, none⟩ = some (.int .i64 (feaAt k).d) := by
 have e := fun j hj => h.2 k hk j hj
 exact ⟨h.1.cell _ (e 0 (by omega)), h.1.cell _ (e 1 (by omega)), h.1.cell _ (e 2 (by omega)), h.1.cell _ (e 3 (by omega)), h.1.cell _ (e 4 (by omega))⟩
theorem FeaBlk.below {W W' : World} {g : Nat} {cur : Array Value} (h : FeaBlk W g cur) (hb : Below W.heap.size W W') : FeaBlk W' g cur := ⟨h.1.below hb h.1.lt, h.2⟩
theorem own_ne {w : World} {base e size : Nat} {v : Value} {n : Nat} {xs : List Value} {b : Nat} {vs : Array Value} {t : TypeId} (h : w.ownsRow base e size v n xs) (hb : Blk w b vs t) (hte : t ≠ e) : some b ≠ v.ownBlock := by
 intro he
 rcases h.2 with ⟨rfl, _⟩ | ⟨g, cap, cur, rfl, _, hh, _⟩
 · cases he
 · have hg : b = g := by simpa [Value.ownBlock] using he
   subst hg
   unfold Blk at hb
   rw [hb] at hh
   simp at hh
   exact hte hh.2
theorem Blk.gr {w w' : World} {b : Nat} {vs : Array Value} {t : TypeId} {row : Option Nat} (h : Blk w b vs t) (g : w.grownBy w' row) (hn : some b ≠ row) : Blk w' b vs t := (g.block b h.lt hn).trans h
theorem own_later {w w' : World} {base e size : Nat} {v : Value} {n : Nat} {xs : List Value} (h : w.ownsRow base e size v n xs) (hb : Below w.heap.size w w') : w'.ownsRow base e size v n xs :=
 h.kept (row := none) ⟨hb.os, hb.tape, hb.output, hb.size, fun k hk _ => hb.block k hk⟩ (Classical.em _)
structure OnSt (w : World) (db g : Nat) (dv cur : Array Value) (o : Value) (xs : List ByteArray) (W : World) : Prop where
 row : W.ownsRow w.heap.size 9 1 o xs.length (xs.map Value.string)
 below : Below w.heap.size w W
 date : Blk W db dv 161
 fea : FeaBlk W g cur
theorem OnSt.later {w : World} {db g : Nat} {dv cur : Array Value} {o : Value} {xs : List ByteArray} {W W' : World} (h : OnSt w db g dv cur o xs W) (hb : Below W.heap.size W W') : OnSt w db g dv cur o xs W' :=
 ⟨own_later h.row hb, h.below.trans (hb.mono h.below.size), h.date.below hb h.date.lt, h.fea.below hb⟩
theorem OnSt.app {w : World} {db g : Nat} {dv cur : Array Value} {o o' : Value} {xs : List ByteArray} {W W' : World} {ob : Obj} (h : OnSt w db g dv cur o xs W) (s : ByteArray) (hr : W'.ownsRow w.heap.size 9 1 o' (xs.length + 1) (xs.map Value.string ++ [.string s])) (hg : (W.alloc ob).grownBy W' o.ownBlock) : OnSt w db g dv cur o' (xs ++ [s]) W' := by
 have hr' : W'.ownsRow w.heap.size 9 1 o' (xs ++ [s]).length ((xs ++ [s]).map Value.string) := by
  rw [List.length_append, List.map_append]
  exact hr
 have hd := h.date.alloc ob
 have hf := h.fea.1.alloc ob
 exact ⟨hr', (h.below.alloc h.below.size ob).grown hg (by have := h.below.size; rw [sz_new]; omega) (own_base5 h.row), hd.gr hg (own_ne h.row h.date (by decide)), hf.gr hg (own_ne h.row h.fea.1 (by decide)), h.fea.2⟩
end Go.Proofs.YtpclaceefapppaaGreatDoor.ctr
