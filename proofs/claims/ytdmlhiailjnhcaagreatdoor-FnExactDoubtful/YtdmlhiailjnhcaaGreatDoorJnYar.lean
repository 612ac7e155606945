/- Contracts of both SegmentOk: each answers its plain function at every segment. Contracts of the program's isInBoth, endsOk, reignOk, isBehind and reignNamed, and of the model's l08Dated: each answers its plain function. Contracts of the program's isBehind, reignNamed, checkReigns and ReignsOk: each answers its plain function, where the table of months and errNoTable hold what they do. Contract of the model's ReignsOk: it answers its plain function. Contracts of both FeastsOn: each answers, in a row of its own, the names of the feasts that the day is; nothing that was there turns. Texts of feasts: the plain functions; a text cut at its first plus and at all of them; a text that is told is read again. A day told from a feast on is read as that day again. Contracts of the model's ReadFeast and FeastPlus: each answers its plain function, at every text of at most 1048576 bytes. -/
import Derived.Test.YtdmlhiailjnhcaaGreatDoorJnYak
import Derived.Test.YtdmlhiailjnhcaaGreatDoorJnYaa
import Derived.Test.YtdmlhiailjnhcaaGreatDoorJnYah
import Derived.Test.YtdmlhiailjnhcaaGreatDoorRgnListY
import Derived.Test.YtdmlhiailjnhcaaGreatDoorJnYan
import Derived.Deep.RegionWith
import Derived.Test.YtdmlhiailjnhcaaGreatDoorJnYag
import Derived.Test.YtdmlhiailjnhcaaGreatDoorJnYam
import Derived.Test.YtdmlhiailjnhcaaGreatDoorJnYaf
import Derived.Test.YtdmlhiailjnhcaaGreatDoorJnYai
import Derived.Lib.CutLaws
import Derived.Lib.IndexBytes
import Derived.Lib.IndexLaws
namespace Go.Proofs.YtdmlhiailjnhcaaGreatDoor.ctr
open Go.RowKit
def dayB (n : Int) : Bool := inB n 400 1090000
def segOkB (s : Seg) : Bool := dayB s.fr && (dayB s.to && (decide (s.fr ≤ s.to) && (calB s.cal && (styleB s.sty && inB s.off (-3) 3))))
theorem implOnLine (n : Int) (w : World) : Calls Tryz.prog 60 #[.int .i64 n] w fun e w' => e = .returned (.bool (dayB n)) ∧ w' = w := by
 unfold dayB
 by_cases h1 : 400 ≤ n
 · by_cases h2 : n ≤ 1090000
   · rw [inB_true h1 h2]
     go_enter Tryz.func60, Tryz.ntmps60
     go_wp2
     go_ret
     exact ⟨rfl, rfl⟩
   · rw [inB_false (.inr (by omega))]
     have hd : decide (n ≤ 1090000) = false := decide_eq_false h2
     go_enter Tryz.func60, Tryz.ntmps60
     go_wp2
     go_ret
     exact ⟨rfl, rfl⟩
 · rw [inB_false (.inl (by omega))]
   have hd : decide (400 ≤ n) = false := decide_eq_false h1
   go_enter Tryz.func60, Tryz.ntmps60
   go_wp2
   go_ret
   exact ⟨rfl, rfl⟩
theorem specDay9 (n : Int) (w : World) : Calls Tryz.prog 58 #[.int .i64 n] w fun e w' => e = .returned (.bool (dayB n)) ∧ w' = w := by
 go_enter Tryz.func58, Tryz.ntmps58
 go_wp2_with (go_at_call 45; refine (l01In n 400 1090000 _).mono ?_; rintro e w1 ⟨rfl, rfl⟩)
 go_ret
 exact ⟨rfl, rfl⟩
theorem seg_box (w : World) (a b c d e : Int) (t : TypeId) : ∃ W0, W0 = w.alloc (.cells #[.int .i64 a, .int .i64 b, .int .i64 c, .int .i64 d, .int .i64 e] t) ∧ (∀ x : Later W0, x.w.cell? ⟨w.heap.size, 0, none⟩ = some (.int .i64 a)) ∧ (∀ x : Later W0, x.w.cell? ⟨w.heap.size, 1, none⟩ = some (.int .i64 b)) ∧ (∀ x : Later W0, x.w.cell? ⟨w.heap.size, 2, none⟩ = some (.int .i64 c)) ∧ (∀ x : Later W0, x.w.cell? ⟨w.heap.size, 3, none⟩ = some (.int .i64 d)) ∧ (∀ x : Later W0, x.w.cell? ⟨w.heap.size, 4, none⟩ = some (.int .i64 e)) ∧ ∀ x : Later W0, Below w.heap.size w x.w :=
 ⟨_, rfl, Later.new rfl 0 rfl, Later.new rfl 1 rfl, Later.new rfl 2 rfl, Later.new rfl 3 rfl, Later.new rfl 4 rfl, fun x => below_alloc x.below⟩
set_option maxHeartbeats 1000000 in
theorem implSegOk (s : Seg) (w : World) : CR 153 #[.agg #[.int .i64 s.fr, .int .i64 s.to, .int .i64 s.cal, .int .i64 s.sty, .int .i64 s.off]] w (.bool (segOkB s)) := by
 have K1 : ∀ W, CR 60 #[.int .i64 s.fr] W (.bool (dayB s.fr)) := fun W => (implOnLine s.fr W).mono fun _ _ h => ⟨h.1, same_bel h.2⟩
 have K2 : ∀ W, CR 60 #[.int .i64 s.to] W (.bool (dayB s.to)) := fun W => (implOnLine s.to W).mono fun _ _ h => ⟨h.1, same_bel h.2⟩
 have K5 : ∀ W, CR 181 #[.int .i64 s.sty] W (.bool (styleB s.sty)) := fun W => (implStyleOk s.sty W).mono fun _ _ h => ⟨h.1, same_bel h.2⟩
 obtain ⟨W0, hW0, c0, c1, c2, c3, c4, hBl⟩ := seg_box w s.fr s.to s.cal s.sty s.off 97
 have HW0 := hideP hW0
 have HBl := hideP hBl
 clear hW0 hBl
 unfold segOkB
 generalize dayB s.fr = b1 at *
 generalize dayB s.to = b2 at *
 generalize styleB s.sty = b5 at *
 cases b1
 · rw [Bool.false_and]
   go_enter Tryz.func153, Tryz.ntmps153
   go_wp2_with fail
   rw [← HW0.out]
   refine latO (K1 _) fun x1 => ?_
   go_wp2
   go_ret
   exact ⟨rfl, HBl.out x1⟩
 rw [Bool.true_and]
 cases b2
 · rw [Bool.false_and]
   go_enter Tryz.func153, Tryz.ntmps153
   go_wp2_with fail
   rw [← HW0.out]
   refine latO (K1 _) fun x1 => ?_
   go_wp2_with fail
   refine lat (K2 _) fun x2 => ?_
   go_wp2
   go_ret
   exact ⟨rfl, HBl.out x2⟩
 rw [Bool.true_and]
 by_cases h3 : s.fr ≤ s.to
 case neg =>
  rw [decide_eq_false h3, Bool.false_and]
  have hd : decide (s.fr ≤ s.to) = false := decide_eq_false h3
  go_enter Tryz.func153, Tryz.ntmps153
  go_wp2_with fail
  rw [← HW0.out]
  refine latO (K1 _) fun x1 => ?_
  go_wp2_with fail
  refine lat (K2 _) fun x2 => ?_
  go_wp2
  go_ret
  exact ⟨rfl, HBl.out x2⟩
 rw [decide_eq_true h3, Bool.true_and]
 by_cases hc : s.cal = 0 ∨ s.cal = 1
 case neg =>
  rw [calB_no hc, Bool.false_and]
  have K4 : ∀ W, CR 138 #[.int .i64 s.cal] W (.nilIface) := fun W => (implCalNo s.cal (fun e => hc (.inl e)) (fun e => hc (.inr e)) W).mono fun _ _ h => ⟨h.1, same_bel h.2⟩
  go_enter Tryz.func153, Tryz.ntmps153
  go_wp2_with fail
  rw [← HW0.out]
  refine latO (K1 _) fun x1 => ?_
  go_wp2_with fail
  refine lat (K2 _) fun x2 => ?_
  go_wp2_with fail
  refine lat (K4 _) fun x3 => ?_
  go_wp2
  go_ret
  exact ⟨rfl, HBl.out x3⟩
 rw [calB_iff.2 hc, Bool.true_and]
 obtain ⟨ct, K4⟩ : ∃ ct, ∀ W, CR 138 #[.int .i64 s.cal] W (.iface ct (.agg #[])) := by
  rcases hc with hc | hc
  · rw [hc]; exact ⟨_, fun W => (implCal0 W).mono fun _ _ h => ⟨h.1, same_bel h.2⟩⟩
  · rw [hc]; exact ⟨_, fun W => (implCal1 W).mono fun _ _ h => ⟨h.1, same_bel h.2⟩⟩
 clear hc
 cases b5
 focus
   rw [Bool.false_and]
 rotate_left
 focus
   rw [Bool.true_and]
   by_cases h6 : -3 ≤ s.off
   case neg =>
    rw [inB_false (by omega)]
    have hd : decide (-3 ≤ s.off) = false := decide_eq_false h6
    go_enter Tryz.func153, Tryz.ntmps153
    go_wp2_with fail
    rw [← HW0.out]
    refine latO (K1 _) fun x1 => ?_
    go_wp2_with fail
    refine lat (K2 _) fun x2 => ?_
    go_wp2_with fail
    refine lat (K4 _) fun x3 => ?_
    go_wp2_with fail
    refine lat (K5 _) fun x4 => ?_
    go_wp2
    go_ret
    exact ⟨rfl, HBl.out x4⟩
   by_cases h7 : s.off ≤ 3
   case neg =>
    rw [inB_false (by omega)]
    have hd : decide (s.off ≤ 3) = false := decide_eq_false h7
    go_enter Tryz.func153, Tryz.ntmps153
    go_wp2_with fail
    rw [← HW0.out]
    refine latO (K1 _) fun x1 => ?_
    go_wp2_with fail
    refine lat (K2 _) fun x2 => ?_
    go_wp2_with fail
    refine lat (K4 _) fun x3 => ?_
    go_wp2_with fail
    refine lat (K5 _) fun x4 => ?_
    go_wp2
    go_ret
    exact ⟨rfl, HBl.out x4⟩
   rw [inB_true h6 h7]
 rotate_left
 all_goals
  go_enter Tryz.func153, Tryz.ntmps153
  go_wp2_with fail
  rw [← HW0.out]
  refine latO (K1 _) fun x1 => ?_
  go_wp2_with fail
  refine lat (K2 _) fun x2 => ?_
  go_wp2_with fail
  refine lat (K4 _) fun x3 => ?_
  go_wp2_with fail
  refine lat (K5 _) fun x4 => ?_
  go_wp2
  go_ret
  exact ⟨rfl, HBl.out x4⟩
set_option maxHeartbeats 1000000 in
theorem specSegOk (s : Seg) (w : World) : CR 150 #[.agg #[.int .i64 s.fr, .int .i64 s.to, .int .i64 s.cal, .int .i64 s.sty, .int .i64 s.off]] w (.bool (segOkB s)) := by
 have K1 : ∀ W, CR 58 #[.int .i64 s.fr] W (.bool (dayB s.fr)) := fun W => (specDay9 s.fr W).mono fun _ _ h => ⟨h.1, same_bel h.2⟩
 have K2 : ∀ W, CR 58 #[.int .i64 s.to] W (.bool (dayB s.to)) := fun W => (specDay9 s.to W).mono fun _ _ h => ⟨h.1, same_bel h.2⟩
 have K4 : ∀ W, CR 111 #[.int .i64 s.cal] W (.bool (calB s.cal)) := fun W => (specCal s.cal W).mono fun _ _ h => ⟨h.1, same_bel h.2⟩
 have K5 : ∀ W, CR 131 #[.int .i64 s.sty] W (.string (styText s.sty)) := fun W => specStyleName s.sty W
 have K6 : ∀ W, CR 45 #[.int .i64 s.off, .int .i64 (-3), .int .i64 3] W (.bool (inB s.off (-3) 3)) := fun W => (l01In s.off (-3) 3 W).mono fun _ _ h => ⟨h.1, same_bel h.2⟩
 obtain ⟨W0, hW0, c0, c1, c2, c3, c4, hBl⟩ := seg_box w s.fr s.to s.cal s.sty s.off 97
 have HW0 := hideP hW0
 have HBl := hideP hBl
 clear hW0 hBl
 unfold segOkB
 generalize dayB s.fr = b1 at *
 generalize dayB s.to = b2 at *
 generalize calB s.cal = b4 at *
 generalize inB s.off (-3) 3 = b6 at *
 cases b1
 · rw [Bool.false_and]
   go_enter Tryz.func150, Tryz.ntmps150
   go_wp2_with fail
   rw [← HW0.out]
   refine latO (K1 _) fun x1 => ?_
   go_wp2
   go_ret
   exact ⟨rfl, HBl.out x1⟩
 rw [Bool.true_and]
 cases b2
 · rw [Bool.false_and]
   go_enter Tryz.func150, Tryz.ntmps150
   go_wp2_with fail
   rw [← HW0.out]
   refine latO (K1 _) fun x1 => ?_
   go_wp2_with fail
   refine lat (K2 _) fun x2 => ?_
   go_wp2
   go_ret
   exact ⟨rfl, HBl.out x2⟩
 rw [Bool.true_and]
 by_cases h3 : s.fr ≤ s.to
 case neg =>
  rw [decide_eq_false h3, Bool.false_and]
  have hd : decide (s.fr ≤ s.to) = false := decide_eq_false h3
  go_enter Tryz.func150, Tryz.ntmps150
  go_wp2_with fail
  rw [← HW0.out]
  refine latO (K1 _) fun x1 => ?_
  go_wp2_with fail
  refine lat (K2 _) fun x2 => ?_
  go_wp2
  go_ret
  exact ⟨rfl, HBl.out x2⟩
 rw [decide_eq_true h3, Bool.true_and]
 cases b4
 focus
   rw [Bool.false_and]
 rotate_left
 focus
   rw [Bool.true_and]
   by_cases hs : styleP s.sty
   case neg =>
    rw [styleB_false hs, Bool.false_and]
    have hE := styText_none hs
    generalize styText s.sty = t at *
    go_enter Tryz.func150, Tryz.ntmps150
    go_wp2_with fail
    rw [← HW0.out]
    refine latO (K1 _) fun x1 => ?_
    go_wp2_with fail
    refine lat (K2 _) fun x2 => ?_
    go_wp2_with fail
    refine lat (K4 _) fun x3 => ?_
    go_wp2_with fail
    refine lat (K5 _) fun x4 => ?_
    go_wp2
    go_ret
    exact ⟨rfl, HBl.out x4⟩
   rw [styleB_true hs, Bool.true_and]
   have hE := styText_some hs
   generalize styText s.sty = t at *
 rotate_left
 all_goals
  go_enter Tryz.func150, Tryz.ntmps150
  go_wp2_with fail
  rw [← HW0.out]
  refine latO (K1 _) fun x1 => ?_
  go_wp2_with fail
  refine lat (K2 _) fun x2 => ?_
  go_wp2_with fail
  refine lat (K4 _) fun x3 => ?_
 · go_wp2
   go_ret
   exact ⟨rfl, HBl.out x3⟩
 go_wp2_with fail
 refine lat (K5 _) fun x4 => ?_
 go_wp2_with fail
 refine lat (K6 _) fun x5 => ?_
 go_wp2
 go_ret
 exact ⟨rfl, HBl.out x5⟩
end Go.Proofs.YtdmlhiailjnhcaaGreatDoor.ctr
namespace Go.Proofs.YtdmlhiailjnhcaaGreatDoor.ctr
open Go.RowKit
noncomputable def bothB (n : Int) : Bool := (dateOf 0 n).2.2.2.2 && (dateOf 1 n).2.2.2.2
noncomputable def endsB (f t : Int) : Bool := bothB f && bothB t
noncomputable def rgnB (r : Rgn) : Bool := nameOk r.name && (decide (r.fr ≤ r.to) && endsB r.fr r.to)
theorem rgn_box (w : World) (s : ByteArray) (f t : Int) (T : TypeId) : ∃ W0, W0 = w.alloc (.cells #[.string s, .int .i64 f, .int .i64 t] T) ∧ (∀ x : Later W0, x.w.cell? ⟨w.heap.size, 0, none⟩ = some (.string s)) ∧ (∀ x : Later W0, x.w.cell? ⟨w.heap.size, 1, none⟩ = some (.int .i64 f)) ∧ (∀ x : Later W0, x.w.cell? ⟨w.heap.size, 2, none⟩ = some (.int .i64 t)) ∧ ∀ x : Later W0, Below w.heap.size w x.w :=
 ⟨_, rfl, Later.new rfl 0 rfl, Later.new rfl 1 rfl, Later.new rfl 2 rfl, fun x => below_alloc x.below⟩
set_option maxHeartbeats 1000000 in
theorem implBoth (n : Int) (w : World) (hT : Tab w) : CR 273 #[.int .i64 n] w (.bool (bothB n)) := by
 rcases h0 : dateOf 0 n with ⟨a0, y0, m0, d0, b0⟩
 rcases h1 : dateOf 1 n with ⟨a1, y1, m1, d1, b1⟩
 have K0 : ∀ W, Below w.heap.size w W → CR 142 #[.int .i64 0, .int .i64 n] W (.tuple #[.agg #[.int .i64 a0, .int .i64 y0, .int .i64 m0, .int .i64 d0], .bool b0]) := fun W hb => by
  have := implDateOf 0 n W (hT.later hb)
  unfold dateR at this
  rw [h0] at this
  exact this
 have K1 : ∀ W, Below w.heap.size w W → CR 142 #[.int .i64 1, .int .i64 n] W (.tuple #[.agg #[.int .i64 a1, .int .i64 y1, .int .i64 m1, .int .i64 d1], .bool b1]) := fun W hb => by
  have := implDateOf 1 n W (hT.later hb)
  unfold dateR at this
  rw [h1] at this
  exact this
 have HR : Hid (bothB n = (b0 && b1)) := by unfold Hid bothB; rw [h0, h1]
 clear h0 h1 hT
 go_enter Tryz.func273, Tryz.ntmps273
 go_wp2_with fail
 refine (K0 _ (Below.refl _ _)).mono ?_
 rintro e w1 ⟨rfl, hb⟩
 have B1 := hideP hb
 clear hb
 go_wp2_with fail
 refine (K1 _ (B1.out.alloc B1.out.size _)).mono ?_
 rintro e w2 ⟨rfl, hb⟩
 have B2 : Hid (Below w.heap.size w w2) := B1.out.trans ((below_alloc hb).mono B1.out.size)
 clear hb
 cases b0
 · go_wp2
   go_ret
   exact ⟨by rw [HR.out]; rfl, B2.out.alloc B2.out.size _⟩
 · go_wp2
   go_ret
   exact ⟨by rw [HR.out]; rfl, B2.out.alloc B2.out.size _⟩
set_option maxHeartbeats 1000000 in
theorem specDated (n : Int) (w : World) : CR 152 #[.int .i64 n] w (.bool (bothB n)) := by
 rcases h0 : dateOf 0 n with ⟨a0, y0, m0, d0, b0⟩
 rcases h1 : dateOf 1 n with ⟨a1, y1, m1, d1, b1⟩
 have K0 : ∀ W, CR 64 #[.int .i64 0, .int .i64 n] W (.tuple #[.agg #[.int .i64 a0, .int .i64 y0, .int .i64 m0, .int .i64 d0], .bool b0]) := fun W => by
  have := specDateOf 0 n W
  unfold dateR at this
  rw [h0] at this
  exact this
 have K1 : ∀ W, CR 64 #[.int .i64 1, .int .i64 n] W (.tuple #[.agg #[.int .i64 a1, .int .i64 y1, .int .i64 m1, .int .i64 d1], .bool b1]) := fun W => by
  have := specDateOf 1 n W
  unfold dateR at this
  rw [h1] at this
  exact this
 have HR : Hid (bothB n = (b0 && b1)) := by unfold Hid bothB; rw [h0, h1]
 clear h0 h1
 go_enter Tryz.func152, Tryz.ntmps152
 go_wp2_with fail
 refine (K0 _).mono ?_
 rintro e w1 ⟨rfl, hb⟩
 have B1 := hideP hb
 clear hb
 go_wp2_with fail
 refine (K1 _).mono ?_
 rintro e w2 ⟨rfl, hb⟩
 have B2 : Hid (Below w.heap.size w w2) := B1.out.trans ((below_alloc hb).mono B1.out.size)
 clear hb
 cases b0
 · go_wp2
   go_ret
   exact ⟨by rw [HR.out]; rfl, B2.out.alloc B2.out.size _⟩
 · go_wp2
   go_ret
   exact ⟨by rw [HR.out]; rfl, B2.out.alloc B2.out.size _⟩
set_option maxHeartbeats 1000000 in
theorem implEnds (s : ByteArray) (f t : Int) (w : World) (hT : Tab w) : CR 253 #[.agg #[.string s, .int .i64 f, .int .i64 t]] w (.bool (endsB f t)) := by
 obtain ⟨W0, hW0, c0, c1, c2, hBl⟩ := rgn_box w s f t 116
 have HW0 := hideP hW0
 have HBl := hideP hBl
 have K1 : ∀ x : Later W0, CR 273 #[.int .i64 f] x.w (.bool (bothB f)) := fun x => implBoth f x.w (hT.later (hBl x))
 have K2 : ∀ x : Later W0, CR 273 #[.int .i64 t] x.w (.bool (bothB t)) := fun x => implBoth t x.w (hT.later (hBl x))
 unfold endsB
 clear hW0 hBl hT
 generalize bothB f = b1 at *
 generalize bothB t = b2 at *
 cases b1
 · go_enter Tryz.func253, Tryz.ntmps253
   go_wp2_with fail
   rw [← HW0.out]
   refine latO (K1 ⟨W0, Below.refl _ _⟩) fun x1 => ?_
   go_wp2
   go_ret
   exact ⟨rfl, HBl.out x1⟩
 · go_enter Tryz.func253, Tryz.ntmps253
   go_wp2_with fail
   rw [← HW0.out]
   refine latO (K1 ⟨W0, Below.refl _ _⟩) fun x1 => ?_
   go_wp2_with fail
   refine lat (K2 x1) fun x2 => ?_
   go_wp2
   go_ret
   exact ⟨rfl, HBl.out x2⟩
theorem same_belowR {W w' : World} (h : w' = W) : Below W.heap.size W w' := by rw [h]; exact Below.refl _ _
set_option maxHeartbeats 1000000 in
theorem implReignOk (s : ByteArray) (f t : Int) (w : World) (hs : s.size ≤ maxLen) (hT : Tab w) : CR 205 #[.agg #[.string s, .int .i64 f, .int .i64 t]] w (.bool (rgnB ⟨s, f, t⟩)) := by
 obtain ⟨W0, hW0, c0, c1, c2, hBl⟩ := rgn_box w s f t 116
 have HW0 := hideP hW0
 have HBl := hideP hBl
 have KN : ∀ x : Later W0, CR 106 #[.string s] x.w (.bool (nameOk s)) := fun x => (implNameOk s x.w hs).mono fun _ _ h => ⟨h.1, same_belowR h.2⟩
 have KE : ∀ x : Later W0, CR 253 #[.agg #[.string s, .int .i64 f, .int .i64 t]] x.w (.bool (endsB f t)) := fun x => implEnds s f t x.w (hT.later (hBl x))
 unfold rgnB
 dsimp only
 clear hW0 hBl hT hs
 generalize nameOk s = b1 at *
 generalize endsB f t = b2 at *
 cases b1
 · go_enter Tryz.func205, Tryz.ntmps205
   go_wp2_with fail
   rw [← HW0.out]
   refine latO (KN ⟨W0, Below.refl _ _⟩) fun x1 => ?_
   go_wp2
   go_ret
   exact ⟨rfl, HBl.out x1⟩
 rw [Bool.true_and]
 by_cases hft : f ≤ t
 · have hd : decide (f ≤ t) = true := decide_eq_true hft
   go_enter Tryz.func205, Tryz.ntmps205
   go_wp2_with fail
   rw [← HW0.out]
   refine latO (KN ⟨W0, Below.refl _ _⟩) fun x1 => ?_
   go_wp2_with fail
   refine lat (KE x1) fun x2 => ?_
   go_wp2
   go_ret
   exact ⟨by simp [hft], HBl.out x2⟩
 · have hd : decide (f ≤ t) = false := decide_eq_false hft
   go_enter Tryz.func205, Tryz.ntmps205
   go_wp2_with fail
   rw [← HW0.out]
   refine latO (KN ⟨W0, Below.refl _ _⟩) fun x1 => ?_
   go_wp2
   go_ret
   exact ⟨by rw [decide_eq_false (show ¬ f ≤ t by omega)]; rfl, HBl.out x1⟩
end Go.Proofs.YtdmlhiailjnhcaaGreatDoor.ctr
namespace Go.Proofs.YtdmlhiailjnhcaaGreatDoor.ctr
open Go.RowKit
def behB (la : List Rgn) (f : Int) : Bool := decide (la.length = 0) || decide ((rgA la (la.length - 1)).to < f)
def namedR (l : List Rgn) (s : ByteArray) : Int := rfind (isNamed s) l
noncomputable def okAt (l : List Rgn) (i : Nat) : Bool := rgnB (rgA l i) && (behB (l.take i) (rgA l i).fr && decide (namedR (l.take i) (rgA l i).name = -1))
noncomputable def okTo (l : List Rgn) : Nat → Bool
  | 0 => true
  | k + 1 => okTo l k && okAt l k
noncomputable def reignsOk (l : List Rgn) : Bool := decide (l.length ≤ 30) && okTo l l.length
theorem okTo_bad {l : List Rgn} {k : Nat} (h : okAt l k = false) : ∀ n, k < n → okTo l n = false
  | 0, hn => by omega
  | n + 1, hn => by
   unfold okTo
   by_cases e : k = n
   · subst e; rw [h, Bool.and_false]
   · rw [okTo_bad h n (by omega), Bool.false_and]
theorem okTo_next {l : List Rgn} {k : Nat} (h : okTo l k = true) (h' : okAt l k = true) : okTo l (k + 1) = true := by unfold okTo; rw [h, h']; rfl
theorem ok_bad {l : List Rgn} {k : Nat} (h : okAt l k = false) (hk : k < l.length) : reignsOk l = false := by unfold reignsOk; rw [okTo_bad h _ hk, Bool.and_false]
theorem ok_long {l : List Rgn} (h : 30 < l.length) : reignsOk l = false := by unfold reignsOk; rw [decide_eq_false (by omega), Bool.false_and]
theorem ok_all {l : List Rgn} (h : okTo l l.length = true) : reignsOk l = decide (l.length ≤ 30) := by unfold reignsOk; rw [h, Bool.and_true]
noncomputable def badV (l : List Rgn) : Nat → Nat → Value
  | 0, _ => .nilIface
  | n + 1, k => if okAt l k = true then badV l n (k + 1) else .iface 225 (.agg #[.int .i64 (k : Int)])
noncomputable def errV (l : List Rgn) : Value := if 30 < l.length then .iface 225 (.agg #[.int .i64 30]) else badV l l.length 0
theorem bad_next {l : List Rgn} {k : Nat} {V : Value} (hk : k < l.length) (h : okAt l k = true) (H : badV l (l.length - k) k = V) : badV l (l.length - (k + 1)) (k + 1) = V := by
 rw [show l.length - k = (l.length - (k + 1)) + 1 by omega, badV, if_pos h] at H
 exact H
theorem bad_stop {l : List Rgn} {k : Nat} {V : Value} (hk : k < l.length) (h : okAt l k = false) (H : badV l (l.length - k) k = V) : V = .iface 225 (.agg #[.int .i64 (k : Int)]) := by
 rw [show l.length - k = (l.length - (k + 1)) + 1 by omega, badV, if_neg (by rw [h]; simp)] at H
 exact H.symm
theorem bad_end {l : List Rgn} {k : Nat} {V : Value} (hk : l.length ≤ k) (H : badV l (l.length - k) k = V) : V = .nilIface := by
 rw [show l.length - k = 0 by omega] at H
 exact H.symm
theorem errV_cases (l : List Rgn) : (reignsOk l = true ∧ errV l = .nilIface) ∨ (reignsOk l = false ∧ ∃ z : Int, errV l = .iface 225 (.agg #[.int .i64 z])) := by
 unfold errV
 by_cases hl : 30 < l.length
 · rw [if_pos hl]
   exact .inr ⟨ok_long hl, _, rfl⟩
 rw [if_neg hl]
 have go : ∀ n k, n + k = l.length → okTo l k = true → (reignsOk l = true ∧ badV l (l.length - k) k = .nilIface) ∨ (reignsOk l = false ∧ ∃ z : Int, badV l (l.length - k) k = .iface 225 (.agg #[.int .i64 z])) := by
  intro n
  induction n with
  | zero =>
   intro k hk ho
   obtain rfl : k = l.length := by omega
   refine .inl ⟨?_, bad_end (Nat.le_refl _) rfl⟩
   rw [ok_all ho]
   exact decide_eq_true (by omega)
  | succ n ih =>
   intro k hk ho
   cases h : okAt l k
   · exact .inr ⟨ok_bad h (by omega), _, bad_stop (by omega) h rfl⟩
   · have := ih (k + 1) (by omega) (okTo_next ho h)
     rw [bad_next (by omega) h rfl] at this
     exact this
 exact go l.length 0 (by omega) rfl
theorem behB_take {l : List Rgn} {i : Nat} (hi : i ≤ l.length) (f : Int) : behB (l.take i) f = (decide (i = 0) || decide ((rgA l (i - 1)).to < f)) := by
 unfold behB
 rw [show (l.take i).length = i by simp [hi]]
 by_cases h : i = 0
 · subst h; rfl
 · rw [rgA_take (by omega)]
set_option maxHeartbeats 1000000 in
theorem implBehind (v : Value) (la : List Rgn) (s : ByteArray) (f t : Int) (w : World) (h : RRow w v la) : CR 206 #[v, .agg #[.string s, .int .i64 f, .int .i64 t]] w (.bool (behB la f)) := by
 obtain ⟨W0, hW0, c0, c1, c2, hBl⟩ := rgn_box w s f t 116
 obtain ⟨a, cap, rfl, hl, hm, _, H⟩ := h
 have HW0 := hideP hW0
 have HBl := hideP hBl
 unfold maxLen at hm
 by_cases hz : la.length = 0
 focus
   have HR : Hid (behB la f = true) := by unfold Hid behB; rw [decide_eq_true hz]; rfl
   clear H hW0 hBl
   rw [hz]
 rotate_left
 focus
   obtain ⟨N, hN⟩ : ∃ N, la.length = N + 1 := ⟨la.length - 1, by omega⟩
   obtain ⟨g, rfl, hg, hr⟩ := H N (by omega)
   have e2 : ∀ x : Later W0, x.w.cell? ⟨g, N * 3 + 2, none⟩ = some (.int .i64 (rgA la N).to) := fun x => (hr.below (hBl x) hg).2.2
   have HR : Hid (behB la f = decide ((rgA la N).to < f)) := by unfold Hid behB; rw [decide_eq_false hz, hN]; rfl
   clear H hW0 hBl hr
   rw [hN] at hl ⊢
   generalize (rgA la N).to = T at *
   have hz1 : ((N : Int) + 1 == 0) = false := by simp; omega
   clear hN hz
 rotate_left
 all_goals
  go_enter Tryz.func206, Tryz.ntmps206
  go_wp2_with fail
  rw [← HW0.out]
  refine wp_region_later (W := W0) (Below.refl _ _) (by kernel_rfl) (by kernel_rfl) ?_
  repeat (go_big_quiet_step (fail))
  refine wpQuiet_nil ?_
  intro _ hw'
  obtain ⟨x, rfl⟩ := hw'
  go_wp2
  go_ret
  exact ⟨ret_bool HR.out.symm, HBl.out x⟩
set_option maxHeartbeats 1000000 in
theorem implNamed (v : Value) (l : List Rgn) (s : ByteArray) (w : World) (h : RRow w v l) : CR 207 #[v, .string s] w (.int .i64 (namedR l s)) := by
 obtain ⟨a, c, rfl, hl, hm, _, H⟩ := h
 have K := hideP H
 unfold maxLen at hm
 clear H
 go_enter Tryz.func207, Tryz.ntmps207
 go_wp2
 go_loopw [9] (fun i wr => ∃ k : Nat, k ≤ l.length ∧ i = .int .i64 (k : Int) ∧ Hid (rfFrom (isNamed s) (l.drop k) k = namedR l s) ∧ Below w.heap.size w wr) (fun i _ => l.length - (intOf i).toNat)
 case atStart => exact ⟨0, Nat.zero_le _, rfl, rfl, Below.refl _ _⟩
 case round =>
  obtain ⟨k, hk, rfl, HF, hB⟩ := hrel
  have HB := hideP hB
  clear hB
  by_cases hlt : k < l.length
  · obtain ⟨g, rfl, hg, x⟩ := K.out k hlt
    obtain ⟨a0, a1, a2⟩ := x.below HB.out hg
    have K1 := hideP (fun h => rf_hit (p := isNamed s) hlt h HF.out)
    have K2 := hideP (fun h => rf_miss (p := isNamed s) hlt h HF.out)
    clear x
    generalize rgA l k = r at *
    cases hq : (r.name.toList == s.toList)
    · have HN := hideP (K2.out (decide_eq_false (str_ne hq)))
      go_wp2
      exact ⟨⟨k + 1, by omega, by go_num, HN.out, HB.out.alloc HB.out.size _⟩, by simp [intOf]; omega⟩
    · have HN := hideP (K1.out (decide_eq_true (str_eq hq)))
      go_wp2
      go_ret
      exact ⟨ret_int HN.out.symm, HB.out.alloc HB.out.size _⟩
  · have HN := hideP (rf_end (by omega) HF.out)
    go_wp2
    go_ret
    exact ⟨ret_int HN.out.symm, HB.out⟩
theorem okAt_parts (l : List Rgn) (i : Nat) : (rgnB (rgA l i) = false ∧ okAt l i = false) ∨ (rgnB (rgA l i) = true ∧ behB (l.take i) (rgA l i).fr = false ∧ okAt l i = false) ∨ (rgnB (rgA l i) = true ∧ behB (l.take i) (rgA l i).fr = true ∧ (∃ q : Nat, namedR (l.take i) (rgA l i).name = (q : Int)) ∧ okAt l i = false) ∨ (rgnB (rgA l i) = true ∧ behB (l.take i) (rgA l i).fr = true ∧ namedR (l.take i) (rgA l i).name = -1 ∧ okAt l i = true) := by
 unfold okAt
 cases h1 : rgnB (rgA l i)
 · exact .inl ⟨rfl, rfl⟩
 right
 cases h2 : behB (l.take i) (rgA l i).fr
 · exact .inl ⟨rfl, rfl, rfl⟩
 right
 rcases rf_cases (isNamed (rgA l i).name) (l.take i) with ⟨h, _⟩ | ⟨q, _, h, _⟩
 · exact .inr ⟨rfl, rfl, h, by unfold namedR; rw [h]; rfl⟩
 · exact .inl ⟨rfl, rfl, ⟨q, h⟩, by unfold namedR; rw [h, decide_eq_false (by omega)]; rfl⟩
set_option maxHeartbeats 2000000 in
theorem implCheck (v : Value) (l : List Rgn) (w : World) (h : RRow w v l) (hT : Tab w) : CR 157 #[v] w (errV l) := by
 have HH := hideP h
 obtain ⟨a, c, rfl, hl, hm, hn, H⟩ := h
 have K := hideP H
 have HN := hideP hn
 have HT := hideP hT
 unfold maxLen at hm
 clear H hn hT
 by_cases hlong : 30 < l.length
 · have HR : Hid (errV l = .iface 225 (.agg #[.int .i64 30])) := by unfold Hid errV; rw [if_pos hlong]
   go_enter Tryz.func157, Tryz.ntmps157
   go_wp2
   go_ret
   exact ⟨by rw [HR.out]; rfl, Below.refl _ _⟩
 have HE : Hid (badV l (l.length - 0) 0 = errV l) := by unfold Hid errV; rw [if_neg hlong]; rfl
 go_enter Tryz.func157, Tryz.ntmps157
 go_wp2
 go_loopw [12] (fun i wr => ∃ k : Nat, k ≤ l.length ∧ i = .int .i64 (k : Int) ∧ Hid (badV l (l.length - k) k = errV l) ∧ Below w.heap.size w wr) (fun i _ => l.length - (intOf i).toNat)
 case atStart => exact ⟨0, Nat.zero_le _, rfl, HE.out, Below.refl _ _⟩
 case round =>
  obtain ⟨k, hk, rfl, HF, hB⟩ := hrel
  have HB := hideP hB
  clear hB
  by_cases hlt : k < l.length
  · obtain ⟨g, rfl, hg, x⟩ := K.out k hlt
    obtain ⟨a0, a1, a2⟩ := x.below HB.out hg
    have hnk := HN.out k hlt
    obtain ⟨W0, hW0, c0, c1, c2, hBl⟩ := rgn_box wr (rgA l k).name (rgA l k).fr (rgA l k).to 116
    have hBw : ∀ y : Later W0, Below w.heap.size w y.w := fun y => HB.out.trans ((hBl y).mono HB.out.size)
    have KO : ∀ y : Later W0, CR 205 #[.agg #[.string (rgA l k).name, .int .i64 (rgA l k).fr, .int .i64 (rgA l k).to]] y.w (.bool (rgnB (rgA l k))) := fun y => implReignOk _ _ _ y.w hnk (HT.out.later (hBw y))
    have KB : ∀ y : Later W0, CR 206 #[.slice (some ⟨g, 0, none⟩) k c, .agg #[.string (rgA l k).name, .int .i64 (rgA l k).fr, .int .i64 (rgA l k).to]] y.w (.bool (behB (l.take k) (rgA l k).fr)) := fun y => implBehind _ _ _ _ _ y.w ((HH.out.below (hBw y)).take (by omega))
    have KN : ∀ y : Later W0, CR 207 #[.slice (some ⟨g, 0, none⟩) k c, .string (rgA l k).name] y.w (.int .i64 (namedR (l.take k) (rgA l k).name)) := fun y => implNamed _ _ _ y.w ((HH.out.below (hBw y)).take (by omega))
    have HP := hideP (okAt_parts l k)
    have J1 := hideP (fun h => bad_next hlt h HF.out)
    have J2 := hideP (fun h => bad_stop hlt h HF.out)
    have HW0 := hideP hW0
    have HBw := hideP hBw
    clear x hnk hW0 hBl hBw
    generalize behB (l.take k) (rgA l k).fr = q2 at *
    generalize namedR (l.take k) (rgA l k).name = q3 at *
    generalize rgnB (rgA l k) = q1 at *
    generalize rgA l k = r at *
    rcases HP.out with ⟨rfl, hf⟩ | ⟨rfl, rfl, hf⟩ | ⟨rfl, rfl, ⟨q, rfl⟩, hf⟩ | ⟨rfl, rfl, rfl, hf⟩
    · have HV := hideP (J2.out hf)
      clear hf
      go_wp2_with fail
      rw [← HW0.out]
      refine wp_region_later (W := W0) (Below.refl _ _) (by kernel_rfl) (by kernel_rfl) ?_
      repeat (go_big_quiet_step (first | (go_at_call 205; exact calls_later (KO _)) | fail))
      refine wpQuiet_nil ?_
      intro _ hw'
      obtain ⟨y, rfl⟩ := hw'
      go_wp2
      go_ret
      exact ⟨by rw [HV.out]; rfl, HBw.out y⟩
    · have HV := hideP (J2.out hf)
      clear hf
      go_wp2_with fail
      rw [← HW0.out]
      refine wp_region_later (W := W0) (Below.refl _ _) (by kernel_rfl) (by kernel_rfl) ?_
      repeat (go_big_quiet_step (first | (go_at_call 205; exact calls_later (KO _)) | (go_at_call 206; exact calls_later (KB _)) | fail))
      refine wpQuiet_nil ?_
      intro _ hw'
      obtain ⟨y, rfl⟩ := hw'
      go_wp2
      go_ret
      exact ⟨by rw [HV.out]; rfl, HBw.out y⟩
    focus
      have HV := hideP (J2.out hf)
      have hq0 : (0 : Int) ≤ (q : Int) := by omega
    rotate_left
    focus
      have HV := hideP (J1.out hf)
    rotate_left
    all_goals
     clear hf
     go_wp2_with fail
     rw [← HW0.out]
     refine wp_region_later (W := W0) (Below.refl _ _) (by kernel_rfl) (by kernel_rfl) ?_
     repeat (go_big_quiet_step (first | (go_at_call 205; exact calls_later (KO _)) | (go_at_call 206; exact calls_later (KB _)) | (go_at_call 207; exact calls_later (KN _)) | fail))
     refine wpQuiet_nil ?_
     intro _ hw'
     obtain ⟨y, rfl⟩ := hw'
     go_wp2
    · go_ret
      exact ⟨by rw [HV.out]; rfl, HBw.out y⟩
    · exact ⟨⟨k + 1, by omega, by go_num, HV.out, HBw.out y⟩, by simp [intOf]; omega⟩
  · have HV := hideP (bad_end (by omega) HF.out)
    go_wp2
    go_ret
    exact ⟨by rw [HV.out]; rfl, HB.out⟩
set_option maxHeartbeats 1000000 in
theorem implReignsOk (v : Value) (l : List Rgn) (a : Addr) (w : World) (h : RRow w v l) (hT : Tab w) (hS : Sent w a) : CR 109 #[v] w (.bool (reignsOk l)) := by
 have KC : ∀ y : Later w, CR 157 #[v] y.w (errV l) := fun y => implCheck v l y.w (h.below y.below) (hT.later y.below)
 have KG : ∀ y : Later w, y.w.cell? ⟨0, 0, none⟩ = some (.iface 341 (.pointer (some a))) := fun y => hS.later y.below
 have KW : ∀ (z : Int) (y : Later w), CR 156 #[.iface 225 (.agg #[.int .i64 z]), .iface 341 (.pointer (some a))] y.w (.bool true) := fun z y => implIsWrong z a y.w (hS.later y.below)
 have HE := hideP (errV_cases l)
 clear h hT hS
 generalize errV l = E at *
 generalize reignsOk l = b at *
 rcases HE.out with ⟨rfl, rfl⟩ | ⟨rfl, z, rfl⟩
 · go_enter Tryz.func109, Tryz.ntmps109
   go_wp2_with fail
   refine wp_region_later (W := w) (Below.refl _ _) (by kernel_rfl) (by kernel_rfl) ?_
   repeat (go_big_quiet_step (first | (go_at_call 157; exact calls_later (KC _)) | (go_at_call 156; exact calls_later (implIsNil a _)) | fail))
   refine wpQuiet_nil ?_
   intro _ hw'
   obtain ⟨y, rfl⟩ := hw'
   go_wp2
   go_ret
   exact ⟨rfl, y.below⟩
 · go_enter Tryz.func109, Tryz.ntmps109
   go_wp2_with fail
   refine wp_region_later (W := w) (Below.refl _ _) (by kernel_rfl) (by kernel_rfl) ?_
   repeat (go_big_quiet_step (first | (go_at_call 157; exact calls_later (KC _)) | (go_at_call 156; exact calls_later (KW z _)) | fail))
   refine wpQuiet_nil ?_
   intro _ hw'
   obtain ⟨y, rfl⟩ := hw'
   go_wp2
   go_ret
   exact ⟨rfl, y.below⟩
end Go.Proofs.YtdmlhiailjnhcaaGreatDoor.ctr
namespace Go.Proofs.YtdmlhiailjnhcaaGreatDoor.ctr
open Go.RowKit
set_option maxRecDepth 100000 in
set_option maxHeartbeats 4000000 in
theorem specReignsOk (v : Value) (l : List Rgn) (w : World) (h : RRow w v l) : CR 105 #[v] w (.bool (reignsOk l)) := by
 obtain ⟨a, c, rfl, hl, hm, hn, H⟩ := h
 have K := hideP H
 have HN := hideP hn
 unfold maxLen at hm
 clear H hn
 go_enter Tryz.func105, Tryz.ntmps105
 go_wp2
 go_loopw [3] (fun i wr => ∃ k : Nat, k ≤ l.length ∧ i = .int .i64 (k : Int) ∧ Hid (okTo l k = true) ∧ Below w.heap.size w wr) (fun i _ => l.length - (intOf i).toNat)
 case atStart => exact ⟨0, Nat.zero_le _, rfl, rfl, Below.refl _ _⟩
 case round =>
  obtain ⟨k, hk, rfl, HF, hB⟩ := hrel
  have HB := hideP hB
  clear hB
  by_cases hlt : k < l.length
  · obtain ⟨g, rfl, hg, x⟩ := K.out k hlt
    obtain ⟨a0, a1, a2⟩ := x.below HB.out hg
    have hnk := HN.out k hlt
    obtain ⟨W0, hW0, c0, c1, c2, hBl⟩ := rgn_box wr (rgA l k).name (rgA l k).fr (rgA l k).to 116
    have hBw : ∀ y : Later W0, Below w.heap.size w y.w := fun y => HB.out.trans ((hBl y).mono HB.out.size)
    have KM : Hid (∀ m, m < k → ∀ y : Later W0, y.w.cell? ⟨g, m * 3, none⟩ = some (.string (rgA l m).name) ∧ y.w.cell? ⟨g, m * 3 + 2, none⟩ = some (.int .i64 (rgA l m).to)) := fun m hmk y => by
     obtain ⟨g', e, hg', z⟩ := K.out m (by omega)
     cases e
     exact ⟨(z.below (hBw y) hg').1, (z.below (hBw y) hg').2.2⟩
    have KN : ∀ y : Later W0, Calls Tryz.prog 102 #[.string (rgA l k).name] y.w fun e w' => e = .returned (.bool (nameOk (rgA l k).name)) ∧ w' = y.w := fun y => specNameOk _ y.w hnk
    have KF : ∀ y : Later W0, CR 152 #[.int .i64 (rgA l k).fr] y.w (.bool (bothB (rgA l k).fr)) := fun y => specDated _ y.w
    have KT : ∀ y : Later W0, CR 152 #[.int .i64 (rgA l k).to] y.w (.bool (bothB (rgA l k).to)) := fun y => specDated _ y.w
    have J1 := hideP (fun h => okTo_next HF.out (k := k) h)
    have J2 := hideP (fun h => ok_bad (k := k) h hlt)
    have HK : Hid (okAt l k = ((nameOk (rgA l k).name && (decide ((rgA l k).fr ≤ (rgA l k).to) && (bothB (rgA l k).fr && bothB (rgA l k).to))) && (behB (l.take k) (rgA l k).fr && decide (namedR (l.take k) (rgA l k).name = -1)))) := rfl
    have HW0 := hideP hW0
    have HBw := hideP hBw
    have HBH := hideP (behB_take (Nat.le_of_lt hlt) (rgA l k).fr)
    clear x hnk hW0 hBl hBw
    generalize rgA l k = r at *
    obtain ⟨nm, f, t⟩ := r
    dsimp only at a0 a1 a2 c0 c1 c2 KN KF KT HK HBH HW0
    generalize nameOk nm = b1 at *
    generalize hb2 : bothB f = b2 at *
    generalize hb3 : bothB t = b3 at *
    have HX : Hid (okAt l k = false → reignsOk l = false) := J2.out
    clear hb2 hb3
    cases b1
    · have _u := hlt
      have HR := hideP (HX.out (by rw [HK.out]; rfl))
      go_wp2_with fail
      rw [← HW0.out]
      refine wp_region_later (W := W0) (Below.refl _ _) (by kernel_rfl) (by kernel_rfl) ?_
      repeat (go_big_quiet_step (first | (go_at_call 102; exact calls_same (KN _)) | (go_at_call_of 152 f; exact calls_later (KF _)) | (go_at_call_of 152 t; exact calls_later (KT _)) | fail))
      refine wpQuiet_nil ?_
      intro _ hw'
      obtain ⟨y, rfl⟩ := hw'
      go_wp2
      go_ret
      exact ⟨ret_bool HR.out.symm, HBw.out y⟩
    by_cases hft : f ≤ t
    case neg =>
     have hd : decide (t < f) = true := decide_eq_true (by omega)
     have HR := hideP (HX.out (by rw [HK.out]; rw [decide_eq_false hft]; rfl))
     go_wp2_with fail
     rw [← HW0.out]
     refine wp_region_later (W := W0) (Below.refl _ _) (by kernel_rfl) (by kernel_rfl) ?_
     repeat (go_big_quiet_step (first | (go_at_call 102; exact calls_same (KN _)) | (go_at_call_of 152 f; exact calls_later (KF _)) | (go_at_call_of 152 t; exact calls_later (KT _)) | fail))
     refine wpQuiet_nil ?_
     intro _ hw'
     obtain ⟨y, rfl⟩ := hw'
     go_wp2
     go_ret
     exact ⟨ret_bool HR.out.symm, HBw.out y⟩
    have hd : decide (t < f) = false := decide_eq_false (by omega)
    cases b2
    · have _u := hlt
      have HR := hideP (HX.out (by rw [HK.out]; rw [decide_eq_true hft]; rfl))
      go_wp2_with fail
      rw [← HW0.out]
      refine wp_region_later (W := W0) (Below.refl _ _) (by kernel_rfl) (by kernel_rfl) ?_
      repeat (go_big_quiet_step (first | (go_at_call 102; exact calls_same (KN _)) | (go_at_call_of 152 f; exact calls_later (KF _)) | (go_at_call_of 152 t; exact calls_later (KT _)) | fail))
      refine wpQuiet_nil ?_
      intro _ hw'
      obtain ⟨y, rfl⟩ := hw'
      go_wp2
      go_ret
      exact ⟨ret_bool HR.out.symm, HBw.out y⟩
    cases b3
    · have _u := hlt
      have HR := hideP (HX.out (by rw [HK.out]; rw [decide_eq_true hft]; rfl))
      go_wp2_with fail
      rw [← HW0.out]
      refine wp_region_later (W := W0) (Below.refl _ _) (by kernel_rfl) (by kernel_rfl) ?_
      repeat (go_big_quiet_step (first | (go_at_call 102; exact calls_same (KN _)) | (go_at_call_of 152 f; exact calls_later (KF _)) | (go_at_call_of 152 t; exact calls_later (KT _)) | fail))
      refine wpQuiet_nil ?_
      intro _ hw'
      obtain ⟨y, rfl⟩ := hw'
      go_wp2
      go_ret
      exact ⟨ret_bool HR.out.symm, HBw.out y⟩
    have HK2 : Hid (okAt l k = (behB (l.take k) f && decide (namedR (l.take k) nm = -1))) := by unfold Hid; rw [HK.out, decide_eq_true hft]; rfl
    clear HK
    obtain rfl | ⟨j, rfl⟩ : k = 0 ∨ ∃ j, k = j + 1 := by cases k with | zero => exact .inl rfl | succ j => exact .inr ⟨j, rfl⟩
    focus
      have HBE : Hid (behB (l.take 0) f = true) := by unfold Hid; rw [HBH.out]; rfl
    rotate_left
    focus
      obtain ⟨_, q2⟩ : _ ∧ (∀ y : Later W0, y.w.cell? ⟨g, j * 3 + 2, none⟩ = some (.int .i64 (rgA l j).to)) := ⟨trivial, fun y => (KM.out j (by omega) y).2⟩
      have HBH2 : Hid (behB (l.take (j + 1)) f = decide ((rgA l j).to < f)) := by unfold Hid; rw [HBH.out, decide_eq_false (by omega)]; rfl
      clear HBH
      generalize (rgA l j).to = T at *
      have hj0 : decide ((0 : Int) < (j : Int) + 1) = true := decide_eq_true (by omega)
      by_cases hTf : T < f
      case neg =>
       have hd2 : decide (f ≤ T) = true := decide_eq_true (by omega)
       have HR := hideP (HX.out (by rw [HK2.out, HBH2.out, decide_eq_false hTf]; rfl))
       go_wp2_with fail
       rw [← HW0.out]
       refine wp_region_later (W := W0) (Below.refl _ _) (by kernel_rfl) (by kernel_rfl) ?_
       repeat (go_big_quiet_step (first | (go_at_call 102; exact calls_same (KN _)) | (go_at_call_of 152 f; exact calls_later (KF _)) | (go_at_call_of 152 t; exact calls_later (KT _)) | fail))
       refine wpQuiet_nil ?_
       intro _ hw'
       obtain ⟨y, rfl⟩ := hw'
       go_wp2
       go_ret
       exact ⟨ret_bool HR.out.symm, HBw.out y⟩
      have hd2 : decide (f ≤ T) = false := decide_eq_false (by omega)
      have HBE : Hid (behB (l.take (j + 1)) f = true) := by unfold Hid; rw [HBH2.out, decide_eq_true hTf]
    rotate_left
    all_goals
     go_wp2_with fail
     rw [← HW0.out]
     refine wp_region_later (W := W0) (Below.refl _ _) (by kernel_rfl) (by kernel_rfl) ?_
     repeat (go_big_quiet_step (first | (go_at_call 102; exact calls_same (KN _)) | (go_at_call_of 152 f; exact calls_later (KF _)) | (go_at_call_of 152 t; exact calls_later (KT _)) | fail))
     refine wpQuiet_nil ?_
     intro _ hw'
     obtain ⟨y, rfl⟩ := hw'
     go_wp2_with fail
    · go_loopw [5] (fun q wq => ∃ m : Nat, m ≤ 0 ∧ q = .int .i64 (m : Int) ∧ Hid (rfFrom (isNamed nm) ((l.take (0)).drop m) m = namedR (l.take (0)) nm) ∧ Below W0.heap.size W0 wq) (fun q _ => 0 - (intOf q).toNat)
      case atStart => exact ⟨0, Nat.zero_le _, rfl, rfl, y.below⟩
      case round =>
       obtain ⟨m, hmk, rfl, HG, hC⟩ := hrel
       have HC := hideP hC
       clear hC
       have hlen : (l.take (0)).length = 0 := by rw [List.length_take]; omega
       have HLn := hideP hlen
       clear hlen
       have GN := hideP (rf_end (by rw [HLn.out]; omega) HG.out)
       obtain rfl : m = 0 := by omega
       have HR := hideP (J1.out (by rw [HK2.out, GN.out, HBE.out]; rfl))
       have HCw : Hid (Below w.heap.size w wr) := HBw.out ⟨wr, HC.out⟩
       go_wp2
       exact ⟨⟨0 + 1, by omega, by go_num, HR.out, HCw.out⟩, by simp [intOf]; omega⟩
    · go_loopw [5] (fun q wq => ∃ m : Nat, m ≤ (j + 1) ∧ q = .int .i64 (m : Int) ∧ Hid (rfFrom (isNamed nm) ((l.take ((j + 1))).drop m) m = namedR (l.take ((j + 1))) nm) ∧ Below W0.heap.size W0 wq) (fun q _ => (j + 1) - (intOf q).toNat)
      case atStart => exact ⟨0, Nat.zero_le _, rfl, rfl, y.below⟩
      case round =>
       obtain ⟨m, hmk, rfl, HG, hC⟩ := hrel
       have HC := hideP hC
       clear hC
       have hlen : (l.take ((j + 1))).length = (j + 1) := by rw [List.length_take]; omega
       have HLn := hideP hlen
       clear hlen
       by_cases hml : m < (j + 1)
       · have e0 := fun y => (KM.out m hml y).1
         have G1 := hideP (fun h => rf_hit (p := isNamed nm) (by rw [HLn.out]; exact hml) h HG.out)
         have G2 := hideP (fun h => rf_miss (p := isNamed nm) (by rw [HLn.out]; exact hml) h HG.out)
         rw [rgA_take hml] at G1 G2
         generalize rgA l m = r2 at *
         cases hq : (r2.name.toList == nm.toList)
         · have GN := hideP (G2.out (decide_eq_false (str_ne hq)))
           go_wp2_with fail
           refine wp_region_later (W := W0) HC.out (by kernel_rfl) (by kernel_rfl) ?_
           repeat (go_big_quiet_step (fail))
           refine wpQuiet_nil ?_
           intro _ hw'
           obtain ⟨y2, rfl⟩ := hw'
           go_wp2
           exact ⟨⟨m + 1, by omega, by go_num, GN.out, y2.below⟩, by simp [intOf]; omega⟩
         · have GN := hideP (G1.out (decide_eq_true (str_eq hq)))
           have HR := hideP (HX.out (by rw [HK2.out, GN.out, decide_eq_false (by omega), Bool.and_false]))
           go_wp2_with fail
           refine wp_region_later (W := W0) HC.out (by kernel_rfl) (by kernel_rfl) ?_
           repeat (go_big_quiet_step (fail))
           refine wpQuiet_nil ?_
           intro _ hw'
           obtain ⟨y2, rfl⟩ := hw'
           go_wp2
           go_ret
           exact ⟨ret_bool HR.out.symm, HBw.out y2⟩
       · have GN := hideP (rf_end (by rw [HLn.out]; omega) HG.out)
         have HR := hideP (J1.out (by rw [HK2.out, GN.out, HBE.out]; rfl))
         have HCw : Hid (Below w.heap.size w wr) := HBw.out ⟨wr, HC.out⟩
         go_wp2
         exact ⟨⟨(j + 1) + 1, by omega, by go_num, HR.out, HCw.out⟩, by simp [intOf]; omega⟩
  · have hkn : k = l.length := by omega
    have HR := hideP (ok_all (by rw [← hkn]; exact HF.out))
    subst hkn
    go_wp2
    go_ret
    exact ⟨ret_bool (by rw [HR.out]; exact decide_eq_decide.2 (by omega)), HB.out⟩
end Go.Proofs.YtdmlhiailjnhcaaGreatDoor.ctr
namespace Go.Proofs.YtdmlhiailjnhcaaGreatDoor.ctr
open Go.RowKit
def FeaBlk (W : World) (g : Nat) (cur : Array Value) : Prop := Blk W g cur 107 ∧ ∀ k, k < 20 → ∀ j, j < 5 → cur[k * 5 + j]? = (feaAt k).cs[j]?
theorem FeaOwn.blk {w W : World} {v : Value} (h : FeaOwn w W v) : ∃ g cap cur, v = .slice (some ⟨g, 0, none⟩) 20 cap ∧ w.heap.size ≤ g ∧ FeaBlk W g cur := by
 rcases h.2 with ⟨_, h0⟩ | ⟨g, cap, cur, hv, hb, hh, hcap, _, hsz, htake⟩
 · simp at h0
 · refine ⟨g, cap, cur, hv, hb, hh, fun k hk j hj => ?_⟩
   rw [← feaCell hk hj, ← htake, List.getElem?_take, if_pos (by omega)]
   simp
theorem FeaBlk.at {W : World} {g : Nat} {cur : Array Value} (h : FeaBlk W g cur) {k : Nat} (hk : k < 20) : W.cell? ⟨g, k * 5, none⟩ = some (.string (feaAt k).name) ∧ W.cell? ⟨g, k * 5 + 1, none⟩ = some (.bool (feaAt k).mv) ∧ W.cell? ⟨g, k * 5 + 2, none⟩ = some (.int .i64 (feaAt k).off) ∧ W.cell? ⟨g, k * 5 + 3, none⟩ = some (.int .i64 (feaAt k).m) ∧ W.cell? ⟨g, k * 5 + 4, none⟩ = some (.int .i64 (feaAt k).d) := by
 have e := fun j hj => h.2 k hk j hj
 exact ⟨h.1.cell _ (e 0 (by omega)), h.1.cell _ (e 1 (by omega)), h.1.cell _ (e 2 (by omega)), h.1.cell _ (e 3 (by omega)), h.1.cell _ (e 4 (by omega))⟩
theorem FeaBlk.below {W W' : World} {g : Nat} {cur : Array Value} (h : FeaBlk W g cur) (hb : Below W.heap.size W W') : FeaBlk W' g cur := ⟨h.1.below hb h.1.lt, h.2⟩
theorem own_ne {w : World} {base e size : Nat} {v : Value} {n : Nat} {xs : List Value} {b : Nat} {vs : Array Value} {t : TypeId} (h : w.ownsRow base e size v n xs) (hb : Blk w b vs t) (hte : t ≠ e) : some b ≠ v.ownBlock := by
 intro he
 rcases h.2 with ⟨rfl, _⟩ | ⟨g, cap, cur, rfl, _, hh, _⟩
 · cases he
 · have hg : b = g := by simpa [Value.ownBlock] using he
   subst hg
   unfold Blk at hb
   rw [hb] at hh
   simp at hh
   exact hte hh.2
theorem Blk.gr {w w' : World} {b : Nat} {vs : Array Value} {t : TypeId} {row : Option Nat} (h : Blk w b vs t) (g : w.grownBy w' row) (hn : some b ≠ row) : Blk w' b vs t := (g.block b h.lt hn).trans h
theorem own_later {w w' : World} {base e size : Nat} {v : Value} {n : Nat} {xs : List Value} (h : w.ownsRow base e size v n xs) (hb : Below w.heap.size w w') : w'.ownsRow base e size v n xs :=
 h.kept (row := none) ⟨hb.os, hb.tape, hb.output, hb.size, fun k hk _ => hb.block k hk⟩ (Classical.em _)
structure OnSt (w : World) (db g : Nat) (dv cur : Array Value) (o : Value) (xs : List ByteArray) (W : World) : Prop where
 row : W.ownsRow w.heap.size 9 1 o xs.length (xs.map Value.string)
 below : Below w.heap.size w W
 date : Blk W db dv 99
 fea : FeaBlk W g cur
theorem OnSt.later {w : World} {db g : Nat} {dv cur : Array Value} {o : Value} {xs : List ByteArray} {W W' : World} (h : OnSt w db g dv cur o xs W) (hb : Below W.heap.size W W') : OnSt w db g dv cur o xs W' :=
 ⟨own_later h.row hb, h.below.trans (hb.mono h.below.size), h.date.below hb h.date.lt, h.fea.below hb⟩
theorem OnSt.app {w : World} {db g : Nat} {dv cur : Array Value} {o o' : Value} {xs : List ByteArray} {W W' : World} {ob : Obj} (h : OnSt w db g dv cur o xs W) (s : ByteArray) (hr : W'.ownsRow w.heap.size 9 1 o' (xs.length + 1) (xs.map Value.string ++ [.string s])) (hg : (W.alloc ob).grownBy W' o.ownBlock) : OnSt w db g dv cur o' (xs ++ [s]) W' := by
 have hr' : W'.ownsRow w.heap.size 9 1 o' (xs ++ [s]).length ((xs ++ [s]).map Value.string) := by
  rw [List.length_append, List.map_append]
  exact hr
 have hd := h.date.alloc ob
 have hf := h.fea.1.alloc ob
 exact ⟨hr', (h.below.alloc h.below.size ob).grown hg (by have := h.below.size; rw [sz_new]; omega) (own_base5 h.row), hd.gr hg (own_ne h.row h.date (by decide)), hf.gr hg (own_ne h.row h.fea.1 (by decide)), h.fea.2⟩
theorem dateR_parts (c n : Int) : ∃ a y m d ok, dateOf c n = (a, y, m, d, ok) ∧ dateR c n = .tuple #[.agg #[.int .i64 a, .int .i64 y, .int .i64 m, .int .i64 d], .bool ok] := ⟨_, _, _, _, _, rfl, rfl⟩
theorem date_blk (W : World) (a y m d : Int) : Blk (W.alloc (.cells #[.int .i64 a, .int .i64 y, .int .i64 m, .int .i64 d] 99)) W.heap.size #[.int .i64 a, .int .i64 y, .int .i64 m, .int .i64 d] 99 := Blk.new W _ _
end Go.Proofs.YtdmlhiailjnhcaaGreatDoor.ctr
namespace Go.Proofs.YtdmlhiailjnhcaaGreatDoor.ctr
open Go.RowKit
def plusB : ByteArray := ⟨#[43]⟩
def readParts (w : List ByteArray) : Int × Int :=
 if w.length = 1 then (findFeast (w.getD 0 ⟨#[]⟩), 0)
 else if findFeast (w.getD 0 ⟨#[]⟩) < 0 ∨ 2 < w.length ∨ readDec (w.getD 1 ⟨#[]⟩) < 1 ∨ 99 < readDec (w.getD 1 ⟨#[]⟩) then (-1, 0)
 else (findFeast (w.getD 0 ⟨#[]⟩), readDec (w.getD 1 ⟨#[]⟩))
def readFeast (s : ByteArray) : Int × Int := readParts (cut s 43)
def readTwo (a b : ByteArray) : Int × Int :=
 if findFeast a < 0 ∨ readDec b < 1 ∨ 99 < readDec b then (-1, 0) else (findFeast a, readDec b)
theorem readParts_b (w : List ByteArray) : -1 ≤ (readParts w).1 ∧ (readParts w).1 < 20 ∧ 0 ≤ (readParts w).2 ∧ (readParts w).2 ≤ 99 := by
 have h := find_b (w.getD 0 ⟨#[]⟩)
 unfold readParts
 split
 · exact ⟨h.1, h.2, by simp, by simp⟩
 · split
   · simp
   · rename_i h2
     refine ⟨h.1, h.2, ?_, ?_⟩ <;> simp only <;> omega
theorem readDec_bad (b : ByteArray) (k : Nat) (h : k < b.size) (hk : bAt b k = 43) : readDec b = -1 := by
 apply read_stop b k h
 have h1 := bAt_eq b k h
 rw [hk] at h1
 unfold digB
 exact inB_false (.inl (by omega))
theorem read_split (s : ByteArray) (p : Nat) (hp : p < s.size) (hat : bAt s p = 43) (hno : ∀ j, j < p → bAt s j ≠ 43) : readFeast s = readTwo (s.extract 0 p) (s.extract (p + 1) s.size) := by
 obtain ⟨a1, a2⟩ := parts_none s 43 p hno
 obtain ⟨b1, b2⟩ := parts_hit s 43 p hat
 rw [a1, a2] at b1
 by_cases h : ∃ q, p < q ∧ q < s.size ∧ bAt s q = 43
 · obtain ⟨q, h1, h2, h3⟩ := h
   have hd : readDec (s.extract (p + 1) s.size) = -1 := by
    apply readDec_bad _ (q - (p + 1)) (by rw [ByteArray.size_extract]; omega)
    rw [bAt_ext s (p + 1) (q - (p + 1)), show p + 1 + (q - (p + 1)) = q from by omega]
    exact h3
   have hl : 2 < (cut s 43).length := by
    have c1 := parts_mono s 43 (p + 1) (q - (p + 1))
    have c2 := (parts_hit s 43 q h3).1
    have c3 := parts_mono s 43 (q + 1) (s.size - (q + 1))
    rw [show p + 1 + (q - (p + 1)) = q from by omega] at c1
    rw [show q + 1 + (s.size - (q + 1)) = s.size from by omega] at c3
    rw [b1] at c1
    have c4 : (partsTo s 43 (q + 1)).length = (partsTo s 43 q).length + 1 := by rw [c2, List.length_append]; rfl
    unfold cut
    rw [List.length_append]
    simp at c1 ⊢
    omega
   unfold readFeast readParts readTwo
   rw [if_neg (by omega), if_pos (.inr (.inl hl)), if_pos (.inr (.inl (by omega)))]
 · have hrun := parts_run s 43 (p + 1) (s.size - (p + 1)) (fun j h1 h2 h3 => h ⟨j, by omega, by omega, h3⟩)
   rw [show p + 1 + (s.size - (p + 1)) = s.size from by omega, b1, b2] at hrun
   have hc : cut s 43 = [s.extract 0 p, s.extract (p + 1) s.size] := by
    unfold cut
    rw [hrun.1, hrun.2]
    rfl
   unfold readFeast readParts readTwo
   rw [hc]
   simp
theorem read_plain (s : ByteArray) (h : ∀ j, j < s.size → bAt s j ≠ 43) : readFeast s = (findFeast s, 0) := by
 unfold readFeast readParts
 rw [cut_none s 43 h]
 simp
end Go.Proofs.YtdmlhiailjnhcaaGreatDoor.ctr
namespace Go.Proofs.YtdmlhiailjnhcaaGreatDoor.ctr
open Go.RowKit
def plusText (b : ByteArray) (k : Int) : ByteArray := if k = 0 then b else b ++ plusB ++ itoaB k
def textIn (c y n : Int) (mv : Bool) : ByteArray := if (lastTo c y n mv 20).1.size = 0 ∨ 99 < n - (lastTo c y n mv 20).2 then ⟨#[]⟩ else plusText (lastTo c y n mv 20).1 (n - (lastTo c y n mv 20).2)
end Go.Proofs.YtdmlhiailjnhcaaGreatDoor.ctr
namespace Go.Proofs.YtdmlhiailjnhcaaGreatDoor.ctr
open Go.RowKit
set_option maxRecDepth 100000 in
set_option maxHeartbeats 2000000 in
theorem specReadF (s : ByteArray) (w : World) (hs : s.size ≤ 1048576) : CR 67 #[.string s] w (.tuple #[.int .i64 (readFeast s).1, .int .i64 (readFeast s).2]) := by
 have hne := cut_ne s 43
 have hz0 := cut_short s 43 0
 have hz1 := cut_short s 43 1
 have hcl := cut_long s 43
 have KC := l01Cut s 43 w hs
 have HV : Hid (readFeast s = readParts (cut s 43)) := rfl
 rw [HV.out]
 clear HV
 generalize cut s 43 = xs at *
 have hl0 : 0 < xs.length := by
  rcases xs with _ | _
  · exact absurd rfl hne
  · simp
 have HV : Hid (readParts xs = if xs.length = 1 then (findFeast (xs.getD 0 ⟨#[]⟩), 0) else if findFeast (xs.getD 0 ⟨#[]⟩) < 0 ∨ 2 < xs.length ∨ readDec (xs.getD 1 ⟨#[]⟩) < 1 ∨ 99 < readDec (xs.getD 1 ⟨#[]⟩) then (-1, 0) else (findFeast (xs.getD 0 ⟨#[]⟩), readDec (xs.getD 1 ⟨#[]⟩))) := rfl
 obtain ⟨R, hR⟩ : ∃ R, R = readParts xs := ⟨_, rfl⟩
 rw [← hR]
 have HR := hideP (hR.trans HV.out)
 clear hR HV
 obtain ⟨n0, hn0⟩ : ∃ n0, n0 = xs.getD 0 ⟨#[]⟩ := ⟨_, rfl⟩
 obtain ⟨n1, hn1⟩ : ∃ n1, n1 = xs.getD 1 ⟨#[]⟩ := ⟨_, rfl⟩
 rw [← hn0, ← hn1] at HR
 rw [← hn0] at hz0
 rw [← hn1] at hz1
 have HN0 := hideP hn0
 have HN1 := hideP hn1
 clear hn0 hn1
 have KF : ∀ W, CR 120 #[.string n0] W (.int .i64 (findFeast n0)) := fun W => specFind _ W
 have KR : ∀ W, Calls Tryz.prog 121 #[.string n1] W fun e w' => e = .returned (.int .i64 (readDec n1)) ∧ w' = W := fun W => specReadDec _ W (by unfold maxLen; omega)
 have hfb := find_b n0
 generalize findFeast n0 = at0 at *
 generalize readDec n1 = kk at *
 go_enter Tryz.func67, Tryz.ntmps67
 go_wp2_with fail
 refine KC.mono ?_
 rintro e W1 ⟨v, rfl, hr, hb1⟩
 obtain ⟨g, cap, rfl, hg, hgl, hst, _⟩ := own_row hr hne
 have B1 := hideP hb1
 have e0 : W1.cell? ⟨g, 0, none⟩ = some (.string n0) := by rw [HN0.out]; exact hst 0 hl0
 have HST := hideP hst
 clear hr hb1 hst KC
 go_wp2_with fail
 refine (KF _).mono ?_
 rintro e W2 ⟨rfl, hb2⟩
 have B2 : Hid (Below w.heap.size w W2) := B1.out.trans (hb2.mono B1.out.size)
 have HST2 := hideP (HST.out.below hb2 hgl)
 clear hb2 e0
 by_cases h1 : xs.length = 1
 · have HE := hideP (HR.out.trans (if_pos h1))
   clear HR
   have h1' : ((xs.length : Int) == 1) = true := by simp [h1]
   go_wp2
   go_ret2
   rw [HE.out]
   exact ⟨rfl, B2.out⟩
 have h1' : ((xs.length : Int) == 1) = false := by simp; omega
 have HE := hideP (HR.out.trans (if_neg h1))
 have hl1 : 1 < xs.length := by omega
 have e1 : W2.cell? ⟨g, 1, none⟩ = some (.string n1) := by rw [HN1.out]; exact HST2.out 1 hl1
 have hi1 : (1 : Int) < (xs.length : Int) := by omega
 clear HR
 go_wp2_with fail
 refine (KR _).mono ?_
 rintro e w3 ⟨rfl, rfl⟩
 clear e1
 by_cases q1 : at0 < 0
 · have HE2 := hideP (HE.out.trans (if_pos (.inl q1)))
   clear HE
   go_wp2
   go_ret2
   rw [HE2.out]
   exact ⟨rfl, B2.out⟩
 by_cases q2 : 2 < xs.length
 · have HE2 := hideP (HE.out.trans (if_pos (.inr (.inl q2))))
   have q2' : (2 : Int) < (xs.length : Int) := by omega
   clear HE
   go_wp2
   go_ret2
   rw [HE2.out]
   exact ⟨rfl, B2.out⟩
 have q2' : ¬ (2 : Int) < (xs.length : Int) := by omega
 have KI : ∀ W, Calls Tryz.prog 45 #[.int .i64 kk, .int .i64 1, .int .i64 99] W fun e w' => e = .returned (.bool (inB kk 1 99)) ∧ w' = W := l01In kk 1 99
 by_cases q3 : kk < 1 ∨ 99 < kk
 · have HE2 := hideP (HE.out.trans (if_pos (.inr (.inr q3))))
   rw [inB_false q3] at KI
   clear HE q3
   go_wp2_with fail
   refine (KI _).mono ?_
   rintro e w3 ⟨rfl, rfl⟩
   go_wp2
   go_ret2
   rw [HE2.out]
   exact ⟨rfl, B2.out⟩
 · have HE2 := hideP (HE.out.trans (if_neg (fun h => by omega)))
   rw [inB_true (by omega) (by omega)] at KI
   clear HE q3
   go_wp2_with fail
   refine (KI _).mono ?_
   rintro e w3 ⟨rfl, rfl⟩
   go_wp2
   go_ret2
   rw [HE2.out]
   exact ⟨rfl, B2.out⟩
end Go.Proofs.YtdmlhiailjnhcaaGreatDoor.ctr
