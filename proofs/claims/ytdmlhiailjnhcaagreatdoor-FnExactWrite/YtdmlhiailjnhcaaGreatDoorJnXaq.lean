/- Contracts of both SegmentOk: each answers its plain function at every segment; and what else the law reaches. -/
import Derived.Test.YtdmlhiailjnhcaaGreatDoorJnXaj
import Derived.Test.YtdmlhiailjnhcaaGreatDoorJnXaa
import Derived.Test.YtdmlhiailjnhcaaGreatDoorJnXag
import Derived.Test.YtdmlhiailjnhcaaGreatDoorRgnListX
import Derived.Deep.Slices
import Derived.Lib.SmallJoins
import Derived.Laws.MakeOwn
import Derived.Deep.RegionWith
import Derived.Test.YtdmlhiailjnhcaaGreatDoorJnXak
import Derived.Test.YtdmlhiailjnhcaaGreatDoorJnXad
namespace Go.Proofs.YtdmlhiailjnhcaaGreatDoor.ctr
open Go.RowKit
def dayB (n : Int) : Bool := inB n 400 1090000
def segOkB (s : Seg) : Bool := dayB s.fr && (dayB s.to && (decide (s.fr ≤ s.to) && (calB s.cal && (styleB s.sty && inB s.off (-3) 3))))
theorem implOnLine (n : Int) (w : World) : Calls Tryz.prog 60 #[.int .i64 n] w fun e w' => e = .returned (.bool (dayB n)) ∧ w' = w := by
 unfold dayB
 by_cases h1 : 400 ≤ n
 · by_cases h2 : n ≤ 1090000
   · rw [inB_true h1 h2]
     go_enter Tryz.func60, Tryz.ntmps60
     go_wp2
     go_ret
     exact ⟨rfl, rfl⟩
   · rw [inB_false (.inr (by omega))]
     have hd : decide (n ≤ 1090000) = false := decide_eq_false h2
     go_enter Tryz.func60, Tryz.ntmps60
     go_wp2
     go_ret
     exact ⟨rfl, rfl⟩
 · rw [inB_false (.inl (by omega))]
   have hd : decide (400 ≤ n) = false := decide_eq_false h1
   go_enter Tryz.func60, Tryz.ntmps60
   go_wp2
   go_ret
   exact ⟨rfl, rfl⟩
theorem specDay9 (n : Int) (w : World) : Calls Tryz.prog 58 #[.int .i64 n] w fun e w' => e = .returned (.bool (dayB n)) ∧ w' = w := by
 go_enter Tryz.func58, Tryz.ntmps58
 go_wp2_with (go_at_call 45; refine (l01In n 400 1090000 _).mono ?_; rintro e w1 ⟨rfl, rfl⟩)
 go_ret
 exact ⟨rfl, rfl⟩
theorem seg_box (w : World) (a b c d e : Int) (t : TypeId) : ∃ W0, W0 = w.alloc (.cells #[.int .i64 a, .int .i64 b, .int .i64 c, .int .i64 d, .int .i64 e] t) ∧ (∀ x : Later W0, x.w.cell? ⟨w.heap.size, 0, none⟩ = some (.int .i64 a)) ∧ (∀ x : Later W0, x.w.cell? ⟨w.heap.size, 1, none⟩ = some (.int .i64 b)) ∧ (∀ x : Later W0, x.w.cell? ⟨w.heap.size, 2, none⟩ = some (.int .i64 c)) ∧ (∀ x : Later W0, x.w.cell? ⟨w.heap.size, 3, none⟩ = some (.int .i64 d)) ∧ (∀ x : Later W0, x.w.cell? ⟨w.heap.size, 4, none⟩ = some (.int .i64 e)) ∧ ∀ x : Later W0, Below w.heap.size w x.w :=
 ⟨_, rfl, Later.new rfl 0 rfl, Later.new rfl 1 rfl, Later.new rfl 2 rfl, Later.new rfl 3 rfl, Later.new rfl 4 rfl, fun x => below_alloc x.below⟩
set_option maxHeartbeats 1000000 in
theorem implSegOk (s : Seg) (w : World) : CR 153 #[.agg #[.int .i64 s.fr, .int .i64 s.to, .int .i64 s.cal, .int .i64 s.sty, .int .i64 s.off]] w (.bool (segOkB s)) := by
 have K1 : ∀ W, CR 60 #[.int .i64 s.fr] W (.bool (dayB s.fr)) := fun W => (implOnLine s.fr W).mono fun _ _ h => ⟨h.1, same_bel h.2⟩
 have K2 : ∀ W, CR 60 #[.int .i64 s.to] W (.bool (dayB s.to)) := fun W => (implOnLine s.to W).mono fun _ _ h => ⟨h.1, same_bel h.2⟩
 have K5 : ∀ W, CR 181 #[.int .i64 s.sty] W (.bool (styleB s.sty)) := fun W => (implStyleOk s.sty W).mono fun _ _ h => ⟨h.1, same_bel h.2⟩
 obtain ⟨W0, hW0, c0, c1, c2, c3, c4, hBl⟩ := seg_box w s.fr s.to s.cal s.sty s.off 97
 have HW0 := hideP hW0
 have HBl := hideP hBl
 clear hW0 hBl
 unfold segOkB
 generalize dayB s.fr = b1 at *
 generalize dayB s.to = b2 at *
 generalize styleB s.sty = b5 at *
 cases b1
 · rw [Bool.false_and]
   go_enter Tryz.func153, Tryz.ntmps153
   go_wp2_with fail
   rw [← HW0.out]
   refine latO (K1 _) fun x1 => ?_
   go_wp2
   go_ret
   exact ⟨rfl, HBl.out x1⟩
 rw [Bool.true_and]
 cases b2
 · rw [Bool.false_and]
   go_enter Tryz.func153, Tryz.ntmps153
   go_wp2_with fail
   rw [← HW0.out]
   refine latO (K1 _) fun x1 => ?_
   go_wp2_with fail
   refine lat (K2 _) fun x2 => ?_
   go_wp2
   go_ret
   exact ⟨rfl, HBl.out x2⟩
 rw [Bool.true_and]
 by_cases h3 : s.fr ≤ s.to
 case neg =>
  rw [decide_eq_false h3, Bool.false_and]
  have hd : decide (s.fr ≤ s.to) = false := decide_eq_false h3
  go_enter Tryz.func153, Tryz.ntmps153
  go_wp2_with fail
  rw [← HW0.out]
  refine latO (K1 _) fun x1 => ?_
  go_wp2_with fail
  refine lat (K2 _) fun x2 => ?_
  go_wp2
  go_ret
  exact ⟨rfl, HBl.out x2⟩
 rw [decide_eq_true h3, Bool.true_and]
 by_cases hc : s.cal = 0 ∨ s.cal = 1
 case neg =>
  rw [calB_no hc, Bool.false_and]
  have K4 : ∀ W, CR 138 #[.int .i64 s.cal] W (.nilIface) := fun W => (implCalNo s.cal (fun e => hc (.inl e)) (fun e => hc (.inr e)) W).mono fun _ _ h => ⟨h.1, same_bel h.2⟩
  go_enter Tryz.func153, Tryz.ntmps153
  go_wp2_with fail
  rw [← HW0.out]
  refine latO (K1 _) fun x1 => ?_
  go_wp2_with fail
  refine lat (K2 _) fun x2 => ?_
  go_wp2_with fail
  refine lat (K4 _) fun x3 => ?_
  go_wp2
  go_ret
  exact ⟨rfl, HBl.out x3⟩
 rw [calB_iff.2 hc, Bool.true_and]
 obtain ⟨ct, K4⟩ : ∃ ct, ∀ W, CR 138 #[.int .i64 s.cal] W (.iface ct (.agg #[])) := by
  rcases hc with hc | hc
  · rw [hc]; exact ⟨_, fun W => (implCal0 W).mono fun _ _ h => ⟨h.1, same_bel h.2⟩⟩
  · rw [hc]; exact ⟨_, fun W => (implCal1 W).mono fun _ _ h => ⟨h.1, same_bel h.2⟩⟩
 clear hc
 cases b5
 focus
   rw [Bool.false_and]
 rotate_left
 focus
   rw [Bool.true_and]
   by_cases h6 : -3 ≤ s.off
   case neg =>
    rw [inB_false (by omega)]
    have hd : decide (-3 ≤ s.off) = false := decide_eq_false h6
    go_enter Tryz.func153, Tryz.ntmps153
    go_wp2_with fail
    rw [← HW0.out]
    refine latO (K1 _) fun x1 => ?_
    go_wp2_with fail
    refine lat (K2 _) fun x2 => ?_
    go_wp2_with fail
    refine lat (K4 _) fun x3 => ?_
    go_wp2_with fail
    refine lat (K5 _) fun x4 => ?_
    go_wp2
    go_ret
    exact ⟨rfl, HBl.out x4⟩
   by_cases h7 : s.off ≤ 3
   case neg =>
    rw [inB_false (by omega)]
    have hd : decide (s.off ≤ 3) = false := decide_eq_false h7
    go_enter Tryz.func153, Tryz.ntmps153
    go_wp2_with fail
    rw [← HW0.out]
    refine latO (K1 _) fun x1 => ?_
    go_wp2_with fail
    refine lat (K2 _) fun x2 => ?_
    go_wp2_with fail
    refine lat (K4 _) fun x3 => ?_
    go_wp2_with fail
    refine lat (K5 _) fun x4 => ?_
    go_wp2
    go_ret
    exact ⟨rfl, HBl.out x4⟩
   rw [inB_true h6 h7]
 rotate_left
 all_goals
  go_enter Tryz.func153, Tryz.ntmps153
  go_wp2_with fail
  rw [← HW0.out]
  refine latO (K1 _) fun x1 => ?_
  go_wp2_with fail
  refine lat (K2 _) fun x2 => ?_
  go_wp2_with fail
  refine lat (K4 _) fun x3 => ?_
  go_wp2_with fail
  refine lat (K5 _) fun x4 => ?_
  go_wp2
  go_ret
  exact ⟨rfl, HBl.out x4⟩
set_option maxHeartbeats 1000000 in
theorem specSegOk (s : Seg) (w : World) : CR 150 #[.agg #[.int .i64 s.fr, .int .i64 s.to, .int .i64 s.cal, .int .i64 s.sty, .int .i64 s.off]] w (.bool (segOkB s)) := by
 have K1 : ∀ W, CR 58 #[.int .i64 s.fr] W (.bool (dayB s.fr)) := fun W => (specDay9 s.fr W).mono fun _ _ h => ⟨h.1, same_bel h.2⟩
 have K2 : ∀ W, CR 58 #[.int .i64 s.to] W (.bool (dayB s.to)) := fun W => (specDay9 s.to W).mono fun _ _ h => ⟨h.1, same_bel h.2⟩
 have K4 : ∀ W, CR 111 #[.int .i64 s.cal] W (.bool (calB s.cal)) := fun W => (specCal s.cal W).mono fun _ _ h => ⟨h.1, same_bel h.2⟩
 have K5 : ∀ W, CR 131 #[.int .i64 s.sty] W (.string (styText s.sty)) := fun W => specStyleName s.sty W
 have K6 : ∀ W, CR 45 #[.int .i64 s.off, .int .i64 (-3), .int .i64 3] W (.bool (inB s.off (-3) 3)) := fun W => (l01In s.off (-3) 3 W).mono fun _ _ h => ⟨h.1, same_bel h.2⟩
 obtain ⟨W0, hW0, c0, c1, c2, c3, c4, hBl⟩ := seg_box w s.fr s.to s.cal s.sty s.off 97
 have HW0 := hideP hW0
 have HBl := hideP hBl
 clear hW0 hBl
 unfold segOkB
 generalize dayB s.fr = b1 at *
 generalize dayB s.to = b2 at *
 generalize calB s.cal = b4 at *
 generalize inB s.off (-3) 3 = b6 at *
 cases b1
 · rw [Bool.false_and]
   go_enter Tryz.func150, Tryz.ntmps150
   go_wp2_with fail
   rw [← HW0.out]
   refine latO (K1 _) fun x1 => ?_
   go_wp2
   go_ret
   exact ⟨rfl, HBl.out x1⟩
 rw [Bool.true_and]
 cases b2
 · rw [Bool.false_and]
   go_enter Tryz.func150, Tryz.ntmps150
   go_wp2_with fail
   rw [← HW0.out]
   refine latO (K1 _) fun x1 => ?_
   go_wp2_with fail
   refine lat (K2 _) fun x2 => ?_
   go_wp2
   go_ret
   exact ⟨rfl, HBl.out x2⟩
 rw [Bool.true_and]
 by_cases h3 : s.fr ≤ s.to
 case neg =>
  rw [decide_eq_false h3, Bool.false_and]
  have hd : decide (s.fr ≤ s.to) = false := decide_eq_false h3
  go_enter Tryz.func150, Tryz.ntmps150
  go_wp2_with fail
  rw [← HW0.out]
  refine latO (K1 _) fun x1 => ?_
  go_wp2_with fail
  refine lat (K2 _) fun x2 => ?_
  go_wp2
  go_ret
  exact ⟨rfl, HBl.out x2⟩
 rw [decide_eq_true h3, Bool.true_and]
 cases b4
 focus
   rw [Bool.false_and]
 rotate_left
 focus
   rw [Bool.true_and]
   by_cases hs : styleP s.sty
   case neg =>
    rw [styleB_false hs, Bool.false_and]
    have hE := styText_none hs
    generalize styText s.sty = t at *
    go_enter Tryz.func150, Tryz.ntmps150
    go_wp2_with fail
    rw [← HW0.out]
    refine latO (K1 _) fun x1 => ?_
    go_wp2_with fail
    refine lat (K2 _) fun x2 => ?_
    go_wp2_with fail
    refine lat (K4 _) fun x3 => ?_
    go_wp2_with fail
    refine lat (K5 _) fun x4 => ?_
    go_wp2
    go_ret
    exact ⟨rfl, HBl.out x4⟩
   rw [styleB_true hs, Bool.true_and]
   have hE := styText_some hs
   generalize styText s.sty = t at *
 rotate_left
 all_goals
  go_enter Tryz.func150, Tryz.ntmps150
  go_wp2_with fail
  rw [← HW0.out]
  refine latO (K1 _) fun x1 => ?_
  go_wp2_with fail
  refine lat (K2 _) fun x2 => ?_
  go_wp2_with fail
  refine lat (K4 _) fun x3 => ?_
 · go_wp2
   go_ret
   exact ⟨rfl, HBl.out x3⟩
 go_wp2_with fail
 refine lat (K5 _) fun x4 => ?_
 go_wp2_with fail
 refine lat (K6 _) fun x5 => ?_
 go_wp2
 go_ret
 exact ⟨rfl, HBl.out x5⟩
end Go.Proofs.YtdmlhiailjnhcaaGreatDoor.ctr
namespace Go.Proofs.YtdmlhiailjnhcaaGreatDoor.ctr
open Go.RowKit
def RIn (w : World) (a : Option Addr) (len cap : Nat) (l : List Rgn) : Prop :=
 l.length = len ∧ len ≤ cap ∧ cap ≤ maxLen ∧ (∀ k, k < len → (rgA l k).name.size ≤ maxLen) ∧
 ((a = none ∧ len = 0) ∨ ∃ x, a = some x ∧ ∀ k, k < len → w.cell? (x.add (k * 3)) = some (.string (rgA l k).name) ∧ w.cell? (x.add (k * 3 + 1)) = some (.int .i64 (rgA l k).fr) ∧ w.cell? (x.add (k * 3 + 2)) = some (.int .i64 (rgA l k).to))
end Go.Proofs.YtdmlhiailjnhcaaGreatDoor.ctr
namespace Go.Proofs.YtdmlhiailjnhcaaGreatDoor.kit
open Go.RowKit Go.WideShapes Go.Deep Go.ChangeShapes
theorem open_rgns {H : Type} {enc : TypeId × Value → H} {P : Program} {w : World} {base : Nat} {spare : Nat → Bool} {held : Bool} {t e : TypeId} {f0 f1 f2 : Field} {a : Option Addr} {len cap : Nat} {x : DataW H} {p : List MemPlace}
    (ht : P.underlying t = some (.slice e)) (he : P.underlying e = some (.struct #[f0, f1, f2])) (ce : P.cellsOf e = 3) (o0 : f0.offset = 0) (o1 : f1.offset = 1) (o2 : f2.offset = 2) (c0 : P.cellsOf f0.type = 1) (c1 : P.cellsOf f1.type = 1) (c2 : P.cellsOf f2.type = 1)
    (u0 : P.underlying f0.type = some .string) (u1 : P.underlying f1.type = some (.int .i64)) (u2 : P.underlying f2.type = some (.int .i64))
    (h : DataW.Trod enc P w base spare held t (.slice a len cap) x p) : ∃ l : List ctr.Rgn, ctr.RIn w a len cap l := by
  obtain ⟨fuel, h⟩ := h
  simp only [Value.cells] at h
  rcases open_slice ht h with ⟨h0, _⟩ | ⟨a', len', cap', m, n, D, Pl, e', hb, hl, hm, hmm, hxp, hx⟩
  · simp at h0
    obtain ⟨rfl, rfl, rfl⟩ := h0
    exact ⟨[], rfl, Nat.le_refl _, by unfold maxLen; omega, fun k hk => by omega, .inl ⟨rfl, rfl⟩⟩
  · simp at e'
    obtain ⟨rfl, rfl, rfl⟩ := e'
    have hlm : len ≤ m := by rw [hmm]; split <;> omega
    have each : ∀ i, i < len → ∃ r : ctr.Rgn, r.name.size ≤ maxLen ∧ w.cell? (a'.add (i * 3)) = some (.string r.name) ∧ w.cell? (a'.add (i * 3 + 1)) = some (.int .i64 r.fr) ∧ w.cell? (a'.add (i * 3 + 2)) = some (.int .i64 r.to) := by
     intro i hi
     obtain ⟨cs', h1, h2⟩ := hx i (by omega)
     rw [ce] at h1
     obtain ⟨_, hlen, hcell⟩ := World.cells?_some h1
     obtain ⟨xs, k, hk, hxy, _, hxl, hf⟩ := DataW.trod_struct he h2
     match xs, hxl, cs', hlen with
     | [y0, y1, y2], _, [v0, v1, v2], _ =>
      have g0 := hf 0 f0 rfl
      have g1 := hf 1 f1 rfl
      have g2 := hf 2 f2 rfl
      simp [o0, o1, o2, c0, c1, c2] at g0 g1 g2
      have e0 := hcell 0 (by omega)
      have e1 := hcell 1 (by omega)
      have e2 := hcell 2 (by omega)
      rw [add_add] at e0 e1 e2
      obtain ⟨s, q0, _, hsm⟩ := DataW.trod_string u0 g0
      obtain ⟨z1, q1, _, _⟩ := DataW.trod_int u1 g1
      obtain ⟨z2, q2, _, _⟩ := DataW.trod_int u2 g2
      simp only [List.cons.injEq, and_true] at q0 q1 q2
      subst q0 q1 q2
      exact ⟨⟨s, z1, z2⟩, hsm, by simpa using e0, by simpa using e1, by simpa using e2⟩
    obtain ⟨R, hR⟩ : ∃ R : Nat → ctr.Rgn, ∀ i, i < len → (R i).name.size ≤ maxLen ∧ w.cell? (a'.add (i * 3)) = some (.string (R i).name) ∧ w.cell? (a'.add (i * 3 + 1)) = some (.int .i64 (R i).fr) ∧ w.cell? (a'.add (i * 3 + 2)) = some (.int .i64 (R i).to) := by
     classical
     refine ⟨fun i => if h : i < len then (each i h).choose else ctr.r0, fun i hi => ?_⟩
     simp only [dif_pos hi]
     exact (each i hi).choose_spec
    have hat : ∀ k, k < len → ctr.rgA ((List.range len).map R) k = R k := fun k hk => by simp [ctr.rgA, List.getD, hk]
    refine ⟨(List.range len).map R, by simp, hl, hm, fun k hk => by rw [hat k hk]; exact (hR k hk).1, .inr ⟨a', rfl, fun k hk => by rw [hat k hk]; exact (hR k hk).2⟩⟩
end Go.Proofs.YtdmlhiailjnhcaaGreatDoor.kit
namespace Go.Proofs.YtdmlhiailjnhcaaGreatDoor.kit
open Go.RowKit Go.WideShapes Go.Deep
theorem three {α : Type} {cs : Array α} (h : cs.size = 3) : ∃ a b c, cs = #[a, b, c] := by
 obtain ⟨l⟩ := cs
 match l, h with
 | [a, b, c], _ => exact ⟨a, b, c, rfl⟩
end Go.Proofs.YtdmlhiailjnhcaaGreatDoor.kit
namespace Go.Proofs.YtdmlhiailjnhcaaGreatDoor.ctr
open Go.RowKit
def szR (n : Nat) (left : Int) : Int := if left < n then -1 else left - n
theorem szReign (s : ByteArray) (f t left : Int) (w : World) (hs : s.size ≤ maxLen) (h1 : 0 ≤ left) (h2 : left ≤ 1048576) : CR 61 #[.agg #[.string s, .int .i64 f, .int .i64 t], .int .i64 left] w (.int .i64 (szR s.size left)) := by
 unfold maxLen at hs
 unfold szR
 by_cases h : left < s.size
 · rw [if_pos h]
   go_enter Tryz.func61, Tryz.ntmps61
   go_wp2
   go_ret
   exact ⟨rfl, (Below.refl _ _).alloc (Nat.le_refl _) _⟩
 · rw [if_neg h]
   go_enter Tryz.func61, Tryz.ntmps61
   go_wp2
   go_ret
   exact ⟨rfl, (Below.refl _ _).alloc (Nat.le_refl _) _⟩
theorem toReign (s : ByteArray) (f t : Int) (w : World) : CR 72 #[.agg #[.string s, .int .i64 f, .int .i64 t]] w (.agg #[.string s, .int .i64 f, .int .i64 t]) := by
 go_enter Tryz.func72, Tryz.ntmps72
 go_wp2
 go_returns
 refine ⟨rfl, ?_⟩
 go_grown
theorem eqReign1 (s : ByteArray) (f t : Int) (w : World) : CR 78 #[.agg #[.string s, .int .i64 f, .int .i64 t], .agg #[.string s, .int .i64 f, .int .i64 t]] w (.bool true) := by
 go_enter Tryz.func78, Tryz.ntmps78
 go_wp2
 go_ret
 exact ⟨rfl, ((Below.refl _ _).alloc (Nat.le_refl _) _).alloc (by rw [World.size_alloc]; omega) _⟩
def SizeOk (l : List Rgn) : Prop := l.length ≤ 1048576 ∧ ∀ k, k < l.length → (rgA l k).name.size ≤ 1048576
theorem SizeOk.names {l : List Rgn} (h : SizeOk l) : ∀ k, k < l.length → (rgA l k).name.size ≤ maxLen := fun k hk => by
 have := h.2 k hk
 unfold maxLen
 omega
theorem len_ok {l : List Rgn} (h : SizeOk l) : l.length ≤ maxLen := by
 have := h.1
 unfold maxLen
 omega
theorem RIn.below {w w' : World} {a : Option Addr} {len cap : Nat} {l : List Rgn} (h : RIn w a len cap l) (hb : Below w.heap.size w w') : RIn w' a len cap l := by
 obtain ⟨h1, h2, h3, h4, h5⟩ := h
 refine ⟨h1, h2, h3, h4, ?_⟩
 rcases h5 with h5 | ⟨x, hx, h⟩
 · exact .inl h5
 · exact .inr ⟨x, hx, fun k hk => ⟨Later.at (h k hk).1 ⟨w', hb⟩, Later.at (h k hk).2.1 ⟨w', hb⟩, Later.at (h k hk).2.2 ⟨w', hb⟩⟩⟩
theorem add_off (x : Addr) (n j : Nat) (h : 0 < j) : x.add (n + j) = ⟨(x.add n).block, (x.add n).off + j, none⟩ := by
 unfold Addr.add
 rw [if_neg (by omega)]
 split
 · rename_i e
   subst e
   simp
 · simp only [Nat.add_assoc]
theorem RIn.at {w : World} {a : Option Addr} {len cap : Nat} {l : List Rgn} (h : RIn w a len cap l) {k : Nat} (hk : k < len) : ∃ x, a = some x ∧ ∀ y : Later w, y.w.cell? (x.add (k * 3)) = some (.string (rgA l k).name) ∧ y.w.cell? ⟨(x.add (k * 3)).block, (x.add (k * 3)).off + 1, none⟩ = some (.int .i64 (rgA l k).fr) ∧ y.w.cell? ⟨(x.add (k * 3)).block, (x.add (k * 3)).off + 2, none⟩ = some (.int .i64 (rgA l k).to) := by
 obtain ⟨_, _, _, _, ⟨_, h0⟩ | ⟨x, hx, h⟩⟩ := h
 · omega
 · obtain ⟨h1, h2, h3⟩ := h k hk
   rw [add_off x _ _ (by omega)] at h2 h3
   exact ⟨x, hx, fun y => ⟨Later.at h1 y, Later.at h2 y, Later.at h3 y⟩⟩
set_option maxHeartbeats 1000000 in
theorem szReignS (a : Option Addr) (len cap : Nat) (l : List Rgn) (w : World) (h : RIn w a len cap l) : Calls Tryz.prog 35 #[.slice a len cap, .int .i64 1048576] w fun e w' => ∃ z : Int, e = .returned (.int .i64 z) ∧ (z = -1 ∨ (0 ≤ z ∧ SizeOk l)) ∧ Below w.heap.size w w' := by
 have hcap := h.2.2.1
 have hlc := h.2.1
 have hn := hideP h.2.2.2.1
 have hL := hideP h.1
 have H := hideP h
 unfold maxLen at hcap
 clear h
 by_cases hbig : (1048576 : Int) < len
 · go_enter Tryz.func35, Tryz.ntmps35
   go_wp2
   go_ret
   exact ⟨_, rfl, .inl rfl, Below.refl _ _⟩
 go_enter Tryz.func35, Tryz.ntmps35
 go_wp2
 go_loopw [1, 5] (fun z i wr => ∃ (k : Nat) (q : Int), k ≤ len ∧ i = .int .i64 (k : Int) ∧ z = .int .i64 q ∧ 0 ≤ q ∧ q ≤ 1048576 ∧ Hid (∀ j, j < k → (rgA l j).name.size ≤ 1048576) ∧ Below w.heap.size w wr) (fun _ i _ => len - (intOf i).toNat)
 case atStart => exact ⟨0, 1048576 - (len : Int), Nat.zero_le _, rfl, by go_num, by omega, by omega, fun j hj => by omega, Below.refl _ _⟩
 case round =>
  obtain ⟨k, q, hk, rfl, rfl, q1, q2, HS, hB⟩ := hrel
  have HB := hideP hB
  clear hB
  by_cases hlt : k < len
  · obtain ⟨x, rfl, hx⟩ := H.out.at hlt
    obtain ⟨c0, c1, c2⟩ := hx ⟨wr, HB.out⟩
    have hnk := hn.out k hlt
    dsimp only at c0 c1 c2
    have HN := hideP (show szR (rgA l k).name.size q = -1 ∨ (0 ≤ szR (rgA l k).name.size q ∧ szR (rgA l k).name.size q ≤ 1048576 ∧ (rgA l k).name.size ≤ 1048576) by unfold szR; split <;> omega)
    have HK : Hid (∀ W, CR 61 #[.agg #[.string (rgA l k).name, .int .i64 (rgA l k).fr, .int .i64 (rgA l k).to], .int .i64 q] W (.int .i64 (szR (rgA l k).name.size q))) := fun W => szReign _ _ _ _ W hnk q1 q2
    have HJ : Hid ((rgA l k).name.size ≤ 1048576 → ∀ j, j < k + 1 → (rgA l j).name.size ≤ 1048576) := fun g j hj => by
     by_cases e : j = k
     · subst e; exact g
     · exact HS.out j (by omega)
    clear hx hnk
    generalize szR (rgA l k).name.size q = z at *
    generalize rgA l k = r at *
    go_wp2_with fail
    refine (HK.out _).mono ?_
    rintro e w1 ⟨rfl, hb⟩
    have HB1 : Hid (Below w.heap.size w w1) := HB.out.trans (hb.mono HB.out.size)
    clear hb c0 c1 c2
    rcases HN.out with rfl | ⟨z1, z2, z3⟩
    · go_wp2
      go_ret
      exact ⟨_, rfl, .inl rfl, HB1.out⟩
    · go_wp2
      exact ⟨⟨k + 1, z, by omega, by go_num, rfl, z1, z2, HJ.out z3, HB1.out⟩, by simp [intOf]; omega⟩
  · go_wp2
    go_ret
    exact ⟨_, rfl, .inr ⟨q1, by rw [hL.out]; omega, by rw [hL.out]; exact fun j hj => HS.out j (by omega)⟩, HB.out⟩
def rPart (l : List Rgn) (k : Nat) (cs : Array Value) : Prop := cs.size = l.length * 3 ∧ ∀ j, j < k * 3 → cs[j]? = (rA l)[j]?
theorem rPart_next {l : List Rgn} {k : Nat} {cs : Array Value} (h : rPart l k cs) (hk : k < l.length) :
    rPart l (k + 1) (((cs.setIfInBounds (k * 3) (.string (rgA l k).name)).setIfInBounds (k * 3 + 1) (.int .i64 (rgA l k).fr)).setIfInBounds (k * 3 + 2) (.int .i64 (rgA l k).to)) := by
  obtain ⟨h1, h2⟩ := h
  refine ⟨by simp [h1], fun j hj => ?_⟩
  by_cases e2 : j = k * 3 + 2
  · subst e2
    rw [rA_at 2 hk rfl, Array.getElem?_setIfInBounds_self_of_lt (by simp; omega)]
  · rw [Array.getElem?_setIfInBounds_ne (by omega)]
    by_cases e1 : j = k * 3 + 1
    · subst e1
      rw [rA_at 1 hk rfl, Array.getElem?_setIfInBounds_self_of_lt (by simp; omega)]
    · rw [Array.getElem?_setIfInBounds_ne (by omega)]
      by_cases e0 : j = k * 3
      · subst e0
        have := rA_at (l := l) (k := k) 0 hk rfl
        rw [Nat.add_zero] at this
        rw [this, Array.getElem?_setIfInBounds_self_of_lt (by omega)]
      · rw [Array.getElem?_setIfInBounds_ne (by omega)]
        exact h2 j (by omega)
theorem rPart_all {l : List Rgn} {cs : Array Value} (h : rPart l l.length cs) : cs = rA l := by
 apply Array.ext_getElem?
 intro j
 by_cases hj : j < l.length * 3
 · exact h.2 j hj
 · rw [Array.getElem?_eq_none (by rw [h.1]; omega), Array.getElem?_eq_none (by rw [rA_size]; omega)]
theorem info_rgn : (Tryz.prog.info? 116).map (fun i => (i.zero, i.size, i.bytes)) = some (some (.agg #[.string ⟨#[]⟩, .int .i64 0, .int .i64 0]), 3, 32) := by kernel_rfl
def rzero : Array Value := #[.string ⟨#[]⟩, .int .i64 0, .int .i64 0]
theorem make_rgns (n : Nat) (hn : n ≤ 1048576) (W : World) : (Instr.makeSlice 36 (.int .i64 (n : Int)) (.int .i64 (n : Int))).run Tryz.prog W = .ok (.slice (some ⟨W.heap.size, 0, none⟩) n n) (W.alloc (.cells (madeCells rzero (n * 3)) 116)) := by
 obtain ⟨i0, hi, e⟩ := Option.map_eq_some_iff.1 info_rgn
 simp only [Prod.mk.injEq] at e
 obtain ⟨hz, hs, hb⟩ := e
 have h := run_make (P := Tryz.prog) W 36 116 i0 _ Tryz.underlying36 hi hz .i64 .i64 (n : Int) (n : Int) (by omega) (by omega) (by rw [hb]; omega) (by omega)
 rw [hs] at h
 simp only [Int.toNat_natCast] at h
 exact h
set_option maxHeartbeats 1000000 in
theorem toReignS (a : Option Addr) (len cap : Nat) (l : List Rgn) (w : World) (h : RIn w a len cap l) (hs : SizeOk l) : Calls Tryz.prog 39 #[.slice a len cap] w fun e w' => ∃ v, e = .returned v ∧ RNew w w' v l ∧ Below w.heap.size w w' := by
 have hlen := h.1
 have hl : len ≤ 1048576 := by rw [← hlen]; exact hs.1
 have H := hideP h
 have HL := hideP hlen
 have hmk := make_rgns len hl
 have hpart : Hid (rPart l 0 (madeCells rzero (len * 3))) := ⟨by rw [size_madeCells, hlen], fun j hj => by omega⟩
 clear h hs hlen
 go_enter Tryz.func39, Tryz.ntmps39
 go_wp2
 go_loopw [4] (fun i wr => ∃ (k : Nat) (cs : Array Value), k ≤ len ∧ i = .int .i64 (k : Int) ∧ rPart l k cs ∧ Blk wr w.heap.size cs 116 ∧ Below w.heap.size w wr) (fun i _ => len - (intOf i).toNat)
 case atStart => exact ⟨0, _, Nat.zero_le _, rfl, hpart.out, Blk.new w _ _, (Below.refl _ _).alloc (Nat.le_refl _) _⟩
 case round =>
  obtain ⟨k, cs, hk, rfl, hp, hb, hB⟩ := hrel
  have HB := hideP hB
  have HP := hideP hp
  have HK := hideP hb
  clear hB hp hb
  by_cases hlt : k < len
  · obtain ⟨x, rfl, hx⟩ := H.out.at hlt
    obtain ⟨c0, c1, c2⟩ := hx ⟨wr, HB.out⟩
    dsimp only at c0 c1 c2
    have HN := hideP (rPart_next HP.out (by rw [HL.out]; exact hlt))
    clear hx
    generalize rgA l k = r at *
    go_wp2_with fail
    refine (toReign _ _ _ _).mono ?_
    rintro e w1 ⟨rfl, hb⟩
    have HB1 : Hid (Below w.heap.size w w1) := HB.out.trans (hb.mono HB.out.size)
    have HK1 := HK.out.below hb HK.out.lt
    clear hb c0 c1 c2 hmk
    have hsz : cs.size = len * 3 := by rw [HP.out.1, HL.out]
    have d0 := HK1.cell (k * 3) (v := cs[k * 3]'(by omega)) (by simp)
    have d1 := HK1.cell (k * 3 + 1) (v := cs[k * 3 + 1]'(by omega)) (by simp)
    have d2 := HK1.cell (k * 3 + 2) (v := cs[k * 3 + 2]'(by omega)) (by simp)
    have t0 := HK1.thaw (k * 3)
    have t1 := HK1.thaw (k * 3 + 1)
    have t2 := HK1.thaw (k * 3 + 2)
    have HS := hideP HK1
    generalize cs[k * 3]'(by omega) = v0 at d0
    generalize cs[k * 3 + 1]'(by omega) = v1 at d1
    generalize cs[k * 3 + 2]'(by omega) = v2 at d2
    clear HK1 hsz
    go_wp2
    exact ⟨⟨k + 1, _, by omega, by go_num, HN.out, ((HS.out.set _ _).set _ _).set _ _, below_store (below_store (below_store HB1.out _ (Nat.le_refl _)) _ (Nat.le_refl _)) _ (Nat.le_refl _)⟩, by simp [intOf]; omega⟩
  · have hkn : k = l.length := by rw [HL.out]; omega
    have HP' := HP.out
    rw [hkn] at HP'
    have hcs := rPart_all HP'
    have HC := hideP hcs
    clear hcs HP' hkn
    go_wp2
    go_ret
    exact ⟨.slice (some ⟨w.heap.size, 0, none⟩) len len, rfl, ⟨w.heap.size, 116, by rw [HL.out], Nat.le_refl _, by rw [← HC.out]; exact HK.out⟩, HB.out⟩
set_option maxHeartbeats 1000000 in
theorem eqReignS (v1 v2 : Value) (l : List Rgn) (w : World) (h1 : RRow w v1 l) (h2 : RRow w v2 l) : CR 44 #[v1, v2] w (.bool true) := by
 obtain ⟨a1, c1, rfl, l1, m1, _, H1⟩ := h1
 obtain ⟨a2, c2, rfl, _, _, _, H2⟩ := h2
 have K1 := hideP H1
 have K2 := hideP H2
 unfold maxLen at m1
 clear H1 H2
 go_enter Tryz.func44, Tryz.ntmps44
 go_wp2
 go_loopw [5] (fun i wr => ∃ k : Nat, k ≤ l.length ∧ i = .int .i64 (k : Int) ∧ Below w.heap.size w wr) (fun i _ => l.length - (intOf i).toNat)
 case atStart => exact ⟨0, Nat.zero_le _, rfl, Below.refl _ _⟩
 case round =>
  obtain ⟨k, hk, rfl, hB⟩ := hrel
  have HB := hideP hB
  clear hB
  by_cases hlt : k < l.length
  · obtain ⟨g1, rfl, hg1, x1⟩ := K1.out k hlt
    obtain ⟨g2, rfl, hg2, x2⟩ := K2.out k hlt
    obtain ⟨a0, a1, a2⟩ := x1.below HB.out hg1
    obtain ⟨b0, b1, b2⟩ := x2.below HB.out hg2
    clear x1 x2
    generalize rgA l k = r at *
    go_wp2
    go_region_with (go_at_call 78; refine (eqReign1 _ _ _ _).mono ?_; rintro e w2 ⟨rfl, hb2⟩; have HB2 : Hid (Below w.heap.size w w2) := HB.out.trans ⟨hb2.os, hb2.tape, hb2.output, Nat.le_trans (Nat.le_refl _) hb2.size, fun j hj => hb2.block j (Nat.lt_of_lt_of_le hj HB.out.size)⟩; clear hb2)
    all_goals go_wp2
    all_goals exact ⟨⟨k + 1, by omega, by go_num, HB2.out⟩, by simp [intOf]; omega⟩
  · go_wp2
    go_ret
    exact ⟨rfl, HB.out⟩
theorem specYearOk (c y : Int) (w : World) : Calls Tryz.prog 134 #[.int .i64 c, .int .i64 y] w fun e w' => e = .returned (.bool (yearB c y)) ∧ w' = w := by
 by_cases hc : c = 0 ∨ c = 1
 · have hC : calB c = true := calB_iff.2 hc
   rw [yearB_cal hc]
   clear hc
   cases hI : inB y 1 3000
   all_goals
    go_enter Tryz.func134, Tryz.ntmps134
    go_wp2_with fail
    refine (specCal _ _).mono ?_
    rintro e w1 ⟨rfl, rfl⟩
    rw [hC]
    go_wp2_with fail
    refine (l01In _ _ _ _).mono ?_
    rintro e w1 ⟨rfl, rfl⟩
    rw [hI]
    go_wp2
    go_ret
    exact ⟨rfl, rfl⟩
 · have hC : calB c = false := calB_no hc
   rw [yearB_no hc]
   clear hc
   go_enter Tryz.func134, Tryz.ntmps134
   go_wp2_with fail
   refine (specCal _ _).mono ?_
   rintro e w1 ⟨rfl, rfl⟩
   rw [hC]
   go_wp2
   go_ret
   exact ⟨rfl, rfl⟩
theorem specJulian (y : Int) (w : World) (h1 : 1 ≤ y) (h2 : y ≤ 4000) : Calls Tryz.prog 222 #[.int .i64 y] w fun e w' => e = .returned (.int .i64 (sumJ y)) ∧ w' = w := by
 obtain ⟨R, hR⟩ : ∃ R, R = sumJ y := ⟨_, rfl⟩
 rw [← hR]
 have HR := hideP hR
 clear hR
 have hd := dJ_b y
 unfold sumJ at HR
 go_enter Tryz.func222, Tryz.ntmps222
 go_wp2
 go_ret
 exact ⟨ret_int (by rw [HR.out]; unfold dJ; omega), rfl⟩
theorem specGregorian (y : Int) (w : World) (h1 : 1 ≤ y) (h2 : y ≤ 4000) : Calls Tryz.prog 221 #[.int .i64 y] w fun e w' => e = .returned (.int .i64 (sumG y)) ∧ w' = w := by
 obtain ⟨R, hR⟩ : ∃ R, R = sumG y := ⟨_, rfl⟩
 rw [← hR]
 have HR := hideP hR
 clear hR
 go_enter Tryz.func221, Tryz.ntmps221
 go_wp2
 go_ret
 exact ⟨ret_int (by rw [HR.out]; unfold sumG mG lG hG gG; rw [show y % 100 % 4 = y % 4 by omega]), rfl⟩
theorem easter_day {c y : Int} (h : yearP c y) : easter c y = first c y + before c y (sumE c y / 31 - 1).toNat + (sumE c y % 31 + 1) - 1 := by
 unfold easter dayOf
 rw [if_pos h, if_pos (sum_month h)]
set_option maxHeartbeats 1000000 in
theorem specL03 (c y : Int) (w : World) (hc : c = 0 ∨ c = 1) (hy1 : 1 ≤ y) (hy2 : y ≤ 4000) : CR 173 #[.int .i64 c, .int .i64 y] w (.int .i64 (easL c y)) := by
 have k := easter_fact_at hc hy1 hy2
 have KJ : ∀ W, Calls Tryz.prog 222 #[.int .i64 y] W fun e w' => e = .returned (.int .i64 (sumJ y)) ∧ w' = W := fun W => specJulian y W hy1 hy2
 have KG : ∀ W, Calls Tryz.prog 221 #[.int .i64 y] W fun e w' => e = .returned (.int .i64 (sumG y)) ∧ w' = W := fun W => specGregorian y W hy1 hy2
 have KD : ∀ W, CR 161 #[.int .i64 c, .int .i64 y, .int .i64 (sumE c y / 31), .int .i64 (sumE c y % 31 + 1)] W (.int .i64 (easL c y)) := fun W => by
  exact specDay c y _ _ W hc (by omega) (by omega) (by omega) (by omega) (by omega)
 have k1 := k.1
 have k2 := k.2.1
 clear k
 generalize easL c y = R at *
 rcases hc with rfl | rfl
 · rw [show sumE 0 y = sumJ y from by unfold sumE; rw [if_pos rfl]] at *
   generalize sumJ y = s at *
   generalize sumG y = s' at *
   go_enter Tryz.func173, Tryz.ntmps173
   go_wp2_with fail
   refine (KG _).mono ?_
   rintro e w1 ⟨rfl, rfl⟩
   go_wp2_with fail
   refine (KJ _).mono ?_
   rintro e w1 ⟨rfl, rfl⟩
   go_wp2_with fail
   refine (KD _).mono ?_
   rintro e w1 ⟨rfl, hb⟩
   go_wp2
   go_ret
   exact ⟨rfl, hb⟩
 · rw [show sumE 1 y = sumG y from by unfold sumE; rw [if_neg (by omega)]] at *
   generalize sumG y = s at *
   go_enter Tryz.func173, Tryz.ntmps173
   go_wp2_with fail
   refine (KG _).mono ?_
   rintro e w1 ⟨rfl, rfl⟩
   go_wp2_with fail
   refine (KD _).mono ?_
   rintro e w1 ⟨rfl, hb⟩
   go_wp2
   go_ret
   exact ⟨rfl, hb⟩
theorem specL03Easter (c y : Int) (w : World) (h : yearP c y) : CR 173 #[.int .i64 c, .int .i64 y] w (.int .i64 (easter c y)) := by
 rw [show easter c y = easL c y from easter_day h]
 exact specL03 c y w h.1 h.2.1 (by have := h.2.2; omega)
theorem specEaster (c y : Int) (w : World) : CR 160 #[.int .i64 c, .int .i64 y] w (.int .i64 (easter c y)) := by
 have KY : ∀ W, Calls Tryz.prog 134 #[.int .i64 c, .int .i64 y] W fun e w' => e = .returned (.bool (yearB c y)) ∧ w' = W := specYearOk c y
 by_cases h : yearP c y
 · rw [yearB_true h] at KY
   have KE : ∀ W, CR 173 #[.int .i64 c, .int .i64 y] W (.int .i64 (easter c y)) := fun W => specL03Easter c y W h
   clear h
   generalize easter c y = R at *
   go_enter Tryz.func160, Tryz.ntmps160
   go_wp2_with fail
   refine (KY _).mono ?_
   rintro e w1 ⟨rfl, rfl⟩
   go_wp2_with fail
   refine (KE _).mono ?_
   rintro e w1 ⟨rfl, hb⟩
   go_wp2
   go_ret
   exact ⟨rfl, hb⟩
 · rw [yearB_false h] at KY
   have HR : Hid (easter c y = 0) := by unfold Hid easter; rw [if_neg h]
   clear h
   go_enter Tryz.func160, Tryz.ntmps160
   go_wp2_with fail
   refine (KY _).mono ?_
   rintro e w1 ⟨rfl, rfl⟩
   go_wp2
   go_ret
   exact ⟨ret_int HR.out.symm, Below.refl _ _⟩
theorem implYearOk (c y : Int) (w : World) (hT : Tab w) : CR 276 #[.int .i64 c, .int .i64 y] w (.bool (yearB c y)) := by
 have K : CR 163 #[.agg #[.int .i64 c, .int .i64 y, .int .i64 1, .int .i64 1]] w (.bool (yearB c y)) := by
  rw [← dateOk_year]
  exact implDateOk c y 1 1 w hT
 clear hT
 generalize yearB c y = b at *
 go_enter Tryz.func276, Tryz.ntmps276
 go_wp2_with fail
 refine K.mono ?_
 rintro e w1 ⟨rfl, hb⟩
 go_wp2
 go_ret
 exact ⟨rfl, hb⟩
theorem julSum (y : Int) (w : World) (h1 : 1 ≤ y) (h2 : y ≤ 4000) : CR 336 #[.agg #[], .int .i64 y] w (.int .i64 (sumJ y)) := by
 obtain ⟨R, hR⟩ : ∃ R, R = sumJ y := ⟨_, rfl⟩
 rw [← hR]
 have HR := hideP hR
 clear hR
 unfold sumJ at HR
 go_enter Tryz.func336, Tryz.ntmps336
 go_wp2
 go_ret
 exact ⟨ret_int (by rw [HR.out]; unfold dJ; omega), (Below.refl _ _).alloc (Nat.le_refl _) _⟩
theorem greSum (y : Int) (w : World) (h1 : 1 ≤ y) (h2 : y ≤ 4000) : CR 338 #[.agg #[], .int .i64 y] w (.int .i64 (sumG y)) := by
 obtain ⟨R, hR⟩ : ∃ R, R = sumG y := ⟨_, rfl⟩
 rw [← hR]
 have HR := hideP hR
 clear hR
 go_enter Tryz.func338, Tryz.ntmps338
 go_wp2
 go_ret
 exact ⟨ret_int (by rw [HR.out]; unfold sumG mG lG hG gG; rw [show y % 100 % 4 = y % 4 by omega]), (Below.refl _ _).alloc (Nat.le_refl _) _⟩
set_option maxHeartbeats 1000000 in
theorem julDate (y : Int) (w : World) (h1 : 1 ≤ y) (h2 : y ≤ 4000) : CR 280 #[.agg #[], .int .i64 0, .int .i64 y] w (.agg #[.int .i64 0, .int .i64 y, .int .i64 (sumE 0 y / 31), .int .i64 (sumE 0 y % 31 + 1)]) := by
 have k := easter_fact_at (c := 0) (y := y) (by omega) h1 h2
 have KS : ∀ W, CR 336 #[.agg #[], .int .i64 y] W (.int .i64 (sumE 0 y)) := fun W => by
  rw [show sumE 0 y = sumJ y from by unfold sumE; first | rw [if_pos rfl] | rw [if_neg (by omega)]]
  exact julSum y W h1 h2
 have k1 := k.1
 have k2 := k.2.1
 clear k h1 h2
 generalize sumE 0 y = s at *
 obtain ⟨W0, hW0⟩ : ∃ W0, W0 = (w.alloc (.cells #[] 175)).alloc (.cells #[.int .i64 0, .int .i64 0, .int .i64 0, .int .i64 0] 99) := ⟨_, rfl⟩
 have hB0 : ∀ x : Later W0, Blk x.w (w.heap.size + 1) #[.int .i64 0, .int .i64 0, .int .i64 0, .int .i64 0] 99 := fun x => (by rw [hW0]; simpa using Blk.new (w.alloc (.cells #[] 175)) #[.int .i64 0, .int .i64 0, .int .i64 0, .int .i64 0] 99 : Blk W0 (w.heap.size + 1) #[.int .i64 0, .int .i64 0, .int .i64 0, .int .i64 0] 99).later x
 have hBw : Below w.heap.size w W0 := by rw [hW0]; exact ((Below.refl _ _).alloc (Nat.le_refl _) _).alloc (by simp) _
 have HB0 := hideP hB0
 have HBw := hideP hBw
 have HW0 := hideP hW0
 clear hB0 hBw hW0
 go_enter Tryz.func280, Tryz.ntmps280
 go_wp2_with fail
 rw [← HW0.out]
 refine latO (KS _) fun x1 => ?_
 have b0 : x1.w.cell? ⟨w.heap.size + 1, 0, none⟩ = some (.int .i64 0) := (HB0.out x1).cell 0 rfl
 have b1 : x1.w.cell? ⟨w.heap.size + 1, 1, none⟩ = some (.int .i64 0) := (HB0.out x1).cell 1 rfl
 have b2 : x1.w.cell? ⟨w.heap.size + 1, 2, none⟩ = some (.int .i64 0) := (HB0.out x1).cell 2 rfl
 have b3 : x1.w.cell? ⟨w.heap.size + 1, 3, none⟩ = some (.int .i64 0) := (HB0.out x1).cell 3 rfl
 have f0 := (HB0.out x1).thaw 0
 have f1 := (HB0.out x1).thaw 1
 have f2 := (HB0.out x1).thaw 2
 have f3 := (HB0.out x1).thaw 3
 go_wp2_with fail
 obtain ⟨W9, e9⟩ : ∃ W9, W9 = (((x1.w.setCell ⟨w.heap.size + 1, 0, none⟩ (.int .i64 0)).setCell ⟨w.heap.size + 1, 1, none⟩ (.int .i64 y)).setCell ⟨w.heap.size + 1, 2, none⟩ (.int .i64 (s / 31))).setCell ⟨w.heap.size + 1, 3, none⟩ (.int .i64 (s % 31 + 1)) := ⟨_, rfl⟩
 have Z9 : Blk W9 (w.heap.size + 1) #[.int .i64 0, .int .i64 y, .int .i64 (s / 31), .int .i64 (s % 31 + 1)] 99 := by rw [e9]; exact ((((HB0.out x1).set 0 _).set 1 _).set 2 _).set 3 _
 have B9 : Below w.heap.size w W9 := by rw [e9]; exact below_store (below_store (below_store (below_store (HBw.out.trans (x1.below.mono HBw.out.size)) _ (by omega)) _ (by omega)) _ (by omega)) _ (by omega)
 rw [← e9]
 clear e9
 have z0 : W9.cell? ⟨w.heap.size + 1, 0, none⟩ = some (.int .i64 0) := Z9.cell 0 rfl
 have z1 : W9.cell? ⟨w.heap.size + 1, 1, none⟩ = some (.int .i64 y) := Z9.cell 1 rfl
 have z2 : W9.cell? ⟨w.heap.size + 1, 2, none⟩ = some (.int .i64 (s / 31)) := Z9.cell 2 rfl
 have z3 : W9.cell? ⟨w.heap.size + 1, 3, none⟩ = some (.int .i64 (s % 31 + 1)) := Z9.cell 3 rfl
 exact bodyPost_ret (by simp [results, Tryz.results280, go_sem, z0, z1, z2, z3]; try rfl) rfl ⟨rfl, B9⟩
set_option maxHeartbeats 1000000 in
theorem greDate (y : Int) (w : World) (h1 : 1 ≤ y) (h2 : y ≤ 4000) : CR 281 #[.agg #[], .int .i64 1, .int .i64 y] w (.agg #[.int .i64 1, .int .i64 y, .int .i64 (sumE 1 y / 31), .int .i64 (sumE 1 y % 31 + 1)]) := by
 have k := easter_fact_at (c := 1) (y := y) (by omega) h1 h2
 have KS : ∀ W, CR 338 #[.agg #[], .int .i64 y] W (.int .i64 (sumE 1 y)) := fun W => by
  rw [show sumE 1 y = sumG y from by unfold sumE; first | rw [if_pos rfl] | rw [if_neg (by omega)]]
  exact greSum y W h1 h2
 have k1 := k.1
 have k2 := k.2.1
 clear k h1 h2
 generalize sumE 1 y = s at *
 obtain ⟨W0, hW0⟩ : ∃ W0, W0 = (w.alloc (.cells #[] 176)).alloc (.cells #[.int .i64 0, .int .i64 0, .int .i64 0, .int .i64 0] 99) := ⟨_, rfl⟩
 have hB0 : ∀ x : Later W0, Blk x.w (w.heap.size + 1) #[.int .i64 0, .int .i64 0, .int .i64 0, .int .i64 0] 99 := fun x => (by rw [hW0]; simpa using Blk.new (w.alloc (.cells #[] 176)) #[.int .i64 0, .int .i64 0, .int .i64 0, .int .i64 0] 99 : Blk W0 (w.heap.size + 1) #[.int .i64 0, .int .i64 0, .int .i64 0, .int .i64 0] 99).later x
 have hBw : Below w.heap.size w W0 := by rw [hW0]; exact ((Below.refl _ _).alloc (Nat.le_refl _) _).alloc (by simp) _
 have HB0 := hideP hB0
 have HBw := hideP hBw
 have HW0 := hideP hW0
 clear hB0 hBw hW0
 go_enter Tryz.func281, Tryz.ntmps281
 go_wp2_with fail
 rw [← HW0.out]
 refine latO (KS _) fun x1 => ?_
 have b0 : x1.w.cell? ⟨w.heap.size + 1, 0, none⟩ = some (.int .i64 0) := (HB0.out x1).cell 0 rfl
 have b1 : x1.w.cell? ⟨w.heap.size + 1, 1, none⟩ = some (.int .i64 0) := (HB0.out x1).cell 1 rfl
 have b2 : x1.w.cell? ⟨w.heap.size + 1, 2, none⟩ = some (.int .i64 0) := (HB0.out x1).cell 2 rfl
 have b3 : x1.w.cell? ⟨w.heap.size + 1, 3, none⟩ = some (.int .i64 0) := (HB0.out x1).cell 3 rfl
 have f0 := (HB0.out x1).thaw 0
 have f1 := (HB0.out x1).thaw 1
 have f2 := (HB0.out x1).thaw 2
 have f3 := (HB0.out x1).thaw 3
 go_wp2_with fail
 obtain ⟨W9, e9⟩ : ∃ W9, W9 = (((x1.w.setCell ⟨w.heap.size + 1, 0, none⟩ (.int .i64 1)).setCell ⟨w.heap.size + 1, 1, none⟩ (.int .i64 y)).setCell ⟨w.heap.size + 1, 2, none⟩ (.int .i64 (s / 31))).setCell ⟨w.heap.size + 1, 3, none⟩ (.int .i64 (s % 31 + 1)) := ⟨_, rfl⟩
 have Z9 : Blk W9 (w.heap.size + 1) #[.int .i64 1, .int .i64 y, .int .i64 (s / 31), .int .i64 (s % 31 + 1)] 99 := by rw [e9]; exact ((((HB0.out x1).set 0 _).set 1 _).set 2 _).set 3 _
 have B9 : Below w.heap.size w W9 := by rw [e9]; exact below_store (below_store (below_store (below_store (HBw.out.trans (x1.below.mono HBw.out.size)) _ (by omega)) _ (by omega)) _ (by omega)) _ (by omega)
 rw [← e9]
 clear e9
 have z0 : W9.cell? ⟨w.heap.size + 1, 0, none⟩ = some (.int .i64 1) := Z9.cell 0 rfl
 have z1 : W9.cell? ⟨w.heap.size + 1, 1, none⟩ = some (.int .i64 y) := Z9.cell 1 rfl
 have z2 : W9.cell? ⟨w.heap.size + 1, 2, none⟩ = some (.int .i64 (s / 31)) := Z9.cell 2 rfl
 have z3 : W9.cell? ⟨w.heap.size + 1, 3, none⟩ = some (.int .i64 (s % 31 + 1)) := Z9.cell 3 rfl
 exact bodyPost_ret (by simp [results, Tryz.results281, go_sem, z0, z1, z2, z3]; try rfl) rfl ⟨rfl, B9⟩
set_option maxHeartbeats 1000000 in
theorem implLineEaster (c y : Int) (w : World) (hT : Tab w) (hc : c = 0 ∨ c = 1) (hy1 : 1 ≤ y) (hy2 : y ≤ 4000) : CR 260 #[.int .i64 c, .int .i64 y] w (.int .i64 (easL c y)) := by
 have k := easter_fact_at hc hy1 hy2
 have KD : ∀ x : Later w, CR 216 #[.agg #[.int .i64 c, .int .i64 y, .int .i64 (sumE c y / 31), .int .i64 (sumE c y % 31 + 1)]] x.w (.int .i64 (easL c y)) := fun x =>
  implLine c y (sumE c y / 31) (sumE c y % 31 + 1) x.w (hT.later x.below) hc (by omega) (by omega) (by omega) (by omega) (by omega) (by omega)
 clear hT k
 rcases hc with rfl | rfl
 · have KE : ∀ W, CR 280 #[.agg #[], .int .i64 0, .int .i64 y] W (.agg #[.int .i64 0, .int .i64 y, .int .i64 (sumE 0 y / 31), .int .i64 (sumE 0 y % 31 + 1)]) := fun W => julDate y W hy1 hy2
   generalize sumE 0 y / 31 = m at *
   generalize sumE 0 y % 31 + 1 = d at *
   generalize easL 0 y = R at *
   go_enter Tryz.func260, Tryz.ntmps260
   go_wp2_with fail
   refine latO (KE _) fun x2 => ?_
   go_wp2_with fail
   refine lat (KD x2) fun x3 => ?_
   go_wp2
   go_ret
   exact ⟨rfl, x3.below⟩
 · have KE : ∀ W, CR 281 #[.agg #[], .int .i64 1, .int .i64 y] W (.agg #[.int .i64 1, .int .i64 y, .int .i64 (sumE 1 y / 31), .int .i64 (sumE 1 y % 31 + 1)]) := fun W => greDate y W hy1 hy2
   generalize sumE 1 y / 31 = m at *
   generalize sumE 1 y % 31 + 1 = d at *
   generalize easL 1 y = R at *
   go_enter Tryz.func260, Tryz.ntmps260
   go_wp2_with fail
   refine latO (KE _) fun x2 => ?_
   go_wp2_with fail
   refine lat (KD x2) fun x3 => ?_
   go_wp2
   go_ret
   exact ⟨rfl, x3.below⟩
theorem implEaster (c y : Int) (w : World) (hT : Tab w) : CR 297 #[.int .i64 c, .int .i64 y] w (.int .i64 (easter c y)) := by
 have KT : ∀ x : Later w, Tab x.w := fun x => hT.later x.below
 have KY := implYearOk c y w hT
 by_cases h : yearP c y
 · rw [yearB_true h] at KY
   have KE : ∀ x : Later w, CR 260 #[.int .i64 c, .int .i64 y] x.w (.int .i64 (easter c y)) := fun x => by
    rw [show easter c y = easL c y from easter_day h]
    exact implLineEaster c y x.w (KT x) h.1 h.2.1 (by have := h.2.2; omega)
   clear h hT KT
   generalize easter c y = R at *
   go_enter Tryz.func297, Tryz.ntmps297
   go_wp2_with fail
   refine latO KY fun x1 => ?_
   go_wp2_with fail
   refine lat (KE x1) fun x3 => ?_
   go_wp2
   go_ret
   exact ⟨rfl, x3.below⟩
 · rw [yearB_false h] at KY
   have HR : Hid (easter c y = 0) := by unfold Hid easter; rw [if_neg h]
   clear h hT KT
   go_enter Tryz.func297, Tryz.ntmps297
   go_wp2_with fail
   refine KY.mono ?_
   rintro e w1 ⟨rfl, hb⟩
   go_wp2
   go_ret
   exact ⟨ret_int HR.out.symm, hb⟩
theorem fea_box (w : World) (s : ByteArray) (mv : Bool) (o m d : Int) (t : TypeId) : ∃ W0, W0 = w.alloc (.cells #[.string s, .bool mv, .int .i64 o, .int .i64 m, .int .i64 d] t) ∧ (∀ x : Later W0, x.w.cell? ⟨w.heap.size, 0, none⟩ = some (.string s)) ∧ (∀ x : Later W0, x.w.cell? ⟨w.heap.size, 1, none⟩ = some (.bool mv)) ∧ (∀ x : Later W0, x.w.cell? ⟨w.heap.size, 2, none⟩ = some (.int .i64 o)) ∧ (∀ x : Later W0, x.w.cell? ⟨w.heap.size, 3, none⟩ = some (.int .i64 m)) ∧ (∀ x : Later W0, x.w.cell? ⟨w.heap.size, 4, none⟩ = some (.int .i64 d)) ∧ ∀ x : Later W0, Below w.heap.size w x.w :=
 ⟨_, rfl, Later.new rfl 0 rfl, Later.new rfl 1 rfl, Later.new rfl 2 rfl, Later.new rfl 3 rfl, Later.new rfl 4 rfl, fun x => below_alloc x.below⟩
theorem later_same {W w' : World} (h : w' = W) : ∃ x : Later W, w' = x.w := ⟨⟨w', by rw [h]; exact Below.refl _ _⟩, rfl⟩
set_option maxHeartbeats 1000000 in
theorem specFeaOk (s : ByteArray) (mv : Bool) (o m d : Int) (w : World) (hs : s.size ≤ maxLen) : CR 159 #[.agg #[.string s, .bool mv, .int .i64 o, .int .i64 m, .int .i64 d]] w (.bool (feaOk s mv o m d)) := by
 have KN : ∀ W, Calls Tryz.prog 102 #[.string s] W fun e w' => e = .returned (.bool (nameOk s)) ∧ w' = W := fun W => specNameOk s W hs
 obtain ⟨W0, hW0, c0, c1, c2, c3, c4, hBl⟩ := fea_box w s mv o m d 107
 have HW0 := hideP hW0
 have HBl := hideP hBl
 clear hs hW0 hBl
 unfold feaOk
 generalize nameOk s = nb at *
 cases nb
 · rw [Bool.false_and]
   go_enter Tryz.func159, Tryz.ntmps159
   go_wp2_with fail
   rw [← HW0.out]
   refine (KN _).mono ?_
   rintro e w1 ⟨rfl, hw⟩
   obtain ⟨x1, rfl⟩ := later_same hw
   clear hw
   go_wp2
   go_ret
   exact ⟨rfl, HBl.out x1⟩
 rw [Bool.true_and]
 cases mv
 · rw [if_neg (by decide)]
   have KM : ∀ W, CR 114 #[.int .i64 1, .int .i64 1999, .int .i64 m] W (.int .i64 (monthDays 1 1999 m)) := specMonthDays 1 1999 m
   have KD : ∀ W, Calls Tryz.prog 45 #[.int .i64 d, .int .i64 1, .int .i64 (monthDays 1 1999 m)] W fun e w' => e = .returned (.bool (inB d 1 (monthDays 1 1999 m))) ∧ w' = W := l01In d 1 (monthDays 1 1999 m)
   generalize inB d 1 (monthDays 1 1999 m) = bd at *
   generalize monthDays 1 1999 m = md at *
   by_cases ho : o = 0
   · subst ho
     rw [decide_eq_true rfl, Bool.true_and]
     go_enter Tryz.func159, Tryz.ntmps159
     go_wp2_with fail
     rw [← HW0.out]
     refine (KN _).mono ?_
     rintro e w1 ⟨rfl, hw⟩
     obtain ⟨x1, rfl⟩ := later_same hw
     clear hw
     go_wp2_with fail
     refine wp_region_later (W := W0) x1.below (by kernel_rfl) (by kernel_rfl) ?_
     repeat (go_big_quiet_step (first | (go_at_call 45; exact calls_same (KD _)) | (go_at_call 114; exact calls_later (KM _))))
     refine wpQuiet_nil ?_
     intro _ hw'
     obtain ⟨x, rfl⟩ := hw'
     go_wp2
     go_ret
     exact ⟨rfl, HBl.out x⟩
   · have ho' : (o == 0) = false := by simp [ho]
     rw [decide_eq_false ho, Bool.false_and]
     clear KM KD
     go_enter Tryz.func159, Tryz.ntmps159
     go_wp2_with fail
     rw [← HW0.out]
     refine (KN _).mono ?_
     rintro e w1 ⟨rfl, hw⟩
     obtain ⟨x1, rfl⟩ := later_same hw
     clear hw
     go_wp2_with fail
     refine wp_region_later (W := W0) x1.below (by kernel_rfl) (by kernel_rfl) ?_
     repeat (go_big_quiet_step (fail))
     refine wpQuiet_nil ?_
     intro _ hw'
     obtain ⟨x, rfl⟩ := hw'
     go_wp2
     go_ret
     exact ⟨rfl, HBl.out x⟩
 · rw [if_pos rfl]
   have KO : ∀ W, Calls Tryz.prog 45 #[.int .i64 o, .int .i64 (-63), .int .i64 63] W fun e w' => e = .returned (.bool (inB o (-63) 63)) ∧ w' = W := l01In o (-63) 63
   generalize inB o (-63) 63 = bo at *
   cases bo
   · rw [Bool.false_and, Bool.false_and]
     go_enter Tryz.func159, Tryz.ntmps159
     go_wp2_with fail
     rw [← HW0.out]
     refine (KN _).mono ?_
     rintro e w1 ⟨rfl, hw⟩
     obtain ⟨x1, rfl⟩ := later_same hw
     clear hw
     go_wp2_with fail
     refine (KO _).mono ?_
     rintro e w1 ⟨rfl, rfl⟩
     go_wp2
     go_ret
     exact ⟨rfl, HBl.out x1⟩
   rw [Bool.true_and]
   by_cases hm : m = 0
   · subst hm
     rw [decide_eq_true rfl, Bool.true_and]
     have hd : decide (d = 0) = (d == 0) := by rw [Bool.eq_iff_iff]; simp
     rw [hd]
     go_enter Tryz.func159, Tryz.ntmps159
     go_wp2_with fail
     rw [← HW0.out]
     refine (KN _).mono ?_
     rintro e w1 ⟨rfl, hw⟩
     obtain ⟨x1, rfl⟩ := later_same hw
     clear hw
     go_wp2_with fail
     refine (KO _).mono ?_
     rintro e w1 ⟨rfl, rfl⟩
     go_wp2
     go_ret
     exact ⟨rfl, HBl.out x1⟩
   · have hm' : (m == 0) = false := by simp [hm]
     rw [decide_eq_false hm, Bool.false_and]
     go_enter Tryz.func159, Tryz.ntmps159
     go_wp2_with fail
     rw [← HW0.out]
     refine (KN _).mono ?_
     rintro e w1 ⟨rfl, hw⟩
     obtain ⟨x1, rfl⟩ := later_same hw
     clear hw
     go_wp2_with fail
     refine (KO _).mono ?_
     rintro e w1 ⟨rfl, rfl⟩
     go_wp2
     go_ret
     exact ⟨rfl, HBl.out x1⟩
theorem implFeaNamed (s : ByteArray) (mv : Bool) (o m d : Int) (w : World) (hs : s.size ≤ maxLen) : CR 310 #[.agg #[.string s, .bool mv, .int .i64 o, .int .i64 m, .int .i64 d]] w (.bool (nameOk s)) := by
 have KN : ∀ W, Calls Tryz.prog 106 #[.string s] W fun e w' => e = .returned (.bool (nameOk s)) ∧ w' = W := fun W => implNameOk s W hs
 clear hs
 go_enter Tryz.func310, Tryz.ntmps310
 go_wp2_with fail
 refine (KN _).mono ?_
 rintro e w1 ⟨rfl, rfl⟩
 go_wp2
 go_ret
 exact ⟨rfl, (Below.refl _ _).alloc (Nat.le_refl _) _⟩
theorem implDateIn (s : ByteArray) (mv : Bool) (o m d c y : Int) (w : World) : CR 298 #[.agg #[.string s, .bool mv, .int .i64 o, .int .i64 m, .int .i64 d], .int .i64 c, .int .i64 y] w (.agg #[.int .i64 c, .int .i64 y, .int .i64 m, .int .i64 d]) := by
 go_enter Tryz.func298, Tryz.ntmps298
 go_wp2
 go_returns
 refine ⟨rfl, ?_⟩
 go_grown
set_option maxHeartbeats 1000000 in
theorem implMovOk (s : ByteArray) (o m d : Int) (w : World) (hs : s.size ≤ maxLen) : CR 295 #[.agg #[.string s, .bool true, .int .i64 o, .int .i64 m, .int .i64 d]] w (.bool (feaOk s true o m d)) := by
 have KN : ∀ W, CR 310 #[.agg #[.string s, .bool true, .int .i64 o, .int .i64 m, .int .i64 d]] W (.bool (nameOk s)) := fun W => implFeaNamed s true o m d W hs
 obtain ⟨W0, hW0, c0, c1, c2, c3, c4, hBl⟩ := fea_box w s true o m d 236
 have HW0 := hideP hW0
 have HBl := hideP hBl
 clear hW0 hBl
 clear hs
 unfold feaOk
 rw [if_pos rfl]
 generalize nameOk s = nb at *
 cases nb
 · rw [Bool.false_and]
   go_enter Tryz.func295, Tryz.ntmps295
   go_wp2_with fail
   rw [← HW0.out]
   refine (KN _).mono ?_
   rintro e w1 ⟨rfl, hb⟩
   obtain ⟨x1, rfl⟩ := Later.of hb
   clear hb
   go_wp2
   go_ret
   exact ⟨rfl, HBl.out x1⟩
 rw [Bool.true_and]
 by_cases hm : m = 0
 case neg =>
  have hm' : (m == 0) = false := by simp [hm]
  have HR : Hid ((inB o (-63) 63 && decide (m = 0) && decide (d = 0)) = false) := by unfold Hid; rw [decide_eq_false hm, Bool.and_false, Bool.false_and]
  rw [HR.out]
  go_enter Tryz.func295, Tryz.ntmps295
  go_wp2_with fail
  rw [← HW0.out]
  refine (KN _).mono ?_
  rintro e w1 ⟨rfl, hb⟩
  obtain ⟨x1, rfl⟩ := Later.of hb
  clear hb
  go_wp2
  go_ret
  exact ⟨rfl, HBl.out x1⟩
 subst hm
 by_cases hd : d = 0
 case neg =>
  have hd' : (d == 0) = false := by simp [hd]
  have HR : Hid ((inB o (-63) 63 && decide ((0 : Int) = 0) && decide (d = 0)) = false) := by unfold Hid; rw [decide_eq_false hd, Bool.and_false]
  rw [HR.out]
  go_enter Tryz.func295, Tryz.ntmps295
  go_wp2_with fail
  rw [← HW0.out]
  refine (KN _).mono ?_
  rintro e w1 ⟨rfl, hb⟩
  obtain ⟨x1, rfl⟩ := Later.of hb
  clear hb
  go_wp2
  go_ret
  exact ⟨rfl, HBl.out x1⟩
 subst hd
 by_cases h1 : -63 ≤ o
 case neg =>
  have HR : Hid ((inB o (-63) 63 && decide ((0 : Int) = 0) && decide ((0 : Int) = 0)) = false) := by unfold Hid; rw [inB_false (.inl (by omega))]; rfl
  rw [HR.out]
  go_enter Tryz.func295, Tryz.ntmps295
  go_wp2_with fail
  rw [← HW0.out]
  refine (KN _).mono ?_
  rintro e w1 ⟨rfl, hb⟩
  obtain ⟨x1, rfl⟩ := Later.of hb
  clear hb
  go_wp2
  go_ret
  exact ⟨rfl, HBl.out x1⟩
 by_cases h2 : o ≤ 63
 case neg =>
  have HR : Hid ((inB o (-63) 63 && decide ((0 : Int) = 0) && decide ((0 : Int) = 0)) = false) := by unfold Hid; rw [inB_false (.inr (by omega))]; rfl
  rw [HR.out]
  go_enter Tryz.func295, Tryz.ntmps295
  go_wp2_with fail
  rw [← HW0.out]
  refine (KN _).mono ?_
  rintro e w1 ⟨rfl, hb⟩
  obtain ⟨x1, rfl⟩ := Later.of hb
  clear hb
  go_wp2
  go_ret
  exact ⟨ret_bool (decide_eq_false (by omega)), HBl.out x1⟩
 have HR : Hid ((inB o (-63) 63 && decide ((0 : Int) = 0) && decide ((0 : Int) = 0)) = true) := by unfold Hid; rw [inB_true h1 h2]; rfl
 rw [HR.out]
 go_enter Tryz.func295, Tryz.ntmps295
 go_wp2_with fail
 rw [← HW0.out]
 refine (KN _).mono ?_
 rintro e w1 ⟨rfl, hb⟩
 obtain ⟨x1, rfl⟩ := Later.of hb
 clear hb
 go_wp2
 go_ret
 exact ⟨rfl, HBl.out x1⟩
theorem fix_date (m d : Int) : dateOk 1 1 m d = inB d 1 (monthDays 1 1999 m) := by
 rw [days1]
 by_cases h : 1 ≤ d ∧ d ≤ monthDays 1 1 m
 · rw [inB_true h.1 h.2, dateOk_true ⟨.inr rfl, by omega, by omega, h.1, h.2⟩]
 · rw [inB_false (by omega), dateOk_false (fun k => h ⟨k.2.2.2.1, k.2.2.2.2⟩)]
set_option maxHeartbeats 1000000 in
theorem implFixOk (s : ByteArray) (o m d : Int) (w : World) (hs : s.size ≤ maxLen) (hT : Tab w) : CR 296 #[.agg #[.string s, .bool false, .int .i64 o, .int .i64 m, .int .i64 d]] w (.bool (feaOk s false o m d)) := by
 have KN : ∀ W, CR 310 #[.agg #[.string s, .bool false, .int .i64 o, .int .i64 m, .int .i64 d]] W (.bool (nameOk s)) := fun W => implFeaNamed s false o m d W hs
 have KI : ∀ W, CR 298 #[.agg #[.string s, .bool false, .int .i64 o, .int .i64 m, .int .i64 d], .int .i64 1, .int .i64 1] W (.agg #[.int .i64 1, .int .i64 1, .int .i64 m, .int .i64 d]) := implDateIn s false o m d 1 1
 obtain ⟨W0, hW0, c0, c1, c2, c3, c4, hBl⟩ := fea_box w s false o m d 107
 have HW0 := hideP hW0
 have HBl := hideP hBl
 clear hW0 hBl
 have KD : ∀ x : Later W0, CR 163 #[.agg #[.int .i64 1, .int .i64 1, .int .i64 m, .int .i64 d]] x.w (.bool (inB d 1 (monthDays 1 1999 m))) := fun x => by
  rw [← fix_date]
  exact implDateOk 1 1 m d x.w (hT.later (HBl.out x))
 clear hs hT
 unfold feaOk
 rw [if_neg (by decide)]
 generalize nameOk s = nb at *
 generalize inB d 1 (monthDays 1 1999 m) = bd at *
 cases nb
 · rw [Bool.false_and]
   go_enter Tryz.func296, Tryz.ntmps296
   go_wp2_with fail
   rw [← HW0.out]
   refine (KN _).mono ?_
   rintro e w1 ⟨rfl, hb⟩
   obtain ⟨x1, rfl⟩ := Later.of hb
   clear hb
   go_wp2
   go_ret
   exact ⟨rfl, HBl.out x1⟩
 rw [Bool.true_and]
 by_cases ho : o = 0
 · subst ho
   rw [decide_eq_true rfl, Bool.true_and]
   go_enter Tryz.func296, Tryz.ntmps296
   go_wp2_with fail
   rw [← HW0.out]
   refine (KN _).mono ?_
   rintro e w1 ⟨rfl, hb⟩
   obtain ⟨x1, rfl⟩ := Later.of hb
   clear hb
   go_wp2_with fail
   refine (KI _).mono ?_
   rintro e w2 ⟨rfl, hb⟩
   obtain ⟨x2, rfl⟩ := x1.next hb
   clear hb
   go_wp2_with fail
   refine (KD _).mono ?_
   rintro e w3 ⟨rfl, hb⟩
   obtain ⟨x3, rfl⟩ := x2.next hb
   clear hb
   go_wp2
   go_ret
   exact ⟨rfl, HBl.out x3⟩
 · have ho' : (o == 0) = false := by simp [ho]
   rw [decide_eq_false ho, Bool.false_and]
   go_enter Tryz.func296, Tryz.ntmps296
   go_wp2_with fail
   rw [← HW0.out]
   refine (KN _).mono ?_
   rintro e w1 ⟨rfl, hb⟩
   obtain ⟨x1, rfl⟩ := Later.of hb
   clear hb
   go_wp2
   go_ret
   exact ⟨rfl, HBl.out x1⟩
set_option maxHeartbeats 1000000 in
theorem implFeaOk (s : ByteArray) (mv : Bool) (o m d : Int) (w : World) (hs : s.size ≤ maxLen) (hT : Tab w) : CR 275 #[.agg #[.string s, .bool mv, .int .i64 o, .int .i64 m, .int .i64 d]] w (.bool (feaOk s mv o m d)) := by
 obtain ⟨W0, hW0, c0, c1, c2, c3, c4, hBl⟩ := fea_box w s mv o m d 107
 have HW0 := hideP hW0
 have HBl := hideP hBl
 clear hW0 hBl
 have KT : ∀ x : Later W0, Tab x.w := fun x => hT.later (HBl.out x)
 obtain ⟨x0, hx0⟩ := Later.of (Below.refl W0.heap.size W0)
 cases mv
 · have K := implFixOk s o m d x0.w hs (KT x0)
   clear hs hT KT
   generalize feaOk s false o m d = r at *
   go_enter Tryz.func275, Tryz.ntmps275
   go_wp2_with fail
   rw [← HW0.out]
   refine (show Calls _ _ _ W0 _ from by rw [hx0]; exact K).mono ?_
   rintro e w1 ⟨rfl, hb⟩
   obtain ⟨x1, rfl⟩ := x0.next hb
   clear hb
   go_wp2
   go_ret
   exact ⟨rfl, HBl.out x1⟩
 · have K := implMovOk s o m d x0.w hs
   clear hs hT KT
   generalize feaOk s true o m d = r at *
   go_enter Tryz.func275, Tryz.ntmps275
   go_wp2_with fail
   rw [← HW0.out]
   refine (show Calls _ _ _ W0 _ from by rw [hx0]; exact K).mono ?_
   rintro e w1 ⟨rfl, hb⟩
   obtain ⟨x1, rfl⟩ := x0.next hb
   clear hb
   go_wp2
   go_ret
   exact ⟨rfl, HBl.out x1⟩
end Go.Proofs.YtdmlhiailjnhcaaGreatDoor.ctr
