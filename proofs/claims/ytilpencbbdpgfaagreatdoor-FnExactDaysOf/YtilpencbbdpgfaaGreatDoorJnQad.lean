/- What a style is, and its name: the model's StyleName and the program's styleOk answer their plain functions at every number. Contracts of both SegmentOk: each answers its plain function at every segment. What a law is told of a struct of ints that comes in by value. Contracts of the model's NameOk and of the program's NameOk: each answers the plain function nameOk at every string within the length limit. -/
import Derived.Test.YtilpencbbdpgfaaGreatDoorJnQaa
import Derived.Test.YtilpencbbdpgfaaGreatDoorJnQac
namespace Go.Proofs.YtilpencbbdpgfaaGreatDoor.ctr
open Go.RowKit
def styleP (s : Int) : Prop := 0 ≤ s ∧ s ≤ 6
instance (s : Int) : Decidable (styleP s) := by unfold styleP; infer_instance
def styleB (s : Int) : Bool := decide (styleP s)
theorem styleB_true {s : Int} (h : styleP s) : styleB s = true := decide_eq_true h
theorem styleB_false {s : Int} (h : ¬ styleP s) : styleB s = false := decide_eq_false h
theorem style_cases {s : Int} (h : styleP s) : s = 0 ∨ s = 1 ∨ s = 2 ∨ s = 3 ∨ s = 4 ∨ s = 5 ∨ s = 6 := by unfold styleP at h; omega
def stys : List (List UInt8) := [[106, 97, 110], [109, 97, 114, 99, 104], [108, 97, 100, 121], [112, 105, 115, 97], [101, 97, 115, 116, 101, 114], [115, 101, 112, 116], [121, 117, 108, 101]]
def styText (s : Int) : ByteArray := ⟨(if styleP s then stys.getD s.toNat [] else []).toArray⟩
theorem styText_no {s : Int} (h : ¬ styleP s) : styText s = ⟨#[]⟩ := by unfold styText; rw [if_neg h]
theorem styText_some {s : Int} (h : styleP s) : (styText s).toList.isEmpty = false := by
  rw [ByteArray.toList_eq]
  rcases style_cases h with rfl | rfl | rfl | rfl | rfl | rfl | rfl <;> rfl
theorem styText_none {s : Int} (h : ¬ styleP s) : (styText s).toList.isEmpty = true := by rw [styText_no h, ByteArray.toList_eq]; rfl
theorem styleB_in (s : Int) : inB s 0 6 = styleB s := by
  by_cases h : styleP s
  · rw [styleB_true h, inB_true h.1 h.2]
  · rw [styleB_false h, inB_false]
    unfold styleP at h
    omega
def styVals : Array Value := (stys.map fun s => Value.string ⟨s.toArray⟩).toArray
theorem specNames (w : World) : Calls Tryz.prog 233 #[] w fun e w' => e = .returned (.slice (some ⟨w.heap.size, 0, none⟩) 7 7) ∧ w' = w.alloc (.cells styVals 9) := by
  go_enter Tryz.func233, Tryz.ntmps233
  go_wp2
  go_ret
  exact ⟨rfl, rfl⟩
set_option maxHeartbeats 400000 in
theorem specStyleName (s : Int) (w : World) : Calls Tryz.prog 171 #[.int .i64 s] w fun e w' => e = .returned (.string (styText s)) ∧ Below w.heap.size w w' := by
  have KI := l01In s 0 6 w
  rw [styleB_in] at KI
  by_cases h : styleP s
  · rw [styleB_true h] at KI
    rcases style_cases h with rfl | rfl | rfl | rfl | rfl | rfl | rfl
    · clear h
      go_enter Tryz.func171, Tryz.ntmps171
      go_wp2_with fail
      refine KI.mono ?_
      rintro e w1 ⟨rfl, hw0⟩
      rw [hw0]
      clear hw0
      go_wp2_with fail
      refine (specNames _).mono ?_
      rintro e w1 ⟨rfl, hw⟩
      have c : w1.cell? ⟨w.heap.size, 0, none⟩ = some (.string (styText 0)) := by rw [hw]; exact (Blk.new w styVals _).cell 0 rfl
      have HB : Hid (Below w.heap.size w w1) := by unfold Hid; rw [hw]; exact (Below.refl _ _).alloc (Nat.le_refl _) _
      clear hw
      go_wp2
      go_ret
      exact ⟨rfl, HB.out⟩
    · clear h
      go_enter Tryz.func171, Tryz.ntmps171
      go_wp2_with fail
      refine KI.mono ?_
      rintro e w1 ⟨rfl, hw0⟩
      rw [hw0]
      clear hw0
      go_wp2_with fail
      refine (specNames _).mono ?_
      rintro e w1 ⟨rfl, hw⟩
      have c : w1.cell? ⟨w.heap.size, 1, none⟩ = some (.string (styText 1)) := by rw [hw]; exact (Blk.new w styVals _).cell 1 rfl
      have HB : Hid (Below w.heap.size w w1) := by unfold Hid; rw [hw]; exact (Below.refl _ _).alloc (Nat.le_refl _) _
      clear hw
      go_wp2
      go_ret
      exact ⟨rfl, HB.out⟩
    · clear h
      go_enter Tryz.func171, Tryz.ntmps171
      go_wp2_with fail
      refine KI.mono ?_
      rintro e w1 ⟨rfl, hw0⟩
      rw [hw0]
      clear hw0
      go_wp2_with fail
      refine (specNames _).mono ?_
      rintro e w1 ⟨rfl, hw⟩
      have c : w1.cell? ⟨w.heap.size, 2, none⟩ = some (.string (styText 2)) := by rw [hw]; exact (Blk.new w styVals _).cell 2 rfl
      have HB : Hid (Below w.heap.size w w1) := by unfold Hid; rw [hw]; exact (Below.refl _ _).alloc (Nat.le_refl _) _
      clear hw
      go_wp2
      go_ret
      exact ⟨rfl, HB.out⟩
    · clear h
      go_enter Tryz.func171, Tryz.ntmps171
      go_wp2_with fail
      refine KI.mono ?_
      rintro e w1 ⟨rfl, hw0⟩
      rw [hw0]
      clear hw0
      go_wp2_with fail
      refine (specNames _).mono ?_
      rintro e w1 ⟨rfl, hw⟩
      have c : w1.cell? ⟨w.heap.size, 3, none⟩ = some (.string (styText 3)) := by rw [hw]; exact (Blk.new w styVals _).cell 3 rfl
      have HB : Hid (Below w.heap.size w w1) := by unfold Hid; rw [hw]; exact (Below.refl _ _).alloc (Nat.le_refl _) _
      clear hw
      go_wp2
      go_ret
      exact ⟨rfl, HB.out⟩
    · clear h
      go_enter Tryz.func171, Tryz.ntmps171
      go_wp2_with fail
      refine KI.mono ?_
      rintro e w1 ⟨rfl, hw0⟩
      rw [hw0]
      clear hw0
      go_wp2_with fail
      refine (specNames _).mono ?_
      rintro e w1 ⟨rfl, hw⟩
      have c : w1.cell? ⟨w.heap.size, 4, none⟩ = some (.string (styText 4)) := by rw [hw]; exact (Blk.new w styVals _).cell 4 rfl
      have HB : Hid (Below w.heap.size w w1) := by unfold Hid; rw [hw]; exact (Below.refl _ _).alloc (Nat.le_refl _) _
      clear hw
      go_wp2
      go_ret
      exact ⟨rfl, HB.out⟩
    · clear h
      go_enter Tryz.func171, Tryz.ntmps171
      go_wp2_with fail
      refine KI.mono ?_
      rintro e w1 ⟨rfl, hw0⟩
      rw [hw0]
      clear hw0
      go_wp2_with fail
      refine (specNames _).mono ?_
      rintro e w1 ⟨rfl, hw⟩
      have c : w1.cell? ⟨w.heap.size, 5, none⟩ = some (.string (styText 5)) := by rw [hw]; exact (Blk.new w styVals _).cell 5 rfl
      have HB : Hid (Below w.heap.size w w1) := by unfold Hid; rw [hw]; exact (Below.refl _ _).alloc (Nat.le_refl _) _
      clear hw
      go_wp2
      go_ret
      exact ⟨rfl, HB.out⟩
    · clear h
      go_enter Tryz.func171, Tryz.ntmps171
      go_wp2_with fail
      refine KI.mono ?_
      rintro e w1 ⟨rfl, hw0⟩
      rw [hw0]
      clear hw0
      go_wp2_with fail
      refine (specNames _).mono ?_
      rintro e w1 ⟨rfl, hw⟩
      have c : w1.cell? ⟨w.heap.size, 6, none⟩ = some (.string (styText 6)) := by rw [hw]; exact (Blk.new w styVals _).cell 6 rfl
      have HB : Hid (Below w.heap.size w w1) := by unfold Hid; rw [hw]; exact (Below.refl _ _).alloc (Nat.le_refl _) _
      clear hw
      go_wp2
      go_ret
      exact ⟨rfl, HB.out⟩
  · rw [styleB_false h] at KI
    rw [styText_no h]
    clear h
    go_enter Tryz.func171, Tryz.ntmps171
    go_wp2_with fail
    refine KI.mono ?_
    rintro e w1 ⟨rfl, rfl⟩
    go_wp2
    go_ret
    exact ⟨rfl, Below.refl _ _⟩
theorem implStyleOk (s : Int) (w : World) : Calls Tryz.prog 179 #[.int .i64 s] w fun e w' => e = .returned (.bool (styleB s)) ∧ w' = w := by
  by_cases h1 : 0 ≤ s
  · by_cases h2 : s < 7
    · rw [styleB_true ⟨h1, by omega⟩]
      go_enter Tryz.func179, Tryz.ntmps179
      go_wp2
      go_ret
      exact ⟨rfl, rfl⟩
    · rw [styleB_false (by unfold styleP; omega)]
      have hd : decide (s < 7) = false := decide_eq_false h2
      go_enter Tryz.func179, Tryz.ntmps179
      go_wp2
      go_ret
      exact ⟨rfl, rfl⟩
  · rw [styleB_false (by unfold styleP; omega)]
    have hd : decide (0 ≤ s) = false := decide_eq_false h1
    go_enter Tryz.func179, Tryz.ntmps179
    go_wp2
    go_ret
    exact ⟨rfl, rfl⟩
end Go.Proofs.YtilpencbbdpgfaaGreatDoor.ctr
namespace Go.Proofs.YtilpencbbdpgfaaGreatDoor.ctr
open Go.RowKit
def dayB (n : Int) : Bool := inB n 400 1090000
def segOkB (s : Seg) : Bool := dayB s.fr && (dayB s.to && (decide (s.fr ≤ s.to) && (calB s.cal && (styleB s.sty && inB s.off (-3) 3))))
theorem implOnLine (n : Int) (w : World) : Calls Tryz.prog 123 #[.int .i64 n] w fun e w' => e = .returned (.bool (dayB n)) ∧ w' = w := by
  unfold dayB
  by_cases h1 : 400 ≤ n
  · by_cases h2 : n ≤ 1090000
    · rw [inB_true h1 h2]
      go_enter Tryz.func123, Tryz.ntmps123
      go_wp2
      go_ret
      exact ⟨rfl, rfl⟩
    · rw [inB_false (.inr (by omega))]
      have hd : decide (n ≤ 1090000) = false := decide_eq_false h2
      go_enter Tryz.func123, Tryz.ntmps123
      go_wp2
      go_ret
      exact ⟨rfl, rfl⟩
  · rw [inB_false (.inl (by omega))]
    have hd : decide (400 ≤ n) = false := decide_eq_false h1
    go_enter Tryz.func123, Tryz.ntmps123
    go_wp2
    go_ret
    exact ⟨rfl, rfl⟩
theorem specDay9 (n : Int) (w : World) : Calls Tryz.prog 101 #[.int .i64 n] w fun e w' => e = .returned (.bool (dayB n)) ∧ w' = w := by
  go_enter Tryz.func101, Tryz.ntmps101
  go_wp2_with (go_at_call 88; refine (l01In n 400 1090000 _).mono ?_; rintro e w1 ⟨rfl, rfl⟩)
  go_ret
  exact ⟨rfl, rfl⟩
theorem seg_box (w : World) (a b c d e : Int) (t : TypeId) : ∃ W0, W0 = w.alloc (.cells #[.int .i64 a, .int .i64 b, .int .i64 c, .int .i64 d, .int .i64 e] t) ∧ (∀ x : Later W0, x.w.cell? ⟨w.heap.size, 0, none⟩ = some (.int .i64 a)) ∧ (∀ x : Later W0, x.w.cell? ⟨w.heap.size, 1, none⟩ = some (.int .i64 b)) ∧ (∀ x : Later W0, x.w.cell? ⟨w.heap.size, 2, none⟩ = some (.int .i64 c)) ∧ (∀ x : Later W0, x.w.cell? ⟨w.heap.size, 3, none⟩ = some (.int .i64 d)) ∧ (∀ x : Later W0, x.w.cell? ⟨w.heap.size, 4, none⟩ = some (.int .i64 e)) ∧ ∀ x : Later W0, Below w.heap.size w x.w :=
  ⟨_, rfl, Later.new rfl 0 rfl, Later.new rfl 1 rfl, Later.new rfl 2 rfl, Later.new rfl 3 rfl, Later.new rfl 4 rfl, fun x => below_alloc x.below⟩
set_option maxHeartbeats 1000000 in
theorem implSegOk (s : Seg) (w : World) : Calls Tryz.prog 185 #[.agg #[.int .i64 s.fr, .int .i64 s.to, .int .i64 s.cal, .int .i64 s.sty, .int .i64 s.off]] w fun e w' => e = .returned (.bool (segOkB s)) ∧ Below w.heap.size w w' := by
  have K1 : ∀ W, Calls Tryz.prog 123 #[.int .i64 s.fr] W fun e w' => e = .returned (.bool (dayB s.fr)) ∧ Below W.heap.size W w' := fun W => (implOnLine s.fr W).mono fun _ _ h => ⟨h.1, same_bel h.2⟩
  have K2 : ∀ W, Calls Tryz.prog 123 #[.int .i64 s.to] W fun e w' => e = .returned (.bool (dayB s.to)) ∧ Below W.heap.size W w' := fun W => (implOnLine s.to W).mono fun _ _ h => ⟨h.1, same_bel h.2⟩
  have K5 : ∀ W, Calls Tryz.prog 179 #[.int .i64 s.sty] W fun e w' => e = .returned (.bool (styleB s.sty)) ∧ Below W.heap.size W w' := fun W => (implStyleOk s.sty W).mono fun _ _ h => ⟨h.1, same_bel h.2⟩
  obtain ⟨W0, hW0, c0, c1, c2, c3, c4, hBl⟩ := seg_box w s.fr s.to s.cal s.sty s.off 95
  have HW0 := hideP hW0
  have HBl := hideP hBl
  clear hW0 hBl
  unfold segOkB
  generalize dayB s.fr = b1 at *
  generalize dayB s.to = b2 at *
  generalize styleB s.sty = b5 at *
  cases b1
  · rw [Bool.false_and]
    go_enter Tryz.func185, Tryz.ntmps185
    go_wp2_with fail
    rw [← HW0.out]
    refine (K1 _).mono ?_
    rintro e w1 ⟨rfl, hb⟩
    obtain ⟨x1, rfl⟩ := Later.of hb
    clear hb
    go_wp2
    go_ret
    exact ⟨rfl, HBl.out x1⟩
  rw [Bool.true_and]
  cases b2
  · rw [Bool.false_and]
    go_enter Tryz.func185, Tryz.ntmps185
    go_wp2_with fail
    rw [← HW0.out]
    refine (K1 _).mono ?_
    rintro e w1 ⟨rfl, hb⟩
    obtain ⟨x1, rfl⟩ := Later.of hb
    clear hb
    go_wp2_with fail
    refine (K2 _).mono ?_
    rintro e w2 ⟨rfl, hb⟩
    obtain ⟨x2, rfl⟩ := x1.next hb
    clear hb
    go_wp2
    go_ret
    exact ⟨rfl, HBl.out x2⟩
  rw [Bool.true_and]
  by_cases h3 : s.fr ≤ s.to
  case neg =>
    rw [decide_eq_false h3, Bool.false_and]
    have hd : decide (s.fr ≤ s.to) = false := decide_eq_false h3
    go_enter Tryz.func185, Tryz.ntmps185
    go_wp2_with fail
    rw [← HW0.out]
    refine (K1 _).mono ?_
    rintro e w1 ⟨rfl, hb⟩
    obtain ⟨x1, rfl⟩ := Later.of hb
    clear hb
    go_wp2_with fail
    refine (K2 _).mono ?_
    rintro e w2 ⟨rfl, hb⟩
    obtain ⟨x2, rfl⟩ := x1.next hb
    clear hb
    go_wp2
    go_ret
    exact ⟨rfl, HBl.out x2⟩
  rw [decide_eq_true h3, Bool.true_and]
  by_cases hc : s.cal = 0 ∨ s.cal = 1
  case neg =>
    rw [calB_no hc, Bool.false_and]
    have K4 : ∀ W, Calls Tryz.prog 175 #[.int .i64 s.cal] W fun e w' => e = .returned (.nilIface) ∧ Below W.heap.size W w' := fun W => (implCalNo s.cal (fun e => hc (.inl e)) (fun e => hc (.inr e)) W).mono fun _ _ h => ⟨h.1, same_bel h.2⟩
    go_enter Tryz.func185, Tryz.ntmps185
    go_wp2_with fail
    rw [← HW0.out]
    refine (K1 _).mono ?_
    rintro e w1 ⟨rfl, hb⟩
    obtain ⟨x1, rfl⟩ := Later.of hb
    clear hb
    go_wp2_with fail
    refine (K2 _).mono ?_
    rintro e w2 ⟨rfl, hb⟩
    obtain ⟨x2, rfl⟩ := x1.next hb
    clear hb
    go_wp2_with fail
    refine (K4 _).mono ?_
    rintro e w3 ⟨rfl, hb⟩
    obtain ⟨x3, rfl⟩ := x2.next hb
    clear hb
    go_wp2
    go_ret
    exact ⟨rfl, HBl.out x3⟩
  rw [calB_iff.2 hc, Bool.true_and]
  obtain ⟨ct, K4⟩ : ∃ ct, ∀ W, Calls Tryz.prog 175 #[.int .i64 s.cal] W fun e w' => e = .returned (.iface ct (.agg #[])) ∧ Below W.heap.size W w' := by
    rcases hc with hc | hc
    · rw [hc]; exact ⟨_, fun W => (implCal0 W).mono fun _ _ h => ⟨h.1, same_bel h.2⟩⟩
    · rw [hc]; exact ⟨_, fun W => (implCal1 W).mono fun _ _ h => ⟨h.1, same_bel h.2⟩⟩
  clear hc
  cases b5
  · rw [Bool.false_and]
    go_enter Tryz.func185, Tryz.ntmps185
    go_wp2_with fail
    rw [← HW0.out]
    refine (K1 _).mono ?_
    rintro e w1 ⟨rfl, hb⟩
    obtain ⟨x1, rfl⟩ := Later.of hb
    clear hb
    go_wp2_with fail
    refine (K2 _).mono ?_
    rintro e w2 ⟨rfl, hb⟩
    obtain ⟨x2, rfl⟩ := x1.next hb
    clear hb
    go_wp2_with fail
    refine (K4 _).mono ?_
    rintro e w3 ⟨rfl, hb⟩
    obtain ⟨x3, rfl⟩ := x2.next hb
    clear hb
    go_wp2_with fail
    refine (K5 _).mono ?_
    rintro e w4 ⟨rfl, hb⟩
    obtain ⟨x4, rfl⟩ := x3.next hb
    clear hb
    go_wp2
    go_ret
    exact ⟨rfl, HBl.out x4⟩
  rw [Bool.true_and]
  by_cases h6 : -3 ≤ s.off
  case neg =>
    rw [inB_false (by omega)]
    have hd : decide (-3 ≤ s.off) = false := decide_eq_false h6
    go_enter Tryz.func185, Tryz.ntmps185
    go_wp2_with fail
    rw [← HW0.out]
    refine (K1 _).mono ?_
    rintro e w1 ⟨rfl, hb⟩
    obtain ⟨x1, rfl⟩ := Later.of hb
    clear hb
    go_wp2_with fail
    refine (K2 _).mono ?_
    rintro e w2 ⟨rfl, hb⟩
    obtain ⟨x2, rfl⟩ := x1.next hb
    clear hb
    go_wp2_with fail
    refine (K4 _).mono ?_
    rintro e w3 ⟨rfl, hb⟩
    obtain ⟨x3, rfl⟩ := x2.next hb
    clear hb
    go_wp2_with fail
    refine (K5 _).mono ?_
    rintro e w4 ⟨rfl, hb⟩
    obtain ⟨x4, rfl⟩ := x3.next hb
    clear hb
    go_wp2
    go_ret
    exact ⟨rfl, HBl.out x4⟩
  by_cases h7 : s.off ≤ 3
  case neg =>
    rw [inB_false (by omega)]
    have hd : decide (s.off ≤ 3) = false := decide_eq_false h7
    go_enter Tryz.func185, Tryz.ntmps185
    go_wp2_with fail
    rw [← HW0.out]
    refine (K1 _).mono ?_
    rintro e w1 ⟨rfl, hb⟩
    obtain ⟨x1, rfl⟩ := Later.of hb
    clear hb
    go_wp2_with fail
    refine (K2 _).mono ?_
    rintro e w2 ⟨rfl, hb⟩
    obtain ⟨x2, rfl⟩ := x1.next hb
    clear hb
    go_wp2_with fail
    refine (K4 _).mono ?_
    rintro e w3 ⟨rfl, hb⟩
    obtain ⟨x3, rfl⟩ := x2.next hb
    clear hb
    go_wp2_with fail
    refine (K5 _).mono ?_
    rintro e w4 ⟨rfl, hb⟩
    obtain ⟨x4, rfl⟩ := x3.next hb
    clear hb
    go_wp2
    go_ret
    exact ⟨rfl, HBl.out x4⟩
  rw [inB_true h6 h7]
  go_enter Tryz.func185, Tryz.ntmps185
  go_wp2_with fail
  rw [← HW0.out]
  refine (K1 _).mono ?_
  rintro e w1 ⟨rfl, hb⟩
  obtain ⟨x1, rfl⟩ := Later.of hb
  clear hb
  go_wp2_with fail
  refine (K2 _).mono ?_
  rintro e w2 ⟨rfl, hb⟩
  obtain ⟨x2, rfl⟩ := x1.next hb
  clear hb
  go_wp2_with fail
  refine (K4 _).mono ?_
  rintro e w3 ⟨rfl, hb⟩
  obtain ⟨x3, rfl⟩ := x2.next hb
  clear hb
  go_wp2_with fail
  refine (K5 _).mono ?_
  rintro e w4 ⟨rfl, hb⟩
  obtain ⟨x4, rfl⟩ := x3.next hb
  clear hb
  go_wp2
  go_ret
  exact ⟨rfl, HBl.out x4⟩
set_option maxHeartbeats 1000000 in
theorem specSegOk (s : Seg) (w : World) : Calls Tryz.prog 166 #[.agg #[.int .i64 s.fr, .int .i64 s.to, .int .i64 s.cal, .int .i64 s.sty, .int .i64 s.off]] w fun e w' => e = .returned (.bool (segOkB s)) ∧ Below w.heap.size w w' := by
  have K1 : ∀ W, Calls Tryz.prog 101 #[.int .i64 s.fr] W fun e w' => e = .returned (.bool (dayB s.fr)) ∧ Below W.heap.size W w' := fun W => (specDay9 s.fr W).mono fun _ _ h => ⟨h.1, same_bel h.2⟩
  have K2 : ∀ W, Calls Tryz.prog 101 #[.int .i64 s.to] W fun e w' => e = .returned (.bool (dayB s.to)) ∧ Below W.heap.size W w' := fun W => (specDay9 s.to W).mono fun _ _ h => ⟨h.1, same_bel h.2⟩
  have K4 : ∀ W, Calls Tryz.prog 120 #[.int .i64 s.cal] W fun e w' => e = .returned (.bool (calB s.cal)) ∧ Below W.heap.size W w' := fun W => (specCal s.cal W).mono fun _ _ h => ⟨h.1, same_bel h.2⟩
  have K5 : ∀ W, Calls Tryz.prog 171 #[.int .i64 s.sty] W fun e w' => e = .returned (.string (styText s.sty)) ∧ Below W.heap.size W w' := fun W => specStyleName s.sty W
  have K6 : ∀ W, Calls Tryz.prog 88 #[.int .i64 s.off, .int .i64 (-3), .int .i64 3] W fun e w' => e = .returned (.bool (inB s.off (-3) 3)) ∧ Below W.heap.size W w' := fun W => (l01In s.off (-3) 3 W).mono fun _ _ h => ⟨h.1, same_bel h.2⟩
  obtain ⟨W0, hW0, c0, c1, c2, c3, c4, hBl⟩ := seg_box w s.fr s.to s.cal s.sty s.off 95
  have HW0 := hideP hW0
  have HBl := hideP hBl
  clear hW0 hBl
  unfold segOkB
  generalize dayB s.fr = b1 at *
  generalize dayB s.to = b2 at *
  generalize calB s.cal = b4 at *
  generalize inB s.off (-3) 3 = b6 at *
  cases b1
  · rw [Bool.false_and]
    go_enter Tryz.func166, Tryz.ntmps166
    go_wp2_with fail
    rw [← HW0.out]
    refine (K1 _).mono ?_
    rintro e w1 ⟨rfl, hb⟩
    obtain ⟨x1, rfl⟩ := Later.of hb
    clear hb
    go_wp2
    go_ret
    exact ⟨rfl, HBl.out x1⟩
  rw [Bool.true_and]
  cases b2
  · rw [Bool.false_and]
    go_enter Tryz.func166, Tryz.ntmps166
    go_wp2_with fail
    rw [← HW0.out]
    refine (K1 _).mono ?_
    rintro e w1 ⟨rfl, hb⟩
    obtain ⟨x1, rfl⟩ := Later.of hb
    clear hb
    go_wp2_with fail
    refine (K2 _).mono ?_
    rintro e w2 ⟨rfl, hb⟩
    obtain ⟨x2, rfl⟩ := x1.next hb
    clear hb
    go_wp2
    go_ret
    exact ⟨rfl, HBl.out x2⟩
  rw [Bool.true_and]
  by_cases h3 : s.fr ≤ s.to
  case neg =>
    rw [decide_eq_false h3, Bool.false_and]
    have hd : decide (s.fr ≤ s.to) = false := decide_eq_false h3
    go_enter Tryz.func166, Tryz.ntmps166
    go_wp2_with fail
    rw [← HW0.out]
    refine (K1 _).mono ?_
    rintro e w1 ⟨rfl, hb⟩
    obtain ⟨x1, rfl⟩ := Later.of hb
    clear hb
    go_wp2_with fail
    refine (K2 _).mono ?_
    rintro e w2 ⟨rfl, hb⟩
    obtain ⟨x2, rfl⟩ := x1.next hb
    clear hb
    go_wp2
    go_ret
    exact ⟨rfl, HBl.out x2⟩
  rw [decide_eq_true h3, Bool.true_and]
  cases b4
  · rw [Bool.false_and]
    go_enter Tryz.func166, Tryz.ntmps166
    go_wp2_with fail
    rw [← HW0.out]
    refine (K1 _).mono ?_
    rintro e w1 ⟨rfl, hb⟩
    obtain ⟨x1, rfl⟩ := Later.of hb
    clear hb
    go_wp2_with fail
    refine (K2 _).mono ?_
    rintro e w2 ⟨rfl, hb⟩
    obtain ⟨x2, rfl⟩ := x1.next hb
    clear hb
    go_wp2_with fail
    refine (K4 _).mono ?_
    rintro e w3 ⟨rfl, hb⟩
    obtain ⟨x3, rfl⟩ := x2.next hb
    clear hb
    go_wp2
    go_ret
    exact ⟨rfl, HBl.out x3⟩
  rw [Bool.true_and]
  by_cases hs : styleP s.sty
  case neg =>
    rw [styleB_false hs, Bool.false_and]
    have hE := styText_none hs
    generalize styText s.sty = t at *
    go_enter Tryz.func166, Tryz.ntmps166
    go_wp2_with fail
    rw [← HW0.out]
    refine (K1 _).mono ?_
    rintro e w1 ⟨rfl, hb⟩
    obtain ⟨x1, rfl⟩ := Later.of hb
    clear hb
    go_wp2_with fail
    refine (K2 _).mono ?_
    rintro e w2 ⟨rfl, hb⟩
    obtain ⟨x2, rfl⟩ := x1.next hb
    clear hb
    go_wp2_with fail
    refine (K4 _).mono ?_
    rintro e w3 ⟨rfl, hb⟩
    obtain ⟨x3, rfl⟩ := x2.next hb
    clear hb
    go_wp2_with fail
    refine (K5 _).mono ?_
    rintro e w4 ⟨rfl, hb⟩
    obtain ⟨x4, rfl⟩ := x3.next hb
    clear hb
    go_wp2
    go_ret
    exact ⟨rfl, HBl.out x4⟩
  rw [styleB_true hs, Bool.true_and]
  have hE := styText_some hs
  generalize styText s.sty = t at *
  go_enter Tryz.func166, Tryz.ntmps166
  go_wp2_with fail
  rw [← HW0.out]
  refine (K1 _).mono ?_
  rintro e w1 ⟨rfl, hb⟩
  obtain ⟨x1, rfl⟩ := Later.of hb
  clear hb
  go_wp2_with fail
  refine (K2 _).mono ?_
  rintro e w2 ⟨rfl, hb⟩
  obtain ⟨x2, rfl⟩ := x1.next hb
  clear hb
  go_wp2_with fail
  refine (K4 _).mono ?_
  rintro e w3 ⟨rfl, hb⟩
  obtain ⟨x3, rfl⟩ := x2.next hb
  clear hb
  go_wp2_with fail
  refine (K5 _).mono ?_
  rintro e w4 ⟨rfl, hb⟩
  obtain ⟨x4, rfl⟩ := x3.next hb
  clear hb
  go_wp2_with fail
  refine (K6 _).mono ?_
  rintro e w5 ⟨rfl, hb⟩
  obtain ⟨x5, rfl⟩ := x4.next hb
  clear hb
  go_wp2
  go_ret
  exact ⟨rfl, HBl.out x5⟩
end Go.Proofs.YtilpencbbdpgfaaGreatDoor.ctr
namespace Go.Proofs.YtilpencbbdpgfaaGreatDoor.kit
open Go.RowKit Go.WideShapes Go.Deep Go.ChangeShapes
theorem open_istruct {H : Type} {enc : TypeId × Value → H} {P : Program} {w : World} {base : Nat} {sp : Nat → Bool} {held : Bool} {r : Reach} {b0 : Nat} {t : TypeId} {fs : Array Field} {v : Value} {dt : DataW H} {p : List MemPlace} {α : Type} (K : ctr.IK α)
    (hs : P.underlying t = some (.struct fs)) (hC : P.cellsOf t = K.m) (hsz : fs.size = K.m)
    (hf0 : ∀ (j : Nat) (f : Field), fs[j]? = some f → f.offset = j ∧ P.cellsOf f.type = 1 ∧ P.underlying f.type = some (.int .i64))
    (hv : Value.okWide P w r b0 t v) (h : DataW.Trod enc P w base sp held t v dt p) : ∃ a : α, v = .agg (ctr.icell K a).toArray ∧ ∀ z ∈ K.iv a, (Lit.int .i64 z).wf = true := by
  obtain ⟨cs, rfl, hcs⟩ := okWide_struct hs hv
  obtain ⟨fuel, hf⟩ := h
  obtain ⟨xs, n, _, _, _, hlen, hg⟩ := DataW.trod_struct hs hf
  rw [hC] at hcs
  have cell : ∀ j, j < K.m → ∃ z : Int, cs[j]? = some (.int .i64 z) ∧ (Lit.int .i64 z).wf = true := by
    intro j hj
    obtain ⟨f, hfe⟩ : ∃ f, fs[j]? = some f := ⟨fs[j]'(by omega), by simp [hsz, hj]⟩
    obtain ⟨o, c, u⟩ := hf0 j f hfe
    have g := hg j f (by simpa using hfe)
    simp only [Value.cells] at g
    rw [o, c] at g
    have hjl : j < cs.toList.length := by simp; omega
    have e1 : (cs.toList.drop j).take 1 = [cs.toList[j]] := by rw [List.drop_eq_getElem_cons hjl]; rfl
    have hxj : j < xs.length := by have := hlen; omega
    rw [e1, List.getElem?_eq_getElem hxj] at g
    obtain ⟨z, q, _, hz⟩ := DataW.trod_int u g
    have hjc : j < cs.size := by omega
    refine ⟨z, ?_, hz⟩
    rw [Array.getElem?_eq_getElem hjc]
    simpa using q
  obtain ⟨Z, hZ⟩ : ∃ Z : Nat → Int, ∀ j, j < K.m → cs[j]? = some (.int .i64 (Z j)) ∧ (Lit.int .i64 (Z j)).wf = true := by
    classical
    refine ⟨fun j => if h : j < K.m then (cell j h).choose else 0, fun j hj => ?_⟩
    simp only [dif_pos hj]
    exact (cell j hj).choose_spec
  refine ⟨K.ofI ((List.range K.m).map Z), ?_, fun z hz => ?_⟩
  · congr 1
    apply Array.ext_getElem?
    intro j
    rw [ctr.icell, K.back _ (by simp)]
    by_cases hj : j < K.m
    · rw [(hZ j hj).1]
      simp [hj]
    · rw [Array.getElem?_eq_none (by omega), Array.getElem?_eq_none (by simp; omega)]
  · rw [K.back _ (by simp)] at hz
    obtain ⟨j, hj, rfl⟩ := List.mem_map.1 hz
    exact (hZ j (by simpa using hj)).2
end Go.Proofs.YtilpencbbdpgfaaGreatDoor.kit
namespace Go.Proofs.YtilpencbbdpgfaaGreatDoor.ctr
open Go.RowKit
def lowB (c : UInt8) : Bool := inB c.toNat 97 122
def lows (s : ByteArray) (k : Nat) : Bool := (s.data.toList.take k).all lowB
def nameOk (s : ByteArray) : Bool := inB s.size 1 16 && lows s s.size
theorem lows_succ (s : ByteArray) (k : Nat) (h : k < s.size) (h1 : lows s k = true) (h2 : lowB s[k] = true) : lows s (k + 1) = true := by
  unfold lows at *
  rw [take_snoc s k h, List.all_append, h1]
  simp [h2]
theorem lows_stop (s : ByteArray) (k : Nat) (h : k < s.size) (h2 : lowB s[k] = false) : nameOk s = false := by
  have : lows s s.size = false := by
    unfold lows
    rw [List.all_eq_false]
    refine ⟨s[k], ?_, by simp [h2]⟩
    rw [List.take_of_length_le (show s.data.toList.length ≤ s.size from Nat.le_refl _)]
    exact List.getElem_mem (l := s.data.toList) (n := k) h
  simp [nameOk, this]
theorem lows_done (s : ByteArray) (k : Nat) (h : k = s.size) (h1 : lows s k = true) : nameOk s = inB s.size 1 16 := by
  subst h
  simp [nameOk, h1]
set_option maxHeartbeats 400000 in
theorem specNameOk (s : ByteArray) (w : World) (hs : s.size ≤ maxLen) :
    Calls Tryz.prog 100 #[.string s] w fun e w' => e = .returned (.bool (nameOk s)) ∧ w' = w := by
  unfold maxLen at hs
  go_enter Tryz.func100, Tryz.ntmps100
  go_wp2
  go_loop [3] (fun i => ∃ k : Nat, k ≤ s.size ∧ i = .int .i64 k ∧ lows s k = true) (fun i => s.size - (intOf i).toNat)
  case atStart => exact ⟨0, Nat.zero_le _, rfl, by simp [lows]⟩
  case round =>
    obtain ⟨k, hk, rfl, hl⟩ := hrel
    have HL : Hid (lows s k = true) := hl
    clear hl
    by_cases hlt : k < s.size
    · cases hb : lowB s[k]
      · have HB : Hid (nameOk s = false) := lows_stop s k hlt hb
        have hb' : inB (wrap64 (s[k].toNat : Int)) 97 122 = false := by rw [byte64]; exact hb
        clear hb
        go_wp2_with (go_at_call 88; refine (l01In _ _ _ _).mono ?_; rintro e w' ⟨rfl, rfl⟩)
        go_ret
        exact ⟨ret_bool HB.out.symm, rfl⟩
      · have HN : Hid (lows s (k + 1) = true) := lows_succ s k hlt HL.out hb
        have hb' : inB (wrap64 (s[k].toNat : Int)) 97 122 = true := by rw [byte64]; exact hb
        clear hb
        go_wp2_with (go_at_call 88; refine (l01In _ _ _ _).mono ?_; rintro e w' ⟨rfl, rfl⟩)
        exact ⟨⟨k + 1, by omega, by go_num, HN.out⟩, by simp [intOf]; omega⟩
    · have HD : Hid (nameOk s = inB s.size 1 16) := lows_done s k (by omega) HL.out
      go_wp2_with (go_at_call 88; refine (l01In _ _ _ _).mono ?_; rintro e w' ⟨rfl, rfl⟩)
      go_ret
      exact ⟨ret_bool HD.out.symm, rfl⟩
set_option maxHeartbeats 400000 in
theorem implNameOk (s : ByteArray) (w : World) (hs : s.size ≤ maxLen) :
    Calls Tryz.prog 122 #[.string s] w fun e w' => e = .returned (.bool (nameOk s)) ∧ w' = w := by
  unfold maxLen at hs
  by_cases h1 : s.size < 1
  · have HB : Hid (nameOk s = false) := by unfold Hid nameOk; rw [inB_false (.inl (by omega))]; rfl
    go_enter Tryz.func122, Tryz.ntmps122
    go_wp2
    go_ret
    exact ⟨ret_bool HB.out.symm, rfl⟩
  by_cases h2 : 16 < s.size
  · have HB : Hid (nameOk s = false) := by unfold Hid nameOk; rw [inB_false (.inr (by omega))]; rfl
    go_enter Tryz.func122, Tryz.ntmps122
    go_wp2
    go_ret
    exact ⟨ret_bool HB.out.symm, rfl⟩
  go_enter Tryz.func122, Tryz.ntmps122
  go_wp2
  go_loop [14] (fun i => ∃ k : Nat, k ≤ s.size ∧ i = .int .i64 k ∧ lows s k = true) (fun i => s.size - (intOf i).toNat)
  case atStart => exact ⟨0, Nat.zero_le _, rfl, by simp [lows]⟩
  case round =>
    obtain ⟨k, hk, rfl, hl⟩ := hrel
    have HL : Hid (lows s k = true) := hl
    clear hl
    by_cases hlt : k < s.size
    · by_cases c1 : (s[k].toNat : Int) < 97
      · have HB : Hid (nameOk s = false) := lows_stop s k hlt (inB_false (.inl c1))
        go_wp2
        go_ret
        exact ⟨ret_bool HB.out.symm, rfl⟩
      · by_cases c2 : 122 < (s[k].toNat : Int)
        · have HB : Hid (nameOk s = false) := lows_stop s k hlt (inB_false (.inr c2))
          go_wp2
          go_ret
          exact ⟨ret_bool HB.out.symm, rfl⟩
        · have HN : Hid (lows s (k + 1) = true) := lows_succ s k hlt HL.out (inB_true (by omega) (by omega))
          go_wp2
          exact ⟨⟨k + 1, by omega, by go_num, HN.out⟩, by simp [intOf]; omega⟩
    · have HD : Hid (nameOk s = true) := by unfold Hid; rw [lows_done s k (by omega) HL.out, inB_true (by omega) (by omega)]
      go_wp2
      go_ret
      exact ⟨ret_bool HD.out.symm, rfl⟩
end Go.Proofs.YtilpencbbdpgfaaGreatDoor.ctr
