/- Contracts of the model's l02Cal, Leap and of the program's calendarOf, Leap: each answers its plain function at every argument. What a style is, and its name: the model's StyleName and the program's styleOk answer their plain functions at every number. Contracts of both SegmentOk: each answers its plain function at every segment. What a law is told of a struct of ints that comes in by value. -/
import Derived.Test.YtilpencbbdpgfaaGreatDoorJnPac
import Derived.Handy
import Derived.Test.YtilpencbbdpgfaaGreatDoorJnPaa
namespace Go.Proofs.YtilpencbbdpgfaaGreatDoor.ctr
open Go.RowKit
theorem specCal (c : Int) (w : World) : Calls Tryz.prog 120 #[.int .i64 c] w fun e w' => e = .returned (.bool (calB c)) ∧ w' = w := by
  by_cases h0 : c = 0
  · subst h0
    go_enter Tryz.func120, Tryz.ntmps120
    go_wp2
    go_ret
    exact ⟨by first | rfl | exact ret_bool (by simp [*]), rfl⟩
  by_cases h1 : c = 1
  · subst h1
    go_enter Tryz.func120, Tryz.ntmps120
    go_wp2
    go_ret
    exact ⟨by first | rfl | exact ret_bool (by simp [*]), rfl⟩
  rw [calB_no (by omega)]
  go_enter Tryz.func120, Tryz.ntmps120
  go_wp2
  go_ret
  exact ⟨by first | rfl | exact ret_bool (by simp [*]), rfl⟩
theorem leapB_true {c y : Int} (h : leapP c y) : leapB c y = true := decide_eq_true h
theorem leapB_false {c y : Int} (h : ¬ leapP c y) : leapB c y = false := decide_eq_false h
theorem specLeap (c y : Int) (w : World) : Calls Tryz.prog 184 #[.int .i64 c, .int .i64 y] w fun e w' => e = .returned (.bool (leapB c y)) ∧ w' = w := by
  by_cases h0 : c = 0
  · subst h0
    by_cases h4 : y.tmod 4 = 0
    · rw [leapB_true (.inl ⟨rfl, h4⟩)]
      go_enter Tryz.func184, Tryz.ntmps184
      go_wp2
      go_ret
      exact ⟨by first | rfl | exact ret_bool (by simp [*]), rfl⟩
    · rw [leapB_false (by unfold leapP; omega)]
      go_enter Tryz.func184, Tryz.ntmps184
      go_wp2
      go_ret
      exact ⟨by first | rfl | exact ret_bool (by simp [*]), rfl⟩
  by_cases h1 : c = 1
  · subst h1
    by_cases h4 : y.tmod 4 = 0
    · by_cases h100 : y.tmod 100 = 0
      · by_cases h400 : y.tmod 400 = 0
        · rw [leapB_true (.inr ⟨rfl, .inr h400⟩)]
          go_enter Tryz.func184, Tryz.ntmps184
          go_wp2
          go_ret
          exact ⟨by first | rfl | exact ret_bool (by simp [*]), rfl⟩
        · rw [leapB_false (by unfold leapP; omega)]
          go_enter Tryz.func184, Tryz.ntmps184
          go_wp2
          go_ret
          exact ⟨by first | rfl | exact ret_bool (by simp [*]), rfl⟩
      · rw [leapB_true (.inr ⟨rfl, .inl ⟨h4, h100⟩⟩)]
        go_enter Tryz.func184, Tryz.ntmps184
        go_wp2
        go_ret
        exact ⟨by first | rfl | exact ret_bool (by simp [*]), rfl⟩
    · have h400 : ¬ y.tmod 400 = 0 := fun h => h4 (tmod_four h)
      rw [leapB_false (by unfold leapP; omega)]
      go_enter Tryz.func184, Tryz.ntmps184
      go_wp2
      go_ret
      exact ⟨by first | rfl | exact ret_bool (by simp [*]), rfl⟩
  rw [leapB_false (by unfold leapP; omega)]
  go_enter Tryz.func184, Tryz.ntmps184
  go_wp2
  go_ret
  exact ⟨by first | rfl | exact ret_bool (by simp [*]), rfl⟩
theorem implCal0 (w : World) : Calls Tryz.prog 175 #[.int .i64 0] w fun e w' => e = .returned (.iface 232 (.agg #[])) ∧ w' = w := by
  go_enter Tryz.func175, Tryz.ntmps175
  go_wp2
  go_ret
  exact ⟨rfl, rfl⟩
theorem implCal1 (w : World) : Calls Tryz.prog 175 #[.int .i64 1] w fun e w' => e = .returned (.iface 233 (.agg #[])) ∧ w' = w := by
  go_enter Tryz.func175, Tryz.ntmps175
  go_wp2
  go_ret
  exact ⟨rfl, rfl⟩
theorem implCalNo (c : Int) (h0 : ¬ c = 0) (h1 : ¬ c = 1) (w : World) : Calls Tryz.prog 175 #[.int .i64 c] w fun e w' => e = .returned .nilIface ∧ w' = w := by
  go_enter Tryz.func175, Tryz.ntmps175
  go_wp2
  go_ret
  exact ⟨rfl, rfl⟩
/- What a type switch asks of a calendar: closed facts over the program's tables. -/
theorem isJulJul (w : World) : (Instr.typeAssert (.iface 232 (.agg #[])) 184 232 true).run Tryz.prog w = .ok (.tuple #[.agg #[], .bool true]) w := by kernel_rfl
theorem isJulGre (w : World) : (Instr.typeAssert (.iface 233 (.agg #[])) 184 232 true).run Tryz.prog w = .ok (.tuple #[.agg #[], .bool false]) w := by kernel_rfl
theorem isGreGre (w : World) : (Instr.typeAssert (.iface 233 (.agg #[])) 184 233 true).run Tryz.prog w = .ok (.tuple #[.agg #[], .bool true]) w := by kernel_rfl
theorem leapJul (y : Int) (w : World) : Calls Tryz.prog 396 #[.agg #[], .int .i64 y] w fun e w' => e = .returned (.bool (leapB 0 y)) ∧ Below w.heap.size w w' := by
  have h : leapB 0 y = (y.tmod 4 == 0) := by
    by_cases h : y.tmod 4 = 0
    · rw [leapB_true (.inl ⟨rfl, h⟩), h]; rfl
    · rw [leapB_false (by unfold leapP; omega)]; simp [h]
  rw [h]
  clear h
  go_enter Tryz.func396, Tryz.ntmps396
  go_wp2
  go_ret
  exact ⟨rfl, (Below.refl _ _).alloc (Nat.le_refl _) _⟩
theorem leapGre (y : Int) (w : World) : Calls Tryz.prog 398 #[.agg #[], .int .i64 y] w fun e w' => e = .returned (.bool (leapB 1 y)) ∧ Below w.heap.size w w' := by
  by_cases h4 : y.tmod 4 = 0
  · by_cases h100 : y.tmod 100 = 0
    · by_cases h400 : y.tmod 400 = 0
      · rw [leapB_true (.inr ⟨rfl, .inr h400⟩)]
        go_enter Tryz.func398, Tryz.ntmps398
        go_wp2
        go_ret
        exact ⟨by first | rfl | exact ret_bool (by simp [*]), (Below.refl _ _).alloc (Nat.le_refl _) _⟩
      · rw [leapB_false (by unfold leapP; omega)]
        go_enter Tryz.func398, Tryz.ntmps398
        go_wp2
        go_ret
        exact ⟨by first | rfl | exact ret_bool (by simp [*]), (Below.refl _ _).alloc (Nat.le_refl _) _⟩
    · rw [leapB_true (.inr ⟨rfl, .inl ⟨h4, h100⟩⟩)]
      go_enter Tryz.func398, Tryz.ntmps398
      go_wp2
      go_ret
      exact ⟨by first | rfl | exact ret_bool (by simp [*]), (Below.refl _ _).alloc (Nat.le_refl _) _⟩
  · have h400 : ¬ y.tmod 400 = 0 := fun h => h4 (tmod_four h)
    rw [leapB_false (by unfold leapP; omega)]
    go_enter Tryz.func398, Tryz.ntmps398
    go_wp2
    go_ret
    exact ⟨by first | rfl | exact ret_bool (by simp [*]), (Below.refl _ _).alloc (Nat.le_refl _) _⟩
theorem implLeap (c y : Int) (w : World) : Calls Tryz.prog 236 #[.int .i64 c, .int .i64 y] w fun e w' => e = .returned (.bool (leapB c y)) ∧ Below w.heap.size w w' := by
  by_cases h0 : c = 0
  · subst h0
    go_enter Tryz.func236, Tryz.ntmps236
    go_wp2_with fail
    refine (implCal0 _).mono ?_
    rintro e w1 ⟨rfl, rfl⟩
    go_wp2_with (go_at_call 396; refine (leapJul _ _).mono ?_; rintro e w1 ⟨rfl, hb⟩)
    go_ret
    exact ⟨rfl, hb⟩
  by_cases h1 : c = 1
  · subst h1
    go_enter Tryz.func236, Tryz.ntmps236
    go_wp2_with fail
    refine (implCal1 _).mono ?_
    rintro e w1 ⟨rfl, rfl⟩
    go_wp2_with (go_at_call 398; refine (leapGre _ _).mono ?_; rintro e w1 ⟨rfl, hb⟩)
    go_ret
    exact ⟨rfl, hb⟩
  rw [leapB_false (by unfold leapP; omega)]
  go_enter Tryz.func236, Tryz.ntmps236
  go_wp2_with fail
  refine (implCalNo _ h0 h1 _).mono ?_
  rintro e w1 ⟨rfl, rfl⟩
  go_wp2
  go_ret
  exact ⟨rfl, Below.refl _ _⟩
end Go.Proofs.YtilpencbbdpgfaaGreatDoor.ctr
namespace Go.Proofs.YtilpencbbdpgfaaGreatDoor.ctr
open Go.RowKit
def styleP (s : Int) : Prop := 0 ≤ s ∧ s ≤ 6
instance (s : Int) : Decidable (styleP s) := by unfold styleP; infer_instance
def styleB (s : Int) : Bool := decide (styleP s)
theorem styleB_true {s : Int} (h : styleP s) : styleB s = true := decide_eq_true h
theorem styleB_false {s : Int} (h : ¬ styleP s) : styleB s = false := decide_eq_false h
theorem style_cases {s : Int} (h : styleP s) : s = 0 ∨ s = 1 ∨ s = 2 ∨ s = 3 ∨ s = 4 ∨ s = 5 ∨ s = 6 := by unfold styleP at h; omega
def stys : List (List UInt8) := [[106, 97, 110], [109, 97, 114, 99, 104], [108, 97, 100, 121], [112, 105, 115, 97], [101, 97, 115, 116, 101, 114], [115, 101, 112, 116], [121, 117, 108, 101]]
def styText (s : Int) : ByteArray := ⟨(if styleP s then stys.getD s.toNat [] else []).toArray⟩
theorem styText_no {s : Int} (h : ¬ styleP s) : styText s = ⟨#[]⟩ := by unfold styText; rw [if_neg h]
theorem styText_some {s : Int} (h : styleP s) : (styText s).toList.isEmpty = false := by
  rw [ByteArray.toList_eq]
  rcases style_cases h with rfl | rfl | rfl | rfl | rfl | rfl | rfl <;> rfl
theorem styText_none {s : Int} (h : ¬ styleP s) : (styText s).toList.isEmpty = true := by rw [styText_no h, ByteArray.toList_eq]; rfl
theorem styleB_in (s : Int) : inB s 0 6 = styleB s := by
  by_cases h : styleP s
  · rw [styleB_true h, inB_true h.1 h.2]
  · rw [styleB_false h, inB_false]
    unfold styleP at h
    omega
def styVals : Array Value := (stys.map fun s => Value.string ⟨s.toArray⟩).toArray
theorem specNames (w : World) : Calls Tryz.prog 233 #[] w fun e w' => e = .returned (.slice (some ⟨w.heap.size, 0, none⟩) 7 7) ∧ w' = w.alloc (.cells styVals 9) := by
  go_enter Tryz.func233, Tryz.ntmps233
  go_wp2
  go_ret
  exact ⟨rfl, rfl⟩
set_option maxHeartbeats 400000 in
theorem specStyleName (s : Int) (w : World) : Calls Tryz.prog 171 #[.int .i64 s] w fun e w' => e = .returned (.string (styText s)) ∧ Below w.heap.size w w' := by
  have KI := l01In s 0 6 w
  rw [styleB_in] at KI
  by_cases h : styleP s
  · rw [styleB_true h] at KI
    rcases style_cases h with rfl | rfl | rfl | rfl | rfl | rfl | rfl
    · clear h
      go_enter Tryz.func171, Tryz.ntmps171
      go_wp2_with fail
      refine KI.mono ?_
      rintro e w1 ⟨rfl, hw0⟩
      rw [hw0]
      clear hw0
      go_wp2_with fail
      refine (specNames _).mono ?_
      rintro e w1 ⟨rfl, hw⟩
      have c : w1.cell? ⟨w.heap.size, 0, none⟩ = some (.string (styText 0)) := by rw [hw]; exact (Blk.new w styVals _).cell 0 rfl
      have HB : Hid (Below w.heap.size w w1) := by unfold Hid; rw [hw]; exact (Below.refl _ _).alloc (Nat.le_refl _) _
      clear hw
      go_wp2
      go_ret
      exact ⟨rfl, HB.out⟩
    · clear h
      go_enter Tryz.func171, Tryz.ntmps171
      go_wp2_with fail
      refine KI.mono ?_
      rintro e w1 ⟨rfl, hw0⟩
      rw [hw0]
      clear hw0
      go_wp2_with fail
      refine (specNames _).mono ?_
      rintro e w1 ⟨rfl, hw⟩
      have c : w1.cell? ⟨w.heap.size, 1, none⟩ = some (.string (styText 1)) := by rw [hw]; exact (Blk.new w styVals _).cell 1 rfl
      have HB : Hid (Below w.heap.size w w1) := by unfold Hid; rw [hw]; exact (Below.refl _ _).alloc (Nat.le_refl _) _
      clear hw
      go_wp2
      go_ret
      exact ⟨rfl, HB.out⟩
    · clear h
      go_enter Tryz.func171, Tryz.ntmps171
      go_wp2_with fail
      refine KI.mono ?_
      rintro e w1 ⟨rfl, hw0⟩
      rw [hw0]
      clear hw0
      go_wp2_with fail
      refine (specNames _).mono ?_
      rintro e w1 ⟨rfl, hw⟩
      have c : w1.cell? ⟨w.heap.size, 2, none⟩ = some (.string (styText 2)) := by rw [hw]; exact (Blk.new w styVals _).cell 2 rfl
      have HB : Hid (Below w.heap.size w w1) := by unfold Hid; rw [hw]; exact (Below.refl _ _).alloc (Nat.le_refl _) _
      clear hw
      go_wp2
      go_ret
      exact ⟨rfl, HB.out⟩
    · clear h
      go_enter Tryz.func171, Tryz.ntmps171
      go_wp2_with fail
      refine KI.mono ?_
      rintro e w1 ⟨rfl, hw0⟩
      rw [hw0]
      clear hw0
      go_wp2_with fail
      refine (specNames _).mono ?_
      rintro e w1 ⟨rfl, hw⟩
      have c : w1.cell? ⟨w.heap.size, 3, none⟩ = some (.string (styText 3)) := by rw [hw]; exact (Blk.new w styVals _).cell 3 rfl
      have HB : Hid (Below w.heap.size w w1) := by unfold Hid; rw [hw]; exact (Below.refl _ _).alloc (Nat.le_refl _) _
      clear hw
      go_wp2
      go_ret
      exact ⟨rfl, HB.out⟩
    · clear h
      go_enter Tryz.func171, Tryz.ntmps171
      go_wp2_with fail
      refine KI.mono ?_
      rintro e w1 ⟨rfl, hw0⟩
      rw [hw0]
      clear hw0
      go_wp2_with fail
      refine (specNames _).mono ?_
      rintro e w1 ⟨rfl, hw⟩
      have c : w1.cell? ⟨w.heap.size, 4, none⟩ = some (.string (styText 4)) := by rw [hw]; exact (Blk.new w styVals _).cell 4 rfl
      have HB : Hid (Below w.heap.size w w1) := by unfold Hid; rw [hw]; exact (Below.refl _ _).alloc (Nat.le_refl _) _
      clear hw
      go_wp2
      go_ret
      exact ⟨rfl, HB.out⟩
    · clear h
      go_enter Tryz.func171, Tryz.ntmps171
      go_wp2_with fail
      refine KI.mono ?_
      rintro e w1 ⟨rfl, hw0⟩
      rw [hw0]
      clear hw0
      go_wp2_with fail
      refine (specNames _).mono ?_
      rintro e w1 ⟨rfl, hw⟩
      have c : w1.cell? ⟨w.heap.size, 5, none⟩ = some (.string (styText 5)) := by rw [hw]; exact (Blk.new w styVals _).cell 5 rfl
      have HB : Hid (Below w.heap.size w w1) := by unfold Hid; rw [hw]; exact (Below.refl _ _).alloc (Nat.le_refl _) _
      clear hw
      go_wp2
      go_ret
      exact ⟨rfl, HB.out⟩
    · clear h
      go_enter Tryz.func171, Tryz.ntmps171
      go_wp2_with fail
      refine KI.mono ?_
      rintro e w1 ⟨rfl, hw0⟩
      rw [hw0]
      clear hw0
      go_wp2_with fail
      refine (specNames _).mono ?_
      rintro e w1 ⟨rfl, hw⟩
      have c : w1.cell? ⟨w.heap.size, 6, none⟩ = some (.string (styText 6)) := by rw [hw]; exact (Blk.new w styVals _).cell 6 rfl
      have HB : Hid (Below w.heap.size w w1) := by unfold Hid; rw [hw]; exact (Below.refl _ _).alloc (Nat.le_refl _) _
      clear hw
      go_wp2
      go_ret
      exact ⟨rfl, HB.out⟩
  · rw [styleB_false h] at KI
    rw [styText_no h]
    clear h
    go_enter Tryz.func171, Tryz.ntmps171
    go_wp2_with fail
    refine KI.mono ?_
    rintro e w1 ⟨rfl, rfl⟩
    go_wp2
    go_ret
    exact ⟨rfl, Below.refl _ _⟩
theorem implStyleOk (s : Int) (w : World) : Calls Tryz.prog 179 #[.int .i64 s] w fun e w' => e = .returned (.bool (styleB s)) ∧ w' = w := by
  by_cases h1 : 0 ≤ s
  · by_cases h2 : s < 7
    · rw [styleB_true ⟨h1, by omega⟩]
      go_enter Tryz.func179, Tryz.ntmps179
      go_wp2
      go_ret
      exact ⟨rfl, rfl⟩
    · rw [styleB_false (by unfold styleP; omega)]
      have hd : decide (s < 7) = false := decide_eq_false h2
      go_enter Tryz.func179, Tryz.ntmps179
      go_wp2
      go_ret
      exact ⟨rfl, rfl⟩
  · rw [styleB_false (by unfold styleP; omega)]
    have hd : decide (0 ≤ s) = false := decide_eq_false h1
    go_enter Tryz.func179, Tryz.ntmps179
    go_wp2
    go_ret
    exact ⟨rfl, rfl⟩
end Go.Proofs.YtilpencbbdpgfaaGreatDoor.ctr
namespace Go.Proofs.YtilpencbbdpgfaaGreatDoor.ctr
open Go.RowKit
def dayB (n : Int) : Bool := inB n 400 1090000
def segOkB (s : Seg) : Bool := dayB s.fr && (dayB s.to && (decide (s.fr ≤ s.to) && (calB s.cal && (styleB s.sty && inB s.off (-3) 3))))
theorem implOnLine (n : Int) (w : World) : Calls Tryz.prog 123 #[.int .i64 n] w fun e w' => e = .returned (.bool (dayB n)) ∧ w' = w := by
  unfold dayB
  by_cases h1 : 400 ≤ n
  · by_cases h2 : n ≤ 1090000
    · rw [inB_true h1 h2]
      go_enter Tryz.func123, Tryz.ntmps123
      go_wp2
      go_ret
      exact ⟨rfl, rfl⟩
    · rw [inB_false (.inr (by omega))]
      have hd : decide (n ≤ 1090000) = false := decide_eq_false h2
      go_enter Tryz.func123, Tryz.ntmps123
      go_wp2
      go_ret
      exact ⟨rfl, rfl⟩
  · rw [inB_false (.inl (by omega))]
    have hd : decide (400 ≤ n) = false := decide_eq_false h1
    go_enter Tryz.func123, Tryz.ntmps123
    go_wp2
    go_ret
    exact ⟨rfl, rfl⟩
theorem specDay9 (n : Int) (w : World) : Calls Tryz.prog 101 #[.int .i64 n] w fun e w' => e = .returned (.bool (dayB n)) ∧ w' = w := by
  go_enter Tryz.func101, Tryz.ntmps101
  go_wp2_with (go_at_call 88; refine (l01In n 400 1090000 _).mono ?_; rintro e w1 ⟨rfl, rfl⟩)
  go_ret
  exact ⟨rfl, rfl⟩
theorem seg_box (w : World) (a b c d e : Int) (t : TypeId) : ∃ W0, W0 = w.alloc (.cells #[.int .i64 a, .int .i64 b, .int .i64 c, .int .i64 d, .int .i64 e] t) ∧ (∀ x : Later W0, x.w.cell? ⟨w.heap.size, 0, none⟩ = some (.int .i64 a)) ∧ (∀ x : Later W0, x.w.cell? ⟨w.heap.size, 1, none⟩ = some (.int .i64 b)) ∧ (∀ x : Later W0, x.w.cell? ⟨w.heap.size, 2, none⟩ = some (.int .i64 c)) ∧ (∀ x : Later W0, x.w.cell? ⟨w.heap.size, 3, none⟩ = some (.int .i64 d)) ∧ (∀ x : Later W0, x.w.cell? ⟨w.heap.size, 4, none⟩ = some (.int .i64 e)) ∧ ∀ x : Later W0, Below w.heap.size w x.w :=
  ⟨_, rfl, Later.new rfl 0 rfl, Later.new rfl 1 rfl, Later.new rfl 2 rfl, Later.new rfl 3 rfl, Later.new rfl 4 rfl, fun x => below_alloc x.below⟩
set_option maxHeartbeats 1000000 in
theorem implSegOk (s : Seg) (w : World) : Calls Tryz.prog 185 #[.agg #[.int .i64 s.fr, .int .i64 s.to, .int .i64 s.cal, .int .i64 s.sty, .int .i64 s.off]] w fun e w' => e = .returned (.bool (segOkB s)) ∧ Below w.heap.size w w' := by
  have K1 : ∀ W, Calls Tryz.prog 123 #[.int .i64 s.fr] W fun e w' => e = .returned (.bool (dayB s.fr)) ∧ Below W.heap.size W w' := fun W => (implOnLine s.fr W).mono fun _ _ h => ⟨h.1, same_bel h.2⟩
  have K2 : ∀ W, Calls Tryz.prog 123 #[.int .i64 s.to] W fun e w' => e = .returned (.bool (dayB s.to)) ∧ Below W.heap.size W w' := fun W => (implOnLine s.to W).mono fun _ _ h => ⟨h.1, same_bel h.2⟩
  have K5 : ∀ W, Calls Tryz.prog 179 #[.int .i64 s.sty] W fun e w' => e = .returned (.bool (styleB s.sty)) ∧ Below W.heap.size W w' := fun W => (implStyleOk s.sty W).mono fun _ _ h => ⟨h.1, same_bel h.2⟩
  obtain ⟨W0, hW0, c0, c1, c2, c3, c4, hBl⟩ := seg_box w s.fr s.to s.cal s.sty s.off 95
  have HW0 := hideP hW0
  have HBl := hideP hBl
  clear hW0 hBl
  unfold segOkB
  generalize dayB s.fr = b1 at *
  generalize dayB s.to = b2 at *
  generalize styleB s.sty = b5 at *
  cases b1
  · rw [Bool.false_and]
    go_enter Tryz.func185, Tryz.ntmps185
    go_wp2_with fail
    rw [← HW0.out]
    refine (K1 _).mono ?_
    rintro e w1 ⟨rfl, hb⟩
    obtain ⟨x1, rfl⟩ := Later.of hb
    clear hb
    go_wp2
    go_ret
    exact ⟨rfl, HBl.out x1⟩
  rw [Bool.true_and]
  cases b2
  · rw [Bool.false_and]
    go_enter Tryz.func185, Tryz.ntmps185
    go_wp2_with fail
    rw [← HW0.out]
    refine (K1 _).mono ?_
    rintro e w1 ⟨rfl, hb⟩
    obtain ⟨x1, rfl⟩ := Later.of hb
    clear hb
    go_wp2_with fail
    refine (K2 _).mono ?_
    rintro e w2 ⟨rfl, hb⟩
    obtain ⟨x2, rfl⟩ := x1.next hb
    clear hb
    go_wp2
    go_ret
    exact ⟨rfl, HBl.out x2⟩
  rw [Bool.true_and]
  by_cases h3 : s.fr ≤ s.to
  case neg =>
    rw [decide_eq_false h3, Bool.false_and]
    have hd : decide (s.fr ≤ s.to) = false := decide_eq_false h3
    go_enter Tryz.func185, Tryz.ntmps185
    go_wp2_with fail
    rw [← HW0.out]
    refine (K1 _).mono ?_
    rintro e w1 ⟨rfl, hb⟩
    obtain ⟨x1, rfl⟩ := Later.of hb
    clear hb
    go_wp2_with fail
    refine (K2 _).mono ?_
    rintro e w2 ⟨rfl, hb⟩
    obtain ⟨x2, rfl⟩ := x1.next hb
    clear hb
    go_wp2
    go_ret
    exact ⟨rfl, HBl.out x2⟩
  rw [decide_eq_true h3, Bool.true_and]
  by_cases hc : s.cal = 0 ∨ s.cal = 1
  case neg =>
    rw [calB_no hc, Bool.false_and]
    have K4 : ∀ W, Calls Tryz.prog 175 #[.int .i64 s.cal] W fun e w' => e = .returned (.nilIface) ∧ Below W.heap.size W w' := fun W => (implCalNo s.cal (fun e => hc (.inl e)) (fun e => hc (.inr e)) W).mono fun _ _ h => ⟨h.1, same_bel h.2⟩
    go_enter Tryz.func185, Tryz.ntmps185
    go_wp2_with fail
    rw [← HW0.out]
    refine (K1 _).mono ?_
    rintro e w1 ⟨rfl, hb⟩
    obtain ⟨x1, rfl⟩ := Later.of hb
    clear hb
    go_wp2_with fail
    refine (K2 _).mono ?_
    rintro e w2 ⟨rfl, hb⟩
    obtain ⟨x2, rfl⟩ := x1.next hb
    clear hb
    go_wp2_with fail
    refine (K4 _).mono ?_
    rintro e w3 ⟨rfl, hb⟩
    obtain ⟨x3, rfl⟩ := x2.next hb
    clear hb
    go_wp2
    go_ret
    exact ⟨rfl, HBl.out x3⟩
  rw [calB_iff.2 hc, Bool.true_and]
  obtain ⟨ct, K4⟩ : ∃ ct, ∀ W, Calls Tryz.prog 175 #[.int .i64 s.cal] W fun e w' => e = .returned (.iface ct (.agg #[])) ∧ Below W.heap.size W w' := by
    rcases hc with hc | hc
    · rw [hc]; exact ⟨_, fun W => (implCal0 W).mono fun _ _ h => ⟨h.1, same_bel h.2⟩⟩
    · rw [hc]; exact ⟨_, fun W => (implCal1 W).mono fun _ _ h => ⟨h.1, same_bel h.2⟩⟩
  clear hc
  cases b5
  · rw [Bool.false_and]
    go_enter Tryz.func185, Tryz.ntmps185
    go_wp2_with fail
    rw [← HW0.out]
    refine (K1 _).mono ?_
    rintro e w1 ⟨rfl, hb⟩
    obtain ⟨x1, rfl⟩ := Later.of hb
    clear hb
    go_wp2_with fail
    refine (K2 _).mono ?_
    rintro e w2 ⟨rfl, hb⟩
    obtain ⟨x2, rfl⟩ := x1.next hb
    clear hb
    go_wp2_with fail
    refine (K4 _).mono ?_
    rintro e w3 ⟨rfl, hb⟩
    obtain ⟨x3, rfl⟩ := x2.next hb
    clear hb
    go_wp2_with fail
    refine (K5 _).mono ?_
    rintro e w4 ⟨rfl, hb⟩
    obtain ⟨x4, rfl⟩ := x3.next hb
    clear hb
    go_wp2
    go_ret
    exact ⟨rfl, HBl.out x4⟩
  rw [Bool.true_and]
  by_cases h6 : -3 ≤ s.off
  case neg =>
    rw [inB_false (by omega)]
    have hd : decide (-3 ≤ s.off) = false := decide_eq_false h6
    go_enter Tryz.func185, Tryz.ntmps185
    go_wp2_with fail
    rw [← HW0.out]
    refine (K1 _).mono ?_
    rintro e w1 ⟨rfl, hb⟩
    obtain ⟨x1, rfl⟩ := Later.of hb
    clear hb
    go_wp2_with fail
    refine (K2 _).mono ?_
    rintro e w2 ⟨rfl, hb⟩
    obtain ⟨x2, rfl⟩ := x1.next hb
    clear hb
    go_wp2_with fail
    refine (K4 _).mono ?_
    rintro e w3 ⟨rfl, hb⟩
    obtain ⟨x3, rfl⟩ := x2.next hb
    clear hb
    go_wp2_with fail
    refine (K5 _).mono ?_
    rintro e w4 ⟨rfl, hb⟩
    obtain ⟨x4, rfl⟩ := x3.next hb
    clear hb
    go_wp2
    go_ret
    exact ⟨rfl, HBl.out x4⟩
  by_cases h7 : s.off ≤ 3
  case neg =>
    rw [inB_false (by omega)]
    have hd : decide (s.off ≤ 3) = false := decide_eq_false h7
    go_enter Tryz.func185, Tryz.ntmps185
    go_wp2_with fail
    rw [← HW0.out]
    refine (K1 _).mono ?_
    rintro e w1 ⟨rfl, hb⟩
    obtain ⟨x1, rfl⟩ := Later.of hb
    clear hb
    go_wp2_with fail
    refine (K2 _).mono ?_
    rintro e w2 ⟨rfl, hb⟩
    obtain ⟨x2, rfl⟩ := x1.next hb
    clear hb
    go_wp2_with fail
    refine (K4 _).mono ?_
    rintro e w3 ⟨rfl, hb⟩
    obtain ⟨x3, rfl⟩ := x2.next hb
    clear hb
    go_wp2_with fail
    refine (K5 _).mono ?_
    rintro e w4 ⟨rfl, hb⟩
    obtain ⟨x4, rfl⟩ := x3.next hb
    clear hb
    go_wp2
    go_ret
    exact ⟨rfl, HBl.out x4⟩
  rw [inB_true h6 h7]
  go_enter Tryz.func185, Tryz.ntmps185
  go_wp2_with fail
  rw [← HW0.out]
  refine (K1 _).mono ?_
  rintro e w1 ⟨rfl, hb⟩
  obtain ⟨x1, rfl⟩ := Later.of hb
  clear hb
  go_wp2_with fail
  refine (K2 _).mono ?_
  rintro e w2 ⟨rfl, hb⟩
  obtain ⟨x2, rfl⟩ := x1.next hb
  clear hb
  go_wp2_with fail
  refine (K4 _).mono ?_
  rintro e w3 ⟨rfl, hb⟩
  obtain ⟨x3, rfl⟩ := x2.next hb
  clear hb
  go_wp2_with fail
  refine (K5 _).mono ?_
  rintro e w4 ⟨rfl, hb⟩
  obtain ⟨x4, rfl⟩ := x3.next hb
  clear hb
  go_wp2
  go_ret
  exact ⟨rfl, HBl.out x4⟩
set_option maxHeartbeats 1000000 in
theorem specSegOk (s : Seg) (w : World) : Calls Tryz.prog 166 #[.agg #[.int .i64 s.fr, .int .i64 s.to, .int .i64 s.cal, .int .i64 s.sty, .int .i64 s.off]] w fun e w' => e = .returned (.bool (segOkB s)) ∧ Below w.heap.size w w' := by
  have K1 : ∀ W, Calls Tryz.prog 101 #[.int .i64 s.fr] W fun e w' => e = .returned (.bool (dayB s.fr)) ∧ Below W.heap.size W w' := fun W => (specDay9 s.fr W).mono fun _ _ h => ⟨h.1, same_bel h.2⟩
  have K2 : ∀ W, Calls Tryz.prog 101 #[.int .i64 s.to] W fun e w' => e = .returned (.bool (dayB s.to)) ∧ Below W.heap.size W w' := fun W => (specDay9 s.to W).mono fun _ _ h => ⟨h.1, same_bel h.2⟩
  have K4 : ∀ W, Calls Tryz.prog 120 #[.int .i64 s.cal] W fun e w' => e = .returned (.bool (calB s.cal)) ∧ Below W.heap.size W w' := fun W => (specCal s.cal W).mono fun _ _ h => ⟨h.1, same_bel h.2⟩
  have K5 : ∀ W, Calls Tryz.prog 171 #[.int .i64 s.sty] W fun e w' => e = .returned (.string (styText s.sty)) ∧ Below W.heap.size W w' := fun W => specStyleName s.sty W
  have K6 : ∀ W, Calls Tryz.prog 88 #[.int .i64 s.off, .int .i64 (-3), .int .i64 3] W fun e w' => e = .returned (.bool (inB s.off (-3) 3)) ∧ Below W.heap.size W w' := fun W => (l01In s.off (-3) 3 W).mono fun _ _ h => ⟨h.1, same_bel h.2⟩
  obtain ⟨W0, hW0, c0, c1, c2, c3, c4, hBl⟩ := seg_box w s.fr s.to s.cal s.sty s.off 95
  have HW0 := hideP hW0
  have HBl := hideP hBl
  clear hW0 hBl
  unfold segOkB
  generalize dayB s.fr = b1 at *
  generalize dayB s.to = b2 at *
  generalize calB s.cal = b4 at *
  generalize inB s.off (-3) 3 = b6 at *
  cases b1
  · rw [Bool.false_and]
    go_enter Tryz.func166, Tryz.ntmps166
    go_wp2_with fail
    rw [← HW0.out]
    refine (K1 _).mono ?_
    rintro e w1 ⟨rfl, hb⟩
    obtain ⟨x1, rfl⟩ := Later.of hb
    clear hb
    go_wp2
    go_ret
    exact ⟨rfl, HBl.out x1⟩
  rw [Bool.true_and]
  cases b2
  · rw [Bool.false_and]
    go_enter Tryz.func166, Tryz.ntmps166
    go_wp2_with fail
    rw [← HW0.out]
    refine (K1 _).mono ?_
    rintro e w1 ⟨rfl, hb⟩
    obtain ⟨x1, rfl⟩ := Later.of hb
    clear hb
    go_wp2_with fail
    refine (K2 _).mono ?_
    rintro e w2 ⟨rfl, hb⟩
    obtain ⟨x2, rfl⟩ := x1.next hb
    clear hb
    go_wp2
    go_ret
    exact ⟨rfl, HBl.out x2⟩
  rw [Bool.true_and]
  by_cases h3 : s.fr ≤ s.to
  case neg =>
    rw [decide_eq_false h3, Bool.false_and]
    have hd : decide (s.fr ≤ s.to) = false := decide_eq_false h3
    go_enter Tryz.func166, Tryz.ntmps166
    go_wp2_with fail
    rw [← HW0.out]
    refine (K1 _).mono ?_
    rintro e w1 ⟨rfl, hb⟩
    obtain ⟨x1, rfl⟩ := Later.of hb
    clear hb
    go_wp2_with fail
    refine (K2 _).mono ?_
    rintro e w2 ⟨rfl, hb⟩
    obtain ⟨x2, rfl⟩ := x1.next hb
    clear hb
    go_wp2
    go_ret
    exact ⟨rfl, HBl.out x2⟩
  rw [decide_eq_true h3, Bool.true_and]
  cases b4
  · rw [Bool.false_and]
    go_enter Tryz.func166, Tryz.ntmps166
    go_wp2_with fail
    rw [← HW0.out]
    refine (K1 _).mono ?_
    rintro e w1 ⟨rfl, hb⟩
    obtain ⟨x1, rfl⟩ := Later.of hb
    clear hb
    go_wp2_with fail
    refine (K2 _).mono ?_
    rintro e w2 ⟨rfl, hb⟩
    obtain ⟨x2, rfl⟩ := x1.next hb
    clear hb
    go_wp2_with fail
    refine (K4 _).mono ?_
    rintro e w3 ⟨rfl, hb⟩
    obtain ⟨x3, rfl⟩ := x2.next hb
    clear hb
    go_wp2
    go_ret
    exact ⟨rfl, HBl.out x3⟩
  rw [Bool.true_and]
  by_cases hs : styleP s.sty
  case neg =>
    rw [styleB_false hs, Bool.false_and]
    have hE := styText_none hs
    generalize styText s.sty = t at *
    go_enter Tryz.func166, Tryz.ntmps166
    go_wp2_with fail
    rw [← HW0.out]
    refine (K1 _).mono ?_
    rintro e w1 ⟨rfl, hb⟩
    obtain ⟨x1, rfl⟩ := Later.of hb
    clear hb
    go_wp2_with fail
    refine (K2 _).mono ?_
    rintro e w2 ⟨rfl, hb⟩
    obtain ⟨x2, rfl⟩ := x1.next hb
    clear hb
    go_wp2_with fail
    refine (K4 _).mono ?_
    rintro e w3 ⟨rfl, hb⟩
    obtain ⟨x3, rfl⟩ := x2.next hb
    clear hb
    go_wp2_with fail
    refine (K5 _).mono ?_
    rintro e w4 ⟨rfl, hb⟩
    obtain ⟨x4, rfl⟩ := x3.next hb
    clear hb
    go_wp2
    go_ret
    exact ⟨rfl, HBl.out x4⟩
  rw [styleB_true hs, Bool.true_and]
  have hE := styText_some hs
  generalize styText s.sty = t at *
  go_enter Tryz.func166, Tryz.ntmps166
  go_wp2_with fail
  rw [← HW0.out]
  refine (K1 _).mono ?_
  rintro e w1 ⟨rfl, hb⟩
  obtain ⟨x1, rfl⟩ := Later.of hb
  clear hb
  go_wp2_with fail
  refine (K2 _).mono ?_
  rintro e w2 ⟨rfl, hb⟩
  obtain ⟨x2, rfl⟩ := x1.next hb
  clear hb
  go_wp2_with fail
  refine (K4 _).mono ?_
  rintro e w3 ⟨rfl, hb⟩
  obtain ⟨x3, rfl⟩ := x2.next hb
  clear hb
  go_wp2_with fail
  refine (K5 _).mono ?_
  rintro e w4 ⟨rfl, hb⟩
  obtain ⟨x4, rfl⟩ := x3.next hb
  clear hb
  go_wp2_with fail
  refine (K6 _).mono ?_
  rintro e w5 ⟨rfl, hb⟩
  obtain ⟨x5, rfl⟩ := x4.next hb
  clear hb
  go_wp2
  go_ret
  exact ⟨rfl, HBl.out x5⟩
end Go.Proofs.YtilpencbbdpgfaaGreatDoor.ctr
namespace Go.Proofs.YtilpencbbdpgfaaGreatDoor.kit
open Go.RowKit Go.WideShapes Go.Deep Go.ChangeShapes
end Go.Proofs.YtilpencbbdpgfaaGreatDoor.kit
