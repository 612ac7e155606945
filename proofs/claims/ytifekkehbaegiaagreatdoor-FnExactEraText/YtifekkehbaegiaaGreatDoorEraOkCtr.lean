/- Contracts of both EraOk: each answers its plain function at every era. -/
import Derived.Test.YtifekkehbaegiaaGreatDoorStyBase
import Derived.Test.YtifekkehbaegiaaGreatDoorNameCtr
import Derived.Test.YtifekkehbaegiaaGreatDoorEraOpen
namespace Go.Proofs.YtifekkehbaegiaaGreatDoor.ctr
open Go.RowKit

def cycB (c : Int) : Bool := decide (c = 0) || inB c 2 600
def eraOkB (s : ByteArray) (st add cyc : Int) : Bool := nameOk s && (styleB st && (inB add 0 9000 && cycB cyc))
theorem eraOk_parts {s : ByteArray} {st add cyc : Int} (h : eraOkB s st add cyc = true) : nameOk s = true ∧ styleP st ∧ 0 ≤ add ∧ add ≤ 9000 ∧ (cyc = 0 ∨ (2 ≤ cyc ∧ cyc ≤ 600)) := by
  unfold eraOkB cycB at h
  simp only [Bool.and_eq_true, Bool.or_eq_true, decide_eq_true_eq] at h
  obtain ⟨h1, h2, h3, h4⟩ := h
  have h3' : 0 ≤ add ∧ add ≤ 9000 := by unfold inB at h3; simpa using h3
  refine ⟨h1, of_decide_eq_true h2, h3'.1, h3'.2, ?_⟩
  rcases h4 with h4 | h4
  · exact .inl h4
  · right; unfold inB at h4; simpa using h4
theorem eraOk_nine : ∀ i : Fin 9, eraOkB (eraAt i.val).name (eraAt i.val).st (eraAt i.val).add (eraAt i.val).cyc = true := by decide +kernel
theorem eraOk_zero : eraOkB ⟨#[]⟩ 0 0 0 = false := by decide +kernel
theorem same_below {W w' : World} (h : w' = W) : Below W.heap.size W w' := by rw [h]; exact Below.refl _ _
theorem implCycleOk (c : Int) (w : World) : Calls Tryz.prog 60 #[.int .i64 c] w fun e w' => e = .returned (.bool (cycB c)) ∧ w' = w := by
  unfold cycB
  by_cases h0 : c = 0
  · subst h0
    rw [decide_eq_true rfl, Bool.true_or]
    go_enter Tryz.func60, Tryz.ntmps60
    go_wp2
    go_ret
    exact ⟨rfl, rfl⟩
  rw [decide_eq_false h0, Bool.false_or]
  have h0' : (c == 0) = false := by simp [h0]
  by_cases h1 : 2 ≤ c
  · by_cases h2 : c ≤ 600
    · rw [inB_true h1 h2]
      go_enter Tryz.func60, Tryz.ntmps60
      go_wp2
      go_ret
      exact ⟨rfl, rfl⟩
    · rw [inB_false (by omega)]
      have hd : decide (c ≤ 600) = false := decide_eq_false h2
      go_enter Tryz.func60, Tryz.ntmps60
      go_wp2
      go_ret
      exact ⟨rfl, rfl⟩
  · rw [inB_false (by omega)]
    have hd : decide (2 ≤ c) = false := decide_eq_false h1
    go_enter Tryz.func60, Tryz.ntmps60
    go_wp2
    go_ret
    exact ⟨rfl, rfl⟩

set_option maxHeartbeats 1000000 in
theorem implEraOk (s : ByteArray) (st ad cy : Int) (w : World) (hs : s.size ≤ maxLen) : Calls Tryz.prog 21 #[.agg #[.string s, .int .i64 st, .int .i64 ad, .int .i64 cy]] w fun e w' => e = .returned (.bool (eraOkB s st ad cy)) ∧ Below w.heap.size w w' := by
  have KN : ∀ W, Calls Tryz.prog 58 #[.string s] W fun e w' => e = .returned (.bool (nameOk s)) ∧ Below W.heap.size W w' := fun W => (implNameOk s W hs).mono fun _ _ h => ⟨h.1, same_below h.2⟩
  have KS : ∀ W, Calls Tryz.prog 59 #[.int .i64 st] W fun e w' => e = .returned (.bool (styleB st)) ∧ Below W.heap.size W w' := fun W => (implStyleOk st W).mono fun _ _ h => ⟨h.1, same_below h.2⟩
  have KC : ∀ W, Calls Tryz.prog 60 #[.int .i64 cy] W fun e w' => e = .returned (.bool (cycB cy)) ∧ Below W.heap.size W w' := fun W => (implCycleOk cy W).mono fun _ _ h => ⟨h.1, same_below h.2⟩
  obtain ⟨W0, hW0, c0, c1, c2, c3, hBl⟩ := era_box w s st ad cy 25
  have HW0 := hideP hW0
  have HBl := hideP hBl
  clear hs hW0 hBl
  unfold eraOkB
  generalize nameOk s = nb at *
  generalize styleB st = sb at *
  generalize cycB cy = cb at *
  cases nb
  · rw [Bool.false_and]
    go_enter Tryz.func21, Tryz.ntmps21
    go_wp2_with fail
    rw [← HW0.out]
    refine (KN _).mono ?_
    rintro e w1 ⟨rfl, hb⟩
    obtain ⟨x1, rfl⟩ := Later.of hb
    clear hb
    go_wp2
    go_ret
    exact ⟨rfl, HBl.out x1⟩
  rw [Bool.true_and]
  cases sb
  · rw [Bool.false_and]
    go_enter Tryz.func21, Tryz.ntmps21
    go_wp2_with fail
    rw [← HW0.out]
    refine (KN _).mono ?_
    rintro e w1 ⟨rfl, hb⟩
    obtain ⟨x1, rfl⟩ := Later.of hb
    clear hb
    go_wp2_with fail
    refine (KS _).mono ?_
    rintro e w2 ⟨rfl, hb⟩
    obtain ⟨x2, rfl⟩ := x1.next hb
    clear hb
    go_wp2
    go_ret
    exact ⟨rfl, HBl.out x2⟩
  rw [Bool.true_and]
  by_cases h1 : 0 ≤ ad
  case neg =>
    rw [inB_false (by omega), Bool.false_and]
    have hd : decide (0 ≤ ad) = false := decide_eq_false h1
    go_enter Tryz.func21, Tryz.ntmps21
    go_wp2_with fail
    rw [← HW0.out]
    refine (KN _).mono ?_
    rintro e w1 ⟨rfl, hb⟩
    obtain ⟨x1, rfl⟩ := Later.of hb
    clear hb
    go_wp2_with fail
    refine (KS _).mono ?_
    rintro e w2 ⟨rfl, hb⟩
    obtain ⟨x2, rfl⟩ := x1.next hb
    clear hb
    go_wp2
    go_ret
    exact ⟨rfl, HBl.out x2⟩
  by_cases h2 : ad ≤ 9000
  case neg =>
    rw [inB_false (by omega), Bool.false_and]
    have hd : decide (ad ≤ 9000) = false := decide_eq_false h2
    go_enter Tryz.func21, Tryz.ntmps21
    go_wp2_with fail
    rw [← HW0.out]
    refine (KN _).mono ?_
    rintro e w1 ⟨rfl, hb⟩
    obtain ⟨x1, rfl⟩ := Later.of hb
    clear hb
    go_wp2_with fail
    refine (KS _).mono ?_
    rintro e w2 ⟨rfl, hb⟩
    obtain ⟨x2, rfl⟩ := x1.next hb
    clear hb
    go_wp2
    go_ret
    exact ⟨rfl, HBl.out x2⟩
  rw [inB_true h1 h2, Bool.true_and]
  go_enter Tryz.func21, Tryz.ntmps21
  go_wp2_with fail
  rw [← HW0.out]
  refine (KN _).mono ?_
  rintro e w1 ⟨rfl, hb⟩
  obtain ⟨x1, rfl⟩ := Later.of hb
  clear hb
  go_wp2_with fail
  refine (KS _).mono ?_
  rintro e w2 ⟨rfl, hb⟩
  obtain ⟨x2, rfl⟩ := x1.next hb
  clear hb
  go_wp2_with fail
  refine (KC _).mono ?_
  rintro e w3 ⟨rfl, hb⟩
  obtain ⟨x3, rfl⟩ := x2.next hb
  clear hb
  go_wp2
  go_ret
  exact ⟨rfl, HBl.out x3⟩

set_option maxHeartbeats 1000000 in
theorem specEraOk (s : ByteArray) (st ad cy : Int) (w : World) (hs : s.size ≤ maxLen) : Calls Tryz.prog 22 #[.agg #[.string s, .int .i64 st, .int .i64 ad, .int .i64 cy]] w fun e w' => e = .returned (.bool (eraOkB s st ad cy)) ∧ Below w.heap.size w w' := by
  have KN : ∀ W, Calls Tryz.prog 61 #[.string s] W fun e w' => e = .returned (.bool (nameOk s)) ∧ Below W.heap.size W w' := fun W => (specNameOk s W hs).mono fun _ _ h => ⟨h.1, same_below h.2⟩
  have KS : ∀ W, Calls Tryz.prog 62 #[.int .i64 st] W fun e w' => e = .returned (.string (styText st)) ∧ Below W.heap.size W w' := fun W => specStyleName st W
  have KA : ∀ W, Calls Tryz.prog 45 #[.int .i64 ad, .int .i64 0, .int .i64 9000] W fun e w' => e = .returned (.bool (inB ad 0 9000)) ∧ Below W.heap.size W w' := fun W => (l01In ad 0 9000 W).mono fun _ _ h => ⟨h.1, same_below h.2⟩
  have KC : ∀ W, Calls Tryz.prog 45 #[.int .i64 cy, .int .i64 2, .int .i64 600] W fun e w' => e = .returned (.bool (inB cy 2 600)) ∧ Below W.heap.size W w' := fun W => (l01In cy 2 600 W).mono fun _ _ h => ⟨h.1, same_below h.2⟩
  obtain ⟨W0, hW0, c0, c1, c2, c3, hBl⟩ := era_box w s st ad cy 25
  have HW0 := hideP hW0
  have HBl := hideP hBl
  clear hs hW0 hBl
  unfold eraOkB cycB
  generalize nameOk s = nb at *
  generalize inB ad 0 9000 = ab at *
  generalize inB cy 2 600 = cb at *
  cases nb
  · rw [Bool.false_and]
    go_enter Tryz.func22, Tryz.ntmps22
    go_wp2_with fail
    rw [← HW0.out]
    refine (KN _).mono ?_
    rintro e w1 ⟨rfl, hb⟩
    obtain ⟨x1, rfl⟩ := Later.of hb
    clear hb
    go_wp2
    go_ret
    exact ⟨rfl, HBl.out x1⟩
  rw [Bool.true_and]
  by_cases hs : styleP st
  case neg =>
    rw [styleB_false hs, Bool.false_and]
    have hE := styText_none hs
    generalize styText st = t at *
    go_enter Tryz.func22, Tryz.ntmps22
    go_wp2_with fail
    rw [← HW0.out]
    refine (KN _).mono ?_
    rintro e w1 ⟨rfl, hb⟩
    obtain ⟨x1, rfl⟩ := Later.of hb
    clear hb
    go_wp2_with fail
    refine (KS _).mono ?_
    rintro e w2 ⟨rfl, hb⟩
    obtain ⟨x2, rfl⟩ := x1.next hb
    clear hb
    go_wp2
    go_ret
    exact ⟨rfl, HBl.out x2⟩
  rw [styleB_true hs, Bool.true_and]
  have hE := styText_some hs
  generalize styText st = t at *
  cases ab
  · rw [Bool.false_and]
    go_enter Tryz.func22, Tryz.ntmps22
    go_wp2_with fail
    rw [← HW0.out]
    refine (KN _).mono ?_
    rintro e w1 ⟨rfl, hb⟩
    obtain ⟨x1, rfl⟩ := Later.of hb
    clear hb
    go_wp2_with fail
    refine (KS _).mono ?_
    rintro e w2 ⟨rfl, hb⟩
    obtain ⟨x2, rfl⟩ := x1.next hb
    clear hb
    go_wp2_with fail
    refine (KA _).mono ?_
    rintro e w3 ⟨rfl, hb⟩
    obtain ⟨x3, rfl⟩ := x2.next hb
    clear hb
    go_wp2
    go_ret
    exact ⟨rfl, HBl.out x3⟩
  rw [Bool.true_and]
  by_cases h0 : cy = 0
  · subst h0
    rw [decide_eq_true rfl, Bool.true_or]
    go_enter Tryz.func22, Tryz.ntmps22
    go_wp2_with fail
    rw [← HW0.out]
    refine (KN _).mono ?_
    rintro e w1 ⟨rfl, hb⟩
    obtain ⟨x1, rfl⟩ := Later.of hb
    clear hb
    go_wp2_with fail
    refine (KS _).mono ?_
    rintro e w2 ⟨rfl, hb⟩
    obtain ⟨x2, rfl⟩ := x1.next hb
    clear hb
    go_wp2_with fail
    refine (KA _).mono ?_
    rintro e w3 ⟨rfl, hb⟩
    obtain ⟨x3, rfl⟩ := x2.next hb
    clear hb
    go_wp2
    go_ret
    exact ⟨rfl, HBl.out x3⟩
  have h0' : (cy == 0) = false := by simp [h0]
  rw [decide_eq_false h0, Bool.false_or]
  go_enter Tryz.func22, Tryz.ntmps22
  go_wp2_with fail
  rw [← HW0.out]
  refine (KN _).mono ?_
  rintro e w1 ⟨rfl, hb⟩
  obtain ⟨x1, rfl⟩ := Later.of hb
  clear hb
  go_wp2_with fail
  refine (KS _).mono ?_
  rintro e w2 ⟨rfl, hb⟩
  obtain ⟨x2, rfl⟩ := x1.next hb
  clear hb
  go_wp2_with fail
  refine (KA _).mono ?_
  rintro e w3 ⟨rfl, hb⟩
  obtain ⟨x3, rfl⟩ := x2.next hb
  clear hb
  go_wp2_with fail
  refine (KC _).mono ?_
  rintro e w4 ⟨rfl, hb⟩
  obtain ⟨x4, rfl⟩ := x3.next hb
  clear hb
  go_wp2
  go_ret
  exact ⟨rfl, HBl.out x4⟩
end Go.Proofs.YtifekkehbaegiaaGreatDoor.ctr
