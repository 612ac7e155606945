/- Feasts: the plain functions of their days and of those that a day is. Contracts of both FeastOk: each answers its plain function at every feast. Contracts of the model's Feasts: it answers the twenty feasts' cells, in a row of its own; nothing that was there turns. -/
import Derived.Test.YtdgolaaheakfoaaGreatDoorJnSbk
import Derived.Test.YtdgolaaheakfoaaGreatDoorJnSaz
import Derived.Test.YtdgolaaheakfoaaGreatDoorJnSam
import Derived.Test.YtdgolaaheakfoaaGreatDoorJnSar
namespace Go.Proofs.YtdgolaaheakfoaaGreatDoor.ctr
open Go.RowKit
def feaOk (s : ByteArray) (mv : Bool) (o m d : Int) : Bool := nameOk s && (if mv = true then inB o (-63) 63 && decide (m = 0) && decide (d = 0) else decide (o = 0) && inB d 1 (monthDays 1 1999 m))
def feaDay (c y : Int) (s : ByteArray) (mv : Bool) (o m d : Int) : Int := if feaOk s mv o m d = true ∧ yearP c y then (if mv = true then easter c y + o else dayOf c y m d) else 0
def Fea.ok (f : Fea) : Bool := feaOk f.name f.mv f.off f.m f.d
def Fea.day (f : Fea) (c y : Int) : Int := feaDay c y f.name f.mv f.off f.m f.d
theorem inB_iff {x a b : Int} : inB x a b = true ↔ a ≤ x ∧ x ≤ b := by simp [inB]
theorem days1 (m : Int) : monthDays 1 1999 m = monthDays 1 1 m := by
  by_cases h : 1 ≤ m ∧ m ≤ 12
  · rw [monthDays_plain (.inr rfl) h.1 h.2 (by rw [leap_gre]; omega), monthDays_plain (.inr rfl) h.1 h.2 (by rw [leap_gre]; omega)]
  · rw [monthDays_no (fun k => h k.2), monthDays_no (fun k => h k.2)]
theorem days_le {c : Int} (hc : c = 0 ∨ c = 1) (y m : Int) : monthDays 1 1999 m ≤ monthDays c y m := by
  by_cases h : 1 ≤ m ∧ m ≤ 12
  · rw [monthDays_plain (.inr rfl) h.1 h.2 (by rw [leap_gre]; omega)]
    by_cases hl : m = 2 ∧ leapP c y
    · rw [hl.1, monthDays_leap hc hl.2]
      decide
    · rw [monthDays_plain hc h.1 h.2 hl]
      omega
  · rw [monthDays_no (fun k => h k.2), monthDays_no (fun k => h k.2)]
    omega
theorem fixed_date {c y m d : Int} (hy : yearP c y) (h : inB d 1 (monthDays 1 1999 m) = true) : dateP c y m d := by
  have h1 := inB_iff.1 h
  have := days_le hy.1 y m
  exact ⟨hy.1, hy.2.1, hy.2.2, h1.1, by omega⟩
theorem fixed_day {c y m d : Int} (hy : yearP c y) (h : inB d 1 (monthDays 1 1999 m) = true) : dayOf c y m d = first c y + before c y (m - 1).toNat + d - 1 := by
  unfold dayOf
  rw [if_pos (fixed_date hy h)]
theorem easter_near {c y : Int} (h : yearP c y) : 0 < easter c y ∧ easter c y ≤ 3000000 := by
  have h1 := easter_fact h
  have h2 := march_b h
  rw [easter_eq h]
  omega
theorem feaDay_b (c y : Int) (s : ByteArray) (mv : Bool) (o m d : Int) : -3000 ≤ feaDay c y s mv o m d ∧ feaDay c y s mv o m d ≤ 3001000 := by
  unfold feaDay
  split
  · rename_i h
    cases mv
    · rw [if_neg (by decide)]
      have := dayOf_bound c y m d
      omega
    · rw [if_pos rfl]
      have h1 := easter_near h.2
      have h2 : inB o (-63) 63 = true := by
        have := h.1
        simp [feaOk] at this
        exact this.2.1.1
      have := inB_iff.1 h2
      omega
  · omega
theorem feaDay_no {c y : Int} {s : ByteArray} {mv : Bool} {o m d : Int} (h : feaOk s mv o m d = false) : feaDay c y s mv o m d = 0 := by
  unfold feaDay
  rw [if_neg (by rw [h]; simp)]
theorem feaDay_noYear {c y : Int} {s : ByteArray} {mv : Bool} {o m d : Int} (h : ¬ yearP c y) : feaDay c y s mv o m d = 0 := by
  unfold feaDay
  rw [if_neg (fun k => h k.2)]
theorem feaDay_mv {c y : Int} {s : ByteArray} {o m d : Int} (h : feaOk s true o m d = true) (hy : yearP c y) : feaDay c y s true o m d = easter c y + o := by
  unfold feaDay
  rw [if_pos ⟨h, hy⟩, if_pos rfl]
theorem feaDay_fix {c y : Int} {s : ByteArray} {o m d : Int} (h : feaOk s false o m d = true) (hy : yearP c y) : feaDay c y s false o m d = dayOf c y m d := by
  unfold feaDay
  rw [if_pos ⟨h, hy⟩, if_neg (by decide)]
theorem ok_mv {s : ByteArray} {o m d : Int} (h : feaOk s true o m d = true) : -63 ≤ o ∧ o ≤ 63 := by
  simp [feaOk] at h
  exact inB_iff.1 h.2.1.1
theorem ok_fix {s : ByteArray} {o m d : Int} (h : feaOk s false o m d = true) : inB d 1 (monthDays 1 1999 m) = true := by
  simp [feaOk] at h
  exact h.2.2
end Go.Proofs.YtdgolaaheakfoaaGreatDoor.ctr
namespace Go.Proofs.YtdgolaaheakfoaaGreatDoor.ctr
open Go.RowKit
theorem fea_box (w : World) (s : ByteArray) (mv : Bool) (o m d : Int) (t : TypeId) : ∃ W0, W0 = w.alloc (.cells #[.string s, .bool mv, .int .i64 o, .int .i64 m, .int .i64 d] t) ∧ (∀ x : Later W0, x.w.cell? ⟨w.heap.size, 0, none⟩ = some (.string s)) ∧ (∀ x : Later W0, x.w.cell? ⟨w.heap.size, 1, none⟩ = some (.bool mv)) ∧ (∀ x : Later W0, x.w.cell? ⟨w.heap.size, 2, none⟩ = some (.int .i64 o)) ∧ (∀ x : Later W0, x.w.cell? ⟨w.heap.size, 3, none⟩ = some (.int .i64 m)) ∧ (∀ x : Later W0, x.w.cell? ⟨w.heap.size, 4, none⟩ = some (.int .i64 d)) ∧ ∀ x : Later W0, Below w.heap.size w x.w :=
  ⟨_, rfl, Later.new rfl 0 rfl, Later.new rfl 1 rfl, Later.new rfl 2 rfl, Later.new rfl 3 rfl, Later.new rfl 4 rfl, fun x => below_alloc x.below⟩
theorem later_same {W w' : World} (h : w' = W) : ∃ x : Later W, w' = x.w := ⟨⟨w', by rw [h]; exact Below.refl _ _⟩, rfl⟩
set_option maxHeartbeats 1000000 in
theorem specFeaOk (s : ByteArray) (mv : Bool) (o m d : Int) (w : World) (hs : s.size ≤ maxLen) : Calls Tryz.prog 146 #[.agg #[.string s, .bool mv, .int .i64 o, .int .i64 m, .int .i64 d]] w fun e w' => e = .returned (.bool (feaOk s mv o m d)) ∧ Below w.heap.size w w' := by
  have KN : ∀ W, Calls Tryz.prog 69 #[.string s] W fun e w' => e = .returned (.bool (nameOk s)) ∧ w' = W := fun W => specNameOk s W hs
  obtain ⟨W0, hW0, c0, c1, c2, c3, c4, hBl⟩ := fea_box w s mv o m d 159
  have HW0 := hideP hW0
  have HBl := hideP hBl
  clear hs hW0 hBl
  unfold feaOk
  generalize nameOk s = nb at *
  cases nb
  · rw [Bool.false_and]
    go_enter Tryz.func146, Tryz.ntmps146
    go_wp2_with fail
    rw [← HW0.out]
    refine (KN _).mono ?_
    rintro e w1 ⟨rfl, hw⟩
    obtain ⟨x1, rfl⟩ := later_same hw
    clear hw
    go_wp2
    go_ret
    exact ⟨rfl, HBl.out x1⟩
  rw [Bool.true_and]
  cases mv
  · rw [if_neg (by decide)]
    have KM : ∀ W, Calls Tryz.prog 103 #[.int .i64 1, .int .i64 1999, .int .i64 m] W fun e w' => e = .returned (.int .i64 (monthDays 1 1999 m)) ∧ Below W.heap.size W w' := specMonthDays 1 1999 m
    have KD : ∀ W, Calls Tryz.prog 54 #[.int .i64 d, .int .i64 1, .int .i64 (monthDays 1 1999 m)] W fun e w' => e = .returned (.bool (inB d 1 (monthDays 1 1999 m))) ∧ w' = W := l01In d 1 (monthDays 1 1999 m)
    generalize inB d 1 (monthDays 1 1999 m) = bd at *
    generalize monthDays 1 1999 m = md at *
    by_cases ho : o = 0
    · subst ho
      rw [decide_eq_true rfl, Bool.true_and]
      go_enter Tryz.func146, Tryz.ntmps146
      go_wp2_with fail
      rw [← HW0.out]
      refine (KN _).mono ?_
      rintro e w1 ⟨rfl, hw⟩
      obtain ⟨x1, rfl⟩ := later_same hw
      clear hw
      go_wp2_with fail
      refine wp_region_later (W := W0) x1.below (by kernel_rfl) (by kernel_rfl) ?_
      repeat (go_big_quiet_step (first | (go_at_call 54; exact calls_same (KD _)) | (go_at_call 103; exact calls_later (KM _))))
      refine wpQuiet_nil ?_
      intro _ hw'
      obtain ⟨x, rfl⟩ := hw'
      go_wp2
      go_ret
      exact ⟨rfl, HBl.out x⟩
    · have ho' : (o == 0) = false := by simp [ho]
      rw [decide_eq_false ho, Bool.false_and]
      clear KM KD
      go_enter Tryz.func146, Tryz.ntmps146
      go_wp2_with fail
      rw [← HW0.out]
      refine (KN _).mono ?_
      rintro e w1 ⟨rfl, hw⟩
      obtain ⟨x1, rfl⟩ := later_same hw
      clear hw
      go_wp2_with fail
      refine wp_region_later (W := W0) x1.below (by kernel_rfl) (by kernel_rfl) ?_
      repeat (go_big_quiet_step (fail))
      refine wpQuiet_nil ?_
      intro _ hw'
      obtain ⟨x, rfl⟩ := hw'
      go_wp2
      go_ret
      exact ⟨rfl, HBl.out x⟩
  · rw [if_pos rfl]
    have KO : ∀ W, Calls Tryz.prog 54 #[.int .i64 o, .int .i64 (-63), .int .i64 63] W fun e w' => e = .returned (.bool (inB o (-63) 63)) ∧ w' = W := l01In o (-63) 63
    generalize inB o (-63) 63 = bo at *
    cases bo
    · rw [Bool.false_and, Bool.false_and]
      go_enter Tryz.func146, Tryz.ntmps146
      go_wp2_with fail
      rw [← HW0.out]
      refine (KN _).mono ?_
      rintro e w1 ⟨rfl, hw⟩
      obtain ⟨x1, rfl⟩ := later_same hw
      clear hw
      go_wp2_with fail
      refine (KO _).mono ?_
      rintro e w1 ⟨rfl, rfl⟩
      go_wp2
      go_ret
      exact ⟨rfl, HBl.out x1⟩
    rw [Bool.true_and]
    by_cases hm : m = 0
    · subst hm
      rw [decide_eq_true rfl, Bool.true_and]
      have hd : decide (d = 0) = (d == 0) := by rw [Bool.eq_iff_iff]; simp
      rw [hd]
      go_enter Tryz.func146, Tryz.ntmps146
      go_wp2_with fail
      rw [← HW0.out]
      refine (KN _).mono ?_
      rintro e w1 ⟨rfl, hw⟩
      obtain ⟨x1, rfl⟩ := later_same hw
      clear hw
      go_wp2_with fail
      refine (KO _).mono ?_
      rintro e w1 ⟨rfl, rfl⟩
      go_wp2
      go_ret
      exact ⟨rfl, HBl.out x1⟩
    · have hm' : (m == 0) = false := by simp [hm]
      rw [decide_eq_false hm, Bool.false_and]
      go_enter Tryz.func146, Tryz.ntmps146
      go_wp2_with fail
      rw [← HW0.out]
      refine (KN _).mono ?_
      rintro e w1 ⟨rfl, hw⟩
      obtain ⟨x1, rfl⟩ := later_same hw
      clear hw
      go_wp2_with fail
      refine (KO _).mono ?_
      rintro e w1 ⟨rfl, rfl⟩
      go_wp2
      go_ret
      exact ⟨rfl, HBl.out x1⟩
theorem implFeaNamed (s : ByteArray) (mv : Bool) (o m d : Int) (w : World) (hs : s.size ≤ maxLen) : Calls Tryz.prog 224 #[.agg #[.string s, .bool mv, .int .i64 o, .int .i64 m, .int .i64 d]] w fun e w' => e = .returned (.bool (nameOk s)) ∧ Below w.heap.size w w' := by
  have KN : ∀ W, Calls Tryz.prog 104 #[.string s] W fun e w' => e = .returned (.bool (nameOk s)) ∧ w' = W := fun W => implNameOk s W hs
  clear hs
  go_enter Tryz.func224, Tryz.ntmps224
  go_wp2_with fail
  refine (KN _).mono ?_
  rintro e w1 ⟨rfl, rfl⟩
  go_wp2
  go_ret
  exact ⟨rfl, (Below.refl _ _).alloc (Nat.le_refl _) _⟩
theorem implDateIn (s : ByteArray) (mv : Bool) (o m d c y : Int) (w : World) : Calls Tryz.prog 252 #[.agg #[.string s, .bool mv, .int .i64 o, .int .i64 m, .int .i64 d], .int .i64 c, .int .i64 y] w fun e w' => e = .returned (.agg #[.int .i64 c, .int .i64 y, .int .i64 m, .int .i64 d]) ∧ Below w.heap.size w w' := by
  go_enter Tryz.func252, Tryz.ntmps252
  go_wp2
  go_returns
  refine ⟨rfl, ?_⟩
  go_grown
set_option maxHeartbeats 1000000 in
theorem implMovOk (s : ByteArray) (o m d : Int) (w : World) (hs : s.size ≤ maxLen) : Calls Tryz.prog 253 #[.agg #[.string s, .bool true, .int .i64 o, .int .i64 m, .int .i64 d]] w fun e w' => e = .returned (.bool (feaOk s true o m d)) ∧ Below w.heap.size w w' := by
  have KN : ∀ W, Calls Tryz.prog 224 #[.agg #[.string s, .bool true, .int .i64 o, .int .i64 m, .int .i64 d]] W fun e w' => e = .returned (.bool (nameOk s)) ∧ Below W.heap.size W w' := fun W => implFeaNamed s true o m d W hs
  obtain ⟨W0, hW0, c0, c1, c2, c3, c4, hBl⟩ := fea_box w s true o m d 214
  have HW0 := hideP hW0
  have HBl := hideP hBl
  clear hW0 hBl
  clear hs
  unfold feaOk
  rw [if_pos rfl]
  generalize nameOk s = nb at *
  cases nb
  · rw [Bool.false_and]
    go_enter Tryz.func253, Tryz.ntmps253
    go_wp2_with fail
    rw [← HW0.out]
    refine (KN _).mono ?_
    rintro e w1 ⟨rfl, hb⟩
    obtain ⟨x1, rfl⟩ := Later.of hb
    clear hb
    go_wp2
    go_ret
    exact ⟨rfl, HBl.out x1⟩
  rw [Bool.true_and]
  by_cases hm : m = 0
  case neg =>
    have hm' : (m == 0) = false := by simp [hm]
    have HR : Hid ((inB o (-63) 63 && decide (m = 0) && decide (d = 0)) = false) := by unfold Hid; rw [decide_eq_false hm, Bool.and_false, Bool.false_and]
    rw [HR.out]
    go_enter Tryz.func253, Tryz.ntmps253
    go_wp2_with fail
    rw [← HW0.out]
    refine (KN _).mono ?_
    rintro e w1 ⟨rfl, hb⟩
    obtain ⟨x1, rfl⟩ := Later.of hb
    clear hb
    go_wp2
    go_ret
    exact ⟨rfl, HBl.out x1⟩
  subst hm
  by_cases hd : d = 0
  case neg =>
    have hd' : (d == 0) = false := by simp [hd]
    have HR : Hid ((inB o (-63) 63 && decide ((0 : Int) = 0) && decide (d = 0)) = false) := by unfold Hid; rw [decide_eq_false hd, Bool.and_false]
    rw [HR.out]
    go_enter Tryz.func253, Tryz.ntmps253
    go_wp2_with fail
    rw [← HW0.out]
    refine (KN _).mono ?_
    rintro e w1 ⟨rfl, hb⟩
    obtain ⟨x1, rfl⟩ := Later.of hb
    clear hb
    go_wp2
    go_ret
    exact ⟨rfl, HBl.out x1⟩
  subst hd
  by_cases h1 : -63 ≤ o
  case neg =>
    have HR : Hid ((inB o (-63) 63 && decide ((0 : Int) = 0) && decide ((0 : Int) = 0)) = false) := by unfold Hid; rw [inB_false (.inl (by omega))]; rfl
    rw [HR.out]
    go_enter Tryz.func253, Tryz.ntmps253
    go_wp2_with fail
    rw [← HW0.out]
    refine (KN _).mono ?_
    rintro e w1 ⟨rfl, hb⟩
    obtain ⟨x1, rfl⟩ := Later.of hb
    clear hb
    go_wp2
    go_ret
    exact ⟨rfl, HBl.out x1⟩
  by_cases h2 : o ≤ 63
  case neg =>
    have HR : Hid ((inB o (-63) 63 && decide ((0 : Int) = 0) && decide ((0 : Int) = 0)) = false) := by unfold Hid; rw [inB_false (.inr (by omega))]; rfl
    rw [HR.out]
    go_enter Tryz.func253, Tryz.ntmps253
    go_wp2_with fail
    rw [← HW0.out]
    refine (KN _).mono ?_
    rintro e w1 ⟨rfl, hb⟩
    obtain ⟨x1, rfl⟩ := Later.of hb
    clear hb
    go_wp2
    go_ret
    exact ⟨ret_bool (decide_eq_false (by omega)), HBl.out x1⟩
  have HR : Hid ((inB o (-63) 63 && decide ((0 : Int) = 0) && decide ((0 : Int) = 0)) = true) := by unfold Hid; rw [inB_true h1 h2]; rfl
  rw [HR.out]
  go_enter Tryz.func253, Tryz.ntmps253
  go_wp2_with fail
  rw [← HW0.out]
  refine (KN _).mono ?_
  rintro e w1 ⟨rfl, hb⟩
  obtain ⟨x1, rfl⟩ := Later.of hb
  clear hb
  go_wp2
  go_ret
  exact ⟨rfl, HBl.out x1⟩
theorem fix_date (m d : Int) : dateOk 1 1 m d = inB d 1 (monthDays 1 1999 m) := by
  rw [days1]
  by_cases h : 1 ≤ d ∧ d ≤ monthDays 1 1 m
  · rw [inB_true h.1 h.2, dateOk_true ⟨.inr rfl, by omega, by omega, h.1, h.2⟩]
  · rw [inB_false (by omega), dateOk_false (fun k => h ⟨k.2.2.2.1, k.2.2.2.2⟩)]
set_option maxHeartbeats 1000000 in
theorem implFixOk (s : ByteArray) (o m d : Int) (w : World) (hs : s.size ≤ maxLen) (hT : Tab w) : Calls Tryz.prog 254 #[.agg #[.string s, .bool false, .int .i64 o, .int .i64 m, .int .i64 d]] w fun e w' => e = .returned (.bool (feaOk s false o m d)) ∧ Below w.heap.size w w' := by
  have KN : ∀ W, Calls Tryz.prog 224 #[.agg #[.string s, .bool false, .int .i64 o, .int .i64 m, .int .i64 d]] W fun e w' => e = .returned (.bool (nameOk s)) ∧ Below W.heap.size W w' := fun W => implFeaNamed s false o m d W hs
  have KI : ∀ W, Calls Tryz.prog 252 #[.agg #[.string s, .bool false, .int .i64 o, .int .i64 m, .int .i64 d], .int .i64 1, .int .i64 1] W fun e w' => e = .returned (.agg #[.int .i64 1, .int .i64 1, .int .i64 m, .int .i64 d]) ∧ Below W.heap.size W w' := implDateIn s false o m d 1 1
  obtain ⟨W0, hW0, c0, c1, c2, c3, c4, hBl⟩ := fea_box w s false o m d 159
  have HW0 := hideP hW0
  have HBl := hideP hBl
  clear hW0 hBl
  have KD : ∀ x : Later W0, Calls Tryz.prog 109 #[.agg #[.int .i64 1, .int .i64 1, .int .i64 m, .int .i64 d]] x.w fun e w' => e = .returned (.bool (inB d 1 (monthDays 1 1999 m))) ∧ Below x.w.heap.size x.w w' := fun x => by
    rw [← fix_date]
    exact implDateOk 1 1 m d x.w (hT.later (HBl.out x))
  clear hs hT
  unfold feaOk
  rw [if_neg (by decide)]
  generalize nameOk s = nb at *
  generalize inB d 1 (monthDays 1 1999 m) = bd at *
  cases nb
  · rw [Bool.false_and]
    go_enter Tryz.func254, Tryz.ntmps254
    go_wp2_with fail
    rw [← HW0.out]
    refine (KN _).mono ?_
    rintro e w1 ⟨rfl, hb⟩
    obtain ⟨x1, rfl⟩ := Later.of hb
    clear hb
    go_wp2
    go_ret
    exact ⟨rfl, HBl.out x1⟩
  rw [Bool.true_and]
  by_cases ho : o = 0
  · subst ho
    rw [decide_eq_true rfl, Bool.true_and]
    go_enter Tryz.func254, Tryz.ntmps254
    go_wp2_with fail
    rw [← HW0.out]
    refine (KN _).mono ?_
    rintro e w1 ⟨rfl, hb⟩
    obtain ⟨x1, rfl⟩ := Later.of hb
    clear hb
    go_wp2_with fail
    refine (KI _).mono ?_
    rintro e w2 ⟨rfl, hb⟩
    obtain ⟨x2, rfl⟩ := x1.next hb
    clear hb
    go_wp2_with fail
    refine (KD _).mono ?_
    rintro e w3 ⟨rfl, hb⟩
    obtain ⟨x3, rfl⟩ := x2.next hb
    clear hb
    go_wp2
    go_ret
    exact ⟨rfl, HBl.out x3⟩
  · have ho' : (o == 0) = false := by simp [ho]
    rw [decide_eq_false ho, Bool.false_and]
    go_enter Tryz.func254, Tryz.ntmps254
    go_wp2_with fail
    rw [← HW0.out]
    refine (KN _).mono ?_
    rintro e w1 ⟨rfl, hb⟩
    obtain ⟨x1, rfl⟩ := Later.of hb
    clear hb
    go_wp2
    go_ret
    exact ⟨rfl, HBl.out x1⟩
set_option maxHeartbeats 1000000 in
theorem implFeaOk (s : ByteArray) (mv : Bool) (o m d : Int) (w : World) (hs : s.size ≤ maxLen) (hT : Tab w) : Calls Tryz.prog 249 #[.agg #[.string s, .bool mv, .int .i64 o, .int .i64 m, .int .i64 d]] w fun e w' => e = .returned (.bool (feaOk s mv o m d)) ∧ Below w.heap.size w w' := by
  obtain ⟨W0, hW0, c0, c1, c2, c3, c4, hBl⟩ := fea_box w s mv o m d 159
  have HW0 := hideP hW0
  have HBl := hideP hBl
  clear hW0 hBl
  have KT : ∀ x : Later W0, Tab x.w := fun x => hT.later (HBl.out x)
  obtain ⟨x0, hx0⟩ := Later.of (Below.refl W0.heap.size W0)
  cases mv
  · have K := implFixOk s o m d x0.w hs (KT x0)
    clear hs hT KT
    generalize feaOk s false o m d = r at *
    go_enter Tryz.func249, Tryz.ntmps249
    go_wp2_with fail
    rw [← HW0.out]
    refine (show Calls _ _ _ W0 _ from by rw [hx0]; exact K).mono ?_
    rintro e w1 ⟨rfl, hb⟩
    obtain ⟨x1, rfl⟩ := x0.next hb
    clear hb
    go_wp2
    go_ret
    exact ⟨rfl, HBl.out x1⟩
  · have K := implMovOk s o m d x0.w hs
    clear hs hT KT
    generalize feaOk s true o m d = r at *
    go_enter Tryz.func249, Tryz.ntmps249
    go_wp2_with fail
    rw [← HW0.out]
    refine (show Calls _ _ _ W0 _ from by rw [hx0]; exact K).mono ?_
    rintro e w1 ⟨rfl, hb⟩
    obtain ⟨x1, rfl⟩ := x0.next hb
    clear hb
    go_wp2
    go_ret
    exact ⟨rfl, HBl.out x1⟩
end Go.Proofs.YtdgolaaheakfoaaGreatDoor.ctr
namespace Go.Proofs.YtdgolaaheakfoaaGreatDoor.ctr
open Go.RowKit
theorem specMoves4 (s : ByteArray) (o : Int) (w : World) : Calls Tryz.prog 149 #[.string s, .int .i64 o] w fun e w' => e = .returned (.agg #[.string s, .bool true, .int .i64 o, .int .i64 0, .int .i64 0]) ∧ Below w.heap.size w w' := by
  go_enter Tryz.func149, Tryz.ntmps149
  go_wp2
  go_returns
  refine ⟨rfl, ?_⟩
  go_grown
theorem specFixed4 (s : ByteArray) (m d : Int) (w : World) : Calls Tryz.prog 150 #[.string s, .int .i64 m, .int .i64 d] w fun e w' => e = .returned (.agg #[.string s, .bool false, .int .i64 0, .int .i64 m, .int .i64 d]) ∧ Below w.heap.size w w' := by
  go_enter Tryz.func150, Tryz.ntmps150
  go_wp2
  go_returns
  refine ⟨rfl, ?_⟩
  go_grown
theorem implOnEaster (s : ByteArray) (o : Int) (w : World) : Calls Tryz.prog 174 #[.string s, .int .i64 o] w fun e w' => e = .returned (.agg #[.string s, .bool true, .int .i64 o, .int .i64 0, .int .i64 0]) ∧ Below w.heap.size w w' := by
  go_enter Tryz.func174, Tryz.ntmps174
  go_wp2
  go_returns
  refine ⟨rfl, ?_⟩
  go_grown
theorem implOnDate (s : ByteArray) (m d : Int) (w : World) : Calls Tryz.prog 176 #[.string s, .int .i64 m, .int .i64 d] w fun e w' => e = .returned (.agg #[.string s, .bool false, .int .i64 0, .int .i64 m, .int .i64 d]) ∧ Below w.heap.size w w' := by
  go_enter Tryz.func176, Tryz.ntmps176
  go_wp2
  go_returns
  refine ⟨rfl, ?_⟩
  go_grown
theorem row_new {w W : World} {cs : Array Value} {t : TypeId} {n : Nat} {xs : List Value} (hb : w.heap.size ≤ W.heap.size) (hn : n ≤ maxLen) (hs : cs.size = n * 5) (hx : cs.toList = xs) :
    (W.alloc (.cells cs t)).ownsRow w.heap.size t 5 (.slice (some ⟨W.heap.size, 0, none⟩) n n) n xs := by
  have hl : xs.length = n * 5 := by rw [← hx, Array.length_toList, hs]
  exact ⟨hl, .inr ⟨W.heap.size, n, cs, rfl, hb, heap_alloc_new W _, Nat.le_refl _, hn, hs, by rw [hx, List.take_of_length_le (by omega)]⟩⟩
set_option maxRecDepth 100000 in
set_option maxHeartbeats 4000000 in
theorem specFeasts (w : World) : Calls Tryz.prog 120 #[] w fun e w' => ∃ v, e = .returned v ∧ FeaOwn w w' v ∧ Below w.heap.size w w' := by
  go_enter Tryz.func120, Tryz.ntmps120
  go_wp2_with fail
  refine (specMoves4 _ _ _).mono ?_
  rintro e w1 ⟨rfl, hb⟩
  obtain ⟨x1, rfl⟩ := Later.of hb
  clear hb
  go_wp2_with fail
  refine (specMoves4 _ _ _).mono ?_
  rintro e w2 ⟨rfl, hb⟩
  obtain ⟨x2, rfl⟩ := x1.next hb
  clear hb
  go_wp2_with fail
  refine (specMoves4 _ _ _).mono ?_
  rintro e w3 ⟨rfl, hb⟩
  obtain ⟨x3, rfl⟩ := x2.next hb
  clear hb
  go_wp2_with fail
  refine (specMoves4 _ _ _).mono ?_
  rintro e w4 ⟨rfl, hb⟩
  obtain ⟨x4, rfl⟩ := x3.next hb
  clear hb
  go_wp2_with fail
  refine (specMoves4 _ _ _).mono ?_
  rintro e w5 ⟨rfl, hb⟩
  obtain ⟨x5, rfl⟩ := x4.next hb
  clear hb
  go_wp2_with fail
  refine (specMoves4 _ _ _).mono ?_
  rintro e w6 ⟨rfl, hb⟩
  obtain ⟨x6, rfl⟩ := x5.next hb
  clear hb
  go_wp2_with fail
  refine (specMoves4 _ _ _).mono ?_
  rintro e w7 ⟨rfl, hb⟩
  obtain ⟨x7, rfl⟩ := x6.next hb
  clear hb
  go_wp2_with fail
  refine (specMoves4 _ _ _).mono ?_
  rintro e w8 ⟨rfl, hb⟩
  obtain ⟨x8, rfl⟩ := x7.next hb
  clear hb
  go_wp2_with fail
  refine (specMoves4 _ _ _).mono ?_
  rintro e w9 ⟨rfl, hb⟩
  obtain ⟨x9, rfl⟩ := x8.next hb
  clear hb
  go_wp2_with fail
  refine (specMoves4 _ _ _).mono ?_
  rintro e w10 ⟨rfl, hb⟩
  obtain ⟨x10, rfl⟩ := x9.next hb
  clear hb
  go_wp2_with fail
  refine (specFixed4 _ _ _ _).mono ?_
  rintro e w11 ⟨rfl, hb⟩
  obtain ⟨x11, rfl⟩ := x10.next hb
  clear hb
  go_wp2_with fail
  refine (specFixed4 _ _ _ _).mono ?_
  rintro e w12 ⟨rfl, hb⟩
  obtain ⟨x12, rfl⟩ := x11.next hb
  clear hb
  go_wp2_with fail
  refine (specFixed4 _ _ _ _).mono ?_
  rintro e w13 ⟨rfl, hb⟩
  obtain ⟨x13, rfl⟩ := x12.next hb
  clear hb
  go_wp2_with fail
  refine (specFixed4 _ _ _ _).mono ?_
  rintro e w14 ⟨rfl, hb⟩
  obtain ⟨x14, rfl⟩ := x13.next hb
  clear hb
  go_wp2_with fail
  refine (specFixed4 _ _ _ _).mono ?_
  rintro e w15 ⟨rfl, hb⟩
  obtain ⟨x15, rfl⟩ := x14.next hb
  clear hb
  go_wp2_with fail
  refine (specFixed4 _ _ _ _).mono ?_
  rintro e w16 ⟨rfl, hb⟩
  obtain ⟨x16, rfl⟩ := x15.next hb
  clear hb
  go_wp2_with fail
  refine (specFixed4 _ _ _ _).mono ?_
  rintro e w17 ⟨rfl, hb⟩
  obtain ⟨x17, rfl⟩ := x16.next hb
  clear hb
  go_wp2_with fail
  refine (specFixed4 _ _ _ _).mono ?_
  rintro e w18 ⟨rfl, hb⟩
  obtain ⟨x18, rfl⟩ := x17.next hb
  clear hb
  go_wp2_with fail
  refine (specFixed4 _ _ _ _).mono ?_
  rintro e w19 ⟨rfl, hb⟩
  obtain ⟨x19, rfl⟩ := x18.next hb
  clear hb
  go_wp2_with fail
  refine (specFixed4 _ _ _ _).mono ?_
  rintro e w20 ⟨rfl, hb⟩
  obtain ⟨x20, rfl⟩ := x19.next hb
  clear hb
  go_wp2
  go_ret
  exact ⟨_, rfl, row_new x20.below.size (by unfold maxLen; omega) rfl rfl, x20.below.alloc x20.below.size _⟩
end Go.Proofs.YtdgolaaheakfoaaGreatDoor.ctr
