/- Contracts of both FeastOk: each answers its plain function at every feast. -/
import Derived.Test.YtjojgfdfbkmlkaaGreatDoorJnDak
import Derived.Test.YtjojgfdfbkmlkaaGreatDoorJnDac
namespace Go.Proofs.YtjojgfdfbkmlkaaGreatDoor.ctr
open Go.RowKit
theorem fea_box (w : World) (s : ByteArray) (mv : Bool) (o m d : Int) (t : TypeId) : ∃ W0, W0 = w.alloc (.cells #[.string s, .bool mv, .int .i64 o, .int .i64 m, .int .i64 d] t) ∧ (∀ x : Later W0, x.w.cell? ⟨w.heap.size, 0, none⟩ = some (.string s)) ∧ (∀ x : Later W0, x.w.cell? ⟨w.heap.size, 1, none⟩ = some (.bool mv)) ∧ (∀ x : Later W0, x.w.cell? ⟨w.heap.size, 2, none⟩ = some (.int .i64 o)) ∧ (∀ x : Later W0, x.w.cell? ⟨w.heap.size, 3, none⟩ = some (.int .i64 m)) ∧ (∀ x : Later W0, x.w.cell? ⟨w.heap.size, 4, none⟩ = some (.int .i64 d)) ∧ ∀ x : Later W0, Below w.heap.size w x.w :=
  ⟨_, rfl, Later.new rfl 0 rfl, Later.new rfl 1 rfl, Later.new rfl 2 rfl, Later.new rfl 3 rfl, Later.new rfl 4 rfl, fun x => below_alloc x.below⟩
theorem later_same {W w' : World} (h : w' = W) : ∃ x : Later W, w' = x.w := ⟨⟨w', by rw [h]; exact Below.refl _ _⟩, rfl⟩
set_option maxHeartbeats 1000000 in
theorem specFeaOk (s : ByteArray) (mv : Bool) (o m d : Int) (w : World) (hs : s.size ≤ maxLen) : Calls Tryz.prog 261 #[.agg #[.string s, .bool mv, .int .i64 o, .int .i64 m, .int .i64 d]] w fun e w' => e = .returned (.bool (feaOk s mv o m d)) ∧ Below w.heap.size w w' := by
  have KN : ∀ W, Calls Tryz.prog 105 #[.string s] W fun e w' => e = .returned (.bool (nameOk s)) ∧ w' = W := fun W => specNameOk s W hs
  obtain ⟨W0, hW0, c0, c1, c2, c3, c4, hBl⟩ := fea_box w s mv o m d 192
  have HW0 := hideP hW0
  have HBl := hideP hBl
  clear hs hW0 hBl
  unfold feaOk
  generalize nameOk s = nb at *
  cases nb
  · rw [Bool.false_and]
    go_enter Tryz.func261, Tryz.ntmps261
    go_wp2_with fail
    rw [← HW0.out]
    refine (KN _).mono ?_
    rintro e w1 ⟨rfl, hw⟩
    obtain ⟨x1, rfl⟩ := later_same hw
    clear hw
    go_wp2
    go_ret
    exact ⟨rfl, HBl.out x1⟩
  rw [Bool.true_and]
  cases mv
  · rw [if_neg (by decide)]
    have KM : ∀ W, Calls Tryz.prog 115 #[.int .i64 1, .int .i64 1999, .int .i64 m] W fun e w' => e = .returned (.int .i64 (monthDays 1 1999 m)) ∧ Below W.heap.size W w' := specMonthDays 1 1999 m
    have KD : ∀ W, Calls Tryz.prog 96 #[.int .i64 d, .int .i64 1, .int .i64 (monthDays 1 1999 m)] W fun e w' => e = .returned (.bool (inB d 1 (monthDays 1 1999 m))) ∧ w' = W := l01In d 1 (monthDays 1 1999 m)
    generalize inB d 1 (monthDays 1 1999 m) = bd at *
    generalize monthDays 1 1999 m = md at *
    by_cases ho : o = 0
    · subst ho
      rw [decide_eq_true rfl, Bool.true_and]
      go_enter Tryz.func261, Tryz.ntmps261
      go_wp2_with fail
      rw [← HW0.out]
      refine (KN _).mono ?_
      rintro e w1 ⟨rfl, hw⟩
      obtain ⟨x1, rfl⟩ := later_same hw
      clear hw
      go_wp2_with fail
      refine wp_region_later (W := W0) x1.below (by kernel_rfl) (by kernel_rfl) ?_
      repeat (go_big_quiet_step (first | (go_at_call 96; exact calls_same (KD _)) | (go_at_call 115; exact calls_later (KM _))))
      refine wpQuiet_nil ?_
      intro _ hw'
      obtain ⟨x, rfl⟩ := hw'
      go_wp2
      go_ret
      exact ⟨rfl, HBl.out x⟩
    · have ho' : (o == 0) = false := by simp [ho]
      rw [decide_eq_false ho, Bool.false_and]
      clear KM KD
      go_enter Tryz.func261, Tryz.ntmps261
      go_wp2_with fail
      rw [← HW0.out]
      refine (KN _).mono ?_
      rintro e w1 ⟨rfl, hw⟩
      obtain ⟨x1, rfl⟩ := later_same hw
      clear hw
      go_wp2_with fail
      refine wp_region_later (W := W0) x1.below (by kernel_rfl) (by kernel_rfl) ?_
      repeat (go_big_quiet_step (fail))
      refine wpQuiet_nil ?_
      intro _ hw'
      obtain ⟨x, rfl⟩ := hw'
      go_wp2
      go_ret
      exact ⟨rfl, HBl.out x⟩
  · rw [if_pos rfl]
    have KO : ∀ W, Calls Tryz.prog 96 #[.int .i64 o, .int .i64 (-63), .int .i64 63] W fun e w' => e = .returned (.bool (inB o (-63) 63)) ∧ w' = W := l01In o (-63) 63
    generalize inB o (-63) 63 = bo at *
    cases bo
    · rw [Bool.false_and, Bool.false_and]
      go_enter Tryz.func261, Tryz.ntmps261
      go_wp2_with fail
      rw [← HW0.out]
      refine (KN _).mono ?_
      rintro e w1 ⟨rfl, hw⟩
      obtain ⟨x1, rfl⟩ := later_same hw
      clear hw
      go_wp2_with fail
      refine (KO _).mono ?_
      rintro e w1 ⟨rfl, rfl⟩
      go_wp2
      go_ret
      exact ⟨rfl, HBl.out x1⟩
    rw [Bool.true_and]
    by_cases hm : m = 0
    · subst hm
      rw [decide_eq_true rfl, Bool.true_and]
      have hd : decide (d = 0) = (d == 0) := by rw [Bool.eq_iff_iff]; simp
      rw [hd]
      go_enter Tryz.func261, Tryz.ntmps261
      go_wp2_with fail
      rw [← HW0.out]
      refine (KN _).mono ?_
      rintro e w1 ⟨rfl, hw⟩
      obtain ⟨x1, rfl⟩ := later_same hw
      clear hw
      go_wp2_with fail
      refine (KO _).mono ?_
      rintro e w1 ⟨rfl, rfl⟩
      go_wp2
      go_ret
      exact ⟨rfl, HBl.out x1⟩
    · have hm' : (m == 0) = false := by simp [hm]
      rw [decide_eq_false hm, Bool.false_and]
      go_enter Tryz.func261, Tryz.ntmps261
      go_wp2_with fail
      rw [← HW0.out]
      refine (KN _).mono ?_
      rintro e w1 ⟨rfl, hw⟩
      obtain ⟨x1, rfl⟩ := later_same hw
      clear hw
      go_wp2_with fail
      refine (KO _).mono ?_
      rintro e w1 ⟨rfl, rfl⟩
      go_wp2
      go_ret
      exact ⟨rfl, HBl.out x1⟩
theorem implFeaNamed (s : ByteArray) (mv : Bool) (o m d : Int) (w : World) (hs : s.size ≤ maxLen) : Calls Tryz.prog 372 #[.agg #[.string s, .bool mv, .int .i64 o, .int .i64 m, .int .i64 d]] w fun e w' => e = .returned (.bool (nameOk s)) ∧ Below w.heap.size w w' := by
  have KN : ∀ W, Calls Tryz.prog 119 #[.string s] W fun e w' => e = .returned (.bool (nameOk s)) ∧ w' = W := fun W => implNameOk s W hs
  clear hs
  go_enter Tryz.func372, Tryz.ntmps372
  go_wp2_with fail
  refine (KN _).mono ?_
  rintro e w1 ⟨rfl, rfl⟩
  go_wp2
  go_ret
  exact ⟨rfl, (Below.refl _ _).alloc (Nat.le_refl _) _⟩
theorem implDateIn (s : ByteArray) (mv : Bool) (o m d c y : Int) (w : World) : Calls Tryz.prog 365 #[.agg #[.string s, .bool mv, .int .i64 o, .int .i64 m, .int .i64 d], .int .i64 c, .int .i64 y] w fun e w' => e = .returned (.agg #[.int .i64 c, .int .i64 y, .int .i64 m, .int .i64 d]) ∧ Below w.heap.size w w' := by
  go_enter Tryz.func365, Tryz.ntmps365
  go_wp2
  go_returns
  refine ⟨rfl, ?_⟩
  go_grown
set_option maxHeartbeats 1000000 in
theorem implMovOk (s : ByteArray) (o m d : Int) (w : World) (hs : s.size ≤ maxLen) : Calls Tryz.prog 362 #[.agg #[.string s, .bool true, .int .i64 o, .int .i64 m, .int .i64 d]] w fun e w' => e = .returned (.bool (feaOk s true o m d)) ∧ Below w.heap.size w w' := by
  have KN : ∀ W, Calls Tryz.prog 372 #[.agg #[.string s, .bool true, .int .i64 o, .int .i64 m, .int .i64 d]] W fun e w' => e = .returned (.bool (nameOk s)) ∧ Below W.heap.size W w' := fun W => implFeaNamed s true o m d W hs
  obtain ⟨W0, hW0, c0, c1, c2, c3, c4, hBl⟩ := fea_box w s true o m d 279
  have HW0 := hideP hW0
  have HBl := hideP hBl
  clear hW0 hBl
  clear hs
  unfold feaOk
  rw [if_pos rfl]
  generalize nameOk s = nb at *
  cases nb
  · rw [Bool.false_and]
    go_enter Tryz.func362, Tryz.ntmps362
    go_wp2_with fail
    rw [← HW0.out]
    refine (KN _).mono ?_
    rintro e w1 ⟨rfl, hb⟩
    obtain ⟨x1, rfl⟩ := Later.of hb
    clear hb
    go_wp2
    go_ret
    exact ⟨rfl, HBl.out x1⟩
  rw [Bool.true_and]
  by_cases hm : m = 0
  case neg =>
    have hm' : (m == 0) = false := by simp [hm]
    have HR : Hid ((inB o (-63) 63 && decide (m = 0) && decide (d = 0)) = false) := by unfold Hid; rw [decide_eq_false hm, Bool.and_false, Bool.false_and]
    rw [HR.out]
    go_enter Tryz.func362, Tryz.ntmps362
    go_wp2_with fail
    rw [← HW0.out]
    refine (KN _).mono ?_
    rintro e w1 ⟨rfl, hb⟩
    obtain ⟨x1, rfl⟩ := Later.of hb
    clear hb
    go_wp2
    go_ret
    exact ⟨rfl, HBl.out x1⟩
  subst hm
  by_cases hd : d = 0
  case neg =>
    have hd' : (d == 0) = false := by simp [hd]
    have HR : Hid ((inB o (-63) 63 && decide ((0 : Int) = 0) && decide (d = 0)) = false) := by unfold Hid; rw [decide_eq_false hd, Bool.and_false]
    rw [HR.out]
    go_enter Tryz.func362, Tryz.ntmps362
    go_wp2_with fail
    rw [← HW0.out]
    refine (KN _).mono ?_
    rintro e w1 ⟨rfl, hb⟩
    obtain ⟨x1, rfl⟩ := Later.of hb
    clear hb
    go_wp2
    go_ret
    exact ⟨rfl, HBl.out x1⟩
  subst hd
  by_cases h1 : -63 ≤ o
  case neg =>
    have HR : Hid ((inB o (-63) 63 && decide ((0 : Int) = 0) && decide ((0 : Int) = 0)) = false) := by unfold Hid; rw [inB_false (.inl (by omega))]; rfl
    rw [HR.out]
    go_enter Tryz.func362, Tryz.ntmps362
    go_wp2_with fail
    rw [← HW0.out]
    refine (KN _).mono ?_
    rintro e w1 ⟨rfl, hb⟩
    obtain ⟨x1, rfl⟩ := Later.of hb
    clear hb
    go_wp2
    go_ret
    exact ⟨rfl, HBl.out x1⟩
  by_cases h2 : o ≤ 63
  case neg =>
    have HR : Hid ((inB o (-63) 63 && decide ((0 : Int) = 0) && decide ((0 : Int) = 0)) = false) := by unfold Hid; rw [inB_false (.inr (by omega))]; rfl
    rw [HR.out]
    go_enter Tryz.func362, Tryz.ntmps362
    go_wp2_with fail
    rw [← HW0.out]
    refine (KN _).mono ?_
    rintro e w1 ⟨rfl, hb⟩
    obtain ⟨x1, rfl⟩ := Later.of hb
    clear hb
    go_wp2
    go_ret
    exact ⟨ret_bool (decide_eq_false (by omega)), HBl.out x1⟩
  have HR : Hid ((inB o (-63) 63 && decide ((0 : Int) = 0) && decide ((0 : Int) = 0)) = true) := by unfold Hid; rw [inB_true h1 h2]; rfl
  rw [HR.out]
  go_enter Tryz.func362, Tryz.ntmps362
  go_wp2_with fail
  rw [← HW0.out]
  refine (KN _).mono ?_
  rintro e w1 ⟨rfl, hb⟩
  obtain ⟨x1, rfl⟩ := Later.of hb
  clear hb
  go_wp2
  go_ret
  exact ⟨rfl, HBl.out x1⟩
theorem fix_date (m d : Int) : dateOk 1 1 m d = inB d 1 (monthDays 1 1999 m) := by
  rw [days1]
  by_cases h : 1 ≤ d ∧ d ≤ monthDays 1 1 m
  · rw [inB_true h.1 h.2, dateOk_true ⟨.inr rfl, by omega, by omega, h.1, h.2⟩]
  · rw [inB_false (by omega), dateOk_false (fun k => h ⟨k.2.2.2.1, k.2.2.2.2⟩)]
set_option maxHeartbeats 1000000 in
theorem implFixOk (s : ByteArray) (o m d : Int) (w : World) (hs : s.size ≤ maxLen) (hT : Tab w) : Calls Tryz.prog 363 #[.agg #[.string s, .bool false, .int .i64 o, .int .i64 m, .int .i64 d]] w fun e w' => e = .returned (.bool (feaOk s false o m d)) ∧ Below w.heap.size w w' := by
  have KN : ∀ W, Calls Tryz.prog 372 #[.agg #[.string s, .bool false, .int .i64 o, .int .i64 m, .int .i64 d]] W fun e w' => e = .returned (.bool (nameOk s)) ∧ Below W.heap.size W w' := fun W => implFeaNamed s false o m d W hs
  have KI : ∀ W, Calls Tryz.prog 365 #[.agg #[.string s, .bool false, .int .i64 o, .int .i64 m, .int .i64 d], .int .i64 1, .int .i64 1] W fun e w' => e = .returned (.agg #[.int .i64 1, .int .i64 1, .int .i64 m, .int .i64 d]) ∧ Below W.heap.size W w' := implDateIn s false o m d 1 1
  obtain ⟨W0, hW0, c0, c1, c2, c3, c4, hBl⟩ := fea_box w s false o m d 192
  have HW0 := hideP hW0
  have HBl := hideP hBl
  clear hW0 hBl
  have KD : ∀ x : Later W0, Calls Tryz.prog 185 #[.agg #[.int .i64 1, .int .i64 1, .int .i64 m, .int .i64 d]] x.w fun e w' => e = .returned (.bool (inB d 1 (monthDays 1 1999 m))) ∧ Below x.w.heap.size x.w w' := fun x => by
    rw [← fix_date]
    exact implDateOk 1 1 m d x.w (hT.later (HBl.out x))
  clear hs hT
  unfold feaOk
  rw [if_neg (by decide)]
  generalize nameOk s = nb at *
  generalize inB d 1 (monthDays 1 1999 m) = bd at *
  cases nb
  · rw [Bool.false_and]
    go_enter Tryz.func363, Tryz.ntmps363
    go_wp2_with fail
    rw [← HW0.out]
    refine (KN _).mono ?_
    rintro e w1 ⟨rfl, hb⟩
    obtain ⟨x1, rfl⟩ := Later.of hb
    clear hb
    go_wp2
    go_ret
    exact ⟨rfl, HBl.out x1⟩
  rw [Bool.true_and]
  by_cases ho : o = 0
  · subst ho
    rw [decide_eq_true rfl, Bool.true_and]
    go_enter Tryz.func363, Tryz.ntmps363
    go_wp2_with fail
    rw [← HW0.out]
    refine (KN _).mono ?_
    rintro e w1 ⟨rfl, hb⟩
    obtain ⟨x1, rfl⟩ := Later.of hb
    clear hb
    go_wp2_with fail
    refine (KI _).mono ?_
    rintro e w2 ⟨rfl, hb⟩
    obtain ⟨x2, rfl⟩ := x1.next hb
    clear hb
    go_wp2_with fail
    refine (KD _).mono ?_
    rintro e w3 ⟨rfl, hb⟩
    obtain ⟨x3, rfl⟩ := x2.next hb
    clear hb
    go_wp2
    go_ret
    exact ⟨rfl, HBl.out x3⟩
  · have ho' : (o == 0) = false := by simp [ho]
    rw [decide_eq_false ho, Bool.false_and]
    go_enter Tryz.func363, Tryz.ntmps363
    go_wp2_with fail
    rw [← HW0.out]
    refine (KN _).mono ?_
    rintro e w1 ⟨rfl, hb⟩
    obtain ⟨x1, rfl⟩ := Later.of hb
    clear hb
    go_wp2
    go_ret
    exact ⟨rfl, HBl.out x1⟩
set_option maxHeartbeats 1000000 in
theorem implFeaOk (s : ByteArray) (mv : Bool) (o m d : Int) (w : World) (hs : s.size ≤ maxLen) (hT : Tab w) : Calls Tryz.prog 347 #[.agg #[.string s, .bool mv, .int .i64 o, .int .i64 m, .int .i64 d]] w fun e w' => e = .returned (.bool (feaOk s mv o m d)) ∧ Below w.heap.size w w' := by
  obtain ⟨W0, hW0, c0, c1, c2, c3, c4, hBl⟩ := fea_box w s mv o m d 192
  have HW0 := hideP hW0
  have HBl := hideP hBl
  clear hW0 hBl
  have KT : ∀ x : Later W0, Tab x.w := fun x => hT.later (HBl.out x)
  obtain ⟨x0, hx0⟩ := Later.of (Below.refl W0.heap.size W0)
  cases mv
  · have K := implFixOk s o m d x0.w hs (KT x0)
    clear hs hT KT
    generalize feaOk s false o m d = r at *
    go_enter Tryz.func347, Tryz.ntmps347
    go_wp2_with fail
    rw [← HW0.out]
    refine (show Calls _ _ _ W0 _ from by rw [hx0]; exact K).mono ?_
    rintro e w1 ⟨rfl, hb⟩
    obtain ⟨x1, rfl⟩ := x0.next hb
    clear hb
    go_wp2
    go_ret
    exact ⟨rfl, HBl.out x1⟩
  · have K := implMovOk s o m d x0.w hs
    clear hs hT KT
    generalize feaOk s true o m d = r at *
    go_enter Tryz.func347, Tryz.ntmps347
    go_wp2_with fail
    rw [← HW0.out]
    refine (show Calls _ _ _ W0 _ from by rw [hx0]; exact K).mono ?_
    rintro e w1 ⟨rfl, hb⟩
    obtain ⟨x1, rfl⟩ := x0.next hb
    clear hb
    go_wp2
    go_ret
    exact ⟨rfl, HBl.out x1⟩
end Go.Proofs.YtjojgfdfbkmlkaaGreatDoor.ctr
