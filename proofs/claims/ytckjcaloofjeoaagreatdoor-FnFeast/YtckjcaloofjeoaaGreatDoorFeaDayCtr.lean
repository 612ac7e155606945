/- Contracts of both FeastDay: each answers its plain function at every calendar, year and feast. -/
import Derived.Test.YtckjcaloofjeoaaGreatDoorFeaOkCtr
import Derived.Test.YtckjcaloofjeoaaGreatDoorEasOnly
import Derived.Test.YtckjcaloofjeoaaGreatDoorJDay
namespace Go.Proofs.YtckjcaloofjeoaaGreatDoor.ctr
open Go.RowKit

set_option maxHeartbeats 1000000 in
theorem specFeaDay (c y : Int) (s : ByteArray) (mv : Bool) (o m d : Int) (w : World) (hs : s.size ≤ maxLen) : Calls Tryz.prog 19 #[.int .i64 c, .int .i64 y, .agg #[.string s, .bool mv, .int .i64 o, .int .i64 m, .int .i64 d]] w fun e w' => e = .returned (.int .i64 (feaDay c y s mv o m d)) ∧ Below w.heap.size w w' := by
  have KO : ∀ W, Calls Tryz.prog 18 #[.agg #[.string s, .bool mv, .int .i64 o, .int .i64 m, .int .i64 d]] W fun e w' => e = .returned (.bool (feaOk s mv o m d)) ∧ Below W.heap.size W w' := fun W => specFeaOk s mv o m d W hs
  have KY : ∀ W, Calls Tryz.prog 52 #[.int .i64 c, .int .i64 y] W fun e w' => e = .returned (.bool (yearB c y)) ∧ w' = W := specYearOk c y
  obtain ⟨W0, hW0, c0, c1, c2, c3, c4, hBl⟩ := fea_box w s mv o m d 25
  have HW0 := hideP hW0
  have HBl := hideP hBl
  clear hs hW0 hBl
  cases hok : feaOk s mv o m d
  · have HR := hideP (feaDay_no (c := c) (y := y) hok)
    rw [hok] at KO
    clear hok
    go_enter Tryz.func19, Tryz.ntmps19
    go_wp2_with fail
    rw [← HW0.out]
    refine (KO _).mono ?_
    rintro e w1 ⟨rfl, hb⟩
    obtain ⟨x1, rfl⟩ := Later.of hb
    clear hb
    go_wp2
    go_ret
    exact ⟨ret_int HR.out.symm, HBl.out x1⟩
  by_cases hy : yearP c y
  case neg =>
    have HR := hideP (feaDay_noYear (s := s) (mv := mv) (o := o) (m := m) (d := d) hy)
    rw [hok] at KO
    simp only [yearB_false hy] at KY
    clear hok
    go_enter Tryz.func19, Tryz.ntmps19
    go_wp2_with fail
    rw [← HW0.out]
    refine (KO _).mono ?_
    rintro e w1 ⟨rfl, hb⟩
    obtain ⟨x1, rfl⟩ := Later.of hb
    clear hb
    go_wp2_with fail
    refine (KY _).mono ?_
    rintro e w2 ⟨rfl, rfl⟩
    go_wp2
    go_ret
    exact ⟨ret_int HR.out.symm, HBl.out x1⟩
  simp only [yearB_true hy] at KY
  cases mv
  · have HR : Hid (feaDay c y s false o m d = first c y + before c y (m - 1).toNat + d - 1) := (feaDay_fix hok hy).trans (fixed_day hy (ok_fix hok))
    have hdt := fixed_date hy (ok_fix hok)
    have hm := dateP_month hdt
    have hd := dateP_day hdt
    have KD : ∀ W, Calls Tryz.prog 54 #[.int .i64 c, .int .i64 y, .int .i64 m, .int .i64 d] W fun e w' => e = .returned (.int .i64 (first c y + before c y (m - 1).toNat + d - 1)) ∧ Below W.heap.size W w' := fun W => specDay c y m d W hy.1 (by have := hy.2.1; omega) (by have := hy.2.2; omega) (by omega) (by omega) (by omega)
    rw [hok] at KO
    rw [HR.out]
    clear hok hdt hm hd hy HR
    generalize first c y + before c y (m - 1).toNat + d - 1 = R at *
    go_enter Tryz.func19, Tryz.ntmps19
    go_wp2_with fail
    rw [← HW0.out]
    refine (KO _).mono ?_
    rintro e w1 ⟨rfl, hb⟩
    obtain ⟨x1, rfl⟩ := Later.of hb
    clear hb
    go_wp2_with fail
    refine (KY _).mono ?_
    rintro e w2 ⟨rfl, rfl⟩
    go_wp2_with fail
    refine (KD _).mono ?_
    rintro e w2 ⟨rfl, hb⟩
    obtain ⟨x2, rfl⟩ := x1.next hb
    clear hb
    go_wp2
    go_ret
    exact ⟨rfl, HBl.out x2⟩
  · have HR : Hid (feaDay c y s true o m d = easter c y + o) := feaDay_mv hok hy
    have hb1 := easter_near hy
    have hb2 := ok_mv hok
    have KE : ∀ W, Calls Tryz.prog 53 #[.int .i64 c, .int .i64 y] W fun e w' => e = .returned (.int .i64 (easter c y)) ∧ Below W.heap.size W w' := specEaster c y
    rw [hok] at KO
    rw [HR.out]
    clear hok hy HR
    generalize easter c y = E at *
    go_enter Tryz.func19, Tryz.ntmps19
    go_wp2_with fail
    rw [← HW0.out]
    refine (KO _).mono ?_
    rintro e w1 ⟨rfl, hb⟩
    obtain ⟨x1, rfl⟩ := Later.of hb
    clear hb
    go_wp2_with fail
    refine (KY _).mono ?_
    rintro e w2 ⟨rfl, rfl⟩
    go_wp2_with fail
    refine wp_region_later (W := W0) x1.below (by kernel_rfl) (by kernel_rfl) ?_
    repeat (go_big_quiet_step (first | (go_at_call 53; exact calls_later (KE _))))
    refine wpQuiet_nil ?_
    intro _ hw'
    obtain ⟨x, rfl⟩ := hw'
    go_wp2
    go_ret
    exact ⟨ret_int (by first | rfl | (unfold wrap64; omega)), HBl.out x⟩

set_option maxHeartbeats 1000000 in
theorem implMovDay (c y : Int) (s : ByteArray) (o m d : Int) (w : World) (hT : Tab w) (hy : yearP c y) (h1 : -63 ≤ o) (h2 : o ≤ 63) : Calls Tryz.prog 33 #[.agg #[.string s, .bool true, .int .i64 o, .int .i64 m, .int .i64 d], .int .i64 c, .int .i64 y] w fun e w' => e = .returned (.int .i64 (easter c y + o)) ∧ Below w.heap.size w w' := by
  obtain ⟨W0, hW0, c0, c1, c2, c3, c4, hBl⟩ := fea_box w s true o m d 56
  have HW0 := hideP hW0
  have HBl := hideP hBl
  have KE : ∀ x : Later W0, Calls Tryz.prog 69 #[.int .i64 c, .int .i64 y] x.w fun e w' => e = .returned (.int .i64 (easter c y)) ∧ Below x.w.heap.size x.w w' := fun x => implEaster c y x.w (hT.later (HBl.out x))
  have hb1 := easter_near hy
  clear hW0 hBl hT hy
  generalize easter c y = E at *
  go_enter Tryz.func33, Tryz.ntmps33
  go_wp2_with fail
  rw [← HW0.out]
  refine wp_region_later (W := W0) (Below.refl _ _) (by kernel_rfl) (by kernel_rfl) ?_
  repeat (go_big_quiet_step (first | (go_at_call 69; exact calls_later (KE _))))
  refine wpQuiet_nil ?_
  intro _ hw'
  obtain ⟨x, rfl⟩ := hw'
  go_wp2
  go_ret
  exact ⟨ret_int (by first | rfl | (unfold wrap64; omega)), HBl.out x⟩
set_option maxHeartbeats 1000000 in
theorem implFixDay (c y : Int) (s : ByteArray) (o m d : Int) (w : World) (hT : Tab w) : Calls Tryz.prog 34 #[.agg #[.string s, .bool false, .int .i64 o, .int .i64 m, .int .i64 d], .int .i64 c, .int .i64 y] w fun e w' => e = .returned (.int .i64 (dayOf c y m d)) ∧ Below w.heap.size w w' := by
  obtain ⟨W0, hW0, c0, c1, c2, c3, c4, hBl⟩ := fea_box w s false o m d 25
  have HW0 := hideP hW0
  have HBl := hideP hBl
  have KI : ∀ W, Calls Tryz.prog 71 #[.agg #[.string s, .bool false, .int .i64 o, .int .i64 m, .int .i64 d], .int .i64 c, .int .i64 y] W fun e w' => e = .returned (.agg #[.int .i64 c, .int .i64 y, .int .i64 m, .int .i64 d]) ∧ Below W.heap.size W w' := implDateIn s false o m d c y
  have KD : ∀ x : Later W0, Calls Tryz.prog 70 #[.agg #[.int .i64 c, .int .i64 y, .int .i64 m, .int .i64 d]] x.w fun e w' => e = .returned (.int .i64 (dayOf c y m d)) ∧ Below x.w.heap.size x.w w' := fun x => implDayOf c y m d x.w (hT.later (HBl.out x))
  clear hW0 hBl hT
  generalize dayOf c y m d = R at *
  go_enter Tryz.func34, Tryz.ntmps34
  go_wp2_with fail
  rw [← HW0.out]
  refine (KI _).mono ?_
  rintro e w1 ⟨rfl, hb⟩
  obtain ⟨x1, rfl⟩ := Later.of hb
  clear hb
  go_wp2_with fail
  refine (KD _).mono ?_
  rintro e w2 ⟨rfl, hb⟩
  obtain ⟨x2, rfl⟩ := x1.next hb
  clear hb
  go_wp2
  go_ret
  exact ⟨rfl, HBl.out x2⟩

set_option maxHeartbeats 1000000 in
theorem implFeaDay (c y : Int) (s : ByteArray) (mv : Bool) (o m d : Int) (w : World) (hs : s.size ≤ maxLen) (hT : Tab w) : Calls Tryz.prog 7 #[.int .i64 c, .int .i64 y, .agg #[.string s, .bool mv, .int .i64 o, .int .i64 m, .int .i64 d]] w fun e w' => e = .returned (.int .i64 (feaDay c y s mv o m d)) ∧ Below w.heap.size w w' := by
  obtain ⟨W0, hW0, c0, c1, c2, c3, c4, hBl⟩ := fea_box w s mv o m d 25
  have KT : ∀ x : Later W0, Tab x.w := fun x => hT.later (hBl x)
  obtain ⟨x0, hx0⟩ := Later.of (Below.refl W0.heap.size W0)
  have KO : Calls Tryz.prog 17 #[.agg #[.string s, .bool mv, .int .i64 o, .int .i64 m, .int .i64 d]] W0 fun e w' => e = .returned (.bool (feaOk s mv o m d)) ∧ Below W0.heap.size W0 w' := implFeaOk s mv o m d W0 hs (by rw [hx0]; exact KT x0)
  have KY : ∀ x : Later W0, Calls Tryz.prog 32 #[.int .i64 c, .int .i64 y] x.w fun e w' => e = .returned (.bool (yearB c y)) ∧ Below x.w.heap.size x.w w' := fun x => implYearOk c y x.w (KT x)
  have HW0 := hideP hW0
  have HBl := hideP hBl
  clear hs hW0 hBl hT hx0 x0
  cases hok : feaOk s mv o m d
  · have HR := hideP (feaDay_no (c := c) (y := y) hok)
    rw [hok] at KO
    clear hok KT
    go_enter Tryz.func7, Tryz.ntmps7
    go_wp2_with fail
    rw [← HW0.out]
    refine KO.mono ?_
    rintro e w1 ⟨rfl, hb⟩
    obtain ⟨x1, rfl⟩ := Later.of hb
    clear hb
    go_wp2
    go_ret
    exact ⟨ret_int HR.out.symm, HBl.out x1⟩
  by_cases hy : yearP c y
  case neg =>
    have HR := hideP (feaDay_noYear (s := s) (mv := mv) (o := o) (m := m) (d := d) hy)
    rw [hok] at KO
    simp only [yearB_false hy] at KY
    clear hok KT
    go_enter Tryz.func7, Tryz.ntmps7
    go_wp2_with fail
    rw [← HW0.out]
    refine KO.mono ?_
    rintro e w1 ⟨rfl, hb⟩
    obtain ⟨x1, rfl⟩ := Later.of hb
    clear hb
    go_wp2_with fail
    refine (KY x1).mono ?_
    rintro e w2 ⟨rfl, hb⟩
    obtain ⟨x2, rfl⟩ := x1.next hb
    clear hb
    go_wp2
    go_ret
    exact ⟨ret_int HR.out.symm, HBl.out x2⟩
  simp only [yearB_true hy] at KY
  cases mv
  · have HR : Hid (feaDay c y s false o m d = dayOf c y m d) := feaDay_fix hok hy
    have KD : ∀ x : Later W0, Calls Tryz.prog 34 #[.agg #[.string s, .bool false, .int .i64 o, .int .i64 m, .int .i64 d], .int .i64 c, .int .i64 y] x.w fun e w' => e = .returned (.int .i64 (dayOf c y m d)) ∧ Below x.w.heap.size x.w w' := fun x => implFixDay c y s o m d x.w (KT x)
    rw [hok] at KO
    rw [HR.out]
    clear hok hy HR KT
    generalize dayOf c y m d = R at *
    go_enter Tryz.func7, Tryz.ntmps7
    go_wp2_with fail
    rw [← HW0.out]
    refine KO.mono ?_
    rintro e w1 ⟨rfl, hb⟩
    obtain ⟨x1, rfl⟩ := Later.of hb
    clear hb
    go_wp2_with fail
    refine (KY x1).mono ?_
    rintro e w2 ⟨rfl, hb⟩
    obtain ⟨x2, rfl⟩ := x1.next hb
    clear hb
    go_wp2_with fail
    refine (KD x2).mono ?_
    rintro e w3 ⟨rfl, hb⟩
    obtain ⟨x3, rfl⟩ := x2.next hb
    clear hb
    go_wp2
    go_ret
    exact ⟨rfl, HBl.out x3⟩
  · have HR : Hid (feaDay c y s true o m d = easter c y + o) := feaDay_mv hok hy
    have hb2 := ok_mv hok
    have KD : ∀ x : Later W0, Calls Tryz.prog 33 #[.agg #[.string s, .bool true, .int .i64 o, .int .i64 m, .int .i64 d], .int .i64 c, .int .i64 y] x.w fun e w' => e = .returned (.int .i64 (easter c y + o)) ∧ Below x.w.heap.size x.w w' := fun x => implMovDay c y s o m d x.w (KT x) hy hb2.1 hb2.2
    rw [hok] at KO
    rw [HR.out]
    clear hok hy HR KT hb2
    generalize easter c y + o = R at *
    go_enter Tryz.func7, Tryz.ntmps7
    go_wp2_with fail
    rw [← HW0.out]
    refine KO.mono ?_
    rintro e w1 ⟨rfl, hb⟩
    obtain ⟨x1, rfl⟩ := Later.of hb
    clear hb
    go_wp2_with fail
    refine (KY x1).mono ?_
    rintro e w2 ⟨rfl, hb⟩
    obtain ⟨x2, rfl⟩ := x1.next hb
    clear hb
    go_wp2_with fail
    refine (KD x2).mono ?_
    rintro e w3 ⟨rfl, hb⟩
    obtain ⟨x3, rfl⟩ := x2.next hb
    clear hb
    go_wp2
    go_ret
    exact ⟨rfl, HBl.out x3⟩
end Go.Proofs.YtckjcaloofjeoaaGreatDoor.ctr
