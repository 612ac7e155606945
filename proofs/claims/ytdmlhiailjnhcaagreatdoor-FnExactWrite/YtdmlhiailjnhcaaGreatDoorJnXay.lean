/- Contracts of the model's l06Start, l06Year, YearStart, YearDays, StyleYear: each answers its plain function; and what else the law reaches. -/
import Derived.Test.YtdmlhiailjnhcaaGreatDoorJnXag
import Derived.Test.YtdmlhiailjnhcaaGreatDoorJnXar
import Derived.Test.YtdmlhiailjnhcaaGreatDoorJnXaq
import Derived.Test.YtdmlhiailjnhcaaGreatDoorJnXad
import Derived.Test.YtdmlhiailjnhcaaGreatDoorJnXaf
import Derived.Test.YtdmlhiailjnhcaaGreatDoorJnXal
import Derived.Test.YtdmlhiailjnhcaaGreatDoorJnXah
import Derived.Test.YtdmlhiailjnhcaaGreatDoorJnXaj
namespace Go.Proofs.YtdmlhiailjnhcaaGreatDoor.ctr
open Go.RowKit
theorem calls_below {P : Program} {f : FuncId} {args : Array Value} {W : World} {v : Value} (h : Calls P f args W fun e w' => e = .returned v ∧ w' = W) : Calls P f args W fun e w' => e = .returned v ∧ Below W.heap.size W w' :=
 h.mono fun _ _ ⟨he, hm⟩ => ⟨he, by rw [hm]; exact Below.refl _ _⟩
set_option maxHeartbeats 1000000 in
theorem specStart (c s y : Int) (w : World) (hc : c = 0 ∨ c = 1) (hs : styleP s) (hy1 : 1 ≤ y) (hy2 : y ≤ 3900) : CR 132 #[.int .i64 c, .int .i64 s, .int .i64 y] w (.int .i64 (start c s y)) := by
 rcases style_cases hs with rfl | rfl | rfl | rfl | rfl | rfl | rfl
 focus
   have K : ∀ x : Later w, CR 113 #[.int .i64 c, .int .i64 y] x.w (.int .i64 (start c 0 y)) := fun x => calls_below (specFirst c y x.w hc (by omega) (by omega))
   generalize start c 0 y = R at *
 rotate_left
 focus
   have K : ∀ x : Later w, CR 161 #[.int .i64 c, .int .i64 y, .int .i64 3, .int .i64 1] x.w (.int .i64 (start c 1 y)) := fun x => by rw [start_1]; exact specDay c y 3 1 x.w hc (by omega) (by omega) (by omega) (by omega) (by omega)
   generalize start c 1 y = R at *
 rotate_left
 focus
   have K : ∀ x : Later w, CR 161 #[.int .i64 c, .int .i64 y, .int .i64 3, .int .i64 25] x.w (.int .i64 (start c 2 y)) := fun x => by rw [start_2]; exact specDay c y 3 25 x.w hc (by omega) (by omega) (by omega) (by omega) (by omega)
   generalize start c 2 y = R at *
 rotate_left
 focus
   have K : ∀ x : Later w, CR 161 #[.int .i64 c, .int .i64 (y - 1), .int .i64 3, .int .i64 25] x.w (.int .i64 (start c 3 y)) := fun x => by rw [start_3]; exact specDay c (y - 1) 3 25 x.w hc (by omega) (by omega) (by omega) (by omega) (by omega)
   generalize start c 3 y = R at *
 rotate_left
 focus
   have K : ∀ x : Later w, CR 173 #[.int .i64 c, .int .i64 y] x.w (.int .i64 (start c 4 y)) := fun x => by rw [start_4]; exact specL03 c y x.w hc hy1 (by omega)
   generalize start c 4 y = R at *
 rotate_left
 focus
   have K : ∀ x : Later w, CR 161 #[.int .i64 c, .int .i64 (y - 1), .int .i64 9, .int .i64 1] x.w (.int .i64 (start c 5 y)) := fun x => by rw [start_5]; exact specDay c (y - 1) 9 1 x.w hc (by omega) (by omega) (by omega) (by omega) (by omega)
   generalize start c 5 y = R at *
 rotate_left
 focus
   have K : ∀ x : Later w, CR 161 #[.int .i64 c, .int .i64 (y - 1), .int .i64 12, .int .i64 25] x.w (.int .i64 (start c 6 y)) := fun x => by rw [start_6]; exact specDay c (y - 1) 12 25 x.w hc (by omega) (by omega) (by omega) (by omega) (by omega)
   generalize start c 6 y = R at *
 rotate_left
 all_goals
  clear hc hs
  go_enter Tryz.func132, Tryz.ntmps132
  go_wp2_with fail
  refine latO (K ⟨w, Below.refl _ _⟩) fun x1 => ?_
  go_wp2
  go_ret
  exact ⟨rfl, x1.below⟩
theorem date_cases (c n : Int) : dateOf c n = (0, 0, 0, 0, false) ∨ ∃ Y m d, dateOf c n = (c, Y, m, d, true) ∧ (c = 0 ∨ c = 1) ∧ 1 ≤ Y ∧ Y ≤ 3000 ∧ first c Y ≤ n ∧ n < first c (Y + 1) := by
 by_cases h : (c = 0 ∨ c = 1) ∧ 1 ≤ yearOf c n ∧ yearOf c n ≤ 3000 ∧ -1000 ≤ n ∧ n ≤ 1200000
 · right
   have k : dateOf c n = (c, yearOf c n, (monthOf c (yearOf c n) (n - first c (yearOf c n)) : Int) + 1, n - first c (yearOf c n) - before c (yearOf c n) (monthOf c (yearOf c n) (n - first c (yearOf c n))) + 1, true) := by
    unfold dateOf
    rw [if_pos h]
   obtain ⟨_, hd, hn⟩ := date_back k
   have hl := line_in h.1 (dateP_month hd).1 (dateP_month hd).2 hd.2.2.2.1 hd.2.2.2.2
   rw [← lineD_dayOf hd, hn] at hl
   exact ⟨_, _, _, k, h.1, h.2.1, h.2.2.1, hl.1, hl.2⟩
 · exact .inl (dateOf_no h)
noncomputable def styR (c s n : Int) : Value := .tuple #[.int .i64 (styYear c s n).1, .bool (styYear c s n).2]
theorem styR_no {c s n : Int} (h : styYear c s n = (0, false)) : styR c s n = .tuple #[.int .i64 0, .bool false] := by unfold styR; rw [h]
theorem styR_yes {c s n y : Int} (h : styYear c s n = (y, true)) : styR c s n = .tuple #[.int .i64 y, .bool true] := by unfold styR; rw [h]
theorem raw_of {c s Y n y : Int} (h : y = Y - 1 ∨ y = Y ∨ y = Y + 1) (h1 : Y ≤ y → start c s Y ≤ n) (h2 : Y + 1 ≤ y → start c s (Y + 1) ≤ n) (he : y ≤ Y → n < start c s (y + 1)) : rawYear c s Y n = y := by
 rcases h with rfl | rfl | rfl
 · have := he (by omega)
   rw [show Y - 1 + 1 = Y by omega] at this
   exact raw_lo this
 · exact raw_mid (by have := h1 (by omega); omega) (he (by omega))
 · exact raw_hi (by have := h1 (by omega); have := h2 (by omega); omega) (by have := h2 (by omega); omega)
set_option maxHeartbeats 2000000 in
theorem specStyleYear (c s n : Int) (w : World) : CR 79 #[.int .i64 c, .int .i64 s, .int .i64 n] w (styR c s n) := by
 have KD := specDateOf c n w
 rcases date_cases c n with hD | ⟨Y, m, d, hD, hc, hY1, hY2, hn1, hn2⟩
 · rw [dateR_no hD] at KD
   have HR : Hid (styR c s n = .tuple #[.int .i64 0, .bool false]) := styR_no (sty_none hD)
   rw [HR.out]
   clear hD HR
   unfold z4 at KD
   go_enter Tryz.func79, Tryz.ntmps79
   go_wp2_with fail
   refine KD.mono ?_
   rintro e w1 ⟨rfl, hb⟩
   go_wp2
   go_returns
   exact ⟨rfl, hb.alloc hb.size _⟩
 · rw [dateR_yes hD] at KD
   by_cases hs : styleP s
   · have hE := styText_some hs
     have KS : ∀ W, CR 131 #[.int .i64 s] W (.string (styText s)) := fun W => specStyleName s W
     have KB : Hid (∀ (y : Int), 0 ≤ y → y ≤ 3001 → ∀ W, CR 132 #[.int .i64 c, .int .i64 s, .int .i64 (y + 1)] W (.int .i64 (start c s (y + 1)))) := fun y h1 h2 W => specStart c s (y + 1) W hc hs (by omega) (by omega)
     have HF := hideP (start_far hc hs hY1 hY2 hn2)
     have HRaw : Hid (∀ y, (y = Y - 1 ∨ y = Y ∨ y = Y + 1) → (Y ≤ y → start c s Y ≤ n) → (Y + 1 ≤ y → start c s (Y + 1) ≤ n) → (y ≤ Y → n < start c s (y + 1)) → rawYear c s Y n = y) := fun y h h1 h2 he => raw_of h h1 h2 he
     have HO : Hid (1 ≤ rawYear c s Y n → rawYear c s Y n ≤ 3000 → styR c s n = .tuple #[.int .i64 (rawYear c s Y n), .bool true]) := fun h1 h2 => styR_yes (sty_yes hD hs h1 h2)
     have HN : Hid (¬ (1 ≤ rawYear c s Y n ∧ rawYear c s Y n ≤ 3000) → styR c s n = .tuple #[.int .i64 0, .bool false]) := fun h => styR_no (sty_out hD h)
     generalize styR c s n = R at *
     generalize styText s = t at *
     clear hD hn1 hn2 hc hs
     go_enter Tryz.func79, Tryz.ntmps79
     go_wp2_with fail
     refine KD.mono ?_
     rintro e w1 ⟨rfl, hb1⟩
     have HB1 := hideP hb1
     obtain ⟨W0, hW0⟩ : ∃ W0, W0 = w1.alloc (.cells #[.int .i64 c, .int .i64 Y, .int .i64 m, .int .i64 d] 99) := ⟨_, rfl⟩
     have HW0 := hideP hW0
     have c1 : ∀ x : Later W0, x.w.cell? ⟨w1.heap.size, 1, none⟩ = some (.int .i64 Y) := Later.new hW0 1 rfl
     have HL : Hid (∀ x : Later W0, Below w.heap.size w x.w) := fun x => HB1.out.trans ((below_of_alloc HW0.out x.below).mono HB1.out.size)
     clear hb1 hW0 KD
     go_wp2_with fail
     rw [← HW0.out]
     refine latO (KS _) fun x1 => ?_
     go_wp2_with fail
     go_loopw [10] (fun i wr => ∃ (y : Int) (x : Later W0), i = .int .i64 y ∧ wr = x.w ∧ Y - 1 ≤ y ∧ y ≤ Y + 1 ∧ Hid (Y ≤ y → start c s Y ≤ n) ∧ Hid (Y + 1 ≤ y → start c s (Y + 1) ≤ n)) (fun i _ => (4000 - intOf i).toNat)
     case atStart => exact ⟨Y - 1, x1, rfl, rfl, by omega, by omega, fun h => by omega, fun h => by omega⟩
     case round =>
      obtain ⟨y, x, rfl, rfl, y1, y2, H1, H2⟩ := hrel
      have K := KB.out y (by omega) (by omega)
      by_cases hle : start c s (y + 1) ≤ n
      · have hyY : y ≤ Y := by
         by_cases h : y ≤ Y
         · exact h
         · have e : y = Y + 1 := by omega
           subst e
           have := HF.out
           rw [show Y + 1 + 1 = Y + 2 by omega] at hle
           omega
        have H1' : Hid (Y ≤ y + 1 → start c s Y ≤ n) := fun h => by
         by_cases e : Y ≤ y
         · exact H1.out e
         · rw [show Y = y + 1 by omega]; exact hle
        have H2' : Hid (Y + 1 ≤ y + 1 → start c s (Y + 1) ≤ n) := fun h => by
         rw [show Y = y by omega]; exact hle
        clear H1 H2 HF
        generalize start c s (y + 1) = S at *
        go_wp2_with fail
        refine lat (K _) fun x3 => ?_
        go_wp2
        exact ⟨⟨y + 1, x3, rfl, rfl, by omega, by omega, H1', H2'⟩, by simp [intOf]; omega⟩
      · have hraw : rawYear c s Y n = y := HRaw.out y (by omega) H1.out H2.out (fun _ => by omega)
        rw [hraw] at HO HN
        clear H1 H2 HF HRaw hraw KB
        generalize start c s (y + 1) = S at *
        by_cases hin : 1 ≤ y ∧ y ≤ 3000
        · have hI : inB y 1 3000 = true := inB_true hin.1 hin.2
          have KI := fun W => l01In y 1 3000 W
          rw [hI] at KI
          go_wp2_with fail
          refine lat (K _) fun x3 => ?_
          go_wp2_with fail
          refine (KI _).mono ?_
          rintro e w4 ⟨rfl, hw⟩
          rw [hw]
          clear hw
          go_wp2
          go_returns
          rw [HO.out hin.1 hin.2]
          exact ⟨rfl, HL.out x3⟩
        · have hI : inB y 1 3000 = false := inB_false (by omega)
          have KI := fun W => l01In y 1 3000 W
          rw [hI] at KI
          go_wp2_with fail
          refine lat (K _) fun x3 => ?_
          go_wp2_with fail
          refine (KI _).mono ?_
          rintro e w4 ⟨rfl, hw⟩
          rw [hw]
          clear hw
          go_wp2
          go_returns
          rw [HN.out hin]
          exact ⟨rfl, HL.out x3⟩
   · have hE := styText_none hs
     have KS : ∀ W, CR 131 #[.int .i64 s] W (.string (styText s)) := fun W => specStyleName s W
     have HR : Hid (styR c s n = .tuple #[.int .i64 0, .bool false]) := styR_no (sty_style hs)
     rw [HR.out]
     clear hD HR hs hn1 hn2 hc
     generalize styText s = t at *
     go_enter Tryz.func79, Tryz.ntmps79
     go_wp2_with fail
     refine KD.mono ?_
     rintro e w1 ⟨rfl, hb1⟩
     have HB1 := hideP hb1
     clear hb1
     go_wp2_with fail
     refine (KS _).mono ?_
     rintro e w2 ⟨rfl, hb⟩
     have HB2 := hideP (below_alloc hb)
     clear hb
     go_wp2
     go_returns
     exact ⟨rfl, HB1.out.trans (HB2.out.mono HB1.out.size)⟩
set_option maxHeartbeats 1000000 in
theorem specFeaDay (c y : Int) (s : ByteArray) (mv : Bool) (o m d : Int) (w : World) (hs : s.size ≤ maxLen) : CR 122 #[.int .i64 c, .int .i64 y, .agg #[.string s, .bool mv, .int .i64 o, .int .i64 m, .int .i64 d]] w (.int .i64 (feaDay c y s mv o m d)) := by
 have KO : ∀ W, CR 159 #[.agg #[.string s, .bool mv, .int .i64 o, .int .i64 m, .int .i64 d]] W (.bool (feaOk s mv o m d)) := fun W => specFeaOk s mv o m d W hs
 have KY : ∀ W, Calls Tryz.prog 134 #[.int .i64 c, .int .i64 y] W fun e w' => e = .returned (.bool (yearB c y)) ∧ w' = W := specYearOk c y
 obtain ⟨W0, hW0, c0, c1, c2, c3, c4, hBl⟩ := fea_box w s mv o m d 107
 have HW0 := hideP hW0
 have HBl := hideP hBl
 clear hs hW0 hBl
 cases hok : feaOk s mv o m d
 · have HR := hideP (feaDay_no (c := c) (y := y) hok)
   rw [hok] at KO
   clear hok
   go_enter Tryz.func122, Tryz.ntmps122
   go_wp2_with fail
   rw [← HW0.out]
   refine latO (KO _) fun x1 => ?_
   go_wp2
   go_ret
   exact ⟨ret_int HR.out.symm, HBl.out x1⟩
 by_cases hy : yearP c y
 case neg =>
  have HR := hideP (feaDay_noYear (s := s) (mv := mv) (o := o) (m := m) (d := d) hy)
  rw [hok] at KO
  simp only [yearB_false hy] at KY
  clear hok
  go_enter Tryz.func122, Tryz.ntmps122
  go_wp2_with fail
  rw [← HW0.out]
  refine latO (KO _) fun x1 => ?_
  go_wp2_with fail
  refine (KY _).mono ?_
  rintro e w2 ⟨rfl, rfl⟩
  go_wp2
  go_ret
  exact ⟨ret_int HR.out.symm, HBl.out x1⟩
 simp only [yearB_true hy] at KY
 cases mv
 · have HR : Hid (feaDay c y s false o m d = first c y + before c y (m - 1).toNat + d - 1) := (feaDay_fix hok hy).trans (fixed_day hy (ok_fix hok))
   have hdt := fixed_date hy (ok_fix hok)
   have hm := dateP_month hdt
   have hd := dateP_day hdt
   have KD : ∀ W, CR 161 #[.int .i64 c, .int .i64 y, .int .i64 m, .int .i64 d] W (.int .i64 (first c y + before c y (m - 1).toNat + d - 1)) := fun W => specDay c y m d W hy.1 (by have := hy.2.1; omega) (by have := hy.2.2; omega) (by omega) (by omega) (by omega)
   rw [hok] at KO
   rw [HR.out]
   clear hok hdt hm hd hy HR
   generalize first c y + before c y (m - 1).toNat + d - 1 = R at *
   go_enter Tryz.func122, Tryz.ntmps122
   go_wp2_with fail
   rw [← HW0.out]
   refine latO (KO _) fun x1 => ?_
   go_wp2_with fail
   refine (KY _).mono ?_
   rintro e w2 ⟨rfl, rfl⟩
   go_wp2_with fail
   refine lat (KD _) fun x2 => ?_
   go_wp2
   go_ret
   exact ⟨rfl, HBl.out x2⟩
 · have HR : Hid (feaDay c y s true o m d = easter c y + o) := feaDay_mv hok hy
   have hb1 := easter_near hy
   have hb2 := ok_mv hok
   have KE : ∀ W, CR 160 #[.int .i64 c, .int .i64 y] W (.int .i64 (easter c y)) := specEaster c y
   rw [hok] at KO
   rw [HR.out]
   clear hok hy HR
   generalize easter c y = E at *
   go_enter Tryz.func122, Tryz.ntmps122
   go_wp2_with fail
   rw [← HW0.out]
   refine latO (KO _) fun x1 => ?_
   go_wp2_with fail
   refine (KY _).mono ?_
   rintro e w2 ⟨rfl, rfl⟩
   go_wp2_with fail
   refine wp_region_later (W := W0) x1.below (by kernel_rfl) (by kernel_rfl) ?_
   repeat (go_big_quiet_step (first | (go_at_call 160; exact calls_later (KE _))))
   refine wpQuiet_nil ?_
   intro _ hw'
   obtain ⟨x, rfl⟩ := hw'
   go_wp2
   go_ret
   exact ⟨ret_int (by first | rfl | (unfold wrap64; omega)), HBl.out x⟩
set_option maxHeartbeats 1000000 in
theorem implMovDay (c y : Int) (s : ByteArray) (o m d : Int) (w : World) (hT : Tab w) (hy : yearP c y) (h1 : -63 ≤ o) (h2 : o ≤ 63) : CR 277 #[.agg #[.string s, .bool true, .int .i64 o, .int .i64 m, .int .i64 d], .int .i64 c, .int .i64 y] w (.int .i64 (easter c y + o)) := by
 obtain ⟨W0, hW0, c0, c1, c2, c3, c4, hBl⟩ := fea_box w s true o m d 236
 have HW0 := hideP hW0
 have HBl := hideP hBl
 have KE : ∀ x : Later W0, CR 297 #[.int .i64 c, .int .i64 y] x.w (.int .i64 (easter c y)) := fun x => implEaster c y x.w (hT.later (HBl.out x))
 have hb1 := easter_near hy
 clear hW0 hBl hT hy
 generalize easter c y = E at *
 go_enter Tryz.func277, Tryz.ntmps277
 go_wp2_with fail
 rw [← HW0.out]
 refine wp_region_later (W := W0) (Below.refl _ _) (by kernel_rfl) (by kernel_rfl) ?_
 repeat (go_big_quiet_step (first | (go_at_call 297; exact calls_later (KE _))))
 refine wpQuiet_nil ?_
 intro _ hw'
 obtain ⟨x, rfl⟩ := hw'
 go_wp2
 go_ret
 exact ⟨ret_int (by first | rfl | (unfold wrap64; omega)), HBl.out x⟩
set_option maxHeartbeats 1000000 in
theorem implFixDay (c y : Int) (s : ByteArray) (o m d : Int) (w : World) (hT : Tab w) : CR 278 #[.agg #[.string s, .bool false, .int .i64 o, .int .i64 m, .int .i64 d], .int .i64 c, .int .i64 y] w (.int .i64 (dayOf c y m d)) := by
 obtain ⟨W0, hW0, c0, c1, c2, c3, c4, hBl⟩ := fea_box w s false o m d 107
 have HW0 := hideP hW0
 have HBl := hideP hBl
 have KI : ∀ W, CR 298 #[.agg #[.string s, .bool false, .int .i64 o, .int .i64 m, .int .i64 d], .int .i64 c, .int .i64 y] W (.agg #[.int .i64 c, .int .i64 y, .int .i64 m, .int .i64 d]) := implDateIn s false o m d c y
 have KD : ∀ x : Later W0, CR 170 #[.agg #[.int .i64 c, .int .i64 y, .int .i64 m, .int .i64 d]] x.w (.int .i64 (dayOf c y m d)) := fun x => implDayOf c y m d x.w (hT.later (HBl.out x))
 clear hW0 hBl hT
 generalize dayOf c y m d = R at *
 go_enter Tryz.func278, Tryz.ntmps278
 go_wp2_with fail
 rw [← HW0.out]
 refine latO (KI _) fun x1 => ?_
 go_wp2_with fail
 refine lat (KD _) fun x2 => ?_
 go_wp2
 go_ret
 exact ⟨rfl, HBl.out x2⟩
set_option maxHeartbeats 1000000 in
theorem implFeaDay (c y : Int) (s : ByteArray) (mv : Bool) (o m d : Int) (w : World) (hs : s.size ≤ maxLen) (hT : Tab w) : CR 255 #[.int .i64 c, .int .i64 y, .agg #[.string s, .bool mv, .int .i64 o, .int .i64 m, .int .i64 d]] w (.int .i64 (feaDay c y s mv o m d)) := by
 obtain ⟨W0, hW0, c0, c1, c2, c3, c4, hBl⟩ := fea_box w s mv o m d 107
 have KT : ∀ x : Later W0, Tab x.w := fun x => hT.later (hBl x)
 obtain ⟨x0, hx0⟩ := Later.of (Below.refl W0.heap.size W0)
 have KO : CR 275 #[.agg #[.string s, .bool mv, .int .i64 o, .int .i64 m, .int .i64 d]] W0 (.bool (feaOk s mv o m d)) := implFeaOk s mv o m d W0 hs (by rw [hx0]; exact KT x0)
 have KY : ∀ x : Later W0, CR 276 #[.int .i64 c, .int .i64 y] x.w (.bool (yearB c y)) := fun x => implYearOk c y x.w (KT x)
 have HW0 := hideP hW0
 have HBl := hideP hBl
 clear hs hW0 hBl hT hx0 x0
 cases hok : feaOk s mv o m d
 · have HR := hideP (feaDay_no (c := c) (y := y) hok)
   rw [hok] at KO
   clear hok KT
   go_enter Tryz.func255, Tryz.ntmps255
   go_wp2_with fail
   rw [← HW0.out]
   refine latO KO fun x1 => ?_
   go_wp2
   go_ret
   exact ⟨ret_int HR.out.symm, HBl.out x1⟩
 by_cases hy : yearP c y
 case neg =>
  have HR := hideP (feaDay_noYear (s := s) (mv := mv) (o := o) (m := m) (d := d) hy)
  rw [hok] at KO
  simp only [yearB_false hy] at KY
  clear hok KT
  go_enter Tryz.func255, Tryz.ntmps255
  go_wp2_with fail
  rw [← HW0.out]
  refine latO KO fun x1 => ?_
  go_wp2_with fail
  refine lat (KY x1) fun x2 => ?_
  go_wp2
  go_ret
  exact ⟨ret_int HR.out.symm, HBl.out x2⟩
 simp only [yearB_true hy] at KY
 cases mv
 focus
   have HR : Hid (feaDay c y s false o m d = dayOf c y m d) := feaDay_fix hok hy
   have KD : ∀ x : Later W0, CR 278 #[.agg #[.string s, .bool false, .int .i64 o, .int .i64 m, .int .i64 d], .int .i64 c, .int .i64 y] x.w (.int .i64 (dayOf c y m d)) := fun x => implFixDay c y s o m d x.w (KT x)
   rw [hok] at KO
   rw [HR.out]
   clear hok hy HR KT
   generalize dayOf c y m d = R at *
 rotate_left
 focus
   have HR : Hid (feaDay c y s true o m d = easter c y + o) := feaDay_mv hok hy
   have hb2 := ok_mv hok
   have KD : ∀ x : Later W0, CR 277 #[.agg #[.string s, .bool true, .int .i64 o, .int .i64 m, .int .i64 d], .int .i64 c, .int .i64 y] x.w (.int .i64 (easter c y + o)) := fun x => implMovDay c y s o m d x.w (KT x) hy hb2.1 hb2.2
   rw [hok] at KO
   rw [HR.out]
   clear hok hy HR KT hb2
   generalize easter c y + o = R at *
 rotate_left
 all_goals
  go_enter Tryz.func255, Tryz.ntmps255
  go_wp2_with fail
  rw [← HW0.out]
  refine latO KO fun x1 => ?_
  go_wp2_with fail
  refine lat (KY x1) fun x2 => ?_
  go_wp2_with fail
  refine lat (KD x2) fun x3 => ?_
  go_wp2
  go_ret
  exact ⟨rfl, HBl.out x3⟩
theorem date_parts {c n Y m d : Int} (h : dateOf c n = (c, Y, m, d, true)) : (c = 0 ∨ c = 1) ∧ 1 ≤ Y ∧ Y ≤ 3000 ∧ 1 ≤ m ∧ m ≤ 12 ∧ 1 ≤ d ∧ d ≤ monthDays c Y m ∧ d ≤ 31 ∧ first c Y ≤ n ∧ n < first c (Y + 1) ∧ lineD c Y m d = n := by
 obtain ⟨_, hd, hn⟩ := date_back h
 have hl := line_in hd.1 (dateP_month hd).1 (dateP_month hd).2 hd.2.2.2.1 hd.2.2.2.2
 rw [lineD_dayOf hd] at hn
 rw [hn] at hl
 exact ⟨hd.1, hd.2.1, hd.2.2.1, (dateP_month hd).1, (dateP_month hd).2, hd.2.2.2.1, hd.2.2.2.2, (dateP_day hd).2, hl.1, hl.2, hn⟩
theorem date_between {c a n b Y0 m0 d0 Y1 m1 d1 : Int} (ha : dateOf c a = (c, Y0, m0, d0, true)) (hb : dateOf c b = (c, Y1, m1, d1, true)) (h1 : a ≤ n) (h2 : n ≤ b) : ∃ Y m d, dateOf c n = (c, Y, m, d, true) := by
 obtain ⟨hc, y1, _, _, _, _, _, _, f1, _, _⟩ := date_parts ha
 obtain ⟨_, _, y2, _, _, _, _, _, _, f2, _⟩ := date_parts hb
 have g1 := first_le' hc y1
 have g2 := first_le' hc (show Y1 + 1 ≤ 3001 by omega)
 obtain ⟨n1, n2, z1, z2⟩ := year_in hc (show first c 1 ≤ n by omega) (show n < first c 3001 by omega)
 exact ⟨_, _, _, dateOf_yes hc n1 n2 rfl rfl z1 z2⟩
def datedP (c n : Int) : Prop := (dateOf c n).2.2.2.2 = true
def reignP (c s f t n : Int) : Prop := f ≤ n ∧ n ≤ t ∧ styleP s ∧ datedP c f ∧ datedP c n
noncomputable instance (c s f t n : Int) : Decidable (reignP c s f t n) := Classical.propDecidable _
def FeaBlk (W : World) (g : Nat) (cur : Array Value) : Prop := Blk W g cur 107 ∧ ∀ k, k < 20 → ∀ j, j < 5 → cur[k * 5 + j]? = (feaAt k).cs[j]?
theorem FeaOwn.blk {w W : World} {v : Value} (h : FeaOwn w W v) : ∃ g cap cur, v = .slice (some ⟨g, 0, none⟩) 20 cap ∧ w.heap.size ≤ g ∧ FeaBlk W g cur := by
 rcases h.2 with ⟨_, h0⟩ | ⟨g, cap, cur, hv, hb, hh, hcap, _, hsz, htake⟩
 · simp at h0
 · refine ⟨g, cap, cur, hv, hb, hh, fun k hk j hj => ?_⟩
   rw [← feaCell hk hj, ← htake, List.getElem?_take, if_pos (by omega)]
   simp
theorem FeaBlk.at {W : World} {g : Nat} {cur : Array Value} (h : FeaBlk W g cur) {k : Nat} (hk : k < 20) : W.cell? ⟨g, k * 5, none⟩ = some (.string (feaAt k).name) ∧ W.cell? ⟨g, k * 5 + 1, none⟩ = some (.bool (feaAt k).mv) ∧ W.cell? ⟨g, k * 5 + 2, none⟩ = some (.int .i64 (feaAt k).off) ∧ W.cell? ⟨g, k * 5 + 3, none⟩ = some (.int .i64 (feaAt k).m) ∧ W.cell? ⟨g, k * 5 + 4, none⟩ = some (.int .i64 (feaAt k).d) := by
 have e := fun j hj => h.2 k hk j hj
 exact ⟨h.1.cell _ (e 0 (by omega)), h.1.cell _ (e 1 (by omega)), h.1.cell _ (e 2 (by omega)), h.1.cell _ (e 3 (by omega)), h.1.cell _ (e 4 (by omega))⟩
theorem FeaBlk.below {W W' : World} {g : Nat} {cur : Array Value} (h : FeaBlk W g cur) (hb : Below W.heap.size W W') : FeaBlk W' g cur := ⟨h.1.below hb h.1.lt, h.2⟩
theorem own_ne {w : World} {base e size : Nat} {v : Value} {n : Nat} {xs : List Value} {b : Nat} {vs : Array Value} {t : TypeId} (h : w.ownsRow base e size v n xs) (hb : Blk w b vs t) (hte : t ≠ e) : some b ≠ v.ownBlock := by
 intro he
 rcases h.2 with ⟨rfl, _⟩ | ⟨g, cap, cur, rfl, _, hh, _⟩
 · cases he
 · have hg : b = g := by simpa [Value.ownBlock] using he
   subst hg
   unfold Blk at hb
   rw [hb] at hh
   simp at hh
   exact hte hh.2
theorem Blk.gr {w w' : World} {b : Nat} {vs : Array Value} {t : TypeId} {row : Option Nat} (h : Blk w b vs t) (g : w.grownBy w' row) (hn : some b ≠ row) : Blk w' b vs t := (g.block b h.lt hn).trans h
theorem own_later {w w' : World} {base e size : Nat} {v : Value} {n : Nat} {xs : List Value} (h : w.ownsRow base e size v n xs) (hb : Below w.heap.size w w') : w'.ownsRow base e size v n xs :=
 h.kept (row := none) ⟨hb.os, hb.tape, hb.output, hb.size, fun k hk _ => hb.block k hk⟩ (Classical.em _)
structure OnSt (w : World) (db g : Nat) (dv cur : Array Value) (o : Value) (xs : List ByteArray) (W : World) : Prop where
 row : W.ownsRow w.heap.size 9 1 o xs.length (xs.map Value.string)
 below : Below w.heap.size w W
 date : Blk W db dv 99
 fea : FeaBlk W g cur
theorem OnSt.later {w : World} {db g : Nat} {dv cur : Array Value} {o : Value} {xs : List ByteArray} {W W' : World} (h : OnSt w db g dv cur o xs W) (hb : Below W.heap.size W W') : OnSt w db g dv cur o xs W' :=
 ⟨own_later h.row hb, h.below.trans (hb.mono h.below.size), h.date.below hb h.date.lt, h.fea.below hb⟩
theorem OnSt.app {w : World} {db g : Nat} {dv cur : Array Value} {o o' : Value} {xs : List ByteArray} {W W' : World} {ob : Obj} (h : OnSt w db g dv cur o xs W) (s : ByteArray) (hr : W'.ownsRow w.heap.size 9 1 o' (xs.length + 1) (xs.map Value.string ++ [.string s])) (hg : (W.alloc ob).grownBy W' o.ownBlock) : OnSt w db g dv cur o' (xs ++ [s]) W' := by
 have hr' : W'.ownsRow w.heap.size 9 1 o' (xs ++ [s]).length ((xs ++ [s]).map Value.string) := by
  rw [List.length_append, List.map_append]
  exact hr
 have hd := h.date.alloc ob
 have hf := h.fea.1.alloc ob
 exact ⟨hr', (h.below.alloc h.below.size ob).grown hg (by have := h.below.size; rw [sz_new]; omega) (own_base5 h.row), hd.gr hg (own_ne h.row h.date (by decide)), hf.gr hg (own_ne h.row h.fea.1 (by decide)), h.fea.2⟩
theorem dateR_parts (c n : Int) : ∃ a y m d ok, dateOf c n = (a, y, m, d, ok) ∧ dateR c n = .tuple #[.agg #[.int .i64 a, .int .i64 y, .int .i64 m, .int .i64 d], .bool ok] := ⟨_, _, _, _, _, rfl, rfl⟩
theorem date_blk (W : World) (a y m d : Int) : Blk (W.alloc (.cells #[.int .i64 a, .int .i64 y, .int .i64 m, .int .i64 d] 99)) W.heap.size #[.int .i64 a, .int .i64 y, .int .i64 m, .int .i64 d] 99 := Blk.new W _ _
theorem step_yes {c y n : Int} {mv : Bool} {b : ByteArray} {t : Int} {f : Fea} (h : f.mv = mv) (h1 : f.day c y ≤ n) (h2 : b.size = 0 ∨ t < f.day c y) : lastStep c y n mv (b, t) f = (f.name, f.day c y) := by
 unfold lastStep
 rw [if_pos ⟨h, h1, h2⟩]
theorem step_no {c y n : Int} {mv : Bool} {b : ByteArray} {t : Int} {f : Fea} (h : f.mv ≠ mv ∨ n < f.day c y ∨ (b.size ≠ 0 ∧ f.day c y ≤ t)) : lastStep c y n mv (b, t) f = (b, t) := by
 unfold lastStep
 rw [if_neg]
 rintro ⟨h0, h1, h2⟩
 rcases h with h | h | h
 · exact h h0
 · omega
 · rcases h2 with h2 | h2
   · exact h.1 h2
   · omega
theorem itoa_short {k : Int} (h1 : 0 ≤ k) (h2 : k ≤ 99) : (itoaB k).size ≤ 2 := by
 have hi : Lib.itoa k = Lib.decDigits k.toNat := by unfold Lib.itoa; rw [if_neg (by omega)]
 show (Lib.itoa k).length ≤ 2
 rw [hi]
 exact dec_len 1 k.toNat (by show k.toNat < 100; omega)
noncomputable def feastText (c n : Int) (mv : Bool) : ByteArray := if (dateOf c n).2.2.2.2 = true then textIn c (dateOf c n).2.1 n mv else ⟨#[]⟩
theorem date_range {c n a y m d : Int} {ok : Bool} (h : dateOf c n = (a, y, m, d, ok)) (hok : ok = true) : yearP c y ∧ -1000 ≤ n ∧ n ≤ 1200000 := by
 subst hok
 by_cases hp : (c = 0 ∨ c = 1) ∧ 1 ≤ yearOf c n ∧ yearOf c n ≤ 3000 ∧ -1000 ≤ n ∧ n ≤ 1200000
 · obtain ⟨h1, h2, h3, h4, h5⟩ := hp
   have := dateOf_yes (k := monthOf c (yearOf c n) (n - first c (yearOf c n))) h1 h4 h5 rfl rfl h2 h3
   rw [this] at h
   simp only [Prod.mk.injEq] at h
   obtain ⟨_, rfl, _⟩ := h
   exact ⟨⟨h1, h2, h3⟩, h4, h5⟩
 · rw [dateOf_no hp] at h
   simp at h
structure TxSt (w : World) (db g : Nat) (dv cur : Array Value) (W : World) : Prop where
 below : Below w.heap.size w W
 date : Blk W db dv 99
 fea : FeaBlk W g cur
theorem TxSt.later {w : World} {db g : Nat} {dv cur : Array Value} {W W' : World} (h : TxSt w db g dv cur W) (hb : Below W.heap.size W W') : TxSt w db g dv cur W' :=
 ⟨h.below.trans (hb.mono h.below.size), h.date.below hb h.date.lt, h.fea.below hb⟩
set_option maxRecDepth 100000 in
set_option maxHeartbeats 4000000 in
theorem specFeastText (c n : Int) (mv : Bool) (w : World) : CR 68 #[.int .i64 c, .int .i64 n, .bool mv] w (.string (feastText c n mv)) := by
 obtain ⟨a, y, m0, d0, ok, hD, hR⟩ := dateR_parts c n
 have KD := specDateOf c n w
 have HF : Hid (feastText c n mv = if ok = true then textIn c y n mv else ⟨#[]⟩) := by unfold Hid feastText; rw [hD]
 have hrg := fun hok => (date_range hD hok).2
 rw [hR] at KD
 rw [HF.out]
 clear hD hR HF
 cases ok
 · have HE : Hid ((if false = true then textIn c y n mv else ⟨#[]⟩) = ⟨#[]⟩) := rfl
   rw [HE.out]
   clear hrg
   go_enter Tryz.func68, Tryz.ntmps68
   go_wp2_with fail
   refine KD.mono ?_
   rintro e W1 ⟨rfl, hb1⟩
   go_wp2
   go_ret
   exact ⟨rfl, hb1.alloc hb1.size _⟩
 have HE : Hid ((if true = true then textIn c y n mv else ⟨#[]⟩) = textIn c y n mv) := rfl
 rw [HE.out]
 obtain ⟨hn1, hn2⟩ := hrg rfl
 clear hrg
 obtain ⟨R, hRR⟩ : ∃ R, R = textIn c y n mv := ⟨_, rfl⟩
 rw [← hRR]
 have HRR := hideP hRR
 clear hRR
 go_enter Tryz.func68, Tryz.ntmps68
 go_wp2_with fail
 refine KD.mono ?_
 rintro e W1 ⟨rfl, hb1⟩
 have B1 := hideP hb1
 clear hb1 KD
 go_wp2_with fail
 refine (specFeasts _).mono ?_
 rintro e W2 ⟨v, rfl, hr, hb2⟩
 obtain ⟨g, cap, cur, rfl, hg, hf⟩ := hr.blk
 have S2 : Hid (TxSt w W1.heap.size g #[.int .i64 a, .int .i64 y, .int .i64 m0, .int .i64 d0] cur W2) :=
  ⟨(B1.out.alloc B1.out.size _).trans (hb2.mono (by have := B1.out.size; rw [sz_new]; omega)), (date_blk W1 a y m0 d0).below hb2 (by rw [sz_new]; omega), hf⟩
 clear hr hb2 hf hg B1
 go_wp2
 go_loopw [9, 10, 12] (fun o p i wr => ∃ (k : Nat) (b : ByteArray) (t : Int), k ≤ 20 ∧ i = .int .i64 (k : Int) ∧ o = .string b ∧ p = .int .i64 t ∧ Hid (lastTo c y n mv k = (b, t)) ∧ TxSt w W1.heap.size g #[.int .i64 a, .int .i64 y, .int .i64 m0, .int .i64 d0] cur wr) (fun _ _ i _ => 20 - (intOf i).toNat)
 case atStart => exact ⟨0, _, _, Nat.zero_le _, rfl, rfl, rfl, rfl, S2.out⟩
 case round =>
  obtain ⟨k, b, t, hk, rfl, rfl, rfl, HL, hS⟩ := hrel
  have S := hideP hS
  clear hS S2
  have hlb := last_b c y n mv k hk
  rw [HL.out] at hlb
  simp only at hlb
  obtain ⟨hl1, hl2, hl3⟩ := hlb
  by_cases hlt : k < 20
  · have q0 : ∀ x : Later wr, x.w.cell? ⟨W1.heap.size, 1, none⟩ = some (.int .i64 y) := fun x => (S.out.later x.below).date.cell 1 rfl
    have c0 : ∀ x : Later wr, x.w.cell? ⟨g, k * 5, none⟩ = some (.string (feaAt k).name) := fun x => ((S.out.later x.below).fea.at hlt).1
    have c1 : ∀ x : Later wr, x.w.cell? ⟨g, k * 5 + 1, none⟩ = some (.bool (feaAt k).mv) := fun x => ((S.out.later x.below).fea.at hlt).2.1
    have c2 : ∀ x : Later wr, x.w.cell? ⟨g, k * 5 + 2, none⟩ = some (.int .i64 (feaAt k).off) := fun x => ((S.out.later x.below).fea.at hlt).2.2.1
    have c3 : ∀ x : Later wr, x.w.cell? ⟨g, k * 5 + 3, none⟩ = some (.int .i64 (feaAt k).m) := fun x => ((S.out.later x.below).fea.at hlt).2.2.2.1
    have c4 : ∀ x : Later wr, x.w.cell? ⟨g, k * 5 + 4, none⟩ = some (.int .i64 (feaAt k).d) := fun x => ((S.out.later x.below).fea.at hlt).2.2.2.2
    have hsz := feaAt_size0 ⟨k, hlt⟩
    dsimp only at hsz
    have HN : Hid (lastTo c y n mv (k + 1) = lastStep c y n mv (b, t) (feaAt k)) := by unfold Hid; rw [lastTo_succ _ _ _ _ _ hlt, HL.out]
    generalize feaAt k = f at *
    obtain ⟨s, fm, o, m, d⟩ := f
    dsimp only at c0 c1 c2 c3 c4 hsz
    have KF : ∀ x : Later wr, CR 122 #[.int .i64 c, .int .i64 y, .agg #[.string s, .bool fm, .int .i64 o, .int .i64 m, .int .i64 d]] x.w (.int .i64 (Fea.day ⟨s, fm, o, m, d⟩ c y)) := fun x => specFeaDay c y s fm o m d x.w (by unfold maxLen; omega)
    have Y := hideP (step_yes (c := c) (y := y) (n := n) (mv := mv) (b := b) (t := t) (f := ⟨s, fm, o, m, d⟩))
    have N := hideP (step_no (c := c) (y := y) (n := n) (mv := mv) (b := b) (t := t) (f := ⟨s, fm, o, m, d⟩))
    have hdb := Fea.day_b ⟨s, fm, o, m, d⟩ c y
    generalize hfd : Fea.day ⟨s, fm, o, m, d⟩ c y = day at *
    have HFD := hideP hfd
    clear hfd
    have HX : Hid ((fm = mv ∧ day ≤ n ∧ (b.size = 0 ∨ t < day) → lastTo c y n mv (k + 1) = (s, day)) ∧ ((fm ≠ mv ∨ n < day ∨ (b.size ≠ 0 ∧ day ≤ t)) → lastTo c y n mv (k + 1) = (b, t))) :=
     ⟨fun h => HN.out.trans (Y.out h.1 h.2.1 h.2.2), fun h => HN.out.trans (N.out h)⟩
    clear HN Y N HL HFD
    have fin : ∀ x : Later wr, TxSt w W1.heap.size g #[.int .i64 a, .int .i64 y, .int .i64 m0, .int .i64 d0] cur x.w := fun x => S.out.later x.below
    have FIN := hideP fin
    clear fin S
    by_cases hq : fm = mv
    · have hq' : (fm == mv) = true := by simp [hq]
      by_cases h1 : day ≤ n
      · by_cases h2 : b.size = 0
        · have h2' := empty_yes h2
          have HH := hideP (HX.out.1 ⟨hq, h1, .inl h2⟩)
          clear HX hq
          go_wp2_with fail
          refine wp_region_later (W := wr) (Below.refl _ _) (by kernel_rfl) (by kernel_rfl) ?_
          repeat (go_big_quiet_step (first | (go_at_call 122; exact calls_later (KF _))))
          refine wpQuiet_nil ?_
          intro _ hw'
          obtain ⟨x, rfl⟩ := hw'
          go_wp2
          exact ⟨⟨k + 1, s, day, by omega, by go_num, rfl, rfl, HH.out, FIN.out x⟩, by simp [intOf]; omega⟩
        · have h2' := empty_no h2
          by_cases h3 : t < day
          · have HH := hideP (HX.out.1 ⟨hq, h1, .inr h3⟩)
            clear HX hq
            go_wp2_with fail
            refine wp_region_later (W := wr) (Below.refl _ _) (by kernel_rfl) (by kernel_rfl) ?_
            repeat (go_big_quiet_step (first | (go_at_call 122; exact calls_later (KF _))))
            refine wpQuiet_nil ?_
            intro _ hw'
            obtain ⟨x, rfl⟩ := hw'
            go_wp2
            exact ⟨⟨k + 1, s, day, by omega, by go_num, rfl, rfl, HH.out, FIN.out x⟩, by simp [intOf]; omega⟩
          · have HH := hideP (HX.out.2 (.inr (.inr ⟨h2, by omega⟩)))
            clear HX hq
            go_wp2_with fail
            refine wp_region_later (W := wr) (Below.refl _ _) (by kernel_rfl) (by kernel_rfl) ?_
            repeat (go_big_quiet_step (first | (go_at_call 122; exact calls_later (KF _))))
            refine wpQuiet_nil ?_
            intro _ hw'
            obtain ⟨x, rfl⟩ := hw'
            go_wp2
            exact ⟨⟨k + 1, b, t, by omega, by go_num, rfl, rfl, HH.out, FIN.out x⟩, by simp [intOf]; omega⟩
      · have HH := hideP (HX.out.2 (.inr (.inl (by omega))))
        clear HX hq
        go_wp2_with fail
        refine wp_region_later (W := wr) (Below.refl _ _) (by kernel_rfl) (by kernel_rfl) ?_
        repeat (go_big_quiet_step (first | (go_at_call 122; exact calls_later (KF _))))
        refine wpQuiet_nil ?_
        intro _ hw'
        obtain ⟨x, rfl⟩ := hw'
        go_wp2
        exact ⟨⟨k + 1, b, t, by omega, by go_num, rfl, rfl, HH.out, FIN.out x⟩, by simp [intOf]; omega⟩
    · have hq' : (fm == mv) = false := by simp [hq]
      have HH := hideP (HX.out.2 (.inl hq))
      clear HX hq
      go_wp2_with fail
      refine wp_region_later (W := wr) (Below.refl _ _) (by kernel_rfl) (by kernel_rfl) ?_
      repeat (go_big_quiet_step (first | (go_at_call 122; exact calls_later (KF _))))
      refine wpQuiet_nil ?_
      intro _ hw'
      obtain ⟨x, rfl⟩ := hw'
      go_wp2
      exact ⟨⟨k + 1, b, t, by omega, by go_num, rfl, rfl, HH.out, FIN.out x⟩, by simp [intOf]; omega⟩
  · have hkn : k = 20 := by omega
    subst hkn
    have HV : Hid (R = if b.size = 0 ∨ 99 < n - t then ⟨#[]⟩ else plusText b (n - t)) := by unfold Hid; rw [HRR.out, textIn, HL.out]
    have hle : b.size ≠ 0 → t ≤ n := fun hb => by
     rcases last_spec c y n mv 20 (Nat.le_refl _) with e | ⟨i, _, e, _, h⟩
     · rw [HL.out] at e
       simp only [Prod.mk.injEq] at e
       exact absurd (by rw [e.1]; rfl) hb
     · rw [HL.out] at e
       simp only [Prod.mk.injEq] at e
       omega
    clear HL HRR
    by_cases h0 : b.size = 0
    · have h0' := empty_yes h0
      have HR := hideP (HV.out.trans (if_pos (.inl h0)))
      clear HV hle
      go_wp2
      go_ret
      exact ⟨ret_str HR.out.symm, S.out.below⟩
    have h0' := empty_no h0
    have htn := hle h0
    clear hle
    by_cases h9 : 99 < n - t
    · have HR := hideP (HV.out.trans (if_pos (.inr h9)))
      clear HV
      go_wp2
      go_ret
      exact ⟨ret_str HR.out.symm, S.out.below⟩
    have HV2 := hideP (HV.out.trans (if_neg (fun h => h.elim h0 h9)))
    clear HV
    unfold plusText at HV2
    by_cases he : n = t
    · subst he
      have HR := hideP (HV2.out.trans (if_pos (by omega)))
      clear HV2
      go_wp2
      go_ret
      exact ⟨ret_str HR.out.symm, S.out.below⟩
    · have he' : (n == t) = false := by simp [he]
      have HR := hideP (HV2.out.trans (if_neg (by omega)))
      have hsh := itoa_short (k := n - t) (by omega) (by omega)
      have KI := fun W => specDecText (n - t) W (by omega) (by omega)
      clear HV2
      go_wp2_with fail
      refine (KI _).mono ?_
      rintro e w1 ⟨rfl, rfl⟩
      have hsz2 : (b ++ (⟨#[43]⟩ : ByteArray)).size ≤ 17 := by rw [ByteArray.size_append]; show b.size + 1 ≤ 17; omega
      have hsz3 : (⟨(Lib.itoa (n - t)).toArray⟩ : ByteArray).size ≤ 2 := hsh
      go_wp2
      go_ret
      exact ⟨ret_str HR.out.symm, S.out.below⟩
set_option maxRecDepth 100000 in
set_option maxHeartbeats 2000000 in
theorem specReadF (s : ByteArray) (w : World) (hs : s.size ≤ 1048576) : CR 67 #[.string s] w (.tuple #[.int .i64 (readFeast s).1, .int .i64 (readFeast s).2]) := by
 have hne := cut_ne s 43
 have hz0 := cut_short s 43 0
 have hz1 := cut_short s 43 1
 have hcl := cut_long s 43
 have KC := l01Cut s 43 w hs
 have HV : Hid (readFeast s = readParts (cut s 43)) := rfl
 rw [HV.out]
 clear HV
 generalize cut s 43 = xs at *
 have hl0 : 0 < xs.length := by
  rcases xs with _ | _
  · exact absurd rfl hne
  · simp
 have HV : Hid (readParts xs = if xs.length = 1 then (findFeast (xs.getD 0 ⟨#[]⟩), 0) else if findFeast (xs.getD 0 ⟨#[]⟩) < 0 ∨ 2 < xs.length ∨ readDec (xs.getD 1 ⟨#[]⟩) < 1 ∨ 99 < readDec (xs.getD 1 ⟨#[]⟩) then (-1, 0) else (findFeast (xs.getD 0 ⟨#[]⟩), readDec (xs.getD 1 ⟨#[]⟩))) := rfl
 obtain ⟨R, hR⟩ : ∃ R, R = readParts xs := ⟨_, rfl⟩
 rw [← hR]
 have HR := hideP (hR.trans HV.out)
 clear hR HV
 obtain ⟨n0, hn0⟩ : ∃ n0, n0 = xs.getD 0 ⟨#[]⟩ := ⟨_, rfl⟩
 obtain ⟨n1, hn1⟩ : ∃ n1, n1 = xs.getD 1 ⟨#[]⟩ := ⟨_, rfl⟩
 rw [← hn0, ← hn1] at HR
 rw [← hn0] at hz0
 rw [← hn1] at hz1
 have HN0 := hideP hn0
 have HN1 := hideP hn1
 clear hn0 hn1
 have KF : ∀ W, CR 120 #[.string n0] W (.int .i64 (findFeast n0)) := fun W => specFind _ W
 have KR : ∀ W, Calls Tryz.prog 121 #[.string n1] W fun e w' => e = .returned (.int .i64 (readDec n1)) ∧ w' = W := fun W => specReadDec _ W (by unfold maxLen; omega)
 have hfb := find_b n0
 generalize findFeast n0 = at0 at *
 generalize readDec n1 = kk at *
 go_enter Tryz.func67, Tryz.ntmps67
 go_wp2_with fail
 refine KC.mono ?_
 rintro e W1 ⟨v, rfl, hr, hb1⟩
 obtain ⟨g, cap, rfl, hg, hgl, hst, _⟩ := own_row hr hne
 have B1 := hideP hb1
 have e0 : W1.cell? ⟨g, 0, none⟩ = some (.string n0) := by rw [HN0.out]; exact hst 0 hl0
 have HST := hideP hst
 clear hr hb1 hst KC
 go_wp2_with fail
 refine (KF _).mono ?_
 rintro e W2 ⟨rfl, hb2⟩
 have B2 : Hid (Below w.heap.size w W2) := B1.out.trans (hb2.mono B1.out.size)
 have HST2 := hideP (HST.out.below hb2 hgl)
 clear hb2 e0
 by_cases h1 : xs.length = 1
 · have HE := hideP (HR.out.trans (if_pos h1))
   clear HR
   have h1' : ((xs.length : Int) == 1) = true := by simp [h1]
   go_wp2
   go_ret2
   rw [HE.out]
   exact ⟨rfl, B2.out⟩
 have h1' : ((xs.length : Int) == 1) = false := by simp; omega
 have HE := hideP (HR.out.trans (if_neg h1))
 have hl1 : 1 < xs.length := by omega
 have e1 : W2.cell? ⟨g, 1, none⟩ = some (.string n1) := by rw [HN1.out]; exact HST2.out 1 hl1
 have hi1 : (1 : Int) < (xs.length : Int) := by omega
 clear HR
 go_wp2_with fail
 refine (KR _).mono ?_
 rintro e w3 ⟨rfl, rfl⟩
 clear e1
 by_cases q1 : at0 < 0
 · have HE2 := hideP (HE.out.trans (if_pos (.inl q1)))
   clear HE
   go_wp2
   go_ret2
   rw [HE2.out]
   exact ⟨rfl, B2.out⟩
 by_cases q2 : 2 < xs.length
 · have HE2 := hideP (HE.out.trans (if_pos (.inr (.inl q2))))
   have q2' : (2 : Int) < (xs.length : Int) := by omega
   clear HE
   go_wp2
   go_ret2
   rw [HE2.out]
   exact ⟨rfl, B2.out⟩
 have q2' : ¬ (2 : Int) < (xs.length : Int) := by omega
 have KI : ∀ W, Calls Tryz.prog 45 #[.int .i64 kk, .int .i64 1, .int .i64 99] W fun e w' => e = .returned (.bool (inB kk 1 99)) ∧ w' = W := l01In kk 1 99
 by_cases q3 : kk < 1 ∨ 99 < kk
 · have HE2 := hideP (HE.out.trans (if_pos (.inr (.inr q3))))
   rw [inB_false q3] at KI
   clear HE q3
   go_wp2_with fail
   refine (KI _).mono ?_
   rintro e w3 ⟨rfl, rfl⟩
   go_wp2
   go_ret2
   rw [HE2.out]
   exact ⟨rfl, B2.out⟩
 · have HE2 := hideP (HE.out.trans (if_neg (fun h => by omega)))
   rw [inB_true (by omega) (by omega)] at KI
   clear HE q3
   go_wp2_with fail
   refine (KI _).mono ?_
   rintro e w3 ⟨rfl, rfl⟩
   go_wp2
   go_ret2
   rw [HE2.out]
   exact ⟨rfl, B2.out⟩
end Go.Proofs.YtdmlhiailjnhcaaGreatDoor.ctr
