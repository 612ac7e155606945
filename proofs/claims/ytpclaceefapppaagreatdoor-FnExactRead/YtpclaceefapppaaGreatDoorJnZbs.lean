/- The model's l12Means and Means; and what else the law reaches. -/
import Derived.Test.YtpclaceefapppaaGreatDoorJnZad
import Derived.Test.YtpclaceefapppaaGreatDoorMnsSZ
import Derived.Test.YtpclaceefapppaaGreatDoorJnZbm
import Derived.Test.YtpclaceefapppaaGreatDoorJnZbg
import Derived.PlainAid
set_option maxRecDepth 100000
set_option maxHeartbeats 8000000
namespace Go.Proofs.YtpclaceefapppaaGreatDoor.ctr
open Go.RowKit
theorem seg_out {r : Rgm} {n : Int} (hr : regimeB r = true) (h : ¬ (r.fr ≤ n ∧ n ≤ r.to)) : segAt r.segs n = -1 := by
 rcases segAt_cases r.segs n with ⟨k, _⟩ | ⟨j, hj, k, k1, k2⟩
 · exact k
 · have := right_seg hr hj
   omega
noncomputable def meant1 (r : Rgm) (s : Say) (n : Int) : Bool := (decide (r.fr ≤ n) && decide (n ≤ r.to)) && saidB r s n
theorem specMeans1 (v : Value) (r : Rgm) (s : Say) (n : Int) (w : World) (h : GRow w v r) (hr : regimeB r = true) (hs : sayB s = true) : CR 64 #[v, sayV s, .int .i64 n] w (.bool (meant1 r s n)) := by
 have hG := h
 obtain ⟨v1, v2, v3, rfl, _⟩ := h
 obtain ⟨⟨k, m, d, ⟨a, b, c, t⟩, f, p⟩, y, so, ca⟩ := s
 have hw : whnB ⟨k, m, d, ⟨a, b, c, t⟩, f, p⟩ = true := by unfold sayB at hs; simp only [Bool.and_eq_true] at hs; exact hs.1
 obtain ⟨W0, hW0, hD, hR, hBl⟩ := two_box w #[.string r.name, .int .i64 r.fr, .int .i64 r.to, v1, v2, v3, .int .i64 r.rule] #[.int .i64 k, .int .i64 m, .int .i64 d, .int .i64 a, .int .i64 b, .int .i64 c, .bool t, .string f, .int .i64 p, .int .i64 y, .int .i64 so, .int .i64 ca] 35 58
 obtain ⟨cr0, cr1, cr2, cr3, cr4, cr5, cr6⟩ := cells7 hD
 obtain ⟨cs0, cs1, cs2, cs3, cs4, cs5, cs6, cs7, cs8, cs9, cs10, cs11⟩ := cells12 hR
 have HW0 := hideP hW0
 have HBl := hideP hBl
 obtain ⟨ans, hans⟩ : ∃ ans, ans = meant1 r ⟨⟨k, m, d, ⟨a, b, c, t⟩, f, p⟩, y, so, ca⟩ n := ⟨_, rfl⟩
 rw [← hans]
 by_cases hin : r.fr ≤ n ∧ n ≤ r.to
 case neg =>
  have KR : ∀ W, Below w.heap.size w W → CR 112 #[.agg #[.string r.name, .int .i64 r.fr, .int .i64 r.to, v1, v2, v3, .int .i64 r.rule], .int .i64 n] W (.tuple #[.agg #[.int .i64 0, .int .i64 0, .int .i64 0, .int .i64 0, .int .i64 0], .bool false]) := fun W hb => specReadNo _ r n W (hG.below hb) (seg_out hr hin)
  obtain rfl : ans = false := hans.trans (by
   unfold meant1
   have : (decide (r.fr ≤ n) && decide (n ≤ r.to)) = false := by
    cases h0 : (decide (r.fr ≤ n) && decide (n ≤ r.to))
    · rfl
    · simp only [Bool.and_eq_true, decide_eq_true_eq] at h0
      exact absurd h0 hin
   rw [this, Bool.false_and])
  clear hW0 hD hR hBl hans hG hr hw hs hin
  go_enter Tryz.func64, Tryz.ntmps64
  go_wp2_with fail
  rw [← HW0.out]
  refine latO (KR _ (HBl.out ⟨W0, Below.refl _ _⟩)) fun x1 => ?_
  obtain ⟨x2, hx2⟩ : ∃ x2 : Later W0, x1.w.alloc (.cells #[.int .i64 0, .int .i64 0, .int .i64 0, .int .i64 0, .int .i64 0] 110) = x2.w := ⟨⟨_, x1.below.alloc x1.below.size _⟩, rfl⟩
  have HX2 := hideP hx2
  clear hx2
  go_upto_region 2 with fail
  rw [HX2.out]
  clear HX2
  go_wp2
  go_ret
  exact ⟨rfl, HBl.out x2⟩
 have KR : ∀ W, Below w.heap.size w W → CR 112 #[.agg #[.string r.name, .int .i64 r.fr, .int .i64 r.to, v1, v2, v3, .int .i64 r.rule], .int .i64 n] W (.tuple #[rdgV (rdgOn r n), .bool true]) := fun W hb => specRead _ r n W (hG.below hb) hr hin.1 hin.2
 have KI : ∀ W, Below w.heap.size w W → CR 113 #[.agg #[.string r.name, .int .i64 r.fr, .int .i64 r.to, v1, v2, v3, .int .i64 r.rule], .agg #[.int .i64 k, .int .i64 m, .int .i64 d, .int .i64 a, .int .i64 b, .int .i64 c, .bool t, .string f, .int .i64 p], rdgV (rdgOn r n), .int .i64 n] W (.bool (whenIsB r ⟨k, m, d, ⟨a, b, c, t⟩, f, p⟩ n)) := fun W hb => specWhenIs _ r ⟨k, m, d, ⟨a, b, c, t⟩, f, p⟩ n W (hG.below hb) hr hin.1 hin.2 hw
 have HA : Hid (ans = (headB (rdgOn r n) ⟨⟨k, m, d, ⟨a, b, c, t⟩, f, p⟩, y, so, ca⟩ && whenIsB r ⟨k, m, d, ⟨a, b, c, t⟩, f, p⟩ n)) := hans.trans (by unfold meant1 saidB; rw [decide_eq_true hin.1, decide_eq_true hin.2]; rfl)
 clear hans hin hr hw hs hG hW0 hD hR hBl
 generalize whenIsB r ⟨k, m, d, ⟨a, b, c, t⟩, f, p⟩ n = Q at *
 generalize rdgOn r n = x at *
 obtain ⟨xc, xy, xs, xm, xd⟩ := x
 have HB : Hid (ans = ((xy == y && ((so == -1 || xs == so) && (ca == -1 || xc == ca))) && Q)) := HA.out
 clear HA
 go_enter Tryz.func64, Tryz.ntmps64
 go_wp2_with fail
 rw [← HW0.out]
 refine latO (KR _ (HBl.out ⟨W0, Below.refl _ _⟩)) fun x1 => ?_
 obtain ⟨x2, hx2, Z2⟩ := x1.fresh #[.int .i64 xc, .int .i64 xy, .int .i64 xs, .int .i64 xm, .int .i64 xd] 110
 have HX2 := hideP hx2
 clear hx2
 have z0 : x2.w.cell? ⟨x1.w.heap.size, 0, none⟩ = some (.int .i64 xc) := Z2.out.cell 0 rfl
 have z1 : x2.w.cell? ⟨x1.w.heap.size, 1, none⟩ = some (.int .i64 xy) := Z2.out.cell 1 rfl
 have z2 : x2.w.cell? ⟨x1.w.heap.size, 2, none⟩ = some (.int .i64 xs) := Z2.out.cell 2 rfl
 have z3 : x2.w.cell? ⟨x1.w.heap.size, 3, none⟩ = some (.int .i64 xm) := Z2.out.cell 3 rfl
 have z4 : x2.w.cell? ⟨x1.w.heap.size, 4, none⟩ = some (.int .i64 xd) := Z2.out.cell 4 rfl
 go_upto_region 2 with fail
 rw [HX2.out]
 clear HX2 KR
 cases e1 : (xy == y)
 case false =>
  obtain rfl : ans = false := HB.out.trans (by rw [e1]; rfl)
  clear HB
  go_wp2
  go_ret
  exact ⟨rfl, HBl.out x2⟩
 cases e2 : (so == -1)
 case false =>
  cases e3 : (xs == so)
  case false =>
   obtain rfl : ans = false := HB.out.trans (by rw [e1, e2, e3]; rfl)
   clear HB
   go_wp2
   go_ret
   exact ⟨rfl, HBl.out x2⟩
  cases e4 : (ca == -1)
  case false =>
   cases e5 : (xc == ca)
   case false =>
    obtain rfl : ans = false := HB.out.trans (by rw [e1, e2, e3, e4, e5]; rfl)
    clear HB
    go_wp2
    go_ret
    exact ⟨rfl, HBl.out x2⟩
   obtain rfl : ans = Q := HB.out.trans (by rw [e1, e2, e3, e4, e5]; rfl)
   clear HB
   go_wp2_with fail
   refine lat (KI _ (HBl.out x2)) fun x3 => ?_
   go_wp2
   go_ret
   exact ⟨rfl, HBl.out x3⟩
  obtain rfl : ans = Q := HB.out.trans (by rw [e1, e2, e3, e4]; rfl)
  clear HB
  go_wp2_with fail
  refine lat (KI _ (HBl.out x2)) fun x3 => ?_
  go_wp2
  go_ret
  exact ⟨rfl, HBl.out x3⟩
 cases e4 : (ca == -1)
 case false =>
  cases e5 : (xc == ca)
  case false =>
   obtain rfl : ans = false := HB.out.trans (by rw [e1, e2, e4, e5]; rfl)
   clear HB
   go_wp2
   go_ret
   exact ⟨rfl, HBl.out x2⟩
  obtain rfl : ans = Q := HB.out.trans (by rw [e1, e2, e4, e5]; rfl)
  clear HB
  go_wp2_with fail
  refine lat (KI _ (HBl.out x2)) fun x3 => ?_
  go_wp2
  go_ret
  exact ⟨rfl, HBl.out x3⟩
 obtain rfl : ans = Q := HB.out.trans (by rw [e1, e2, e4]; rfl)
 clear HB
 go_wp2_with fail
 refine lat (KI _ (HBl.out x2)) fun x3 => ?_
 go_wp2
 go_ret
 exact ⟨rfl, HBl.out x3⟩
theorem specSpan (s : Seg) (y : Int) (w : World) (hs : segOkB s = true) (y1 : 1 ≤ y) (y2 : y ≤ 3000) : CR 63 #[segV s, .int .i64 y] w (.tuple #[.int .i64 (spanF s y), .int .i64 (spanT s y)]) := by
 obtain ⟨n1, n2, n3, n4, n7, n5, n6⟩ := segOk_nums hs
 have hst : styleP s.sty := of_decide_eq_true n7
 have KY : ∀ W, CS 110 #[.int .i64 s.cal, .int .i64 y] W (.bool true) := fun W => by
  have q := specYearOk s.cal y W
  rw [yearB_true ⟨n4, y1, y2⟩] at q
  exact q
 have bA := start_bound (y := y) n4 hst y1 (by omega)
 have bB := start_bound (y := y + 1) n4 hst (by omega) (by omega)
 obtain ⟨W0, hW0, hC, hBl⟩ := box_any w #[.int .i64 s.fr, .int .i64 s.to, .int .i64 s.cal, .int .i64 s.sty, .int .i64 s.off] 91
 have K1 : ∀ x : Later W0, CR 111 #[.int .i64 s.cal, .int .i64 s.sty, .int .i64 y] x.w (.int .i64 (start s.cal s.sty y)) := fun x => specStart s.cal s.sty y x.w n4 hst y1 (by omega)
 have K2 : ∀ x : Later W0, CR 111 #[.int .i64 s.cal, .int .i64 s.sty, .int .i64 (y + 1)] x.w (.int .i64 (start s.cal s.sty (y + 1))) := fun x => specStart s.cal s.sty (y + 1) x.w n4 hst (by omega) (by omega)
 obtain ⟨F, hF⟩ : ∃ F, F = spanF s y := ⟨_, rfl⟩
 obtain ⟨E, hE⟩ : ∃ E, E = spanT s y := ⟨_, rfl⟩
 rw [← hF, ← hE]
 unfold spanF at hF
 unfold spanT at hE
 generalize start s.cal s.sty y = A at *
 generalize start s.cal s.sty (y + 1) = B at *
 obtain ⟨c0, c1, c2, c3, c4⟩ := cells5 hC
 have HW0 := hideP hW0
 have HBl := hideP hBl
 clear hW0 hC hBl hs hst n7 n4
 by_cases hA : A - s.off < s.fr
 focus
   by_cases hB : s.to < B - 1 - s.off
   focus
     obtain rfl : F = s.fr := by rw [hF]; omega
     obtain rfl : E = s.to := by rw [hE]; omega
   rotate_left
   focus
     obtain rfl : F = s.fr := by rw [hF]; omega
     obtain rfl : E = B - 1 - s.off := by rw [hE]; omega
 rotate_left 2
 focus
   by_cases hB : s.to < B - 1 - s.off
   focus
     obtain rfl : F = A - s.off := by rw [hF]; omega
     obtain rfl : E = s.to := by rw [hE]; omega
   rotate_left
   focus
     obtain rfl : F = A - s.off := by rw [hF]; omega
     obtain rfl : E = B - 1 - s.off := by rw [hE]; omega
 rotate_left 2
 all_goals
  clear hF hE
  go_enter Tryz.func63, Tryz.ntmps63
  go_wp2_with fail
  rw [← HW0.out]
  refine (KY _).mono ?_
  rintro e w1 ⟨rfl, hw1⟩
  rw [hw1]
  clear hw1 w1
  go_wp2_with fail
  refine wp_region_later (W := W0) (Below.refl _ _) (by kernel_rfl) (by kernel_rfl) ?_
  repeat (go_big_quiet_step (first | (go_at_call 111; exact calls_later (K1 _)) | fail))
  refine quietE fun x1 => ?_
  clear K1
  go_wp2_with fail
  refine wp_region_later (W := W0) x1.below (by kernel_rfl) (by kernel_rfl) ?_
  repeat (go_big_quiet_step (first | (go_at_call 111; exact calls_later (K2 _)) | fail))
  refine quietE fun x2 => ?_
  clear K2
  go_wp2
  go_returns
  exact ⟨rfl, HBl.out x2⟩
theorem specDaysSaid (v : Value) (r : Rgm) (s : Say) (w : World) (h : GRow w v r) (hf : -9223372036854775808 ≤ r.fr) (ht : r.to ≤ 9223372036854775807) : Calls Tryz.prog 30 #[v, sayV s] w fun e w' => ∃ o, e = .returned o ∧ MovRow w w' o (daysSaid r s) ∧ Below w.heap.size w w' := by
 obtain ⟨i0, hi, hz0, hz1, hz2⟩ := info_parts info_int
 have hG := h
 obtain ⟨v1, v2, v3, rfl, _, x1, x2, x3⟩ := h
 obtain ⟨⟨k, m, d, ⟨a, b, c, t⟩, f, p⟩, y, so, ca⟩ := s
 obtain ⟨a1, c1, rfl, _, hc1, hcS⟩ := x1
 obtain ⟨W0, hW0, hD, hR, hBl⟩ := two_box w #[.string r.name, .int .i64 r.fr, .int .i64 r.to, .slice a1 r.segs.length c1, v2, v3, .int .i64 r.rule] #[.int .i64 k, .int .i64 m, .int .i64 d, .int .i64 a, .int .i64 b, .int .i64 c, .bool t, .string f, .int .i64 p, .int .i64 y, .int .i64 so, .int .i64 ca] 35 58
 obtain ⟨cr0, cr1, cr2, cr3, cr4, cr5, cr6⟩ := cells7 hD
 obtain ⟨cs0, cs1, cs2, cs3, cs4, cs5, cs6, cs7, cs8, cs9, cs10, cs11⟩ := cells12 hR
 have KO : ∀ x : Later W0, CR 29 #[.agg #[.string r.name, .int .i64 r.fr, .int .i64 r.to, .slice a1 r.segs.length c1, v2, v3, .int .i64 r.rule]] x.w (.bool (regimeB r)) := fun x => specRegimeOk _ r x.w (hG.below (hBl x)) hf ht
 have KY : ∀ x : Later W0, CR 62 #[.agg #[.int .i64 k, .int .i64 m, .int .i64 d, .int .i64 a, .int .i64 b, .int .i64 c, .bool t, .string f, .int .i64 p, .int .i64 y, .int .i64 so, .int .i64 ca]] x.w (.bool (sayB ⟨⟨k, m, d, ⟨a, b, c, t⟩, f, p⟩, y, so, ca⟩)) := fun x => specSayingOk ⟨⟨k, m, d, ⟨a, b, c, t⟩, f, p⟩, y, so, ca⟩ x.w
 have KM : Hid (regimeB r = true → sayB ⟨⟨k, m, d, ⟨a, b, c, t⟩, f, p⟩, y, so, ca⟩ = true → ∀ (n : Int) (x : Later W0), CR 64 #[.agg #[.string r.name, .int .i64 r.fr, .int .i64 r.to, .slice a1 r.segs.length c1, v2, v3, .int .i64 r.rule], .agg #[.int .i64 k, .int .i64 m, .int .i64 d, .int .i64 a, .int .i64 b, .int .i64 c, .bool t, .string f, .int .i64 p, .int .i64 y, .int .i64 so, .int .i64 ca], .int .i64 n] x.w (.bool (meant1 r ⟨⟨k, m, d, ⟨a, b, c, t⟩, f, p⟩, y, so, ca⟩ n))) := fun a1 a2 n x => specMeans1 _ r ⟨⟨k, m, d, ⟨a, b, c, t⟩, f, p⟩, y, so, ca⟩ n x.w (hG.below (hBl x)) a1 a2
 have HS : Hid (∀ (V : World), Below W0.heap.size W0 V → ∀ k, k < r.segs.length → ∃ g, a1 = some ⟨g, 0, none⟩ ∧ IAt segK V g k (atK segK r.segs k)) := fun V hb k hk => by
  obtain ⟨g, e, hg, x⟩ := hcS k hk
  exact ⟨g, e, x.below (hBl ⟨V, hb⟩) hg⟩
 have HW0 := hideP hW0
 have HB0 : Hid (Below w.heap.size w W0) := hBl ⟨W0, Below.refl _ _⟩
 have HBl := hideP hBl
 clear hW0 hBl hD hR hcS hG hf ht x2 x3 hc1
 have S0 : Hid (ISt W0 (.slice (some ⟨W0.heap.size, 0, none⟩) 0 0) [] (W0.alloc (.cells #[] 3))) := ⟨iown_empty W0 _, (Below.refl _ _).alloc (Nat.le_refl _) _⟩
 obtain ⟨xE, hxE⟩ : ∃ xE : Later W0, W0.alloc (.cells #[] 3) = xE.w := ⟨⟨_, S0.out.below⟩, rfl⟩
 have HxE := hideP hxE
 rw [hxE] at S0
 clear hxE
 have HSz : Hid (w.heap.size + 1 + 1 = W0.heap.size) := by unfold Hid; rw [HW0.out, World.size_alloc, World.size_alloc]
 by_cases hO : regimeB r = true
 case neg =>
  have hO' : regimeB r = false := by simpa using hO
  rw [show daysSaid r ⟨⟨k, m, d, ⟨a, b, c, t⟩, f, p⟩, y, so, ca⟩ = [] by unfold daysSaid; rw [if_neg (fun q => hO q.1)]]
  rw [hO'] at KO
  clear KM KY hO hO'
  by_cases hl : r.segs.length = 0
  · have hl' : ¬ (0 : Int) < (r.segs.length : Int) := by omega
    clear hl
    go_enter Tryz.func30, Tryz.ntmps30
    go_upto_region 2 with fail
    rw [← HW0.out, HxE.out]
    rw [HSz.out]
    go_wp2_with fail
    go_loopw [5, 6, 7, 8, 9] (fun o i f t n wr => i = .int .i64 0 ∧ ISt W0 o [] wr) (fun _ _ _ _ _ _ => 0)
    case atStart => exact ⟨rfl, S0.out⟩
    case round =>
     obtain ⟨rfl, hS⟩ := hrel
     have S := hideP hS
     have d3 := cr3 ⟨wr, S.out.below⟩
     dsimp only at d3
     clear hS S0
     go_wp2_with fail
     go_ret
     exact ⟨_, rfl, S.out.done HB0.out⟩
  · have hl' : (0 : Int) < (r.segs.length : Int) := by omega
    clear hl
    go_enter Tryz.func30, Tryz.ntmps30
    go_upto_region 2 with fail
    rw [← HW0.out, HxE.out]
    rw [HSz.out]
    go_wp2_with fail
    go_loopw [5, 6, 7, 8, 9] (fun o i f t n wr => i = .int .i64 0 ∧ ISt W0 o [] wr) (fun _ _ _ _ _ _ => 0)
    case atStart => exact ⟨rfl, S0.out⟩
    case round =>
     obtain ⟨rfl, hS⟩ := hrel
     have S := hideP hS
     have K := KO ⟨wr, S.out.below⟩
     have d0 := cr0 ⟨wr, S.out.below⟩
     have d1 := cr1 ⟨wr, S.out.below⟩
     have d2 := cr2 ⟨wr, S.out.below⟩
     have d3 := cr3 ⟨wr, S.out.below⟩
     have d4 := cr4 ⟨wr, S.out.below⟩
     have d5 := cr5 ⟨wr, S.out.below⟩
     have d6 := cr6 ⟨wr, S.out.below⟩
     dsimp only at d0 d1 d2 d3 d4 d5 d6 K
     clear hS S0 KO
     go_wp2_with fail
     refine K.mono ?_
     rintro e w1 ⟨rfl, hb⟩
     have S1 := hideP (S.out.later hb)
     clear hb
     go_wp2
     go_ret
     exact ⟨_, rfl, S1.out.done HB0.out⟩
 have hlen := right_segs hO
 have hl0 : (0 : Int) < (r.segs.length : Int) := by omega
 have HO := hideP hO
 simp only [hO] at KO
 by_cases hY : sayB ⟨⟨k, m, d, ⟨a, b, c, t⟩, f, p⟩, y, so, ca⟩ = true
 case neg =>
  have hY' : sayB ⟨⟨k, m, d, ⟨a, b, c, t⟩, f, p⟩, y, so, ca⟩ = false := by simpa using hY
  rw [show daysSaid r ⟨⟨k, m, d, ⟨a, b, c, t⟩, f, p⟩, y, so, ca⟩ = [] by unfold daysSaid; rw [if_neg (fun q => hY q.2)]]
  rw [hY'] at KY
  clear KM hY hY' hO
  go_enter Tryz.func30, Tryz.ntmps30
  go_upto_region 2 with fail
  rw [← HW0.out, HxE.out]
  rw [HSz.out]
  go_wp2_with fail
  go_loopw [5, 6, 7, 8, 9] (fun o i f t n wr => i = .int .i64 0 ∧ ISt W0 o [] wr) (fun _ _ _ _ _ _ => 0)
  case atStart => exact ⟨rfl, S0.out⟩
  case round =>
   obtain ⟨rfl, hS⟩ := hrel
   have S := hideP hS
   have K := KO ⟨wr, S.out.below⟩
   have d0 := cr0 ⟨wr, S.out.below⟩
   have d1 := cr1 ⟨wr, S.out.below⟩
   have d2 := cr2 ⟨wr, S.out.below⟩
   have d3 := cr3 ⟨wr, S.out.below⟩
   have d4 := cr4 ⟨wr, S.out.below⟩
   have d5 := cr5 ⟨wr, S.out.below⟩
   have d6 := cr6 ⟨wr, S.out.below⟩
   dsimp only at d0 d1 d2 d3 d4 d5 d6
   dsimp only at K
   clear hS S0 KO
   go_wp2_with fail
   refine K.mono ?_
   rintro e w1 ⟨rfl, hb⟩
   have S1 := hideP (S.out.later hb)
   clear hb K
   have K := KY ⟨w1, S1.out.below⟩
   clear KY d0 d1 d2 d3 d4 d5 d6
   have e0 := cs0 ⟨w1, S1.out.below⟩
   have e1 := cs1 ⟨w1, S1.out.below⟩
   have e2 := cs2 ⟨w1, S1.out.below⟩
   have e3 := cs3 ⟨w1, S1.out.below⟩
   have e4 := cs4 ⟨w1, S1.out.below⟩
   have e5 := cs5 ⟨w1, S1.out.below⟩
   have e6 := cs6 ⟨w1, S1.out.below⟩
   have e7 := cs7 ⟨w1, S1.out.below⟩
   have e8 := cs8 ⟨w1, S1.out.below⟩
   have e9 := cs9 ⟨w1, S1.out.below⟩
   have e10 := cs10 ⟨w1, S1.out.below⟩
   have e11 := cs11 ⟨w1, S1.out.below⟩
   dsimp only at K e0 e1 e2 e3 e4 e5 e6 e7 e8 e9 e10 e11
   go_wp2_with fail
   refine K.mono ?_
   rintro e w2 ⟨rfl, hb⟩
   have S2 := hideP (S1.out.later hb)
   clear hb
   go_wp2
   go_ret
   exact ⟨_, rfl, S2.out.done HB0.out⟩
 have HY := hideP hY
 simp only [hY] at KY
 have KM1 := hideP (KM.out hO hY)
 obtain ⟨y1, y2⟩ := say_year hY
 dsimp only at y1 y2
 rw [show daysSaid r ⟨⟨k, m, d, ⟨a, b, c, t⟩, f, p⟩, y, so, ca⟩ = daysWhere r.fr r.to (saidB r ⟨⟨k, m, d, ⟨a, b, c, t⟩, f, p⟩, y, so, ca⟩) by unfold daysSaid; rw [if_pos ⟨hO, hY⟩]]
 have HP : Hid (∀ z, saidB r ⟨⟨k, m, d, ⟨a, b, c, t⟩, f, p⟩, y, so, ca⟩ z = true → (rdgOn r z).year = y) := fun z hz => said_year z hz
 have HM1 : Hid (∀ n, r.fr ≤ n → n ≤ r.to → meant1 r ⟨⟨k, m, d, ⟨a, b, c, t⟩, f, p⟩, y, so, ca⟩ n = saidB r ⟨⟨k, m, d, ⟨a, b, c, t⟩, f, p⟩, y, so, ca⟩ n) := fun n q1 q2 => by unfold meant1; rw [decide_eq_true q1, decide_eq_true q2]; rfl
 obtain ⟨gs, rfl, _⟩ := HS.out W0 (Below.refl _ _) 0 (by omega)
 have HS' : Hid (∀ (V : World), Below W0.heap.size W0 V → ∀ k, k < r.segs.length → IAt segK V gs k (atK segK r.segs k)) := fun V hb k hk => by
  obtain ⟨g, e, x⟩ := HS.out V hb k hk
  cases e
  exact x
 generalize meant1 r ⟨⟨k, m, d, ⟨a, b, c, t⟩, f, p⟩, y, so, ca⟩ = mB at *
 generalize saidB r ⟨⟨k, m, d, ⟨a, b, c, t⟩, f, p⟩, y, so, ca⟩ = sB at *
 clear KM HS hO hY
 go_enter Tryz.func30, Tryz.ntmps30
 go_upto_region 2 with fail
 rw [← HW0.out, HxE.out]
 rw [HSz.out]
 go_wp2_with fail
 have SS := S0
 go_loopw [5, 6, 7, 8, 9] (fun o i f t n wr => ∃ (j : Nat) (xs : List Int), j ≤ r.segs.length ∧ i = .int .i64 (j : Int) ∧ Hid (DSet xs (SgO r sB j)) ∧ ISt W0 o xs wr) (fun _ i _ _ _ _ => ((r.segs.length : Int) - intOf i).toNat)
 case atStart => exact ⟨0, [], Nat.zero_le _, rfl, sg_nil, SS.out⟩
 case round =>
  obtain ⟨j, xs, hj, rfl, hDS, hS⟩ := hrel
  have S := hideP hS
  clear hS SS S0
  have d0 := cr0 ⟨wr, S.out.below⟩
  have d1 := cr1 ⟨wr, S.out.below⟩
  have d2 := cr2 ⟨wr, S.out.below⟩
  have d3 := cr3 ⟨wr, S.out.below⟩
  have d4 := cr4 ⟨wr, S.out.below⟩
  have d5 := cr5 ⟨wr, S.out.below⟩
  have d6 := cr6 ⟨wr, S.out.below⟩
  dsimp only at d0 d1 d2 d3 d4 d5 d6
  by_cases hlt : (j : Int) < (r.segs.length : Int)
  case neg =>
   obtain rfl : j = r.segs.length := by omega
   have HX : Hid (xs = daysWhere r.fr r.to sB) := sg_all HO.out hDS.out
   clear hDS
   go_wp2
   go_ret
   exact ⟨_, rfl, by rw [← HX.out]; exact S.out.done HB0.out⟩
  have hjn : j < r.segs.length := by omega
  have K := KO ⟨wr, S.out.below⟩
  dsimp only at K
  go_wp2_with fail
  refine K.mono ?_
  rintro e w1 ⟨rfl, hb⟩
  have S1 := hideP (S.out.later hb)
  clear hb K d0 d1 d2 d3 d4 d5 d6
  have K := KY ⟨w1, S1.out.below⟩
  have e0 := cs0 ⟨w1, S1.out.below⟩
  have e1 := cs1 ⟨w1, S1.out.below⟩
  have e2 := cs2 ⟨w1, S1.out.below⟩
  have e3 := cs3 ⟨w1, S1.out.below⟩
  have e4 := cs4 ⟨w1, S1.out.below⟩
  have e5 := cs5 ⟨w1, S1.out.below⟩
  have e6 := cs6 ⟨w1, S1.out.below⟩
  have e7 := cs7 ⟨w1, S1.out.below⟩
  have e8 := cs8 ⟨w1, S1.out.below⟩
  have e9 := cs9 ⟨w1, S1.out.below⟩
  have e10 := cs10 ⟨w1, S1.out.below⟩
  have e11 := cs11 ⟨w1, S1.out.below⟩
  dsimp only at K e0 e1 e2 e3 e4 e5 e6 e7 e8 e9 e10 e11
  go_wp2_with fail
  refine K.mono ?_
  rintro e w2 ⟨rfl, hb⟩
  have S2 := hideP (S1.out.later hb)
  clear hb K S1 e0 e1 e2 e3 e4 e5 e6 e7 e8 e9 e10 e11
  go_upto_region 5 with fail
  have k3 := Later.at (cr3 ⟨w2, S2.out.below⟩)
  have k9 := Later.at (cs9 ⟨w2, S2.out.below⟩)
  have hsg := (HS'.out w2 S2.out.below j hjn).seg
  have g0 := Later.at hsg.1
  have g1 := Later.at hsg.2.1
  have g2 := Later.at hsg.2.2.1
  have g3 := Later.at hsg.2.2.2.1
  have g4 := Later.at hsg.2.2.2.2
  dsimp only at k3 k9
  have KSp : ∀ x : Later w2, CR 63 #[.agg #[.int .i64 (atK segK r.segs j).fr, .int .i64 (atK segK r.segs j).to, .int .i64 (atK segK r.segs j).cal, .int .i64 (atK segK r.segs j).sty, .int .i64 (atK segK r.segs j).off], .int .i64 y] x.w (.tuple #[.int .i64 (spanF (atK segK r.segs j) y), .int .i64 (spanT (atK segK r.segs j) y)]) := fun x => specSpan (atK segK r.segs j) y x.w (right_seg HO.out hjn).1 y1 y2
  have hsn := span_near (atK segK r.segs j) y
  have hsk := right_seg HO.out hjn
  have hsk2 := segOk_nums hsk.1
  have HOp : Hid (DSet xs (SgP r sB j (spanF (atK segK r.segs j) y))) := sg_open HO.out hjn y1 y2 HP.out hDS.out
  have HCl : Hid (∀ (zs : List Int) (n : Int), spanT (atK segK r.segs j) y < n → DSet zs (SgP r sB j n) → DSet zs (SgO r sB (j + 1))) := fun zs n q1 q2 => sg_close HO.out hjn y1 y2 HP.out q1 q2
  have HHit : Hid (∀ (zs : List Int) (n : Int), spanF (atK segK r.segs j) y ≤ n → n ≤ spanT (atK segK r.segs j) y → sB n = true → DSet zs (SgP r sB j n) → DSet (zs ++ [n]) (SgP r sB j (n + 1))) := fun zs n q1 q2 q3 q4 => sg_hit HO.out hjn (by omega) (by omega) q3 q4
  have HMis : Hid (∀ (zs : List Int) (n : Int), sB n = false → DSet zs (SgP r sB j n) → DSet zs (SgP r sB j (n + 1))) := fun zs n q1 q2 => sg_miss q1 q2
  have HLen : Hid (∀ (zs : List Int) (n : Int), DSet zs (SgP r sB j n) → zs.length ≤ 1090000) := fun zs n q => sg_len HO.out hjn q
  have HMn : Hid (∀ n, spanF (atK segK r.segs j) y ≤ n → n ≤ spanT (atK segK r.segs j) y → mB n = sB n) := fun n q1 q2 => HM1.out n (by omega) (by omega)
  have bF : 400 ≤ spanF (atK segK r.segs j) y := by omega
  have bT : spanT (atK segK r.segs j) y ≤ 1090000 := by omega
  clear hsn hsk hsk2 hsg hDS
  generalize spanF (atK segK r.segs j) y = F at *
  generalize spanT (atK segK r.segs j) y = E at *
  generalize atK segK r.segs j = s at *
  obtain ⟨xw, hxw⟩ : ∃ xw : Later w2, w2 = xw.w := ⟨⟨w2, Below.refl _ _⟩, rfl⟩
  refine wp_region_later (W := w2) (Below.refl _ _) (by kernel_rfl) (by kernel_rfl) ?_
  clear hxw xw
  repeat (go_big_quiet_step (first | (go_at_call 63; exact calls_later (KSp _)) | fail))
  refine quietE fun x5 => ?_
  have S5 := hideP (S2.out.later x5.below)
  clear k3 k9 g0 g1 g2 g3 g4 KSp S2
  generalize x5.w = w5 at *
  clear x5
  go_wp2_with fail
  go_loopw [5, 9] (fun o i wr => ∃ (n : Int) (zs : List Int), i = .int .i64 n ∧ F ≤ n ∧ Hid (DSet zs (SgP r sB j n)) ∧ ISt W0 o zs wr) (fun _ i _ => (E - intOf i + 1).toNat)
  case atStart => exact ⟨F, xs, rfl, Int.le_refl _, HOp, S5.out⟩
  case round =>
   obtain ⟨n, zs, rfl, hn1, hDZ, hS⟩ := hrel
   have Z := hideP hS
   clear hS S5
   by_cases hle : n ≤ E
   case neg =>
    have HN : Hid (DSet zs (SgO r sB (j + 1))) := HCl.out zs n (by omega) hDZ.out
    clear hDZ
    go_wp2
    exact ⟨⟨j + 1, zs, by omega, by apply congrArg (Value.int .i64); omega, HN, Z.out⟩, by simp [intOf]; omega⟩
   have hMn := HMn.out n hn1 hle
   have K := KM1.out n ⟨_, Z.out.below⟩
   dsimp only at K
   rw [hMn] at K
   clear hMn
   have hzl := HLen.out zs n hDZ.out
   have d0 := cr0 ⟨_, Z.out.below⟩
   have d1 := cr1 ⟨_, Z.out.below⟩
   have d2 := cr2 ⟨_, Z.out.below⟩
   have d3 := cr3 ⟨_, Z.out.below⟩
   have d4 := cr4 ⟨_, Z.out.below⟩
   have d5 := cr5 ⟨_, Z.out.below⟩
   have d6 := cr6 ⟨_, Z.out.below⟩
   have e0 := cs0 ⟨_, Z.out.below⟩
   have e1 := cs1 ⟨_, Z.out.below⟩
   have e2 := cs2 ⟨_, Z.out.below⟩
   have e3 := cs3 ⟨_, Z.out.below⟩
   have e4 := cs4 ⟨_, Z.out.below⟩
   have e5 := cs5 ⟨_, Z.out.below⟩
   have e6 := cs6 ⟨_, Z.out.below⟩
   have e7 := cs7 ⟨_, Z.out.below⟩
   have e8 := cs8 ⟨_, Z.out.below⟩
   have e9 := cs9 ⟨_, Z.out.below⟩
   have e10 := cs10 ⟨_, Z.out.below⟩
   have e11 := cs11 ⟨_, Z.out.below⟩
   dsimp only at d0 d1 d2 d3 d4 d5 d6 e0 e1 e2 e3 e4 e5 e6 e7 e8 e9 e10 e11
   cases hsb : sB n
   · rw [hsb] at K
     have HN : Hid (DSet zs (SgP r sB j (n + 1))) := HMis.out zs n hsb hDZ.out
     clear hDZ hsb
     go_wp2_with fail
     refine K.mono ?_
     rintro e w6 ⟨rfl, hb⟩
     have Z2 := hideP (Z.out.later hb)
     clear hb K d0 d1 d2 d3 d4 d5 d6 e0 e1 e2 e3 e4 e5 e6 e7 e8 e9 e10 e11
     go_wp2
     exact ⟨⟨n + 1, zs, rfl, by omega, HN, Z2.out⟩, by simp [intOf]; omega⟩
   · rw [hsb] at K
     have HN : Hid (DSet (zs ++ [n]) (SgP r sB j (n + 1))) := HHit.out zs n hn1 hle hsb hDZ.out
     clear hDZ hsb
     go_wp2_with fail
     refine K.mono ?_
     rintro e W2 ⟨rfl, hb⟩
     have S2 := hideP (Z.out.later hb)
     clear hb K d0 d1 d2 d3 d4 d5 d6 e0 e1 e2 e3 e4 e5 e6 e7 e8 e9 e10 e11
     go_wp2_with (at_builtin; refine wpList_append_own _ rfl _ _ 28 rfl W0.heap.size 3 i0 (.int .i64 0) 1 8 Tryz.underlying28 hi hz0 hz1 hz2 rfl (by decide) _ _ _ rfl (S2.out.row.alloc _) ⟨W2.heap.size, 0, none⟩ 1 1 [.int .i64 n] rfl rfl (cell_one_new _ _ _) (by simp [Value.oneCell']) (by unfold maxLen; omega) (by omega) (by have := S2.out.below.size; rw [inew]; omega) ?_; intro v' w9 hown' hgrow _)
     exact ⟨⟨n + 1, zs ++ [n], rfl, by omega, HN, S2.out.app n hown' hgrow⟩, by simp [intOf]; omega⟩
end Go.Proofs.YtpclaceefapppaaGreatDoor.ctr
