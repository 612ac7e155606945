/- Marked of the model. -/
import Derived.Test.YtdmlhiailjnhcaaGreatDoorJnXaa
import Derived.Test.YtdmlhiailjnhcaaGreatDoorMkdAX
import Derived.Test.YtdmlhiailjnhcaaGreatDoorWhsDX
namespace Go.Proofs.YtdmlhiailjnhcaaGreatDoor.ctr
open Go.RowKit
set_option linter.unusedSimpArgs false
set_option maxRecDepth 100000 in
set_option maxHeartbeats 16000000 in
theorem specMarked (v : Value) (r : Rgm) (n k m : Int) (w : World) (h : GRow w v r) (hf : -9223372036854775808 ≤ r.fr) (ht : r.to ≤ 9223372036854775807) : CR 15 #[v, .int .i64 n, .int .i64 k, .int .i64 m] w (.tuple #[sayV (mkdS r n k m), .bool (mkdB r n k m)]) := by
 have hG := h
 obtain ⟨v1, v2, v3, rfl, _⟩ := h
 obtain ⟨W0, hW0, hD, hC, hB⟩ := boxR w #[.string r.name, .int .i64 r.fr, .int .i64 r.to, v1, v2, v3, .int .i64 r.rule] 38 #[.int .i64 0, .int .i64 0, .int .i64 0, .int .i64 0, .int .i64 0, .int .i64 0, .bool false, .string ⟨#[]⟩, .int .i64 0, .int .i64 0, .int .i64 0, .int .i64 0] 44
 have HBl := hideP hB.out
 have HC := hideP hC.out
 have HW0 := hideP hW0
 obtain ⟨d0, d1, d2, d3, d4, d5, d6⟩ := sevenL hD.out
 have KR : ∀ z : Later W0, CR 10 #[.agg #[.string r.name, .int .i64 r.fr, .int .i64 r.to, v1, v2, v3, .int .i64 r.rule], .int .i64 n, .int .i64 k] z.w (.tuple #[whnV (tellW r n k), .bool (tellK r n k)]) := fun z => specWhens _ r n k z.w (hG.below (HBl.out z)) hf ht
 have KX0 : tellK r n k = true → ∀ z : Later W0, CR 46 #[.agg #[.string r.name, .int .i64 r.fr, .int .i64 r.to, v1, v2, v3, .int .i64 r.rule], .int .i64 n] z.w (.tuple #[rdgV (tellX r n k), .bool true]) := fun hk z => by
  have hy : tellB r n k = true := by
   unfold tellK at hk
   cases hB : tellB r n k
   · rw [hB] at hk
     exact absurd hk (by simp)
   · rfl
  have h3 : regimeB r = true ∧ r.fr ≤ n ∧ n ≤ r.to := by
   unfold tellB at hy
   simp only [Bool.and_eq_true, decide_eq_true_eq] at hy
   exact hy.1
  rw [(tell_yes hy).2.1]
  exact specRead _ r n z.w (hG.below (HBl.out z)) h3.1 h3.2.1 h3.2.2
 obtain ⟨fb, hfb⟩ : ∃ fb, fb = mkdB r n k m := ⟨_, rfl⟩
 obtain ⟨A, hA⟩ : ∃ A, A = mkdS r n k m := ⟨_, rfl⟩
 rw [← hA, ← hfb]
 unfold mkdS at hA
 rw [← hfb] at hA
 unfold mkdB at hfb
 clear hW0 hD hC hB hG hf ht
 generalize tellW r n k = R at *
 generalize tellK r n k = fo at *
 generalize tellX r n k = X at *
 obtain ⟨rk, rm, rd, ⟨ra, rb, rc, rt⟩, rf, rp⟩ := R
 obtain ⟨xc, xy, xs, xm, xd⟩ := X
 go_enter Tryz.func15, Tryz.ntmps15
 go_wp2_with fail
 rw [← HW0.out]
 refine latO (KR ⟨W0, Below.refl _ _⟩) fun x1 => ?_
 obtain ⟨x2, hx2, Y2⟩ := x1.fresh #[.int .i64 rk, .int .i64 rm, .int .i64 rd, .int .i64 ra, .int .i64 rb, .int .i64 rc, .bool rt, .string rf, .int .i64 rp] 31
 have HXx2 := hideP hx2
 clear hx2
 go_upto_region 2 with fail
 rw [HXx2.out]
 clear HXx2
 cases fo
 · obtain rfl : fb = false := hfb.trans (Bool.false_and _)
   obtain rfl : A = say0 := hA.trans (if_neg (by simp))
   clear KX0 hfb
   obtain ⟨c0, c1, c2, c3, c4, c5, c6, c7, c8, c9, c10, c11, t0, t1, t2, t3, t4, t5, t6, t7, t8, t9, t10, t11⟩ := tlv_facts HC.out x2
   go_wp2
   exact ret12 (HC.out x2) (HBl.out x2) (by omega) rfl (fun _ q0 q1 q2 q3 q4 q5 q6 q7 q8 q9 q10 q11 B9 => ⟨by simp [results, Tryz.results15, go_sem, q0, q1, q2, q3, q4, q5, q6, q7, q8, q9, q10, q11]; try rfl, rfl, B9⟩)
 have KX := KX0 rfl
 clear KX0
 by_cases hm : 0 ≤ m ∧ m ≤ 3
 case neg =>
  obtain rfl : fb = false := hfb.trans (by
   by_cases q : 0 ≤ m
   · rw [decide_eq_false (show ¬ m ≤ 3 from fun q2 => hm ⟨q, q2⟩), Bool.and_false, Bool.and_false]
   · rw [decide_eq_false q, Bool.false_and, Bool.and_false])
  obtain rfl : A = say0 := hA.trans (if_neg (by simp))
  have KL : ∀ W, Calls Tryz.prog 45 #[.int .i64 m, .int .i64 0, .int .i64 3] W fun e w' => e = .returned (.bool false) ∧ w' = W := fun W => by
   have q := l01In m 0 3 W
   rw [inB_false (by omega)] at q
   exact q
  clear KX hfb
  go_wp2_with fail
  refine (KL x2.w).mono ?_
  rintro e w3 ⟨rfl, rfl⟩
  obtain ⟨c0, c1, c2, c3, c4, c5, c6, c7, c8, c9, c10, c11, t0, t1, t2, t3, t4, t5, t6, t7, t8, t9, t10, t11⟩ := tlv_facts HC.out x2
  go_wp2
  exact ret12 (HC.out x2) (HBl.out x2) (by omega) rfl (fun _ q0 q1 q2 q3 q4 q5 q6 q7 q8 q9 q10 q11 B9 => ⟨by simp [results, Tryz.results15, go_sem, q0, q1, q2, q3, q4, q5, q6, q7, q8, q9, q10, q11]; try rfl, rfl, B9⟩)
 obtain rfl : fb = true := hfb.trans (by rw [decide_eq_true hm.1, decide_eq_true hm.2]; rfl)
 replace hA := hA.trans (if_pos rfl)
 have KL : ∀ W, Calls Tryz.prog 45 #[.int .i64 m, .int .i64 0, .int .i64 3] W fun e w' => e = .returned (.bool true) ∧ w' = W := fun W => by
  have q := l01In m 0 3 W
  rw [inB_true hm.1 hm.2] at q
  exact q
 clear hfb
 have hm : m = 0 ∨ m = 1 ∨ m = 2 ∨ m = 3 := by omega
 go_wp2_with fail
 refine (KL x2.w).mono ?_
 rintro e w3 ⟨rfl, rfl⟩
 go_wp2_with fail
 refine (KX x2).mono ?_
 rintro e w3 ⟨rfl, hb⟩
 have Y3 := hideP (Y2.out.below hb Y2.out.lt)
 obtain ⟨x3, rfl⟩ := x2.next hb
 clear hb Y2
 obtain ⟨x4, hx4, Q4⟩ := x3.fresh #[.int .i64 xc, .int .i64 xy, .int .i64 xs, .int .i64 xm, .int .i64 xd] 69
 have Y4 : Hid (Blk x4.w x1.w.heap.size #[.int .i64 rk, .int .i64 rm, .int .i64 rd, .int .i64 ra, .int .i64 rb, .int .i64 rc, .bool rt, .string rf, .int .i64 rp] 31) := by unfold Hid; rw [← hx4]; exact Y3.out.alloc _
 have HXx4 := hideP hx4
 clear hx4 Y3
 go_upto_region 5 with fail
 rw [HXx4.out]
 clear HXx4
 obtain ⟨y0, y1, y2, y3, y4, y5, y6, y7, y8⟩ := Y4.out.cells9
 obtain ⟨z0, z1, z2, z3, z4⟩ := Q4.out.cells5
 go_upto_region 6 with fail
 obtain ⟨x5, hx5, S5⟩ := x4.fresh #[.int .i64 rk, .int .i64 rm, .int .i64 rd, .int .i64 ra, .int .i64 rb, .int .i64 rc, .bool rt, .string rf, .int .i64 rp, .int .i64 xy, .int .i64 (-1), .int .i64 (-1)] 44
 have Q5 : Hid (Blk x5.w x3.w.heap.size #[.int .i64 xc, .int .i64 xy, .int .i64 xs, .int .i64 xm, .int .i64 xd] 69) := by unfold Hid; rw [← hx5]; exact Q4.out.alloc _
 have HX5 := hideP hx5
 have hlt34 : x3.w.heap.size < x4.w.heap.size := Q4.out.lt
 clear hx5 y0 y1 y2 y3 y4 y5 y6 y7 y8 z0 z1 z2 z3 z4 Q4 Y4
 rw [HX5.out]
 clear HX5
 rcases hm with rfl | rfl | rfl | rfl
 · obtain rfl : A = ⟨⟨rk, rm, rd, ⟨ra, rb, rc, rt⟩, rf, rp⟩, xy, (-1), (-1)⟩ := hA
   obtain ⟨y0, y1, y2, y3, y4, y5, y6, y7, y8, y9, y10, y11⟩ := S5.out.cells12
   obtain ⟨c0, c1, c2, c3, c4, c5, c6, c7, c8, c9, c10, c11, t0, t1, t2, t3, t4, t5, t6, t7, t8, t9, t10, t11⟩ := tlv_facts HC.out x5
   go_wp2
   exact ret12 (HC.out x5) (HBl.out x5) (by omega) rfl (fun _ q0 q1 q2 q3 q4 q5 q6 q7 q8 q9 q10 q11 B9 => ⟨by simp [results, Tryz.results15, go_sem, q0, q1, q2, q3, q4, q5, q6, q7, q8, q9, q10, q11]; try rfl, rfl, B9⟩)
 · obtain rfl : A = ⟨⟨rk, rm, rd, ⟨ra, rb, rc, rt⟩, rf, rp⟩, xy, (-1), xc⟩ := hA
   have hne : x4.w.heap.size ≠ x3.w.heap.size := by omega
   have u0 := S5.out.thaw 11
   have v0 := S5.out.cell 11 rfl
   obtain ⟨z0, z1, z2, z3, z4⟩ := Q5.out.cells5
   go_upto_region 8 with fail
   obtain ⟨x6, hx6⟩ : ∃ x6 : Later W0, x5.w.setCell ⟨x4.w.heap.size, 11, none⟩ (.int .i64 xc) = x6.w := ⟨⟨_, below_store x5.below _ x4.below.size⟩, rfl⟩
   have S6 : Hid (Blk x6.w x4.w.heap.size #[.int .i64 rk, .int .i64 rm, .int .i64 rd, .int .i64 ra, .int .i64 rb, .int .i64 rc, .bool rt, .string rf, .int .i64 rp, .int .i64 xy, .int .i64 (-1), .int .i64 xc] 44) := by unfold Hid; rw [← hx6]; exact S5.out.set 11 _
   have Qx6 : Hid (Blk x6.w x3.w.heap.size #[.int .i64 xc, .int .i64 xy, .int .i64 xs, .int .i64 xm, .int .i64 xd] 69) := by unfold Hid; rw [← hx6]; exact Q5.out.other hne
   have HXx6 := hideP hx6
   clear hx6 u0 v0 z0 z1 z2 z3 z4 S5 Q5
   rw [HXx6.out]
   clear HXx6
   obtain ⟨y0, y1, y2, y3, y4, y5, y6, y7, y8, y9, y10, y11⟩ := S6.out.cells12
   obtain ⟨c0, c1, c2, c3, c4, c5, c6, c7, c8, c9, c10, c11, t0, t1, t2, t3, t4, t5, t6, t7, t8, t9, t10, t11⟩ := tlv_facts HC.out x6
   go_wp2
   exact ret12 (HC.out x6) (HBl.out x6) (by omega) rfl (fun _ q0 q1 q2 q3 q4 q5 q6 q7 q8 q9 q10 q11 B9 => ⟨by simp [results, Tryz.results15, go_sem, q0, q1, q2, q3, q4, q5, q6, q7, q8, q9, q10, q11]; try rfl, rfl, B9⟩)
 focus
   obtain rfl : A = ⟨⟨rk, rm, rd, ⟨ra, rb, rc, rt⟩, rf, rp⟩, xy, xs, (-1)⟩ := hA
   have hne : x4.w.heap.size ≠ x3.w.heap.size := by omega
   have u0 := S5.out.thaw 10
   have v0 := S5.out.cell 10 rfl
   obtain ⟨z0, z1, z2, z3, z4⟩ := Q5.out.cells5
   go_upto_region 10 with fail
   obtain ⟨x7, hx7⟩ : ∃ x7 : Later W0, x5.w.setCell ⟨x4.w.heap.size, 10, none⟩ (.int .i64 xs) = x7.w := ⟨⟨_, below_store x5.below _ x4.below.size⟩, rfl⟩
   have S7 : Hid (Blk x7.w x4.w.heap.size #[.int .i64 rk, .int .i64 rm, .int .i64 rd, .int .i64 ra, .int .i64 rb, .int .i64 rc, .bool rt, .string rf, .int .i64 rp, .int .i64 xy, .int .i64 xs, .int .i64 (-1)] 44) := by unfold Hid; rw [← hx7]; exact S5.out.set 10 _
   have Qx7 : Hid (Blk x7.w x3.w.heap.size #[.int .i64 xc, .int .i64 xy, .int .i64 xs, .int .i64 xm, .int .i64 xd] 69) := by unfold Hid; rw [← hx7]; exact Q5.out.other hne
   have HXx7 := hideP hx7
   clear hx7 u0 v0 z0 z1 z2 z3 z4 S5 Q5
 rotate_left
 focus
   obtain rfl : A = ⟨⟨rk, rm, rd, ⟨ra, rb, rc, rt⟩, rf, rp⟩, xy, xs, xc⟩ := hA
   have hne : x4.w.heap.size ≠ x3.w.heap.size := by omega
   have u0 := S5.out.thaw 11
   have v0 := S5.out.cell 11 rfl
   obtain ⟨z0, z1, z2, z3, z4⟩ := Q5.out.cells5
   go_upto_region 8 with fail
   obtain ⟨x6, hx6⟩ : ∃ x6 : Later W0, x5.w.setCell ⟨x4.w.heap.size, 11, none⟩ (.int .i64 xc) = x6.w := ⟨⟨_, below_store x5.below _ x4.below.size⟩, rfl⟩
   have S6 : Hid (Blk x6.w x4.w.heap.size #[.int .i64 rk, .int .i64 rm, .int .i64 rd, .int .i64 ra, .int .i64 rb, .int .i64 rc, .bool rt, .string rf, .int .i64 rp, .int .i64 xy, .int .i64 (-1), .int .i64 xc] 44) := by unfold Hid; rw [← hx6]; exact S5.out.set 11 _
   have Qx6 : Hid (Blk x6.w x3.w.heap.size #[.int .i64 xc, .int .i64 xy, .int .i64 xs, .int .i64 xm, .int .i64 xd] 69) := by unfold Hid; rw [← hx6]; exact Q5.out.other hne
   have HXx6 := hideP hx6
   clear hx6 u0 v0 z0 z1 z2 z3 z4 S5 Q5
   rw [HXx6.out]
   clear HXx6
   have u0 := S6.out.thaw 10
   have v0 := S6.out.cell 10 rfl
   obtain ⟨z0, z1, z2, z3, z4⟩ := Qx6.out.cells5
   go_upto_region 10 with fail
   obtain ⟨x7, hx7⟩ : ∃ x7 : Later W0, x6.w.setCell ⟨x4.w.heap.size, 10, none⟩ (.int .i64 xs) = x7.w := ⟨⟨_, below_store x6.below _ x4.below.size⟩, rfl⟩
   have S7 : Hid (Blk x7.w x4.w.heap.size #[.int .i64 rk, .int .i64 rm, .int .i64 rd, .int .i64 ra, .int .i64 rb, .int .i64 rc, .bool rt, .string rf, .int .i64 rp, .int .i64 xy, .int .i64 xs, .int .i64 xc] 44) := by unfold Hid; rw [← hx7]; exact S6.out.set 10 _
   have Qx7 : Hid (Blk x7.w x3.w.heap.size #[.int .i64 xc, .int .i64 xy, .int .i64 xs, .int .i64 xm, .int .i64 xd] 69) := by unfold Hid; rw [← hx7]; exact Qx6.out.other hne
   have HXx7 := hideP hx7
   clear hx7 u0 v0 z0 z1 z2 z3 z4 S6 Qx6
 rotate_left
 all_goals
  rw [HXx7.out]
  clear HXx7
  obtain ⟨y0, y1, y2, y3, y4, y5, y6, y7, y8, y9, y10, y11⟩ := S7.out.cells12
  obtain ⟨c0, c1, c2, c3, c4, c5, c6, c7, c8, c9, c10, c11, t0, t1, t2, t3, t4, t5, t6, t7, t8, t9, t10, t11⟩ := tlv_facts HC.out x7
  go_wp2
  exact ret12 (HC.out x7) (HBl.out x7) (by omega) rfl (fun _ q0 q1 q2 q3 q4 q5 q6 q7 q8 q9 q10 q11 B9 => ⟨by simp [results, Tryz.results15, go_sem, q0, q1, q2, q3, q4, q5, q6, q7, q8, q9, q10, q11]; try rfl, rfl, B9⟩)
end Go.Proofs.YtdmlhiailjnhcaaGreatDoor.ctr
