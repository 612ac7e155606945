/- What the program makes of a day told: its four sayings; Marked. -/
import Derived.Test.YtdmlhiailjnhcaaGreatDoorJnYad
import Derived.Test.YtdmlhiailjnhcaaGreatDoorJnYbl
import Derived.Test.YtdmlhiailjnhcaaGreatDoorJnYba
import Derived.Test.YtdmlhiailjnhcaaGreatDoorJnYah
import Derived.Laws.EntriesVeiled
namespace Go.Proofs.YtdmlhiailjnhcaaGreatDoor.ctr
open Go.RowKit
set_option linter.unusedSimpArgs false
theorem tlv_facts {W : World} {b : Nat} {v0 v1 v2 v3 v4 v5 v6 v7 v8 v9 v10 v11 : Value} {t : TypeId} (h : ∀ x : Later W, Blk x.w b #[v0, v1, v2, v3, v4, v5, v6, v7, v8, v9, v10, v11] t) (x : Later W) : x.w.cell? ⟨b, 0, none⟩ = some v0 ∧ x.w.cell? ⟨b, 1, none⟩ = some v1 ∧ x.w.cell? ⟨b, 2, none⟩ = some v2 ∧ x.w.cell? ⟨b, 3, none⟩ = some v3 ∧ x.w.cell? ⟨b, 4, none⟩ = some v4 ∧ x.w.cell? ⟨b, 5, none⟩ = some v5 ∧ x.w.cell? ⟨b, 6, none⟩ = some v6 ∧ x.w.cell? ⟨b, 7, none⟩ = some v7 ∧ x.w.cell? ⟨b, 8, none⟩ = some v8 ∧ x.w.cell? ⟨b, 9, none⟩ = some v9 ∧ x.w.cell? ⟨b, 10, none⟩ = some v10 ∧ x.w.cell? ⟨b, 11, none⟩ = some v11 ∧ x.w.frozen? ⟨b, 0, none⟩ = false ∧ x.w.frozen? ⟨b, 1, none⟩ = false ∧ x.w.frozen? ⟨b, 2, none⟩ = false ∧ x.w.frozen? ⟨b, 3, none⟩ = false ∧ x.w.frozen? ⟨b, 4, none⟩ = false ∧ x.w.frozen? ⟨b, 5, none⟩ = false ∧ x.w.frozen? ⟨b, 6, none⟩ = false ∧ x.w.frozen? ⟨b, 7, none⟩ = false ∧ x.w.frozen? ⟨b, 8, none⟩ = false ∧ x.w.frozen? ⟨b, 9, none⟩ = false ∧ x.w.frozen? ⟨b, 10, none⟩ = false ∧ x.w.frozen? ⟨b, 11, none⟩ = false :=
 ⟨(h x).cell 0 rfl, (h x).cell 1 rfl, (h x).cell 2 rfl, (h x).cell 3 rfl, (h x).cell 4 rfl, (h x).cell 5 rfl, (h x).cell 6 rfl, (h x).cell 7 rfl, (h x).cell 8 rfl, (h x).cell 9 rfl, (h x).cell 10 rfl, (h x).cell 11 rfl, (h x).thaw 0, (h x).thaw 1, (h x).thaw 2, (h x).thaw 3, (h x).thaw 4, (h x).thaw 5, (h x).thaw 6, (h x).thaw 7, (h x).thaw 8, (h x).thaw 9, (h x).thaw 10, (h x).thaw 11⟩
theorem fur_facts {W : World} {b : Nat} {v0 v1 v2 v3 : Value} {t : TypeId} (h : ∀ x : Later W, Blk x.w b #[v0, v1, v2, v3] t) (x : Later W) : x.w.cell? ⟨b, 0, none⟩ = some v0 ∧ x.w.cell? ⟨b, 1, none⟩ = some v1 ∧ x.w.cell? ⟨b, 2, none⟩ = some v2 ∧ x.w.cell? ⟨b, 3, none⟩ = some v3 ∧ x.w.frozen? ⟨b, 0, none⟩ = false ∧ x.w.frozen? ⟨b, 1, none⟩ = false ∧ x.w.frozen? ⟨b, 2, none⟩ = false ∧ x.w.frozen? ⟨b, 3, none⟩ = false :=
 ⟨(h x).cell 0 rfl, (h x).cell 1 rfl, (h x).cell 2 rfl, (h x).cell 3 rfl, (h x).thaw 0, (h x).thaw 1, (h x).thaw 2, (h x).thaw 3⟩
set_option maxRecDepth 100000 in
set_option maxHeartbeats 4000000 in
theorem toldBare (rk rm rd ra rb rc rp xc xy xs xm xd : Int) (rt : Bool) (rf : ByteArray) (w : World) : CR 80 #[.agg #[.int .i64 rk, .int .i64 rm, .int .i64 rd, .int .i64 ra, .int .i64 rb, .int .i64 rc, .bool rt, .string rf, .int .i64 rp, .int .i64 xc, .int .i64 xy, .int .i64 xs, .int .i64 xm, .int .i64 xd]] w (.agg #[.int .i64 rk, .int .i64 rm, .int .i64 rd, .int .i64 ra, .int .i64 rb, .int .i64 rc, .bool rt, .string rf, .int .i64 rp, .int .i64 xy, .int .i64 (-1), .int .i64 (-1)]) := by
 obtain ⟨W0, hW0, hD, hC, hB⟩ := boxR w #[.int .i64 rk, .int .i64 rm, .int .i64 rd, .int .i64 ra, .int .i64 rb, .int .i64 rc, .bool rt, .string rf, .int .i64 rp, .int .i64 xc, .int .i64 xy, .int .i64 xs, .int .i64 xm, .int .i64 xd] 71 #[.int .i64 0, .int .i64 0, .int .i64 0, .int .i64 0, .int .i64 0, .int .i64 0, .bool false, .string ⟨#[]⟩, .int .i64 0, .int .i64 0, .int .i64 0, .int .i64 0] 44
 have HBl := hideP hB.out
 have HC := hideP hC.out
 have HW0 := hideP hW0
 have HD := hideP hD.out
 obtain ⟨d0, d1, d2, d3, d4, d5, d6, d7, d8, d9, d10, d11, d12, d13⟩ := cells14 HD.out
 clear hW0 hD hC hB
 obtain ⟨y0, hy0⟩ : ∃ y0 : Later W0, W0 = y0.w := ⟨⟨W0, Below.refl _ _⟩, rfl⟩
 go_enter Tryz.func80, Tryz.ntmps80
 go_upto_region 1 with fail
 rw [← HW0.out, hy0]
 obtain ⟨c0, c1, c2, c3, c4, c5, c6, c7, c8, c9, c10, c11, t0, t1, t2, t3, t4, t5, t6, t7, t8, t9, t10, t11⟩ := tlv_facts HC.out y0
 go_wp2
 exact ret12 (HC.out y0) (HBl.out y0) (by omega) rfl (fun _ q0 q1 q2 q3 q4 q5 q6 q7 q8 q9 q10 q11 B9 => ⟨by simp [results, Tryz.results80, go_sem, q0, q1, q2, q3, q4, q5, q6, q7, q8, q9, q10, q11]; try rfl, rfl, B9⟩)
set_option maxRecDepth 100000 in
set_option maxHeartbeats 4000000 in
theorem toldWithCal (rk rm rd ra rb rc rp xc xy xs xm xd : Int) (rt : Bool) (rf : ByteArray) (w : World) : CR 81 #[.agg #[.int .i64 rk, .int .i64 rm, .int .i64 rd, .int .i64 ra, .int .i64 rb, .int .i64 rc, .bool rt, .string rf, .int .i64 rp, .int .i64 xc, .int .i64 xy, .int .i64 xs, .int .i64 xm, .int .i64 xd]] w (.agg #[.int .i64 rk, .int .i64 rm, .int .i64 rd, .int .i64 ra, .int .i64 rb, .int .i64 rc, .bool rt, .string rf, .int .i64 rp, .int .i64 xy, .int .i64 (-1), .int .i64 xc]) := by
 obtain ⟨W0, hW0, hD, hC, hB⟩ := boxR w #[.int .i64 rk, .int .i64 rm, .int .i64 rd, .int .i64 ra, .int .i64 rb, .int .i64 rc, .bool rt, .string rf, .int .i64 rp, .int .i64 xc, .int .i64 xy, .int .i64 xs, .int .i64 xm, .int .i64 xd] 71 #[.int .i64 0, .int .i64 0, .int .i64 0, .int .i64 0, .int .i64 0, .int .i64 0, .bool false, .string ⟨#[]⟩, .int .i64 0, .int .i64 0, .int .i64 0, .int .i64 0] 44
 have HBl := hideP hB.out
 have HC := hideP hC.out
 have HW0 := hideP hW0
 have HD := hideP hD.out
 obtain ⟨d0, d1, d2, d3, d4, d5, d6, d7, d8, d9, d10, d11, d12, d13⟩ := cells14 HD.out
 clear hW0 hD hC hB
 have KC : ∀ z : Later W0, CR 80 #[.agg #[.int .i64 rk, .int .i64 rm, .int .i64 rd, .int .i64 ra, .int .i64 rb, .int .i64 rc, .bool rt, .string rf, .int .i64 rp, .int .i64 xc, .int .i64 xy, .int .i64 xs, .int .i64 xm, .int .i64 xd]] z.w (.agg #[.int .i64 rk, .int .i64 rm, .int .i64 rd, .int .i64 ra, .int .i64 rb, .int .i64 rc, .bool rt, .string rf, .int .i64 rp, .int .i64 xy, .int .i64 (-1), .int .i64 (-1)]) := fun z => toldBare rk rm rd ra rb rc rp xc xy xs xm xd rt rf z.w
 go_enter Tryz.func81, Tryz.ntmps81
 go_upto_region 1 with fail
 rw [← HW0.out]
 obtain ⟨y0, hy0⟩ : ∃ y0 : Later W0, W0 = y0.w := ⟨⟨W0, Below.refl _ _⟩, rfl⟩
 rw [hy0]
 go_wp2_with fail
 refine lat (KC y0) fun x1 => ?_
 obtain ⟨x2, hx2, Z2⟩ := x1.fresh #[.int .i64 rk, .int .i64 rm, .int .i64 rd, .int .i64 ra, .int .i64 rb, .int .i64 rc, .bool rt, .string rf, .int .i64 rp, .int .i64 xy, .int .i64 (-1), .int .i64 (-1)] 44
 have HX2 := hideP hx2
 clear hx2
 go_upto_region 2 with fail
 rw [HX2.out]
 clear HX2
 have u0 := Z2.out.thaw 11
 have v0 := Z2.out.cell 11 rfl
 go_upto_region 3 with fail
 obtain ⟨x3, hx3⟩ : ∃ x3 : Later W0, x2.w.setCell ⟨x1.w.heap.size, 11, none⟩ (.int .i64 xc) = x3.w := ⟨⟨_, below_store x2.below _ x1.below.size⟩, rfl⟩
 have Z3 : Hid (Blk x3.w x1.w.heap.size #[.int .i64 rk, .int .i64 rm, .int .i64 rd, .int .i64 ra, .int .i64 rb, .int .i64 rc, .bool rt, .string rf, .int .i64 rp, .int .i64 xy, .int .i64 (-1), .int .i64 xc] 44) := by unfold Hid; rw [← hx3]; exact Z2.out.set 11 _
 have HX3 := hideP hx3
 clear hx3 u0 v0 Z2
 rw [HX3.out]
 clear HX3
 obtain ⟨y0, y1, y2, y3, y4, y5, y6, y7, y8, y9, y10, y11⟩ := Z3.out.cells12
 obtain ⟨c0, c1, c2, c3, c4, c5, c6, c7, c8, c9, c10, c11, t0, t1, t2, t3, t4, t5, t6, t7, t8, t9, t10, t11⟩ := tlv_facts HC.out x3
 go_wp2
 exact ret12 (HC.out x3) (HBl.out x3) (by omega) rfl (fun _ q0 q1 q2 q3 q4 q5 q6 q7 q8 q9 q10 q11 B9 => ⟨by simp [results, Tryz.results81, go_sem, q0, q1, q2, q3, q4, q5, q6, q7, q8, q9, q10, q11]; try rfl, rfl, B9⟩)
set_option maxRecDepth 100000 in
set_option maxHeartbeats 4000000 in
theorem toldWithSolar (rk rm rd ra rb rc rp xc xy xs xm xd : Int) (rt : Bool) (rf : ByteArray) (w : World) : CR 82 #[.agg #[.int .i64 rk, .int .i64 rm, .int .i64 rd, .int .i64 ra, .int .i64 rb, .int .i64 rc, .bool rt, .string rf, .int .i64 rp, .int .i64 xc, .int .i64 xy, .int .i64 xs, .int .i64 xm, .int .i64 xd]] w (.agg #[.int .i64 rk, .int .i64 rm, .int .i64 rd, .int .i64 ra, .int .i64 rb, .int .i64 rc, .bool rt, .string rf, .int .i64 rp, .int .i64 xy, .int .i64 xs, .int .i64 (-1)]) := by
 obtain ⟨W0, hW0, hD, hC, hB⟩ := boxR w #[.int .i64 rk, .int .i64 rm, .int .i64 rd, .int .i64 ra, .int .i64 rb, .int .i64 rc, .bool rt, .string rf, .int .i64 rp, .int .i64 xc, .int .i64 xy, .int .i64 xs, .int .i64 xm, .int .i64 xd] 71 #[.int .i64 0, .int .i64 0, .int .i64 0, .int .i64 0, .int .i64 0, .int .i64 0, .bool false, .string ⟨#[]⟩, .int .i64 0, .int .i64 0, .int .i64 0, .int .i64 0] 44
 have HBl := hideP hB.out
 have HC := hideP hC.out
 have HW0 := hideP hW0
 have HD := hideP hD.out
 obtain ⟨d0, d1, d2, d3, d4, d5, d6, d7, d8, d9, d10, d11, d12, d13⟩ := cells14 HD.out
 clear hW0 hD hC hB
 have KC : ∀ z : Later W0, CR 80 #[.agg #[.int .i64 rk, .int .i64 rm, .int .i64 rd, .int .i64 ra, .int .i64 rb, .int .i64 rc, .bool rt, .string rf, .int .i64 rp, .int .i64 xc, .int .i64 xy, .int .i64 xs, .int .i64 xm, .int .i64 xd]] z.w (.agg #[.int .i64 rk, .int .i64 rm, .int .i64 rd, .int .i64 ra, .int .i64 rb, .int .i64 rc, .bool rt, .string rf, .int .i64 rp, .int .i64 xy, .int .i64 (-1), .int .i64 (-1)]) := fun z => toldBare rk rm rd ra rb rc rp xc xy xs xm xd rt rf z.w
 go_enter Tryz.func82, Tryz.ntmps82
 go_upto_region 1 with fail
 rw [← HW0.out]
 obtain ⟨y0, hy0⟩ : ∃ y0 : Later W0, W0 = y0.w := ⟨⟨W0, Below.refl _ _⟩, rfl⟩
 rw [hy0]
 go_wp2_with fail
 refine lat (KC y0) fun x1 => ?_
 obtain ⟨x2, hx2, Z2⟩ := x1.fresh #[.int .i64 rk, .int .i64 rm, .int .i64 rd, .int .i64 ra, .int .i64 rb, .int .i64 rc, .bool rt, .string rf, .int .i64 rp, .int .i64 xy, .int .i64 (-1), .int .i64 (-1)] 44
 have HX2 := hideP hx2
 clear hx2
 go_upto_region 2 with fail
 rw [HX2.out]
 clear HX2
 have u0 := Z2.out.thaw 10
 have v0 := Z2.out.cell 10 rfl
 go_upto_region 3 with fail
 obtain ⟨x3, hx3⟩ : ∃ x3 : Later W0, x2.w.setCell ⟨x1.w.heap.size, 10, none⟩ (.int .i64 xs) = x3.w := ⟨⟨_, below_store x2.below _ x1.below.size⟩, rfl⟩
 have Z3 : Hid (Blk x3.w x1.w.heap.size #[.int .i64 rk, .int .i64 rm, .int .i64 rd, .int .i64 ra, .int .i64 rb, .int .i64 rc, .bool rt, .string rf, .int .i64 rp, .int .i64 xy, .int .i64 xs, .int .i64 (-1)] 44) := by unfold Hid; rw [← hx3]; exact Z2.out.set 10 _
 have HX3 := hideP hx3
 clear hx3 u0 v0 Z2
 rw [HX3.out]
 clear HX3
 obtain ⟨y0, y1, y2, y3, y4, y5, y6, y7, y8, y9, y10, y11⟩ := Z3.out.cells12
 obtain ⟨c0, c1, c2, c3, c4, c5, c6, c7, c8, c9, c10, c11, t0, t1, t2, t3, t4, t5, t6, t7, t8, t9, t10, t11⟩ := tlv_facts HC.out x3
 go_wp2
 exact ret12 (HC.out x3) (HBl.out x3) (by omega) rfl (fun _ q0 q1 q2 q3 q4 q5 q6 q7 q8 q9 q10 q11 B9 => ⟨by simp [results, Tryz.results82, go_sem, q0, q1, q2, q3, q4, q5, q6, q7, q8, q9, q10, q11]; try rfl, rfl, B9⟩)
set_option maxRecDepth 100000 in
set_option maxHeartbeats 4000000 in
theorem toldWithBoth (rk rm rd ra rb rc rp xc xy xs xm xd : Int) (rt : Bool) (rf : ByteArray) (w : World) : CR 83 #[.agg #[.int .i64 rk, .int .i64 rm, .int .i64 rd, .int .i64 ra, .int .i64 rb, .int .i64 rc, .bool rt, .string rf, .int .i64 rp, .int .i64 xc, .int .i64 xy, .int .i64 xs, .int .i64 xm, .int .i64 xd]] w (.agg #[.int .i64 rk, .int .i64 rm, .int .i64 rd, .int .i64 ra, .int .i64 rb, .int .i64 rc, .bool rt, .string rf, .int .i64 rp, .int .i64 xy, .int .i64 xs, .int .i64 xc]) := by
 obtain ⟨W0, hW0, hD, hC, hB⟩ := boxR w #[.int .i64 rk, .int .i64 rm, .int .i64 rd, .int .i64 ra, .int .i64 rb, .int .i64 rc, .bool rt, .string rf, .int .i64 rp, .int .i64 xc, .int .i64 xy, .int .i64 xs, .int .i64 xm, .int .i64 xd] 71 #[.int .i64 0, .int .i64 0, .int .i64 0, .int .i64 0, .int .i64 0, .int .i64 0, .bool false, .string ⟨#[]⟩, .int .i64 0, .int .i64 0, .int .i64 0, .int .i64 0] 44
 have HBl := hideP hB.out
 have HC := hideP hC.out
 have HW0 := hideP hW0
 have HD := hideP hD.out
 obtain ⟨d0, d1, d2, d3, d4, d5, d6, d7, d8, d9, d10, d11, d12, d13⟩ := cells14 HD.out
 clear hW0 hD hC hB
 have KC : ∀ z : Later W0, CR 81 #[.agg #[.int .i64 rk, .int .i64 rm, .int .i64 rd, .int .i64 ra, .int .i64 rb, .int .i64 rc, .bool rt, .string rf, .int .i64 rp, .int .i64 xc, .int .i64 xy, .int .i64 xs, .int .i64 xm, .int .i64 xd]] z.w (.agg #[.int .i64 rk, .int .i64 rm, .int .i64 rd, .int .i64 ra, .int .i64 rb, .int .i64 rc, .bool rt, .string rf, .int .i64 rp, .int .i64 xy, .int .i64 (-1), .int .i64 xc]) := fun z => toldWithCal rk rm rd ra rb rc rp xc xy xs xm xd rt rf z.w
 go_enter Tryz.func83, Tryz.ntmps83
 go_upto_region 1 with fail
 rw [← HW0.out]
 obtain ⟨y0, hy0⟩ : ∃ y0 : Later W0, W0 = y0.w := ⟨⟨W0, Below.refl _ _⟩, rfl⟩
 rw [hy0]
 go_wp2_with fail
 refine lat (KC y0) fun x1 => ?_
 obtain ⟨x2, hx2, Z2⟩ := x1.fresh #[.int .i64 rk, .int .i64 rm, .int .i64 rd, .int .i64 ra, .int .i64 rb, .int .i64 rc, .bool rt, .string rf, .int .i64 rp, .int .i64 xy, .int .i64 (-1), .int .i64 xc] 44
 have HX2 := hideP hx2
 clear hx2
 go_upto_region 2 with fail
 rw [HX2.out]
 clear HX2
 have u0 := Z2.out.thaw 10
 have v0 := Z2.out.cell 10 rfl
 go_upto_region 3 with fail
 obtain ⟨x3, hx3⟩ : ∃ x3 : Later W0, x2.w.setCell ⟨x1.w.heap.size, 10, none⟩ (.int .i64 xs) = x3.w := ⟨⟨_, below_store x2.below _ x1.below.size⟩, rfl⟩
 have Z3 : Hid (Blk x3.w x1.w.heap.size #[.int .i64 rk, .int .i64 rm, .int .i64 rd, .int .i64 ra, .int .i64 rb, .int .i64 rc, .bool rt, .string rf, .int .i64 rp, .int .i64 xy, .int .i64 xs, .int .i64 xc] 44) := by unfold Hid; rw [← hx3]; exact Z2.out.set 10 _
 have HX3 := hideP hx3
 clear hx3 u0 v0 Z2
 rw [HX3.out]
 clear HX3
 obtain ⟨y0, y1, y2, y3, y4, y5, y6, y7, y8, y9, y10, y11⟩ := Z3.out.cells12
 obtain ⟨c0, c1, c2, c3, c4, c5, c6, c7, c8, c9, c10, c11, t0, t1, t2, t3, t4, t5, t6, t7, t8, t9, t10, t11⟩ := tlv_facts HC.out x3
 go_wp2
 exact ret12 (HC.out x3) (HBl.out x3) (by omega) rfl (fun _ q0 q1 q2 q3 q4 q5 q6 q7 q8 q9 q10 q11 B9 => ⟨by simp [results, Tryz.results83, go_sem, q0, q1, q2, q3, q4, q5, q6, q7, q8, q9, q10, q11]; try rfl, rfl, B9⟩)
set_option maxRecDepth 100000 in
set_option maxHeartbeats 4000000 in
theorem implSayings (rk rm rd ra rb rc rp xc xy xs xm xd : Int) (rt : Bool) (rf : ByteArray) (w : World) : CR 47 #[.agg #[.int .i64 rk, .int .i64 rm, .int .i64 rd, .int .i64 ra, .int .i64 rb, .int .i64 rc, .bool rt, .string rf, .int .i64 rp, .int .i64 xc, .int .i64 xy, .int .i64 xs, .int .i64 xm, .int .i64 xd]] w (.agg #[.func (.func 80) #[.agg #[.int .i64 rk, .int .i64 rm, .int .i64 rd, .int .i64 ra, .int .i64 rb, .int .i64 rc, .bool rt, .string rf, .int .i64 rp, .int .i64 xc, .int .i64 xy, .int .i64 xs, .int .i64 xm, .int .i64 xd]] #[], .func (.func 81) #[.agg #[.int .i64 rk, .int .i64 rm, .int .i64 rd, .int .i64 ra, .int .i64 rb, .int .i64 rc, .bool rt, .string rf, .int .i64 rp, .int .i64 xc, .int .i64 xy, .int .i64 xs, .int .i64 xm, .int .i64 xd]] #[], .func (.func 82) #[.agg #[.int .i64 rk, .int .i64 rm, .int .i64 rd, .int .i64 ra, .int .i64 rb, .int .i64 rc, .bool rt, .string rf, .int .i64 rp, .int .i64 xc, .int .i64 xy, .int .i64 xs, .int .i64 xm, .int .i64 xd]] #[], .func (.func 83) #[.agg #[.int .i64 rk, .int .i64 rm, .int .i64 rd, .int .i64 ra, .int .i64 rb, .int .i64 rc, .bool rt, .string rf, .int .i64 rp, .int .i64 xc, .int .i64 xy, .int .i64 xs, .int .i64 xm, .int .i64 xd]] #[]]) := by
 obtain ⟨W0, hW0, hD, hC, hB⟩ := boxR w #[.int .i64 rk, .int .i64 rm, .int .i64 rd, .int .i64 ra, .int .i64 rb, .int .i64 rc, .bool rt, .string rf, .int .i64 rp, .int .i64 xc, .int .i64 xy, .int .i64 xs, .int .i64 xm, .int .i64 xd] 71 #[.nilFunc, .nilFunc, .nilFunc, .nilFunc] 82
 have HBl := hideP hB.out
 have HC := hideP hC.out
 have HW0 := hideP hW0
 have HD := hideP hD.out
 obtain ⟨d0, d1, d2, d3, d4, d5, d6, d7, d8, d9, d10, d11, d12, d13⟩ := cells14 HD.out
 clear hW0 hD hC hB
 obtain ⟨y0, hy0⟩ : ∃ y0 : Later W0, W0 = y0.w := ⟨⟨W0, Below.refl _ _⟩, rfl⟩
 have hmf : ∀ (fn : Fn) (first cap : Array Value) (w : World), (Instr.makeFunc fn first cap).run Tryz.prog w = .ok (.func fn first cap) w := fun _ _ _ _ => rfl
 go_enter Tryz.func47, Tryz.ntmps47
 go_upto_region 1 with fail
 rw [← HW0.out, hy0]
 obtain ⟨c0, c1, c2, c3, t0, t1, t2, t3⟩ := fur_facts HC.out y0
 go_wp2
 exact ret4 (HC.out y0) (HBl.out y0) (by omega) rfl (fun _ q0 q1 q2 q3 B9 => ⟨by simp [results, Tryz.results47, go_sem, q0, q1, q2, q3]; try rfl, rfl, B9⟩)
noncomputable def mkdB (r : Rgm) (n k m : Int) : Bool := tellK r n k && (decide (0 ≤ m) && decide (m ≤ 3))
abbrev say0 : Say := ⟨whn0, 0, 0, 0⟩
noncomputable def mkdSo (x : Rdg) (m : Int) : Int := if m = 2 ∨ m = 3 then x.sol else -1
noncomputable def mkdCa (x : Rdg) (m : Int) : Int := if m = 1 ∨ m = 3 then x.cal else -1
noncomputable def mkdS (r : Rgm) (n k m : Int) : Say := if mkdB r n k m = true then ⟨tellW r n k, (tellX r n k).year, mkdSo (tellX r n k) m, mkdCa (tellX r n k) m⟩ else say0
end Go.Proofs.YtdmlhiailjnhcaaGreatDoor.ctr
