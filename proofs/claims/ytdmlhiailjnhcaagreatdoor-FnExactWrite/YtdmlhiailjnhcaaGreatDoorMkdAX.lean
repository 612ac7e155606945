/- What the program makes of a day told: its four sayings; Marked. -/
import Derived.Test.YtdmlhiailjnhcaaGreatDoorJnXaa
import Derived.Test.YtdmlhiailjnhcaaGreatDoorJnXbn
import Derived.Test.YtdmlhiailjnhcaaGreatDoorJnXbe
import Derived.Test.YtdmlhiailjnhcaaGreatDoorJnXah
import Derived.Laws.EntriesVeiled
namespace Go.Proofs.YtdmlhiailjnhcaaGreatDoor.ctr
open Go.RowKit
set_option linter.unusedSimpArgs false
theorem tlv_set {w : World} {b : Nat} {u0 u1 u2 u3 u4 u5 u6 u7 u8 u9 u10 u11 v0 v1 v2 v3 v4 v5 v6 v7 v8 v9 v10 v11 : Value} {t : TypeId} (h : Blk w b #[u0, u1, u2, u3, u4, u5, u6, u7, u8, u9, u10, u11] t) : Blk ((((((((((((w.setCell ⟨b, 0, none⟩ v0).setCell ⟨b, 1, none⟩ v1).setCell ⟨b, 2, none⟩ v2).setCell ⟨b, 3, none⟩ v3).setCell ⟨b, 4, none⟩ v4).setCell ⟨b, 5, none⟩ v5).setCell ⟨b, 6, none⟩ v6).setCell ⟨b, 7, none⟩ v7).setCell ⟨b, 8, none⟩ v8).setCell ⟨b, 9, none⟩ v9).setCell ⟨b, 10, none⟩ v10).setCell ⟨b, 11, none⟩ v11) b #[v0, v1, v2, v3, v4, v5, v6, v7, v8, v9, v10, v11] t := by
 have a0 : Blk (w.setCell ⟨b, 0, none⟩ v0) b #[v0, u1, u2, u3, u4, u5, u6, u7, u8, u9, u10, u11] t := h.set 0 v0
 have a1 : Blk ((w.setCell ⟨b, 0, none⟩ v0).setCell ⟨b, 1, none⟩ v1) b #[v0, v1, u2, u3, u4, u5, u6, u7, u8, u9, u10, u11] t := a0.set 1 v1
 have a2 : Blk (((w.setCell ⟨b, 0, none⟩ v0).setCell ⟨b, 1, none⟩ v1).setCell ⟨b, 2, none⟩ v2) b #[v0, v1, v2, u3, u4, u5, u6, u7, u8, u9, u10, u11] t := a1.set 2 v2
 have a3 : Blk ((((w.setCell ⟨b, 0, none⟩ v0).setCell ⟨b, 1, none⟩ v1).setCell ⟨b, 2, none⟩ v2).setCell ⟨b, 3, none⟩ v3) b #[v0, v1, v2, v3, u4, u5, u6, u7, u8, u9, u10, u11] t := a2.set 3 v3
 have a4 : Blk (((((w.setCell ⟨b, 0, none⟩ v0).setCell ⟨b, 1, none⟩ v1).setCell ⟨b, 2, none⟩ v2).setCell ⟨b, 3, none⟩ v3).setCell ⟨b, 4, none⟩ v4) b #[v0, v1, v2, v3, v4, u5, u6, u7, u8, u9, u10, u11] t := a3.set 4 v4
 have a5 : Blk ((((((w.setCell ⟨b, 0, none⟩ v0).setCell ⟨b, 1, none⟩ v1).setCell ⟨b, 2, none⟩ v2).setCell ⟨b, 3, none⟩ v3).setCell ⟨b, 4, none⟩ v4).setCell ⟨b, 5, none⟩ v5) b #[v0, v1, v2, v3, v4, v5, u6, u7, u8, u9, u10, u11] t := a4.set 5 v5
 have a6 : Blk (((((((w.setCell ⟨b, 0, none⟩ v0).setCell ⟨b, 1, none⟩ v1).setCell ⟨b, 2, none⟩ v2).setCell ⟨b, 3, none⟩ v3).setCell ⟨b, 4, none⟩ v4).setCell ⟨b, 5, none⟩ v5).setCell ⟨b, 6, none⟩ v6) b #[v0, v1, v2, v3, v4, v5, v6, u7, u8, u9, u10, u11] t := a5.set 6 v6
 have a7 : Blk ((((((((w.setCell ⟨b, 0, none⟩ v0).setCell ⟨b, 1, none⟩ v1).setCell ⟨b, 2, none⟩ v2).setCell ⟨b, 3, none⟩ v3).setCell ⟨b, 4, none⟩ v4).setCell ⟨b, 5, none⟩ v5).setCell ⟨b, 6, none⟩ v6).setCell ⟨b, 7, none⟩ v7) b #[v0, v1, v2, v3, v4, v5, v6, v7, u8, u9, u10, u11] t := a6.set 7 v7
 have a8 : Blk (((((((((w.setCell ⟨b, 0, none⟩ v0).setCell ⟨b, 1, none⟩ v1).setCell ⟨b, 2, none⟩ v2).setCell ⟨b, 3, none⟩ v3).setCell ⟨b, 4, none⟩ v4).setCell ⟨b, 5, none⟩ v5).setCell ⟨b, 6, none⟩ v6).setCell ⟨b, 7, none⟩ v7).setCell ⟨b, 8, none⟩ v8) b #[v0, v1, v2, v3, v4, v5, v6, v7, v8, u9, u10, u11] t := a7.set 8 v8
 have a9 : Blk ((((((((((w.setCell ⟨b, 0, none⟩ v0).setCell ⟨b, 1, none⟩ v1).setCell ⟨b, 2, none⟩ v2).setCell ⟨b, 3, none⟩ v3).setCell ⟨b, 4, none⟩ v4).setCell ⟨b, 5, none⟩ v5).setCell ⟨b, 6, none⟩ v6).setCell ⟨b, 7, none⟩ v7).setCell ⟨b, 8, none⟩ v8).setCell ⟨b, 9, none⟩ v9) b #[v0, v1, v2, v3, v4, v5, v6, v7, v8, v9, u10, u11] t := a8.set 9 v9
 have a10 : Blk (((((((((((w.setCell ⟨b, 0, none⟩ v0).setCell ⟨b, 1, none⟩ v1).setCell ⟨b, 2, none⟩ v2).setCell ⟨b, 3, none⟩ v3).setCell ⟨b, 4, none⟩ v4).setCell ⟨b, 5, none⟩ v5).setCell ⟨b, 6, none⟩ v6).setCell ⟨b, 7, none⟩ v7).setCell ⟨b, 8, none⟩ v8).setCell ⟨b, 9, none⟩ v9).setCell ⟨b, 10, none⟩ v10) b #[v0, v1, v2, v3, v4, v5, v6, v7, v8, v9, v10, u11] t := a9.set 10 v10
 exact a10.set 11 v11
theorem tlv_below {V w : World} {b : Nat} {v0 v1 v2 v3 v4 v5 v6 v7 v8 v9 v10 v11 : Value} (h : Below V.heap.size V w) (hb : V.heap.size ≤ b) : Below V.heap.size V ((((((((((((w.setCell ⟨b, 0, none⟩ v0).setCell ⟨b, 1, none⟩ v1).setCell ⟨b, 2, none⟩ v2).setCell ⟨b, 3, none⟩ v3).setCell ⟨b, 4, none⟩ v4).setCell ⟨b, 5, none⟩ v5).setCell ⟨b, 6, none⟩ v6).setCell ⟨b, 7, none⟩ v7).setCell ⟨b, 8, none⟩ v8).setCell ⟨b, 9, none⟩ v9).setCell ⟨b, 10, none⟩ v10).setCell ⟨b, 11, none⟩ v11) := below_store (below_store (below_store (below_store (below_store (below_store (below_store (below_store (below_store (below_store (below_store (below_store h _ hb) _ hb) _ hb) _ hb) _ hb) _ hb) _ hb) _ hb) _ hb) _ hb) _ hb) _ hb
theorem tlv_facts {W : World} {b : Nat} {v0 v1 v2 v3 v4 v5 v6 v7 v8 v9 v10 v11 : Value} {t : TypeId} (h : ∀ x : Later W, Blk x.w b #[v0, v1, v2, v3, v4, v5, v6, v7, v8, v9, v10, v11] t) (x : Later W) : x.w.cell? ⟨b, 0, none⟩ = some v0 ∧ x.w.cell? ⟨b, 1, none⟩ = some v1 ∧ x.w.cell? ⟨b, 2, none⟩ = some v2 ∧ x.w.cell? ⟨b, 3, none⟩ = some v3 ∧ x.w.cell? ⟨b, 4, none⟩ = some v4 ∧ x.w.cell? ⟨b, 5, none⟩ = some v5 ∧ x.w.cell? ⟨b, 6, none⟩ = some v6 ∧ x.w.cell? ⟨b, 7, none⟩ = some v7 ∧ x.w.cell? ⟨b, 8, none⟩ = some v8 ∧ x.w.cell? ⟨b, 9, none⟩ = some v9 ∧ x.w.cell? ⟨b, 10, none⟩ = some v10 ∧ x.w.cell? ⟨b, 11, none⟩ = some v11 ∧ x.w.frozen? ⟨b, 0, none⟩ = false ∧ x.w.frozen? ⟨b, 1, none⟩ = false ∧ x.w.frozen? ⟨b, 2, none⟩ = false ∧ x.w.frozen? ⟨b, 3, none⟩ = false ∧ x.w.frozen? ⟨b, 4, none⟩ = false ∧ x.w.frozen? ⟨b, 5, none⟩ = false ∧ x.w.frozen? ⟨b, 6, none⟩ = false ∧ x.w.frozen? ⟨b, 7, none⟩ = false ∧ x.w.frozen? ⟨b, 8, none⟩ = false ∧ x.w.frozen? ⟨b, 9, none⟩ = false ∧ x.w.frozen? ⟨b, 10, none⟩ = false ∧ x.w.frozen? ⟨b, 11, none⟩ = false :=
 ⟨(h x).cell 0 rfl, (h x).cell 1 rfl, (h x).cell 2 rfl, (h x).cell 3 rfl, (h x).cell 4 rfl, (h x).cell 5 rfl, (h x).cell 6 rfl, (h x).cell 7 rfl, (h x).cell 8 rfl, (h x).cell 9 rfl, (h x).cell 10 rfl, (h x).cell 11 rfl, (h x).thaw 0, (h x).thaw 1, (h x).thaw 2, (h x).thaw 3, (h x).thaw 4, (h x).thaw 5, (h x).thaw 6, (h x).thaw 7, (h x).thaw 8, (h x).thaw 9, (h x).thaw 10, (h x).thaw 11⟩
theorem fur_facts {W : World} {b : Nat} {v0 v1 v2 v3 : Value} {t : TypeId} (h : ∀ x : Later W, Blk x.w b #[v0, v1, v2, v3] t) (x : Later W) : x.w.cell? ⟨b, 0, none⟩ = some v0 ∧ x.w.cell? ⟨b, 1, none⟩ = some v1 ∧ x.w.cell? ⟨b, 2, none⟩ = some v2 ∧ x.w.cell? ⟨b, 3, none⟩ = some v3 ∧ x.w.frozen? ⟨b, 0, none⟩ = false ∧ x.w.frozen? ⟨b, 1, none⟩ = false ∧ x.w.frozen? ⟨b, 2, none⟩ = false ∧ x.w.frozen? ⟨b, 3, none⟩ = false :=
 ⟨(h x).cell 0 rfl, (h x).cell 1 rfl, (h x).cell 2 rfl, (h x).cell 3 rfl, (h x).thaw 0, (h x).thaw 1, (h x).thaw 2, (h x).thaw 3⟩
set_option maxRecDepth 100000 in
set_option maxHeartbeats 4000000 in
theorem toldBare (rk rm rd ra rb rc rp xc xy xs xm xd : Int) (rt : Bool) (rf : ByteArray) (w : World) : CR 80 #[.agg #[.int .i64 rk, .int .i64 rm, .int .i64 rd, .int .i64 ra, .int .i64 rb, .int .i64 rc, .bool rt, .string rf, .int .i64 rp, .int .i64 xc, .int .i64 xy, .int .i64 xs, .int .i64 xm, .int .i64 xd]] w (.agg #[.int .i64 rk, .int .i64 rm, .int .i64 rd, .int .i64 ra, .int .i64 rb, .int .i64 rc, .bool rt, .string rf, .int .i64 rp, .int .i64 xy, .int .i64 (-1), .int .i64 (-1)]) := by
 obtain ⟨W0, hW0, hD, hC, hB⟩ := boxR w #[.int .i64 rk, .int .i64 rm, .int .i64 rd, .int .i64 ra, .int .i64 rb, .int .i64 rc, .bool rt, .string rf, .int .i64 rp, .int .i64 xc, .int .i64 xy, .int .i64 xs, .int .i64 xm, .int .i64 xd] 71 #[.int .i64 0, .int .i64 0, .int .i64 0, .int .i64 0, .int .i64 0, .int .i64 0, .bool false, .string ⟨#[]⟩, .int .i64 0, .int .i64 0, .int .i64 0, .int .i64 0] 44
 have HBl := hideP hB.out
 have HC := hideP hC.out
 have HW0 := hideP hW0
 have HD := hideP hD.out
 obtain ⟨d0, d1, d2, d3, d4, d5, d6, d7, d8, d9, d10, d11, d12, d13⟩ := cells14 HD.out
 clear hW0 hD hC hB
 obtain ⟨y0, hy0⟩ : ∃ y0 : Later W0, W0 = y0.w := ⟨⟨W0, Below.refl _ _⟩, rfl⟩
 go_enter Tryz.func80, Tryz.ntmps80
 go_upto_region 1 with fail
 rw [← HW0.out, hy0]
 obtain ⟨c0, c1, c2, c3, c4, c5, c6, c7, c8, c9, c10, c11, t0, t1, t2, t3, t4, t5, t6, t7, t8, t9, t10, t11⟩ := tlv_facts HC.out y0
 go_wp2
 exact ret12 (HC.out y0) (HBl.out y0) (by omega) rfl (fun _ q0 q1 q2 q3 q4 q5 q6 q7 q8 q9 q10 q11 B9 => ⟨by simp [results, Tryz.results80, go_sem, q0, q1, q2, q3, q4, q5, q6, q7, q8, q9, q10, q11]; try rfl, rfl, B9⟩)
set_option maxRecDepth 100000 in
set_option maxHeartbeats 4000000 in
theorem toldWithCal (rk rm rd ra rb rc rp xc xy xs xm xd : Int) (rt : Bool) (rf : ByteArray) (w : World) : CR 81 #[.agg #[.int .i64 rk, .int .i64 rm, .int .i64 rd, .int .i64 ra, .int .i64 rb, .int .i64 rc, .bool rt, .string rf, .int .i64 rp, .int .i64 xc, .int .i64 xy, .int .i64 xs, .int .i64 xm, .int .i64 xd]] w (.agg #[.int .i64 rk, .int .i64 rm, .int .i64 rd, .int .i64 ra, .int .i64 rb, .int .i64 rc, .bool rt, .string rf, .int .i64 rp, .int .i64 xy, .int .i64 (-1), .int .i64 xc]) := by
 obtain ⟨W0, hW0, hD, hC, hB⟩ := boxR w #[.int .i64 rk, .int .i64 rm, .int .i64 rd, .int .i64 ra, .int .i64 rb, .int .i64 rc, .bool rt, .string rf, .int .i64 rp, .int .i64 xc, .int .i64 xy, .int .i64 xs, .int .i64 xm, .int .i64 xd] 71 #[.int .i64 0, .int .i64 0, .int .i64 0, .int .i64 0, .int .i64 0, .int .i64 0, .bool false, .string ⟨#[]⟩, .int .i64 0, .int .i64 0, .int .i64 0, .int .i64 0] 44
 have HBl := hideP hB.out
 have HC := hideP hC.out
 have HW0 := hideP hW0
 have HD := hideP hD.out
 obtain ⟨d0, d1, d2, d3, d4, d5, d6, d7, d8, d9, d10, d11, d12, d13⟩ := cells14 HD.out
 clear hW0 hD hC hB
 have KC : ∀ z : Later W0, CR 80 #[.agg #[.int .i64 rk, .int .i64 rm, .int .i64 rd, .int .i64 ra, .int .i64 rb, .int .i64 rc, .bool rt, .string rf, .int .i64 rp, .int .i64 xc, .int .i64 xy, .int .i64 xs, .int .i64 xm, .int .i64 xd]] z.w (.agg #[.int .i64 rk, .int .i64 rm, .int .i64 rd, .int .i64 ra, .int .i64 rb, .int .i64 rc, .bool rt, .string rf, .int .i64 rp, .int .i64 xy, .int .i64 (-1), .int .i64 (-1)]) := fun z => toldBare rk rm rd ra rb rc rp xc xy xs xm xd rt rf z.w
 go_enter Tryz.func81, Tryz.ntmps81
 go_upto_region 1 with fail
 rw [← HW0.out]
 obtain ⟨y0, hy0⟩ : ∃ y0 : Later W0, W0 = y0.w := ⟨⟨W0, Below.refl _ _⟩, rfl⟩
 rw [hy0]
 go_wp2_with fail
 refine lat (KC y0) fun x1 => ?_
 obtain ⟨x2, hx2, Z2⟩ := x1.fresh #[.int .i64 rk, .int .i64 rm, .int .i64 rd, .int .i64 ra, .int .i64 rb, .int .i64 rc, .bool rt, .string rf, .int .i64 rp, .int .i64 xy, .int .i64 (-1), .int .i64 (-1)] 44
 have HX2 := hideP hx2
 clear hx2
 go_upto_region 2 with fail
 rw [HX2.out]
 clear HX2
 have u0 := Z2.out.thaw 11
 have v0 := Z2.out.cell 11 rfl
 go_upto_region 3 with fail
 obtain ⟨x3, hx3⟩ : ∃ x3 : Later W0, x2.w.setCell ⟨x1.w.heap.size, 11, none⟩ (.int .i64 xc) = x3.w := ⟨⟨_, below_store x2.below _ x1.below.size⟩, rfl⟩
 have Z3 : Hid (Blk x3.w x1.w.heap.size #[.int .i64 rk, .int .i64 rm, .int .i64 rd, .int .i64 ra, .int .i64 rb, .int .i64 rc, .bool rt, .string rf, .int .i64 rp, .int .i64 xy, .int .i64 (-1), .int .i64 xc] 44) := by unfold Hid; rw [← hx3]; exact Z2.out.set 11 _
 have HX3 := hideP hx3
 clear hx3 u0 v0 Z2
 rw [HX3.out]
 clear HX3
 obtain ⟨y0, y1, y2, y3, y4, y5, y6, y7, y8, y9, y10, y11⟩ := Z3.out.cells12
 obtain ⟨c0, c1, c2, c3, c4, c5, c6, c7, c8, c9, c10, c11, t0, t1, t2, t3, t4, t5, t6, t7, t8, t9, t10, t11⟩ := tlv_facts HC.out x3
 go_wp2
 exact ret12 (HC.out x3) (HBl.out x3) (by omega) rfl (fun _ q0 q1 q2 q3 q4 q5 q6 q7 q8 q9 q10 q11 B9 => ⟨by simp [results, Tryz.results81, go_sem, q0, q1, q2, q3, q4, q5, q6, q7, q8, q9, q10, q11]; try rfl, rfl, B9⟩)
set_option maxRecDepth 100000 in
set_option maxHeartbeats 4000000 in
theorem toldWithSolar (rk rm rd ra rb rc rp xc xy xs xm xd : Int) (rt : Bool) (rf : ByteArray) (w : World) : CR 82 #[.agg #[.int .i64 rk, .int .i64 rm, .int .i64 rd, .int .i64 ra, .int .i64 rb, .int .i64 rc, .bool rt, .string rf, .int .i64 rp, .int .i64 xc, .int .i64 xy, .int .i64 xs, .int .i64 xm, .int .i64 xd]] w (.agg #[.int .i64 rk, .int .i64 rm, .int .i64 rd, .int .i64 ra, .int .i64 rb, .int .i64 rc, .bool rt, .string rf, .int .i64 rp, .int .i64 xy, .int .i64 xs, .int .i64 (-1)]) := by
 obtain ⟨W0, hW0, hD, hC, hB⟩ := boxR w #[.int .i64 rk, .int .i64 rm, .int .i64 rd, .int .i64 ra, .int .i64 rb, .int .i64 rc, .bool rt, .string rf, .int .i64 rp, .int .i64 xc, .int .i64 xy, .int .i64 xs, .int .i64 xm, .int .i64 xd] 71 #[.int .i64 0, .int .i64 0, .int .i64 0, .int .i64 0, .int .i64 0, .int .i64 0, .bool false, .string ⟨#[]⟩, .int .i64 0, .int .i64 0, .int .i64 0, .int .i64 0] 44
 have HBl := hideP hB.out
 have HC := hideP hC.out
 have HW0 := hideP hW0
 have HD := hideP hD.out
 obtain ⟨d0, d1, d2, d3, d4, d5, d6, d7, d8, d9, d10, d11, d12, d13⟩ := cells14 HD.out
 clear hW0 hD hC hB
 have KC : ∀ z : Later W0, CR 80 #[.agg #[.int .i64 rk, .int .i64 rm, .int .i64 rd, .int .i64 ra, .int .i64 rb, .int .i64 rc, .bool rt, .string rf, .int .i64 rp, .int .i64 xc, .int .i64 xy, .int .i64 xs, .int .i64 xm, .int .i64 xd]] z.w (.agg #[.int .i64 rk, .int .i64 rm, .int .i64 rd, .int .i64 ra, .int .i64 rb, .int .i64 rc, .bool rt, .string rf, .int .i64 rp, .int .i64 xy, .int .i64 (-1), .int .i64 (-1)]) := fun z => toldBare rk rm rd ra rb rc rp xc xy xs xm xd rt rf z.w
 go_enter Tryz.func82, Tryz.ntmps82
 go_upto_region 1 with fail
 rw [← HW0.out]
 obtain ⟨y0, hy0⟩ : ∃ y0 : Later W0, W0 = y0.w := ⟨⟨W0, Below.refl _ _⟩, rfl⟩
 rw [hy0]
 go_wp2_with fail
 refine lat (KC y0) fun x1 => ?_
 obtain ⟨x2, hx2, Z2⟩ := x1.fresh #[.int .i64 rk, .int .i64 rm, .int .i64 rd, .int .i64 ra, .int .i64 rb, .int .i64 rc, .bool rt, .string rf, .int .i64 rp, .int .i64 xy, .int .i64 (-1), .int .i64 (-1)] 44
 have HX2 := hideP hx2
 clear hx2
 go_upto_region 2 with fail
 rw [HX2.out]
 clear HX2
 have u0 := Z2.out.thaw 10
 have v0 := Z2.out.cell 10 rfl
 go_upto_region 3 with fail
 obtain ⟨x3, hx3⟩ : ∃ x3 : Later W0, x2.w.setCell ⟨x1.w.heap.size, 10, none⟩ (.int .i64 xs) = x3.w := ⟨⟨_, below_store x2.below _ x1.below.size⟩, rfl⟩
 have Z3 : Hid (Blk x3.w x1.w.heap.size #[.int .i64 rk, .int .i64 rm, .int .i64 rd, .int .i64 ra, .int .i64 rb, .int .i64 rc, .bool rt, .string rf, .int .i64 rp, .int .i64 xy, .int .i64 xs, .int .i64 (-1)] 44) := by unfold Hid; rw [← hx3]; exact Z2.out.set 10 _
 have HX3 := hideP hx3
 clear hx3 u0 v0 Z2
 rw [HX3.out]
 clear HX3
 obtain ⟨y0, y1, y2, y3, y4, y5, y6, y7, y8, y9, y10, y11⟩ := Z3.out.cells12
 obtain ⟨c0, c1, c2, c3, c4, c5, c6, c7, c8, c9, c10, c11, t0, t1, t2, t3, t4, t5, t6, t7, t8, t9, t10, t11⟩ := tlv_facts HC.out x3
 go_wp2
 exact ret12 (HC.out x3) (HBl.out x3) (by omega) rfl (fun _ q0 q1 q2 q3 q4 q5 q6 q7 q8 q9 q10 q11 B9 => ⟨by simp [results, Tryz.results82, go_sem, q0, q1, q2, q3, q4, q5, q6, q7, q8, q9, q10, q11]; try rfl, rfl, B9⟩)
set_option maxRecDepth 100000 in
set_option maxHeartbeats 4000000 in
theorem toldWithBoth (rk rm rd ra rb rc rp xc xy xs xm xd : Int) (rt : Bool) (rf : ByteArray) (w : World) : CR 83 #[.agg #[.int .i64 rk, .int .i64 rm, .int .i64 rd, .int .i64 ra, .int .i64 rb, .int .i64 rc, .bool rt, .string rf, .int .i64 rp, .int .i64 xc, .int .i64 xy, .int .i64 xs, .int .i64 xm, .int .i64 xd]] w (.agg #[.int .i64 rk, .int .i64 rm, .int .i64 rd, .int .i64 ra, .int .i64 rb, .int .i64 rc, .bool rt, .string rf, .int .i64 rp, .int .i64 xy, .int .i64 xs, .int .i64 xc]) := by
 obtain ⟨W0, hW0, hD, hC, hB⟩ := boxR w #[.int .i64 rk, .int .i64 rm, .int .i64 rd, .int .i64 ra, .int .i64 rb, .int .i64 rc, .bool rt, .string rf, .int .i64 rp, .int .i64 xc, .int .i64 xy, .int .i64 xs, .int .i64 xm, .int .i64 xd] 71 #[.int .i64 0, .int .i64 0, .int .i64 0, .int .i64 0, .int .i64 0, .int .i64 0, .bool false, .string ⟨#[]⟩, .int .i64 0, .int .i64 0, .int .i64 0, .int .i64 0] 44
 have HBl := hideP hB.out
 have HC := hideP hC.out
 have HW0 := hideP hW0
 have HD := hideP hD.out
 obtain ⟨d0, d1, d2, d3, d4, d5, d6, d7, d8, d9, d10, d11, d12, d13⟩ := cells14 HD.out
 clear hW0 hD hC hB
 have KC : ∀ z : Later W0, CR 81 #[.agg #[.int .i64 rk, .int .i64 rm, .int .i64 rd, .int .i64 ra, .int .i64 rb, .int .i64 rc, .bool rt, .string rf, .int .i64 rp, .int .i64 xc, .int .i64 xy, .int .i64 xs, .int .i64 xm, .int .i64 xd]] z.w (.agg #[.int .i64 rk, .int .i64 rm, .int .i64 rd, .int .i64 ra, .int .i64 rb, .int .i64 rc, .bool rt, .string rf, .int .i64 rp, .int .i64 xy, .int .i64 (-1), .int .i64 xc]) := fun z => toldWithCal rk rm rd ra rb rc rp xc xy xs xm xd rt rf z.w
 go_enter Tryz.func83, Tryz.ntmps83
 go_upto_region 1 with fail
 rw [← HW0.out]
 obtain ⟨y0, hy0⟩ : ∃ y0 : Later W0, W0 = y0.w := ⟨⟨W0, Below.refl _ _⟩, rfl⟩
 rw [hy0]
 go_wp2_with fail
 refine lat (KC y0) fun x1 => ?_
 obtain ⟨x2, hx2, Z2⟩ := x1.fresh #[.int .i64 rk, .int .i64 rm, .int .i64 rd, .int .i64 ra, .int .i64 rb, .int .i64 rc, .bool rt, .string rf, .int .i64 rp, .int .i64 xy, .int .i64 (-1), .int .i64 xc] 44
 have HX2 := hideP hx2
 clear hx2
 go_upto_region 2 with fail
 rw [HX2.out]
 clear HX2
 have u0 := Z2.out.thaw 10
 have v0 := Z2.out.cell 10 rfl
 go_upto_region 3 with fail
 obtain ⟨x3, hx3⟩ : ∃ x3 : Later W0, x2.w.setCell ⟨x1.w.heap.size, 10, none⟩ (.int .i64 xs) = x3.w := ⟨⟨_, below_store x2.below _ x1.below.size⟩, rfl⟩
 have Z3 : Hid (Blk x3.w x1.w.heap.size #[.int .i64 rk, .int .i64 rm, .int .i64 rd, .int .i64 ra, .int .i64 rb, .int .i64 rc, .bool rt, .string rf, .int .i64 rp, .int .i64 xy, .int .i64 xs, .int .i64 xc] 44) := by unfold Hid; rw [← hx3]; exact Z2.out.set 10 _
 have HX3 := hideP hx3
 clear hx3 u0 v0 Z2
 rw [HX3.out]
 clear HX3
 obtain ⟨y0, y1, y2, y3, y4, y5, y6, y7, y8, y9, y10, y11⟩ := Z3.out.cells12
 obtain ⟨c0, c1, c2, c3, c4, c5, c6, c7, c8, c9, c10, c11, t0, t1, t2, t3, t4, t5, t6, t7, t8, t9, t10, t11⟩ := tlv_facts HC.out x3
 go_wp2
 exact ret12 (HC.out x3) (HBl.out x3) (by omega) rfl (fun _ q0 q1 q2 q3 q4 q5 q6 q7 q8 q9 q10 q11 B9 => ⟨by simp [results, Tryz.results83, go_sem, q0, q1, q2, q3, q4, q5, q6, q7, q8, q9, q10, q11]; try rfl, rfl, B9⟩)
set_option maxRecDepth 100000 in
set_option maxHeartbeats 4000000 in
theorem implSayings (rk rm rd ra rb rc rp xc xy xs xm xd : Int) (rt : Bool) (rf : ByteArray) (w : World) : CR 47 #[.agg #[.int .i64 rk, .int .i64 rm, .int .i64 rd, .int .i64 ra, .int .i64 rb, .int .i64 rc, .bool rt, .string rf, .int .i64 rp, .int .i64 xc, .int .i64 xy, .int .i64 xs, .int .i64 xm, .int .i64 xd]] w (.agg #[.func (.func 80) #[.agg #[.int .i64 rk, .int .i64 rm, .int .i64 rd, .int .i64 ra, .int .i64 rb, .int .i64 rc, .bool rt, .string rf, .int .i64 rp, .int .i64 xc, .int .i64 xy, .int .i64 xs, .int .i64 xm, .int .i64 xd]] #[], .func (.func 81) #[.agg #[.int .i64 rk, .int .i64 rm, .int .i64 rd, .int .i64 ra, .int .i64 rb, .int .i64 rc, .bool rt, .string rf, .int .i64 rp, .int .i64 xc, .int .i64 xy, .int .i64 xs, .int .i64 xm, .int .i64 xd]] #[], .func (.func 82) #[.agg #[.int .i64 rk, .int .i64 rm, .int .i64 rd, .int .i64 ra, .int .i64 rb, .int .i64 rc, .bool rt, .string rf, .int .i64 rp, .int .i64 xc, .int .i64 xy, .int .i64 xs, .int .i64 xm, .int .i64 xd]] #[], .func (.func 83) #[.agg #[.int .i64 rk, .int .i64 rm, .int .i64 rd, .int .i64 ra, .int .i64 rb, .int .i64 rc, .bool rt, .string rf, .int .i64 rp, .int .i64 xc, .int .i64 xy, .int .i64 xs, .int .i64 xm, .int .i64 xd]] #[]]) := by
 obtain ⟨W0, hW0, hD, hC, hB⟩ := boxR w #[.int .i64 rk, .int .i64 rm, .int .i64 rd, .int .i64 ra, .int .i64 rb, .int .i64 rc, .bool rt, .string rf, .int .i64 rp, .int .i64 xc, .int .i64 xy, .int .i64 xs, .int .i64 xm, .int .i64 xd] 71 #[.nilFunc, .nilFunc, .nilFunc, .nilFunc] 82
 have HBl := hideP hB.out
 have HC := hideP hC.out
 have HW0 := hideP hW0
 have HD := hideP hD.out
 obtain ⟨d0, d1, d2, d3, d4, d5, d6, d7, d8, d9, d10, d11, d12, d13⟩ := cells14 HD.out
 clear hW0 hD hC hB
 obtain ⟨y0, hy0⟩ : ∃ y0 : Later W0, W0 = y0.w := ⟨⟨W0, Below.refl _ _⟩, rfl⟩
 have hmf : ∀ (fn : Fn) (first cap : Array Value) (w : World), (Instr.makeFunc fn first cap).run Tryz.prog w = .ok (.func fn first cap) w := fun _ _ _ _ => rfl
 go_enter Tryz.func47, Tryz.ntmps47
 go_upto_region 1 with fail
 rw [← HW0.out, hy0]
 obtain ⟨c0, c1, c2, c3, t0, t1, t2, t3⟩ := fur_facts HC.out y0
 go_wp2
 exact ret4 (HC.out y0) (HBl.out y0) (by omega) rfl (fun _ q0 q1 q2 q3 B9 => ⟨by simp [results, Tryz.results47, go_sem, q0, q1, q2, q3]; try rfl, rfl, B9⟩)
noncomputable def mkdB (r : Rgm) (n k m : Int) : Bool := tellK r n k && (decide (0 ≤ m) && decide (m ≤ 3))
abbrev say0 : Say := ⟨whn0, 0, 0, 0⟩
noncomputable def mkdSo (x : Rdg) (m : Int) : Int := if m = 2 ∨ m = 3 then x.sol else -1
noncomputable def mkdCa (x : Rdg) (m : Int) : Int := if m = 1 ∨ m = 3 then x.cal else -1
noncomputable def mkdS (r : Rgm) (n k m : Int) : Say := if mkdB r n k m = true then ⟨tellW r n k, (tellX r n k).year, mkdSo (tellX r n k) m, mkdCa (tellX r n k) m⟩ else say0
set_option maxRecDepth 100000 in
set_option maxHeartbeats 16000000 in
theorem implMarked (v : Value) (r : Rgm) (n k m : Int) (q : Addr) (w : World) (h : GRow w v r) (ht : r.to ≤ 9223372036854775807) (hE : ErrT w) (hT : Tab w) (hP : Pow w) (hS : Sent w q) : CR 16 #[v, .int .i64 n, .int .i64 k, .int .i64 m] w (.tuple #[sayV (mkdS r n k m), .bool (mkdB r n k m)]) := by
 have hG := h
 obtain ⟨v1, v2, v3, rfl, _⟩ := h
 obtain ⟨W0, hW0, hD, hC, hB⟩ := boxR w #[.string r.name, .int .i64 r.fr, .int .i64 r.to, v1, v2, v3, .int .i64 r.rule] 38 #[.int .i64 0, .int .i64 0, .int .i64 0, .int .i64 0, .int .i64 0, .int .i64 0, .bool false, .string ⟨#[]⟩, .int .i64 0, .int .i64 0, .int .i64 0, .int .i64 0] 44
 have HBl := hideP hB.out
 have HC := hideP hC.out
 have HW0 := hideP hW0
 obtain ⟨d0, d1, d2, d3, d4, d5, d6⟩ := sevenL hD.out
 have KR : ∀ z : Later W0, CR 40 #[.agg #[.string r.name, .int .i64 r.fr, .int .i64 r.to, v1, v2, v3, .int .i64 r.rule], .int .i64 n, .int .i64 k] z.w (.tuple #[toldV (tellW r n k) (tellX r n k), .bool (tellK r n k)]) := fun z => implTellDay _ r n k q z.w (hG.below (HBl.out z)) ht (hE.below (HBl.out z)) (hT.later (HBl.out z)) (pow_later hP (HBl.out z)) (hS.later (HBl.out z))
 obtain ⟨fb, hfb⟩ : ∃ fb, fb = mkdB r n k m := ⟨_, rfl⟩
 obtain ⟨A, hA⟩ : ∃ A, A = mkdS r n k m := ⟨_, rfl⟩
 rw [← hA, ← hfb]
 unfold mkdS at hA
 rw [← hfb] at hA
 unfold mkdB at hfb
 clear hW0 hD hC hB hE hT hP hS hG ht
 generalize tellW r n k = R at *
 generalize tellK r n k = fo at *
 generalize tellX r n k = X at *
 obtain ⟨rk, rm, rd, ⟨ra, rb, rc, rt⟩, rf, rp⟩ := R
 obtain ⟨xc, xy, xs, xm, xd⟩ := X
 go_enter Tryz.func16, Tryz.ntmps16
 go_wp2_with fail
 rw [← HW0.out]
 refine latO (KR ⟨W0, Below.refl _ _⟩) fun x1 => ?_
 obtain ⟨x2, hx2, Z2⟩ := x1.fresh #[.int .i64 rk, .int .i64 rm, .int .i64 rd, .int .i64 ra, .int .i64 rb, .int .i64 rc, .bool rt, .string rf, .int .i64 rp, .int .i64 xc, .int .i64 xy, .int .i64 xs, .int .i64 xm, .int .i64 xd] 71
 have HX2 := hideP hx2
 clear hx2
 go_upto_region 2 with fail
 rw [HX2.out]
 clear HX2
 obtain ⟨y0, y1, y2, y3, y4, y5, y6, y7, y8, y9, y10, y11, y12, y13⟩ := Z2.out.cells14
 go_wp2_with fail
 refine lat (implSayings rk rm rd ra rb rc rp xc xy xs xm xd rt rf x2.w) fun x3 => ?_
 clear y0 y1 y2 y3 y4 y5 y6 y7 y8 y9 y10 y11 y12 y13
 obtain ⟨x4, hx4, Z4⟩ := x3.fresh #[.func (.func 80) #[.agg #[.int .i64 rk, .int .i64 rm, .int .i64 rd, .int .i64 ra, .int .i64 rb, .int .i64 rc, .bool rt, .string rf, .int .i64 rp, .int .i64 xc, .int .i64 xy, .int .i64 xs, .int .i64 xm, .int .i64 xd]] #[], .func (.func 81) #[.agg #[.int .i64 rk, .int .i64 rm, .int .i64 rd, .int .i64 ra, .int .i64 rb, .int .i64 rc, .bool rt, .string rf, .int .i64 rp, .int .i64 xc, .int .i64 xy, .int .i64 xs, .int .i64 xm, .int .i64 xd]] #[], .func (.func 82) #[.agg #[.int .i64 rk, .int .i64 rm, .int .i64 rd, .int .i64 ra, .int .i64 rb, .int .i64 rc, .bool rt, .string rf, .int .i64 rp, .int .i64 xc, .int .i64 xy, .int .i64 xs, .int .i64 xm, .int .i64 xd]] #[], .func (.func 83) #[.agg #[.int .i64 rk, .int .i64 rm, .int .i64 rd, .int .i64 ra, .int .i64 rb, .int .i64 rc, .bool rt, .string rf, .int .i64 rp, .int .i64 xc, .int .i64 xy, .int .i64 xs, .int .i64 xm, .int .i64 xd]] #[]] 82
 have HX4 := hideP hx4
 clear hx4
 go_upto_region 3 with fail
 rw [HX4.out]
 clear HX4
 cases fo
 · obtain rfl : fb = false := hfb.trans (Bool.false_and _)
   obtain rfl : A = say0 := hA.trans (if_neg (by simp))
   clear hfb hA
   obtain ⟨c0, c1, c2, c3, c4, c5, c6, c7, c8, c9, c10, c11, t0, t1, t2, t3, t4, t5, t6, t7, t8, t9, t10, t11⟩ := tlv_facts HC.out x4
   go_wp2
   exact ret12 (HC.out x4) (HBl.out x4) (by omega) rfl (fun _ q0 q1 q2 q3 q4 q5 q6 q7 q8 q9 q10 q11 B9 => ⟨by simp [results, Tryz.results16, go_sem, q0, q1, q2, q3, q4, q5, q6, q7, q8, q9, q10, q11]; try rfl, rfl, B9⟩)
 by_cases h0 : m < 0
 · obtain rfl : fb = false := hfb.trans (by rw [decide_eq_false (show ¬ 0 ≤ m by omega)]; rfl)
   obtain rfl : A = say0 := hA.trans (if_neg (by simp))
   have hd0 : decide (m < 0) = true := decide_eq_true h0
   clear hfb hA
   obtain ⟨c0, c1, c2, c3, c4, c5, c6, c7, c8, c9, c10, c11, t0, t1, t2, t3, t4, t5, t6, t7, t8, t9, t10, t11⟩ := tlv_facts HC.out x4
   go_wp2
   exact ret12 (HC.out x4) (HBl.out x4) (by omega) rfl (fun _ q0 q1 q2 q3 q4 q5 q6 q7 q8 q9 q10 q11 B9 => ⟨by simp [results, Tryz.results16, go_sem, q0, q1, q2, q3, q4, q5, q6, q7, q8, q9, q10, q11]; try rfl, rfl, B9⟩)
 have hd0 : decide (m < 0) = false := decide_eq_false h0
 by_cases h4 : 4 ≤ m
 · obtain rfl : fb = false := hfb.trans (by rw [decide_eq_false (show ¬ m ≤ 3 by omega)]; exact Bool.and_false _)
   obtain rfl : A = say0 := hA.trans (if_neg (by simp))
   have hd4 : decide (4 ≤ m) = true := decide_eq_true h4
   clear hfb hA
   obtain ⟨c0, c1, c2, c3, c4, c5, c6, c7, c8, c9, c10, c11, t0, t1, t2, t3, t4, t5, t6, t7, t8, t9, t10, t11⟩ := tlv_facts HC.out x4
   go_wp2
   exact ret12 (HC.out x4) (HBl.out x4) (by omega) rfl (fun _ q0 q1 q2 q3 q4 q5 q6 q7 q8 q9 q10 q11 B9 => ⟨by simp [results, Tryz.results16, go_sem, q0, q1, q2, q3, q4, q5, q6, q7, q8, q9, q10, q11]; try rfl, rfl, B9⟩)
 obtain rfl : fb = true := hfb.trans (by rw [decide_eq_true (show 0 ≤ m by omega), decide_eq_true (show m ≤ 3 by omega)]; rfl)
 replace hA := hA.trans (if_pos rfl)
 clear hfb hd0
 have hm : m = 0 ∨ m = 1 ∨ m = 2 ∨ m = 3 := by omega
 clear h0 h4
 rcases hm with rfl | rfl | rfl | rfl
 focus
   obtain rfl : A = ⟨⟨rk, rm, rd, ⟨ra, rb, rc, rt⟩, rf, rp⟩, xy, (-1), (-1)⟩ := hA
   have f0 := Z4.out.cell 0 rfl
   go_wp2_with fail
   refine lat (toldBare rk rm rd ra rb rc rp xc xy xs xm xd rt rf x4.w) fun x5 => ?_
   clear f0
 rotate_left
 focus
   obtain rfl : A = ⟨⟨rk, rm, rd, ⟨ra, rb, rc, rt⟩, rf, rp⟩, xy, (-1), xc⟩ := hA
   have f1 := Z4.out.cell 1 rfl
   go_wp2_with fail
   refine lat (toldWithCal rk rm rd ra rb rc rp xc xy xs xm xd rt rf x4.w) fun x5 => ?_
   clear f1
 rotate_left
 focus
   obtain rfl : A = ⟨⟨rk, rm, rd, ⟨ra, rb, rc, rt⟩, rf, rp⟩, xy, xs, (-1)⟩ := hA
   have f2 := Z4.out.cell 2 rfl
   go_wp2_with fail
   refine lat (toldWithSolar rk rm rd ra rb rc rp xc xy xs xm xd rt rf x4.w) fun x5 => ?_
   clear f2
 rotate_left
 focus
   obtain rfl : A = ⟨⟨rk, rm, rd, ⟨ra, rb, rc, rt⟩, rf, rp⟩, xy, xs, xc⟩ := hA
   have f3 := Z4.out.cell 3 rfl
   go_wp2_with fail
   refine lat (toldWithBoth rk rm rd ra rb rc rp xc xy xs xm xd rt rf x4.w) fun x5 => ?_
   clear f3
 rotate_left
 all_goals
  obtain ⟨c0, c1, c2, c3, c4, c5, c6, c7, c8, c9, c10, c11, t0, t1, t2, t3, t4, t5, t6, t7, t8, t9, t10, t11⟩ := tlv_facts HC.out x5
  go_wp2
  exact ret12 (HC.out x5) (HBl.out x5) (by omega) rfl (fun _ q0 q1 q2 q3 q4 q5 q6 q7 q8 q9 q10 q11 B9 => ⟨by simp [results, Tryz.results16, go_sem, q0, q1, q2, q3, q4, q5, q6, q7, q8, q9, q10, q11]; try rfl, rfl, B9⟩)
end Go.Proofs.YtdmlhiailjnhcaaGreatDoor.ctr
