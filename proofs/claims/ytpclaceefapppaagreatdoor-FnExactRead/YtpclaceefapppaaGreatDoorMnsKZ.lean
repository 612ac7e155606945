/- Contracts of the kinds' own methods: whether a reading or a date is one of theirs. -/
import Derived.Test.YtpclaceefapppaaGreatDoorJnZad
import Derived.Test.YtpclaceefapppaaGreatDoorJnZbf
import Derived.Test.YtpclaceefapppaaGreatDoorJnZas
import Derived.Test.YtpclaceefapppaaGreatDoorJnZan
import Derived.Laws.StructEq
import Derived.KernelRfl
set_option maxHeartbeats 4000000
namespace Go.Proofs.YtpclaceefapppaaGreatDoor.ctr
open Go.RowKit
theorem dayIsReading (m d : Int) (x : Rdg) (w : World) : CR 376 #[.agg #[.int .i64 m, .int .i64 d], rdgV x] w (.bool (x.mon == m && x.day == d)) := by
 by_cases h1 : x.mon = m
 · have e1 : (x.mon == m) = true := by simpa using h1
   rw [e1, Bool.true_and]
   go_enter Tryz.func376, Tryz.ntmps376
   go_wp2_with fail
   go_ret
   exact ⟨rfl, below_alloc (below_alloc (Below.refl _ _))⟩
 · have e1 : (x.mon == m) = false := by simpa using h1
   rw [e1, Bool.false_and]
   go_enter Tryz.func376, Tryz.ntmps376
   go_wp2_with fail
   go_ret
   exact ⟨rfl, below_alloc (below_alloc (Below.refl _ _))⟩
def romEq (p q : Rom) : Bool := p.count == q.count && (p.mark == q.mark && (p.month == q.month && p.twice == q.twice))
@[go_sem] theorem eqRomB (a b c : Int) (t : Bool) (a' b' c' : Int) (t' : Bool) (w : World) : (Op.equalIn 10000 54 (.agg #[.int .i64 a, .int .i64 b, .int .i64 c, .bool t]) (.agg #[.int .i64 a', .int .i64 b', .int .i64 c', .bool t'])).run Tryz.prog w = .ok (romEq ⟨a, b, c, t⟩ ⟨a', b', c', t'⟩) w := by
 unfold romEq
 cases hA : (a == a') <;> cases hB : (b == b') <;> cases hC : (c == c') <;> cases hD : (t == t')
 all_goals first | (go_simp; done) | (go_simp; simp [hA, hB, hC, hD])
theorem romIsDate (a b c : Int) (t : Bool) (dc dy dm dd : Int) (w : World) (hT : Tab w) : CR 379 #[.agg #[.int .i64 a, .int .i64 b, .int .i64 c, .bool t], .agg #[.int .i64 dc, .int .i64 dy, .int .i64 dm, .int .i64 dd]] w (.bool (romEq (romanOf dc dy dm dd) ⟨a, b, c, t⟩)) := by
 obtain ⟨W0, hW0, hD, hR, hBl⟩ := two_box w #[.int .i64 a, .int .i64 b, .int .i64 c, .bool t] #[.int .i64 dc, .int .i64 dy, .int .i64 dm, .int .i64 dd] 220 161
 obtain ⟨c0, c1, c2, c3⟩ := cells4 hD
 obtain ⟨d0, d1, d2, d3⟩ := cells4 hR
 have K : ∀ x : Later W0, CR 270 #[.agg #[.int .i64 dc, .int .i64 dy, .int .i64 dm, .int .i64 dd]] x.w (romV (romanOf dc dy dm dd)) := fun x => implRomanOf dc dy dm dd x.w (hT.later (hBl x))
 have HW0 := hideP hW0
 have HBl := hideP hBl
 clear hW0 hD hR hBl hT
 generalize romanOf dc dy dm dd = q at *
 obtain ⟨q0, q1, q2, q3⟩ := q
 have K' : ∀ x : Later W0, CR 270 #[.agg #[.int .i64 dc, .int .i64 dy, .int .i64 dm, .int .i64 dd]] x.w (.agg #[.int .i64 q0, .int .i64 q1, .int .i64 q2, .bool q3]) := K
 clear K
 have KB : ∀ W, Below W0.heap.size W0 W → CR 270 #[.agg #[.int .i64 dc, .int .i64 dy, .int .i64 dm, .int .i64 dd]] W (.agg #[.int .i64 q0, .int .i64 q1, .int .i64 q2, .bool q3]) := fun W hb => K' ⟨W, hb⟩
 have k0 : W0.cell? ⟨w.heap.size, 0, none⟩ = some (.int .i64 a) := c0 ⟨W0, Below.refl _ _⟩
 have k1 : W0.cell? ⟨w.heap.size, 1, none⟩ = some (.int .i64 b) := c1 ⟨W0, Below.refl _ _⟩
 have k2 : W0.cell? ⟨w.heap.size, 2, none⟩ = some (.int .i64 c) := c2 ⟨W0, Below.refl _ _⟩
 have k3 : W0.cell? ⟨w.heap.size, 3, none⟩ = some (.bool t) := c3 ⟨W0, Below.refl _ _⟩
 have l0 : W0.cell? ⟨w.heap.size + 1, 0, none⟩ = some (.int .i64 dc) := d0 ⟨W0, Below.refl _ _⟩
 have l1 : W0.cell? ⟨w.heap.size + 1, 1, none⟩ = some (.int .i64 dy) := d1 ⟨W0, Below.refl _ _⟩
 have l2 : W0.cell? ⟨w.heap.size + 1, 2, none⟩ = some (.int .i64 dm) := d2 ⟨W0, Below.refl _ _⟩
 have l3 : W0.cell? ⟨w.heap.size + 1, 3, none⟩ = some (.int .i64 dd) := d3 ⟨W0, Below.refl _ _⟩
 clear K'
 have D0 : Below W0.heap.size W0 W0.drew := (Below.refl _ _).drew
 obtain ⟨B, hB⟩ : ∃ B, B = romEq ⟨q0, q1, q2, q3⟩ ⟨a, b, c, t⟩ := ⟨_, rfl⟩
 rw [← hB]
 have HB := hideP hB
 clear hB
 by_cases h0 : q0 = a
 case neg =>
  obtain rfl : B = false := by rw [HB.out]; simp [romEq, h0]
  clear HB
  go_enter Tryz.func379, Tryz.ntmps379
  go_wp2_with fail
  rw [← HW0.out]
  go_region_with (go_at_call 270; refine (KB _ D0).mono ?_; rintro e w1 ⟨rfl, hb⟩; obtain ⟨x1, rfl⟩ : ∃ x1 : Later W0, w1 = x1.w := ⟨⟨w1, D0.trans (hb.mono D0.size)⟩, rfl⟩; clear hb)
  all_goals go_wp2
  all_goals go_ret
  all_goals exact ⟨rfl, HBl.out x1⟩
 by_cases h1 : q1 = b
 case neg =>
  obtain rfl : B = false := by rw [HB.out]; simp [romEq, h0, h1]
  clear HB
  go_enter Tryz.func379, Tryz.ntmps379
  go_wp2_with fail
  rw [← HW0.out]
  go_region_with (go_at_call 270; refine (KB _ D0).mono ?_; rintro e w1 ⟨rfl, hb⟩; obtain ⟨x1, rfl⟩ : ∃ x1 : Later W0, w1 = x1.w := ⟨⟨w1, D0.trans (hb.mono D0.size)⟩, rfl⟩; clear hb)
  all_goals go_wp2
  all_goals go_ret
  all_goals exact ⟨rfl, HBl.out x1⟩
 by_cases h2 : q2 = c
 case neg =>
  obtain rfl : B = false := by rw [HB.out]; simp [romEq, h0, h1, h2]
  clear HB
  go_enter Tryz.func379, Tryz.ntmps379
  go_wp2_with fail
  rw [← HW0.out]
  go_region_with (go_at_call 270; refine (KB _ D0).mono ?_; rintro e w1 ⟨rfl, hb⟩; obtain ⟨x1, rfl⟩ : ∃ x1 : Later W0, w1 = x1.w := ⟨⟨w1, D0.trans (hb.mono D0.size)⟩, rfl⟩; clear hb)
  all_goals go_wp2
  all_goals go_ret
  all_goals exact ⟨rfl, HBl.out x1⟩
 by_cases h3 : q3 = t
 case neg =>
  obtain rfl : B = false := by rw [HB.out]; simp [romEq, h0, h1, h2, h3]
  clear HB
  go_enter Tryz.func379, Tryz.ntmps379
  go_wp2_with fail
  rw [← HW0.out]
  go_region_with (go_at_call 270; refine (KB _ D0).mono ?_; rintro e w1 ⟨rfl, hb⟩; obtain ⟨x1, rfl⟩ : ∃ x1 : Later W0, w1 = x1.w := ⟨⟨w1, D0.trans (hb.mono D0.size)⟩, rfl⟩; clear hb)
  all_goals go_wp2
  all_goals go_ret
  all_goals exact ⟨rfl, HBl.out x1⟩
 obtain rfl : B = true := by rw [HB.out]; simp [romEq, h0, h1, h2, h3]
 clear HB
 go_enter Tryz.func379, Tryz.ntmps379
 go_wp2_with fail
 rw [← HW0.out]
 go_region_with (go_at_call 270; refine (KB _ D0).mono ?_; rintro e w1 ⟨rfl, hb⟩; obtain ⟨x1, rfl⟩ : ∃ x1 : Later W0, w1 = x1.w := ⟨⟨w1, D0.trans (hb.mono D0.size)⟩, rfl⟩; clear hb)
 all_goals go_wp2
 all_goals go_ret
 all_goals exact ⟨rfl, HBl.out x1⟩
theorem feaDayIn (s : ByteArray) (mv : Bool) (o m d p c y : Int) (w : World) (hs : s.size ≤ maxLen) (hT : Tab w) (hb1 : -1000000 ≤ feaDay c y s mv o m d) (hb2 : feaDay c y s mv o m d ≤ 4000000) (hp1 : 0 ≤ p) (hp2 : p ≤ 99) : CR 381 #[.agg #[.string s, .bool mv, .int .i64 o, .int .i64 m, .int .i64 d, .int .i64 p], .int .i64 c, .int .i64 y] w (.int .i64 (feaDay c y s mv o m d + p)) := by
 obtain ⟨W0, hW0, hC, hBl⟩ := box_any w #[.string s, .bool mv, .int .i64 o, .int .i64 m, .int .i64 d, .int .i64 p] 223
 obtain ⟨c0, c1, c2, c3, c4, c5⟩ := cells6 hC
 have K : ∀ x : Later W0, CR 332 #[.int .i64 c, .int .i64 y, .agg #[.string s, .bool mv, .int .i64 o, .int .i64 m, .int .i64 d]] x.w (.int .i64 (feaDay c y s mv o m d)) := fun x => implFeaDay c y s mv o m d x.w hs (hT.later (hBl x))
 have HW0 := hideP hW0
 have HBl := hideP hBl
 clear hW0 hC hBl hT hs
 generalize feaDay c y s mv o m d = fd at *
 go_enter Tryz.func381, Tryz.ntmps381
 go_wp2_with fail
 rw [← HW0.out]
 refine wp_region_later (W := W0) (Below.refl _ _) (by kernel_rfl) (by kernel_rfl) ?_
 repeat (go_big_quiet_step (first | (go_at_call 332; exact calls_later (K _)) | fail))
 refine quietE fun x1 => ?_
 go_wp2
 go_ret
 exact ⟨rfl, HBl.out x1⟩
theorem feaIsDate (s : ByteArray) (mv : Bool) (o m d p dc dy dm dd : Int) (w : World) (hs : s.size ≤ maxLen) (hT : Tab w) (hb1 : -1000000 ≤ feaDay dc dy s mv o m d) (hb2 : feaDay dc dy s mv o m d ≤ 4000000) (hp1 : 0 ≤ p) (hp2 : p ≤ 99) : CR 382 #[.agg #[.string s, .bool mv, .int .i64 o, .int .i64 m, .int .i64 d, .int .i64 p], .agg #[.int .i64 dc, .int .i64 dy, .int .i64 dm, .int .i64 dd]] w (.bool (feaDay dc dy s mv o m d + p == dayOf dc dy dm dd)) := by
 obtain ⟨W0, hW0, hD, hR, hBl⟩ := two_box w #[.string s, .bool mv, .int .i64 o, .int .i64 m, .int .i64 d, .int .i64 p] #[.int .i64 dc, .int .i64 dy, .int .i64 dm, .int .i64 dd] 223 161
 obtain ⟨c0, c1, c2, c3, c4, c5⟩ := cells6 hD
 obtain ⟨d0, d1, d2, d3⟩ := cells4 hR
 have K1 : ∀ x : Later W0, CR 381 #[.agg #[.string s, .bool mv, .int .i64 o, .int .i64 m, .int .i64 d, .int .i64 p], .int .i64 dc, .int .i64 dy] x.w (.int .i64 (feaDay dc dy s mv o m d + p)) := fun x => feaDayIn s mv o m d p dc dy x.w hs (hT.later (hBl x)) hb1 hb2 hp1 hp2
 have K2 : ∀ x : Later W0, CR 301 #[.agg #[.int .i64 dc, .int .i64 dy, .int .i64 dm, .int .i64 dd]] x.w (.int .i64 (dayOf dc dy dm dd)) := fun x => implDayOf dc dy dm dd x.w (hT.later (hBl x))
 have HW0 := hideP hW0
 have HBl := hideP hBl
 clear hW0 hD hR hBl hT hs hb1 hb2 hp1 hp2
 generalize feaDay dc dy s mv o m d + p = fd at *
 generalize dayOf dc dy dm dd = nd at *
 go_enter Tryz.func382, Tryz.ntmps382
 go_wp2_with fail
 rw [← HW0.out]
 refine wp_region_later (W := W0) (Below.refl _ _) (by kernel_rfl) (by kernel_rfl) ?_
 repeat (go_big_quiet_step (first | (go_at_call 381; exact calls_later (K1 _)) | (go_at_call 301; exact calls_later (K2 _)) | fail))
 refine quietE fun x1 => ?_
 go_wp2
 go_ret
 exact ⟨rfl, HBl.out x1⟩
end Go.Proofs.YtpclaceefapppaaGreatDoor.ctr
