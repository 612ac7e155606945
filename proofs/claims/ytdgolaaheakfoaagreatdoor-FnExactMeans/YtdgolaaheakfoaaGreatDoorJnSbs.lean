/- The model's l12Means and Means. What a law is told of a feast, and of a bool, that comes in; and the contracts of the laws' own szFeast and toFeast. What a law is told of a When and of a saying that comes in; and the contracts of the laws' own szWhen, toWhen, szSaying, toSaying. -/
import Derived.Test.YtdgolaaheakfoaaGreatDoorJnSbr
import Derived.Test.YtdgolaaheakfoaaGreatDoorJnSbk
import Derived.Test.YtdgolaaheakfoaaGreatDoorJnSaj
import Derived.Lib.SmallJoins
import Derived.Test.YtdgolaaheakfoaaGreatDoorJnSbo
namespace Go.Proofs.YtdgolaaheakfoaaGreatDoor.ctr
open Go.RowKit
theorem seg_out {r : Rgm} {n : Int} (hr : regimeB r = true) (h : ¬ (r.fr ≤ n ∧ n ≤ r.to)) : segAt r.segs n = -1 := by
  rcases segAt_cases r.segs n with ⟨k, _⟩ | ⟨j, hj, k, k1, k2⟩
  · exact k
  · have := right_seg hr hj
    omega
noncomputable def meant1 (r : Rgm) (s : Say) (n : Int) : Bool := (decide (r.fr ≤ n) && decide (n ≤ r.to)) && saidB r s n
set_option maxRecDepth 100000 in
set_option maxHeartbeats 8000000 in
theorem specMeans1 (v : Value) (r : Rgm) (s : Say) (n : Int) (w : World) (h : GRow w v r) (hr : regimeB r = true) (hs : sayB s = true) : Calls Tryz.prog 36 #[v, sayV s, .int .i64 n] w fun e w' => e = .returned (.bool (meant1 r s n)) ∧ Below w.heap.size w w' := by
  have hG := h
  obtain ⟨v1, v2, v3, rfl, _⟩ := h
  obtain ⟨⟨k, m, d, ⟨a, b, c, t⟩, f, p⟩, y, so, ca⟩ := s
  have hw : whnB ⟨k, m, d, ⟨a, b, c, t⟩, f, p⟩ = true := by unfold sayB at hs; simp only [Bool.and_eq_true] at hs; exact hs.1
  obtain ⟨W0, hW0, hD, hR, hBl⟩ := two_box w #[.string r.name, .int .i64 r.fr, .int .i64 r.to, v1, v2, v3, .int .i64 r.rule] #[.int .i64 k, .int .i64 m, .int .i64 d, .int .i64 a, .int .i64 b, .int .i64 c, .bool t, .string f, .int .i64 p, .int .i64 y, .int .i64 so, .int .i64 ca] 40 46
  have cr0 : ∀ x : Later W0, x.w.cell? ⟨w.heap.size, 0, none⟩ = some (.string r.name) := fun x => (hD x).cell 0 rfl
  have cr1 : ∀ x : Later W0, x.w.cell? ⟨w.heap.size, 1, none⟩ = some (.int .i64 r.fr) := fun x => (hD x).cell 1 rfl
  have cr2 : ∀ x : Later W0, x.w.cell? ⟨w.heap.size, 2, none⟩ = some (.int .i64 r.to) := fun x => (hD x).cell 2 rfl
  have cr3 : ∀ x : Later W0, x.w.cell? ⟨w.heap.size, 3, none⟩ = some (v1) := fun x => (hD x).cell 3 rfl
  have cr4 : ∀ x : Later W0, x.w.cell? ⟨w.heap.size, 4, none⟩ = some (v2) := fun x => (hD x).cell 4 rfl
  have cr5 : ∀ x : Later W0, x.w.cell? ⟨w.heap.size, 5, none⟩ = some (v3) := fun x => (hD x).cell 5 rfl
  have cr6 : ∀ x : Later W0, x.w.cell? ⟨w.heap.size, 6, none⟩ = some (.int .i64 r.rule) := fun x => (hD x).cell 6 rfl
  have cs0 : ∀ x : Later W0, x.w.cell? ⟨w.heap.size + 1, 0, none⟩ = some (.int .i64 k) := fun x => (hR x).cell 0 rfl
  have cs1 : ∀ x : Later W0, x.w.cell? ⟨w.heap.size + 1, 1, none⟩ = some (.int .i64 m) := fun x => (hR x).cell 1 rfl
  have cs2 : ∀ x : Later W0, x.w.cell? ⟨w.heap.size + 1, 2, none⟩ = some (.int .i64 d) := fun x => (hR x).cell 2 rfl
  have cs3 : ∀ x : Later W0, x.w.cell? ⟨w.heap.size + 1, 3, none⟩ = some (.int .i64 a) := fun x => (hR x).cell 3 rfl
  have cs4 : ∀ x : Later W0, x.w.cell? ⟨w.heap.size + 1, 4, none⟩ = some (.int .i64 b) := fun x => (hR x).cell 4 rfl
  have cs5 : ∀ x : Later W0, x.w.cell? ⟨w.heap.size + 1, 5, none⟩ = some (.int .i64 c) := fun x => (hR x).cell 5 rfl
  have cs6 : ∀ x : Later W0, x.w.cell? ⟨w.heap.size + 1, 6, none⟩ = some (.bool t) := fun x => (hR x).cell 6 rfl
  have cs7 : ∀ x : Later W0, x.w.cell? ⟨w.heap.size + 1, 7, none⟩ = some (.string f) := fun x => (hR x).cell 7 rfl
  have cs8 : ∀ x : Later W0, x.w.cell? ⟨w.heap.size + 1, 8, none⟩ = some (.int .i64 p) := fun x => (hR x).cell 8 rfl
  have cs9 : ∀ x : Later W0, x.w.cell? ⟨w.heap.size + 1, 9, none⟩ = some (.int .i64 y) := fun x => (hR x).cell 9 rfl
  have cs10 : ∀ x : Later W0, x.w.cell? ⟨w.heap.size + 1, 10, none⟩ = some (.int .i64 so) := fun x => (hR x).cell 10 rfl
  have cs11 : ∀ x : Later W0, x.w.cell? ⟨w.heap.size + 1, 11, none⟩ = some (.int .i64 ca) := fun x => (hR x).cell 11 rfl
  have HW0 := hideP hW0
  have HBl := hideP hBl
  obtain ⟨ans, hans⟩ : ∃ ans, ans = meant1 r ⟨⟨k, m, d, ⟨a, b, c, t⟩, f, p⟩, y, so, ca⟩ n := ⟨_, rfl⟩
  rw [← hans]
  by_cases hin : r.fr ≤ n ∧ n ≤ r.to
  case neg =>
    have KR : ∀ W, Below w.heap.size w W → Calls Tryz.prog 48 #[.agg #[.string r.name, .int .i64 r.fr, .int .i64 r.to, v1, v2, v3, .int .i64 r.rule], .int .i64 n] W fun e w' => e = .returned (.tuple #[.agg #[.int .i64 0, .int .i64 0, .int .i64 0, .int .i64 0, .int .i64 0], .bool false]) ∧ Below W.heap.size W w' := fun W hb => specReadNo _ r n W (hG.below hb) (seg_out hr hin)
    obtain rfl : ans = false := hans.trans (by
      unfold meant1
      have : (decide (r.fr ≤ n) && decide (n ≤ r.to)) = false := by
        cases h0 : (decide (r.fr ≤ n) && decide (n ≤ r.to))
        · rfl
        · simp only [Bool.and_eq_true, decide_eq_true_eq] at h0
          exact absurd h0 hin
      rw [this, Bool.false_and])
    clear hW0 hD hR hBl hans hG hr hw hs hin
    go_enter Tryz.func36, Tryz.ntmps36
    go_wp2_with fail
    rw [← HW0.out]
    refine (KR _ (HBl.out ⟨W0, Below.refl _ _⟩)).mono ?_
    rintro e w1 ⟨rfl, hb⟩
    obtain ⟨x1, rfl⟩ := Later.of hb
    clear hb
    obtain ⟨x2, hx2⟩ : ∃ x2 : Later W0, x1.w.alloc (.cells #[.int .i64 0, .int .i64 0, .int .i64 0, .int .i64 0, .int .i64 0] 76) = x2.w := ⟨⟨_, x1.below.alloc x1.below.size _⟩, rfl⟩
    have HX2 := hideP hx2
    clear hx2
    go_upto_region 2 with fail
    rw [HX2.out]
    clear HX2
    go_wp2
    go_ret
    exact ⟨rfl, HBl.out x2⟩
  have KR : ∀ W, Below w.heap.size w W → Calls Tryz.prog 48 #[.agg #[.string r.name, .int .i64 r.fr, .int .i64 r.to, v1, v2, v3, .int .i64 r.rule], .int .i64 n] W fun e w' => e = .returned (.tuple #[rdgV (rdgOn r n), .bool true]) ∧ Below W.heap.size W w' := fun W hb => specRead _ r n W (hG.below hb) hr hin.1 hin.2
  have KI : ∀ W, Below w.heap.size w W → Calls Tryz.prog 76 #[.agg #[.string r.name, .int .i64 r.fr, .int .i64 r.to, v1, v2, v3, .int .i64 r.rule], .agg #[.int .i64 k, .int .i64 m, .int .i64 d, .int .i64 a, .int .i64 b, .int .i64 c, .bool t, .string f, .int .i64 p], rdgV (rdgOn r n), .int .i64 n] W fun e w' => e = .returned (.bool (whenIsB r ⟨k, m, d, ⟨a, b, c, t⟩, f, p⟩ n)) ∧ Below W.heap.size W w' := fun W hb => specWhenIs _ r ⟨k, m, d, ⟨a, b, c, t⟩, f, p⟩ n W (hG.below hb) hr hin.1 hin.2 hw
  have HA : Hid (ans = (headB (rdgOn r n) ⟨⟨k, m, d, ⟨a, b, c, t⟩, f, p⟩, y, so, ca⟩ && whenIsB r ⟨k, m, d, ⟨a, b, c, t⟩, f, p⟩ n)) := hans.trans (by unfold meant1 saidB; rw [decide_eq_true hin.1, decide_eq_true hin.2]; rfl)
  clear hans hin hr hw hs hG hW0 hD hR hBl
  generalize whenIsB r ⟨k, m, d, ⟨a, b, c, t⟩, f, p⟩ n = Q at *
  generalize rdgOn r n = x at *
  obtain ⟨xc, xy, xs, xm, xd⟩ := x
  have HB : Hid (ans = ((xy == y && ((so == -1 || xs == so) && (ca == -1 || xc == ca))) && Q)) := HA.out
  clear HA
  cases e1 : (xy == y)
  case false =>
    obtain rfl : ans = false := HB.out.trans (by rw [e1]; rfl)
    clear HB
    go_enter Tryz.func36, Tryz.ntmps36
    go_wp2_with fail
    rw [← HW0.out]
    refine (KR _ (HBl.out ⟨W0, Below.refl _ _⟩)).mono ?_
    rintro e w1 ⟨rfl, hb⟩
    obtain ⟨x1, rfl⟩ := Later.of hb
    clear hb
    obtain ⟨x2, hx2⟩ : ∃ x2 : Later W0, x1.w.alloc (.cells #[.int .i64 xc, .int .i64 xy, .int .i64 xs, .int .i64 xm, .int .i64 xd] 76) = x2.w := ⟨⟨_, x1.below.alloc x1.below.size _⟩, rfl⟩
    have Z2 : Hid (Blk x2.w x1.w.heap.size #[.int .i64 xc, .int .i64 xy, .int .i64 xs, .int .i64 xm, .int .i64 xd] 76) := by unfold Hid; rw [← hx2]; exact Blk.new _ _ _
    have HX2 := hideP hx2
    clear hx2
    have z0 : x2.w.cell? ⟨x1.w.heap.size, 0, none⟩ = some (.int .i64 xc) := Z2.out.cell 0 rfl
    have z1 : x2.w.cell? ⟨x1.w.heap.size, 1, none⟩ = some (.int .i64 xy) := Z2.out.cell 1 rfl
    have z2 : x2.w.cell? ⟨x1.w.heap.size, 2, none⟩ = some (.int .i64 xs) := Z2.out.cell 2 rfl
    have z3 : x2.w.cell? ⟨x1.w.heap.size, 3, none⟩ = some (.int .i64 xm) := Z2.out.cell 3 rfl
    have z4 : x2.w.cell? ⟨x1.w.heap.size, 4, none⟩ = some (.int .i64 xd) := Z2.out.cell 4 rfl
    go_upto_region 2 with fail
    rw [HX2.out]
    clear HX2 KR
    go_wp2
    go_ret
    exact ⟨rfl, HBl.out x2⟩
  cases e2 : (so == -1)
  case false =>
    cases e3 : (xs == so)
    case false =>
      obtain rfl : ans = false := HB.out.trans (by rw [e1, e2, e3]; rfl)
      clear HB
      go_enter Tryz.func36, Tryz.ntmps36
      go_wp2_with fail
      rw [← HW0.out]
      refine (KR _ (HBl.out ⟨W0, Below.refl _ _⟩)).mono ?_
      rintro e w1 ⟨rfl, hb⟩
      obtain ⟨x1, rfl⟩ := Later.of hb
      clear hb
      obtain ⟨x2, hx2⟩ : ∃ x2 : Later W0, x1.w.alloc (.cells #[.int .i64 xc, .int .i64 xy, .int .i64 xs, .int .i64 xm, .int .i64 xd] 76) = x2.w := ⟨⟨_, x1.below.alloc x1.below.size _⟩, rfl⟩
      have Z2 : Hid (Blk x2.w x1.w.heap.size #[.int .i64 xc, .int .i64 xy, .int .i64 xs, .int .i64 xm, .int .i64 xd] 76) := by unfold Hid; rw [← hx2]; exact Blk.new _ _ _
      have HX2 := hideP hx2
      clear hx2
      have z0 : x2.w.cell? ⟨x1.w.heap.size, 0, none⟩ = some (.int .i64 xc) := Z2.out.cell 0 rfl
      have z1 : x2.w.cell? ⟨x1.w.heap.size, 1, none⟩ = some (.int .i64 xy) := Z2.out.cell 1 rfl
      have z2 : x2.w.cell? ⟨x1.w.heap.size, 2, none⟩ = some (.int .i64 xs) := Z2.out.cell 2 rfl
      have z3 : x2.w.cell? ⟨x1.w.heap.size, 3, none⟩ = some (.int .i64 xm) := Z2.out.cell 3 rfl
      have z4 : x2.w.cell? ⟨x1.w.heap.size, 4, none⟩ = some (.int .i64 xd) := Z2.out.cell 4 rfl
      go_upto_region 2 with fail
      rw [HX2.out]
      clear HX2 KR
      go_wp2
      go_ret
      exact ⟨rfl, HBl.out x2⟩
    cases e4 : (ca == -1)
    case false =>
      cases e5 : (xc == ca)
      case false =>
        obtain rfl : ans = false := HB.out.trans (by rw [e1, e2, e3, e4, e5]; rfl)
        clear HB
        go_enter Tryz.func36, Tryz.ntmps36
        go_wp2_with fail
        rw [← HW0.out]
        refine (KR _ (HBl.out ⟨W0, Below.refl _ _⟩)).mono ?_
        rintro e w1 ⟨rfl, hb⟩
        obtain ⟨x1, rfl⟩ := Later.of hb
        clear hb
        obtain ⟨x2, hx2⟩ : ∃ x2 : Later W0, x1.w.alloc (.cells #[.int .i64 xc, .int .i64 xy, .int .i64 xs, .int .i64 xm, .int .i64 xd] 76) = x2.w := ⟨⟨_, x1.below.alloc x1.below.size _⟩, rfl⟩
        have Z2 : Hid (Blk x2.w x1.w.heap.size #[.int .i64 xc, .int .i64 xy, .int .i64 xs, .int .i64 xm, .int .i64 xd] 76) := by unfold Hid; rw [← hx2]; exact Blk.new _ _ _
        have HX2 := hideP hx2
        clear hx2
        have z0 : x2.w.cell? ⟨x1.w.heap.size, 0, none⟩ = some (.int .i64 xc) := Z2.out.cell 0 rfl
        have z1 : x2.w.cell? ⟨x1.w.heap.size, 1, none⟩ = some (.int .i64 xy) := Z2.out.cell 1 rfl
        have z2 : x2.w.cell? ⟨x1.w.heap.size, 2, none⟩ = some (.int .i64 xs) := Z2.out.cell 2 rfl
        have z3 : x2.w.cell? ⟨x1.w.heap.size, 3, none⟩ = some (.int .i64 xm) := Z2.out.cell 3 rfl
        have z4 : x2.w.cell? ⟨x1.w.heap.size, 4, none⟩ = some (.int .i64 xd) := Z2.out.cell 4 rfl
        go_upto_region 2 with fail
        rw [HX2.out]
        clear HX2 KR
        go_wp2
        go_ret
        exact ⟨rfl, HBl.out x2⟩
      obtain rfl : ans = Q := HB.out.trans (by rw [e1, e2, e3, e4, e5]; rfl)
      clear HB
      go_enter Tryz.func36, Tryz.ntmps36
      go_wp2_with fail
      rw [← HW0.out]
      refine (KR _ (HBl.out ⟨W0, Below.refl _ _⟩)).mono ?_
      rintro e w1 ⟨rfl, hb⟩
      obtain ⟨x1, rfl⟩ := Later.of hb
      clear hb
      obtain ⟨x2, hx2⟩ : ∃ x2 : Later W0, x1.w.alloc (.cells #[.int .i64 xc, .int .i64 xy, .int .i64 xs, .int .i64 xm, .int .i64 xd] 76) = x2.w := ⟨⟨_, x1.below.alloc x1.below.size _⟩, rfl⟩
      have Z2 : Hid (Blk x2.w x1.w.heap.size #[.int .i64 xc, .int .i64 xy, .int .i64 xs, .int .i64 xm, .int .i64 xd] 76) := by unfold Hid; rw [← hx2]; exact Blk.new _ _ _
      have HX2 := hideP hx2
      clear hx2
      have z0 : x2.w.cell? ⟨x1.w.heap.size, 0, none⟩ = some (.int .i64 xc) := Z2.out.cell 0 rfl
      have z1 : x2.w.cell? ⟨x1.w.heap.size, 1, none⟩ = some (.int .i64 xy) := Z2.out.cell 1 rfl
      have z2 : x2.w.cell? ⟨x1.w.heap.size, 2, none⟩ = some (.int .i64 xs) := Z2.out.cell 2 rfl
      have z3 : x2.w.cell? ⟨x1.w.heap.size, 3, none⟩ = some (.int .i64 xm) := Z2.out.cell 3 rfl
      have z4 : x2.w.cell? ⟨x1.w.heap.size, 4, none⟩ = some (.int .i64 xd) := Z2.out.cell 4 rfl
      go_upto_region 2 with fail
      rw [HX2.out]
      clear HX2 KR
      go_wp2_with fail
      refine (KI _ (HBl.out x2)).mono ?_
      rintro e w3 ⟨rfl, hb⟩
      obtain ⟨x3, rfl⟩ := x2.next hb
      clear hb
      go_wp2
      go_ret
      exact ⟨rfl, HBl.out x3⟩
    obtain rfl : ans = Q := HB.out.trans (by rw [e1, e2, e3, e4]; rfl)
    clear HB
    go_enter Tryz.func36, Tryz.ntmps36
    go_wp2_with fail
    rw [← HW0.out]
    refine (KR _ (HBl.out ⟨W0, Below.refl _ _⟩)).mono ?_
    rintro e w1 ⟨rfl, hb⟩
    obtain ⟨x1, rfl⟩ := Later.of hb
    clear hb
    obtain ⟨x2, hx2⟩ : ∃ x2 : Later W0, x1.w.alloc (.cells #[.int .i64 xc, .int .i64 xy, .int .i64 xs, .int .i64 xm, .int .i64 xd] 76) = x2.w := ⟨⟨_, x1.below.alloc x1.below.size _⟩, rfl⟩
    have Z2 : Hid (Blk x2.w x1.w.heap.size #[.int .i64 xc, .int .i64 xy, .int .i64 xs, .int .i64 xm, .int .i64 xd] 76) := by unfold Hid; rw [← hx2]; exact Blk.new _ _ _
    have HX2 := hideP hx2
    clear hx2
    have z0 : x2.w.cell? ⟨x1.w.heap.size, 0, none⟩ = some (.int .i64 xc) := Z2.out.cell 0 rfl
    have z1 : x2.w.cell? ⟨x1.w.heap.size, 1, none⟩ = some (.int .i64 xy) := Z2.out.cell 1 rfl
    have z2 : x2.w.cell? ⟨x1.w.heap.size, 2, none⟩ = some (.int .i64 xs) := Z2.out.cell 2 rfl
    have z3 : x2.w.cell? ⟨x1.w.heap.size, 3, none⟩ = some (.int .i64 xm) := Z2.out.cell 3 rfl
    have z4 : x2.w.cell? ⟨x1.w.heap.size, 4, none⟩ = some (.int .i64 xd) := Z2.out.cell 4 rfl
    go_upto_region 2 with fail
    rw [HX2.out]
    clear HX2 KR
    go_wp2_with fail
    refine (KI _ (HBl.out x2)).mono ?_
    rintro e w3 ⟨rfl, hb⟩
    obtain ⟨x3, rfl⟩ := x2.next hb
    clear hb
    go_wp2
    go_ret
    exact ⟨rfl, HBl.out x3⟩
  cases e4 : (ca == -1)
  case false =>
    cases e5 : (xc == ca)
    case false =>
      obtain rfl : ans = false := HB.out.trans (by rw [e1, e2, e4, e5]; rfl)
      clear HB
      go_enter Tryz.func36, Tryz.ntmps36
      go_wp2_with fail
      rw [← HW0.out]
      refine (KR _ (HBl.out ⟨W0, Below.refl _ _⟩)).mono ?_
      rintro e w1 ⟨rfl, hb⟩
      obtain ⟨x1, rfl⟩ := Later.of hb
      clear hb
      obtain ⟨x2, hx2⟩ : ∃ x2 : Later W0, x1.w.alloc (.cells #[.int .i64 xc, .int .i64 xy, .int .i64 xs, .int .i64 xm, .int .i64 xd] 76) = x2.w := ⟨⟨_, x1.below.alloc x1.below.size _⟩, rfl⟩
      have Z2 : Hid (Blk x2.w x1.w.heap.size #[.int .i64 xc, .int .i64 xy, .int .i64 xs, .int .i64 xm, .int .i64 xd] 76) := by unfold Hid; rw [← hx2]; exact Blk.new _ _ _
      have HX2 := hideP hx2
      clear hx2
      have z0 : x2.w.cell? ⟨x1.w.heap.size, 0, none⟩ = some (.int .i64 xc) := Z2.out.cell 0 rfl
      have z1 : x2.w.cell? ⟨x1.w.heap.size, 1, none⟩ = some (.int .i64 xy) := Z2.out.cell 1 rfl
      have z2 : x2.w.cell? ⟨x1.w.heap.size, 2, none⟩ = some (.int .i64 xs) := Z2.out.cell 2 rfl
      have z3 : x2.w.cell? ⟨x1.w.heap.size, 3, none⟩ = some (.int .i64 xm) := Z2.out.cell 3 rfl
      have z4 : x2.w.cell? ⟨x1.w.heap.size, 4, none⟩ = some (.int .i64 xd) := Z2.out.cell 4 rfl
      go_upto_region 2 with fail
      rw [HX2.out]
      clear HX2 KR
      go_wp2
      go_ret
      exact ⟨rfl, HBl.out x2⟩
    obtain rfl : ans = Q := HB.out.trans (by rw [e1, e2, e4, e5]; rfl)
    clear HB
    go_enter Tryz.func36, Tryz.ntmps36
    go_wp2_with fail
    rw [← HW0.out]
    refine (KR _ (HBl.out ⟨W0, Below.refl _ _⟩)).mono ?_
    rintro e w1 ⟨rfl, hb⟩
    obtain ⟨x1, rfl⟩ := Later.of hb
    clear hb
    obtain ⟨x2, hx2⟩ : ∃ x2 : Later W0, x1.w.alloc (.cells #[.int .i64 xc, .int .i64 xy, .int .i64 xs, .int .i64 xm, .int .i64 xd] 76) = x2.w := ⟨⟨_, x1.below.alloc x1.below.size _⟩, rfl⟩
    have Z2 : Hid (Blk x2.w x1.w.heap.size #[.int .i64 xc, .int .i64 xy, .int .i64 xs, .int .i64 xm, .int .i64 xd] 76) := by unfold Hid; rw [← hx2]; exact Blk.new _ _ _
    have HX2 := hideP hx2
    clear hx2
    have z0 : x2.w.cell? ⟨x1.w.heap.size, 0, none⟩ = some (.int .i64 xc) := Z2.out.cell 0 rfl
    have z1 : x2.w.cell? ⟨x1.w.heap.size, 1, none⟩ = some (.int .i64 xy) := Z2.out.cell 1 rfl
    have z2 : x2.w.cell? ⟨x1.w.heap.size, 2, none⟩ = some (.int .i64 xs) := Z2.out.cell 2 rfl
    have z3 : x2.w.cell? ⟨x1.w.heap.size, 3, none⟩ = some (.int .i64 xm) := Z2.out.cell 3 rfl
    have z4 : x2.w.cell? ⟨x1.w.heap.size, 4, none⟩ = some (.int .i64 xd) := Z2.out.cell 4 rfl
    go_upto_region 2 with fail
    rw [HX2.out]
    clear HX2 KR
    go_wp2_with fail
    refine (KI _ (HBl.out x2)).mono ?_
    rintro e w3 ⟨rfl, hb⟩
    obtain ⟨x3, rfl⟩ := x2.next hb
    clear hb
    go_wp2
    go_ret
    exact ⟨rfl, HBl.out x3⟩
  obtain rfl : ans = Q := HB.out.trans (by rw [e1, e2, e4]; rfl)
  clear HB
  go_enter Tryz.func36, Tryz.ntmps36
  go_wp2_with fail
  rw [← HW0.out]
  refine (KR _ (HBl.out ⟨W0, Below.refl _ _⟩)).mono ?_
  rintro e w1 ⟨rfl, hb⟩
  obtain ⟨x1, rfl⟩ := Later.of hb
  clear hb
  obtain ⟨x2, hx2⟩ : ∃ x2 : Later W0, x1.w.alloc (.cells #[.int .i64 xc, .int .i64 xy, .int .i64 xs, .int .i64 xm, .int .i64 xd] 76) = x2.w := ⟨⟨_, x1.below.alloc x1.below.size _⟩, rfl⟩
  have Z2 : Hid (Blk x2.w x1.w.heap.size #[.int .i64 xc, .int .i64 xy, .int .i64 xs, .int .i64 xm, .int .i64 xd] 76) := by unfold Hid; rw [← hx2]; exact Blk.new _ _ _
  have HX2 := hideP hx2
  clear hx2
  have z0 : x2.w.cell? ⟨x1.w.heap.size, 0, none⟩ = some (.int .i64 xc) := Z2.out.cell 0 rfl
  have z1 : x2.w.cell? ⟨x1.w.heap.size, 1, none⟩ = some (.int .i64 xy) := Z2.out.cell 1 rfl
  have z2 : x2.w.cell? ⟨x1.w.heap.size, 2, none⟩ = some (.int .i64 xs) := Z2.out.cell 2 rfl
  have z3 : x2.w.cell? ⟨x1.w.heap.size, 3, none⟩ = some (.int .i64 xm) := Z2.out.cell 3 rfl
  have z4 : x2.w.cell? ⟨x1.w.heap.size, 4, none⟩ = some (.int .i64 xd) := Z2.out.cell 4 rfl
  go_upto_region 2 with fail
  rw [HX2.out]
  clear HX2 KR
  go_wp2_with fail
  refine (KI _ (HBl.out x2)).mono ?_
  rintro e w3 ⟨rfl, hb⟩
  obtain ⟨x3, rfl⟩ := x2.next hb
  clear hb
  go_wp2
  go_ret
  exact ⟨rfl, HBl.out x3⟩
set_option maxRecDepth 100000 in
set_option maxHeartbeats 8000000 in
theorem specMeans (v : Value) (r : Rgm) (s : Say) (n : Int) (w : World) (h : GRow w v r) (hf : -9223372036854775808 ≤ r.fr) (ht : r.to ≤ 9223372036854775807) : Calls Tryz.prog 9 #[v, sayV s, .int .i64 n] w fun e w' => e = .returned (.bool (meansB r s n)) ∧ Below w.heap.size w w' := by
  have hG := h
  obtain ⟨v1, v2, v3, rfl, _⟩ := h
  obtain ⟨⟨k, m, d, ⟨a, b, c, t⟩, f, p⟩, y, so, ca⟩ := s
  obtain ⟨W0, hW0, hD, hR, hBl⟩ := two_box w #[.string r.name, .int .i64 r.fr, .int .i64 r.to, v1, v2, v3, .int .i64 r.rule] #[.int .i64 k, .int .i64 m, .int .i64 d, .int .i64 a, .int .i64 b, .int .i64 c, .bool t, .string f, .int .i64 p, .int .i64 y, .int .i64 so, .int .i64 ca] 40 46
  have cr0 : ∀ x : Later W0, x.w.cell? ⟨w.heap.size, 0, none⟩ = some (.string r.name) := fun x => (hD x).cell 0 rfl
  have cr1 : ∀ x : Later W0, x.w.cell? ⟨w.heap.size, 1, none⟩ = some (.int .i64 r.fr) := fun x => (hD x).cell 1 rfl
  have cr2 : ∀ x : Later W0, x.w.cell? ⟨w.heap.size, 2, none⟩ = some (.int .i64 r.to) := fun x => (hD x).cell 2 rfl
  have cr3 : ∀ x : Later W0, x.w.cell? ⟨w.heap.size, 3, none⟩ = some (v1) := fun x => (hD x).cell 3 rfl
  have cr4 : ∀ x : Later W0, x.w.cell? ⟨w.heap.size, 4, none⟩ = some (v2) := fun x => (hD x).cell 4 rfl
  have cr5 : ∀ x : Later W0, x.w.cell? ⟨w.heap.size, 5, none⟩ = some (v3) := fun x => (hD x).cell 5 rfl
  have cr6 : ∀ x : Later W0, x.w.cell? ⟨w.heap.size, 6, none⟩ = some (.int .i64 r.rule) := fun x => (hD x).cell 6 rfl
  have cs0 : ∀ x : Later W0, x.w.cell? ⟨w.heap.size + 1, 0, none⟩ = some (.int .i64 k) := fun x => (hR x).cell 0 rfl
  have cs1 : ∀ x : Later W0, x.w.cell? ⟨w.heap.size + 1, 1, none⟩ = some (.int .i64 m) := fun x => (hR x).cell 1 rfl
  have cs2 : ∀ x : Later W0, x.w.cell? ⟨w.heap.size + 1, 2, none⟩ = some (.int .i64 d) := fun x => (hR x).cell 2 rfl
  have cs3 : ∀ x : Later W0, x.w.cell? ⟨w.heap.size + 1, 3, none⟩ = some (.int .i64 a) := fun x => (hR x).cell 3 rfl
  have cs4 : ∀ x : Later W0, x.w.cell? ⟨w.heap.size + 1, 4, none⟩ = some (.int .i64 b) := fun x => (hR x).cell 4 rfl
  have cs5 : ∀ x : Later W0, x.w.cell? ⟨w.heap.size + 1, 5, none⟩ = some (.int .i64 c) := fun x => (hR x).cell 5 rfl
  have cs6 : ∀ x : Later W0, x.w.cell? ⟨w.heap.size + 1, 6, none⟩ = some (.bool t) := fun x => (hR x).cell 6 rfl
  have cs7 : ∀ x : Later W0, x.w.cell? ⟨w.heap.size + 1, 7, none⟩ = some (.string f) := fun x => (hR x).cell 7 rfl
  have cs8 : ∀ x : Later W0, x.w.cell? ⟨w.heap.size + 1, 8, none⟩ = some (.int .i64 p) := fun x => (hR x).cell 8 rfl
  have cs9 : ∀ x : Later W0, x.w.cell? ⟨w.heap.size + 1, 9, none⟩ = some (.int .i64 y) := fun x => (hR x).cell 9 rfl
  have cs10 : ∀ x : Later W0, x.w.cell? ⟨w.heap.size + 1, 10, none⟩ = some (.int .i64 so) := fun x => (hR x).cell 10 rfl
  have cs11 : ∀ x : Later W0, x.w.cell? ⟨w.heap.size + 1, 11, none⟩ = some (.int .i64 ca) := fun x => (hR x).cell 11 rfl
  have HW0 := hideP hW0
  have HBl := hideP hBl
  have KO : ∀ W, Below w.heap.size w W → Calls Tryz.prog 34 #[.agg #[.string r.name, .int .i64 r.fr, .int .i64 r.to, v1, v2, v3, .int .i64 r.rule]] W fun e w' => e = .returned (.bool (regimeB r)) ∧ Below W.heap.size W w' := fun W hb => specRegimeOk _ r W (hG.below hb) hf ht
  have KY : ∀ W, Calls Tryz.prog 35 #[.agg #[.int .i64 k, .int .i64 m, .int .i64 d, .int .i64 a, .int .i64 b, .int .i64 c, .bool t, .string f, .int .i64 p, .int .i64 y, .int .i64 so, .int .i64 ca]] W fun e w' => e = .returned (.bool (sayB ⟨⟨k, m, d, ⟨a, b, c, t⟩, f, p⟩, y, so, ca⟩)) ∧ Below W.heap.size W w' := fun W => specSayingOk ⟨⟨k, m, d, ⟨a, b, c, t⟩, f, p⟩, y, so, ca⟩ W
  have KM : regimeB r = true → sayB ⟨⟨k, m, d, ⟨a, b, c, t⟩, f, p⟩, y, so, ca⟩ = true → ∀ W, Below w.heap.size w W → Calls Tryz.prog 36 #[.agg #[.string r.name, .int .i64 r.fr, .int .i64 r.to, v1, v2, v3, .int .i64 r.rule], .agg #[.int .i64 k, .int .i64 m, .int .i64 d, .int .i64 a, .int .i64 b, .int .i64 c, .bool t, .string f, .int .i64 p, .int .i64 y, .int .i64 so, .int .i64 ca], .int .i64 n] W fun e w' => e = .returned (.bool (meant1 r ⟨⟨k, m, d, ⟨a, b, c, t⟩, f, p⟩, y, so, ca⟩ n)) ∧ Below W.heap.size W w' := fun a1 a2 W hb => specMeans1 _ r ⟨⟨k, m, d, ⟨a, b, c, t⟩, f, p⟩, y, so, ca⟩ n W (hG.below hb) a1 a2
  obtain ⟨ans, hans⟩ : ∃ ans, ans = meansB r ⟨⟨k, m, d, ⟨a, b, c, t⟩, f, p⟩, y, so, ca⟩ n := ⟨_, rfl⟩
  rw [← hans]
  have HB : Hid (ans = ((regimeB r && (decide (r.fr ≤ n) && decide (n ≤ r.to))) && (sayB ⟨⟨k, m, d, ⟨a, b, c, t⟩, f, p⟩, y, so, ca⟩ && saidB r ⟨⟨k, m, d, ⟨a, b, c, t⟩, f, p⟩, y, so, ca⟩ n))) := hans
  have HM : Hid (meant1 r ⟨⟨k, m, d, ⟨a, b, c, t⟩, f, p⟩, y, so, ca⟩ n = ((decide (r.fr ≤ n) && decide (n ≤ r.to)) && saidB r ⟨⟨k, m, d, ⟨a, b, c, t⟩, f, p⟩, y, so, ca⟩ n)) := rfl
  clear hans hW0 hD hR hBl hG hf ht
  generalize regimeB r = O at *
  generalize sayB ⟨⟨k, m, d, ⟨a, b, c, t⟩, f, p⟩, y, so, ca⟩ = S at *
  generalize meant1 r ⟨⟨k, m, d, ⟨a, b, c, t⟩, f, p⟩, y, so, ca⟩ n = M at *
  generalize saidB r ⟨⟨k, m, d, ⟨a, b, c, t⟩, f, p⟩, y, so, ca⟩ n = D at *
  generalize (decide (r.fr ≤ n) && decide (n ≤ r.to)) = I at *
  cases O
  · obtain rfl : ans = false := HB.out.trans rfl
    clear HB HM KM KY
    go_enter Tryz.func9, Tryz.ntmps9
    go_wp2_with fail
    rw [← HW0.out]
    refine (KO _ (HBl.out ⟨W0, Below.refl _ _⟩)).mono ?_
    rintro e w1 ⟨rfl, hb⟩
    obtain ⟨x1, rfl⟩ := Later.of hb
    clear hb
    go_wp2
    go_ret
    exact ⟨rfl, HBl.out x1⟩
  cases S
  · obtain rfl : ans = false := HB.out.trans (by simp)
    clear HB HM KM
    go_enter Tryz.func9, Tryz.ntmps9
    go_wp2_with fail
    rw [← HW0.out]
    refine (KO _ (HBl.out ⟨W0, Below.refl _ _⟩)).mono ?_
    rintro e w1 ⟨rfl, hb⟩
    obtain ⟨x1, rfl⟩ := Later.of hb
    clear hb
    go_wp2_with fail
    refine (KY _).mono ?_
    rintro e w2 ⟨rfl, hb⟩
    obtain ⟨x2, rfl⟩ := x1.next hb
    clear hb
    go_wp2
    go_ret
    exact ⟨rfl, HBl.out x2⟩
  obtain rfl : ans = M := HB.out.trans ((by simp : _ = (I && D)).trans HM.out.symm)
  have KM' := KM rfl rfl
  clear HB HM KM
  go_enter Tryz.func9, Tryz.ntmps9
  go_wp2_with fail
  rw [← HW0.out]
  refine (KO _ (HBl.out ⟨W0, Below.refl _ _⟩)).mono ?_
  rintro e w1 ⟨rfl, hb⟩
  obtain ⟨x1, rfl⟩ := Later.of hb
  clear hb
  go_wp2_with fail
  refine (KY _).mono ?_
  rintro e w2 ⟨rfl, hb⟩
  obtain ⟨x2, rfl⟩ := x1.next hb
  clear hb
  go_wp2_with fail
  refine (KM' _ (HBl.out x2)).mono ?_
  rintro e w3 ⟨rfl, hb⟩
  obtain ⟨x3, rfl⟩ := x2.next hb
  clear hb
  go_wp2
  go_ret
  exact ⟨rfl, HBl.out x3⟩
end Go.Proofs.YtdgolaaheakfoaaGreatDoor.ctr
namespace Go.Proofs.YtdgolaaheakfoaaGreatDoor.kit
open Go.RowKit Go.WideShapes Go.Deep
theorem five {α : Type} {cs : Array α} (h : cs.size = 5) : ∃ a b c d e, cs = #[a, b, c, d, e] := by
  obtain ⟨l⟩ := cs
  match l, h with
  | [a, b, c, d, e], _ => exact ⟨a, b, c, d, e, rfl⟩
end Go.Proofs.YtdgolaaheakfoaaGreatDoor.kit
namespace Go.Proofs.YtdgolaaheakfoaaGreatDoor.ctr
open Go.RowKit
end Go.Proofs.YtdgolaaheakfoaaGreatDoor.ctr
namespace Go.Proofs.YtdgolaaheakfoaaGreatDoor.kit
open Go.RowKit Go.WideShapes Go.Deep
theorem nine {α : Type} {cs : Array α} (h : cs.size = 9) : ∃ a b c d e f g i j, cs = #[a, b, c, d, e, f, g, i, j] := by
  obtain ⟨l⟩ := cs
  match l, h with
  | [a, b, c, d, e, f, g, i, j], _ => exact ⟨a, b, c, d, e, f, g, i, j, rfl⟩
theorem twelve {α : Type} {cs : Array α} (h : cs.size = 12) : ∃ a b c d e f g i j k l m, cs = #[a, b, c, d, e, f, g, i, j, k, l, m] := by
  obtain ⟨l⟩ := cs
  match l, h with
  | [a, b, c, d, e, f, g, i, j, k, l, m], _ => exact ⟨a, b, c, d, e, f, g, i, j, k, l, m, rfl⟩
theorem whn_cells {H : Type} {enc : TypeId × Value → H} {P : Program} {w : World} {base : Nat} {sp : Nat → Bool} {held : Bool} {ty : TypeId} {f0 f1 f2 f3 f4 f5 g0 g1 g2 g3 : Field} {fuel : Nat} {x0 x1 x2 x3 x4 x5 x6 x7 x8 : Value} {dq : DataW H × List MemPlace}
    (hs : P.underlying ty = some (.struct #[f0, f1, f2, f3, f4, f5])) (hr : P.underlying f3.type = some (.struct #[g0, g1, g2, g3]))
    (ho : [f0.offset, f1.offset, f2.offset, f3.offset, f4.offset, f5.offset, g0.offset, g1.offset, g2.offset, g3.offset] = [0, 1, 2, 3, 7, 8, 0, 1, 2, 3])
    (hk : [P.cellsOf f0.type, P.cellsOf f1.type, P.cellsOf f2.type, P.cellsOf f3.type, P.cellsOf f4.type, P.cellsOf f5.type, P.cellsOf g0.type, P.cellsOf g1.type, P.cellsOf g2.type, P.cellsOf g3.type] = [1, 1, 1, 4, 1, 1, 1, 1, 1, 1])
    (u0 : P.underlying f0.type = some (.int .i64)) (u1 : P.underlying f1.type = some (.int .i64)) (u2 : P.underlying f2.type = some (.int .i64)) (u4 : P.underlying f4.type = some .string) (u5 : P.underlying f5.type = some (.int .i64)) (v0 : P.underlying g0.type = some (.int .i64)) (v1 : P.underlying g1.type = some (.int .i64)) (v2 : P.underlying g2.type = some (.int .i64)) (v3 : P.underlying g3.type = some .bool)
    (hf : DataW.trod enc P w base sp held fuel ty [x0, x1, x2, x3, x4, x5, x6, x7, x8] = some dq) :
    ∃ (k m d a b c : Int) (t : Bool) (s : ByteArray) (p : Int), [x0, x1, x2, x3, x4, x5, x6, x7, x8] = [.int .i64 k, .int .i64 m, .int .i64 d, .int .i64 a, .int .i64 b, .int .i64 c, .bool t, .string s, .int .i64 p] ∧ s.size ≤ maxLen := by
  obtain ⟨xs, n, _, _, _, hlen, hg⟩ := DataW.trod_struct hs hf
  simp only [List.cons.injEq, and_true] at ho hk
  obtain ⟨o0, o1, o2, o3, o4, o5, r0, r1, r2, r3⟩ := ho
  obtain ⟨k0, k1, k2, k3, k4, k5, l0, l1, l2, l3⟩ := hk
  match xs, hlen with
  | [y0, y1, y2, y3, y4, y5], _ =>
    have e0 := hg 0 f0 rfl
    simp only [o0, k0] at e0
    have e1 := hg 1 f1 rfl
    simp only [o1, k1] at e1
    have e2 := hg 2 f2 rfl
    simp only [o2, k2] at e2
    have e3 := hg 3 f3 rfl
    simp only [o3, k3] at e3
    have e4 := hg 4 f4 rfl
    simp only [o4, k4] at e4
    have e5 := hg 5 f5 rfl
    simp only [o5, k5] at e5
    obtain ⟨z0, i0, _, _⟩ := DataW.trod_int u0 (x := y0) (by simpa using e0)
    obtain ⟨z1, i1, _, _⟩ := DataW.trod_int u1 (x := y1) (by simpa using e1)
    obtain ⟨z2, i2, _, _⟩ := DataW.trod_int u2 (x := y2) (by simpa using e2)
    obtain ⟨s, i4, _, hsm⟩ := DataW.trod_string u4 (x := y4) (by simpa using e4)
    obtain ⟨z5, i5, _, _⟩ := DataW.trod_int u5 (x := y5) (by simpa using e5)
    obtain ⟨zs, n2, _, _, _, hlen2, hg2⟩ := DataW.trod_struct hr (x := y3) (cs := [x3, x4, x5, x6]) (by simpa using e3)
    match zs, hlen2 with
    | [w0, w1, w2, w3], _ =>
      have d0 := hg2 0 g0 rfl
      have d1 := hg2 1 g1 rfl
      have d2 := hg2 2 g2 rfl
      have d3 := hg2 3 g3 rfl
      simp only [r0, l0] at d0
      simp only [r1, l1] at d1
      simp only [r2, l2] at d2
      simp only [r3, l3] at d3
      obtain ⟨a0, j0, _, _⟩ := DataW.trod_int v0 (x := w0) (by simpa using d0)
      obtain ⟨a1, j1, _, _⟩ := DataW.trod_int v1 (x := w1) (by simpa using d1)
      obtain ⟨a2, j2, _, _⟩ := DataW.trod_int v2 (x := w2) (by simpa using d2)
      obtain ⟨a3, j3, _⟩ := DataW.trod_bool v3 (x := w3) (by simpa using d3)
      simp only [List.cons.injEq, and_true] at i0 i1 i2 i4 i5 j0 j1 j2 j3
      exact ⟨z0, z1, z2, a0, a1, a2, a3, s, z5, by rw [i0, i1, i2, i4, i5, j0, j1, j2, j3], hsm⟩
theorem open_say {H : Type} {enc : TypeId × Value → H} {P : Program} {w : World} {base : Nat} {sp : Nat → Bool} {held : Bool} {r : Reach} {b0 : Nat} {ty : TypeId} {f0 f1 f2 f3 f4 f5 g0 g1 g2 g3 : Field} {tz : TypeId} {h0 h1 h2 h3 : Field} {v : Value} {dt : DataW H} {q : List MemPlace}
    (hz : P.underlying tz = some (.struct #[h0, h1, h2, h3])) (hC : P.cellsOf tz = 12) (hty : h0.type = ty)
    (hoz : [h0.offset, h1.offset, h2.offset, h3.offset] = [0, 9, 10, 11]) (hkz : [P.cellsOf h0.type, P.cellsOf h1.type, P.cellsOf h2.type, P.cellsOf h3.type] = [9, 1, 1, 1])
    (b1 : P.underlying h1.type = some (.int .i64)) (b2 : P.underlying h2.type = some (.int .i64)) (b3 : P.underlying h3.type = some (.int .i64))
    (hs : P.underlying ty = some (.struct #[f0, f1, f2, f3, f4, f5])) (hr : P.underlying f3.type = some (.struct #[g0, g1, g2, g3]))
    (ho : [f0.offset, f1.offset, f2.offset, f3.offset, f4.offset, f5.offset, g0.offset, g1.offset, g2.offset, g3.offset] = [0, 1, 2, 3, 7, 8, 0, 1, 2, 3])
    (hk : [P.cellsOf f0.type, P.cellsOf f1.type, P.cellsOf f2.type, P.cellsOf f3.type, P.cellsOf f4.type, P.cellsOf f5.type, P.cellsOf g0.type, P.cellsOf g1.type, P.cellsOf g2.type, P.cellsOf g3.type] = [1, 1, 1, 4, 1, 1, 1, 1, 1, 1])
    (u0 : P.underlying f0.type = some (.int .i64)) (u1 : P.underlying f1.type = some (.int .i64)) (u2 : P.underlying f2.type = some (.int .i64)) (u4 : P.underlying f4.type = some .string) (u5 : P.underlying f5.type = some (.int .i64)) (v0 : P.underlying g0.type = some (.int .i64)) (v1 : P.underlying g1.type = some (.int .i64)) (v2 : P.underlying g2.type = some (.int .i64)) (v3 : P.underlying g3.type = some .bool)
    (hv : Value.okWide P w r b0 tz v) (h : DataW.Trod enc P w base sp held tz v dt q) :
    ∃ (k m d a b c : Int) (t : Bool) (s : ByteArray) (p y so ca : Int), v = .agg #[.int .i64 k, .int .i64 m, .int .i64 d, .int .i64 a, .int .i64 b, .int .i64 c, .bool t, .string s, .int .i64 p, .int .i64 y, .int .i64 so, .int .i64 ca] ∧ s.size ≤ maxLen := by
  obtain ⟨cs, rfl, hsz⟩ := okWide_struct hz hv
  obtain ⟨x0, x1, x2, x3, x4, x5, x6, x7, x8, x9, x10, x11, rfl⟩ := twelve (hsz.trans hC)
  obtain ⟨fuel, hf⟩ := h
  obtain ⟨xs, n, _, _, _, hlen, hg⟩ := DataW.trod_struct hz (show DataW.trod enc P w base sp held fuel tz [x0, x1, x2, x3, x4, x5, x6, x7, x8, x9, x10, x11] = _ from hf)
  simp only [List.cons.injEq, and_true] at hoz hkz
  obtain ⟨o0, o1, o2, o3⟩ := hoz
  obtain ⟨k0, k1, k2, k3⟩ := hkz
  match xs, hlen with
  | [y0, y1, y2, y3], _ =>
    have e0 := hg 0 h0 rfl
    have e1 := hg 1 h1 rfl
    have e2 := hg 2 h2 rfl
    have e3 := hg 3 h3 rfl
    simp only [o0, k0] at e0
    simp only [o1, k1] at e1
    simp only [o2, k2] at e2
    simp only [o3, k3] at e3
    obtain ⟨y, i1, _, _⟩ := DataW.trod_int b1 (x := y1) (by simpa using e1)
    obtain ⟨so, i2, _, _⟩ := DataW.trod_int b2 (x := y2) (by simpa using e2)
    obtain ⟨ca, i3, _, _⟩ := DataW.trod_int b3 (x := y3) (by simpa using e3)
    subst hty
    obtain ⟨k, m, d, a, b, c, t, s, p, he, hsm⟩ := whn_cells hs hr ho hk u0 u1 u2 u4 u5 v0 v1 v2 v3 (show DataW.trod enc P w base sp held n h0.type [x0, x1, x2, x3, x4, x5, x6, x7, x8] = some y0 by simpa using e0)
    simp only [List.cons.injEq, and_true] at he i1 i2 i3
    obtain ⟨rfl, rfl, rfl, rfl, rfl, rfl, rfl, rfl, rfl⟩ := he
    subst i1 i2 i3
    exact ⟨k, m, d, a, b, c, t, s, p, y, so, ca, rfl, hsm⟩
end Go.Proofs.YtdgolaaheakfoaaGreatDoor.kit
namespace Go.Proofs.YtdgolaaheakfoaaGreatDoor.ctr
open Go.RowKit
theorem szWhn (k m d a b c : Int) (t : Bool) (s : ByteArray) (p : Int) (n : Int) (w : World) (hs : s.size ≤ maxLen) (h0 : 0 ≤ n) (h1 : n ≤ 1048576) : Calls Tryz.prog 33 #[.agg #[.int .i64 k, .int .i64 m, .int .i64 d, .int .i64 a, .int .i64 b, .int .i64 c, .bool t, .string s, .int .i64 p], .int .i64 n] w fun e w' => e = .returned (.int .i64 (if n < s.size then -1 else n - s.size)) ∧ Below w.heap.size w w' := by
  unfold maxLen at hs
  by_cases h : n < s.size
  · rw [if_pos h]
    go_enter Tryz.func33, Tryz.ntmps33
    go_wp2
    go_ret
    exact ⟨rfl, (Below.refl _ _).alloc (Nat.le_refl _) _⟩
  · rw [if_neg h]
    go_enter Tryz.func33, Tryz.ntmps33
    go_wp2
    go_ret
    exact ⟨rfl, (Below.refl _ _).alloc (Nat.le_refl _) _⟩
set_option maxHeartbeats 4000000 in
theorem szSay (k m d a b c : Int) (t : Bool) (s : ByteArray) (p y so ca : Int) (n : Int) (w : World) (hs : s.size ≤ maxLen) (h0 : 0 ≤ n) (h1 : n ≤ 1048576) : Calls Tryz.prog 8 #[.agg #[.int .i64 k, .int .i64 m, .int .i64 d, .int .i64 a, .int .i64 b, .int .i64 c, .bool t, .string s, .int .i64 p, .int .i64 y, .int .i64 so, .int .i64 ca], .int .i64 n] w fun e w' => e = .returned (.int .i64 (if n < s.size then -1 else n - s.size)) ∧ Below w.heap.size w w' := by
  have K := fun W => szWhn k m d a b c t s p n W hs h0 h1
  obtain ⟨W0, hW0, _, hBl⟩ := box_any w #[.int .i64 k, .int .i64 m, .int .i64 d, .int .i64 a, .int .i64 b, .int .i64 c, .bool t, .string s, .int .i64 p, .int .i64 y, .int .i64 so, .int .i64 ca] 32
  have HW0 := hideP hW0
  have HBl := hideP hBl
  clear hW0 hBl
  have hz : (if n < s.size then -1 else n - s.size) = -1 ∨ 0 ≤ (if n < s.size then -1 else n - s.size) := by split <;> omega
  generalize (if n < s.size then -1 else n - s.size) = z at *
  clear hs h0 h1
  rcases hz with rfl | hz
  all_goals
    go_enter Tryz.func8, Tryz.ntmps8
    go_wp2_with fail
    rw [← HW0.out]
    refine (K _).mono ?_
    rintro e w1 ⟨rfl, hb⟩
    obtain ⟨x1, rfl⟩ := Later.of hb
    clear hb
    go_wp2
    go_ret
    exact ⟨rfl, HBl.out x1⟩
end Go.Proofs.YtdgolaaheakfoaaGreatDoor.ctr
