/- Contracts of both Meet: the first and the last day that two regimes have. -/
import Derived.Test.YtilpencbbdpgfaaGreatDoorJnPbk
import Derived.Lib.MinMax
import Derived.Deep.DeepCutAuto
namespace Go.Proofs.YtilpencbbdpgfaaGreatDoor.ctr
open Go.RowKit
set_option linter.unusedSimpArgs false
noncomputable def meetB (r s : Rgm) : Bool := regimeB r && regimeB s && decide (max r.fr s.fr ≤ min r.to s.to)
noncomputable def meetF (r s : Rgm) : Int := if meetB r s = true then max r.fr s.fr else 0
noncomputable def meetL (r s : Rgm) : Int := if meetB r s = true then min r.to s.to else 0
set_option maxHeartbeats 8000000 in
theorem implMeet (v u : Value) (r s : Rgm) (a : Addr) (w : World) (h : GRow w v r) (g : GRow w u s) (ht : r.to ≤ 9223372036854775807) (gt : s.to ≤ 9223372036854775807) (hE : ErrT w) (hT : Tab w) (hS : Sent w a) : Calls Tryz.prog 52 #[v, u] w fun e w' => e = .returned (.tuple #[.int .i64 (meetF r s), .int .i64 (meetL r s)]) ∧ Below w.heap.size w w' := by
  have hG := h
  have hU := g
  obtain ⟨a1, c1, a2, c2, a3, c3, rfl⟩ := h.parts
  obtain ⟨b1, d1, b2, d2, b3, d3, rfl⟩ := g.parts
  obtain ⟨W0, e0, HR, HZ, HB⟩ := boxR w #[.string r.name, .int .i64 r.fr, .int .i64 r.to, .slice a1 r.segs.length c1, .slice a2 r.pats.length c2, .slice a3 r.rgns.length c3, .int .i64 r.rule] 36 #[.string s.name, .int .i64 s.fr, .int .i64 s.to, .slice b1 s.segs.length d1, .slice b2 s.pats.length d2, .slice b3 s.rgns.length d3, .int .i64 s.rule] 36
  obtain ⟨r0, r1, r2, r3, r4, r5, r6⟩ := sevenL HR.out
  obtain ⟨u0, u1, u2, u3, u4, u5, u6⟩ := sevenL HZ.out
  obtain ⟨ok1, ok1e⟩ : ∃ b, b = regimeB r := ⟨_, rfl⟩
  obtain ⟨ok2, ok2e⟩ : ∃ b, b = regimeB s := ⟨_, rfl⟩
  have K1 : ∀ y : Later W0, Calls Tryz.prog 69 #[.agg #[.string r.name, .int .i64 r.fr, .int .i64 r.to, .slice a1 r.segs.length c1, .slice a2 r.pats.length c2, .slice a3 r.rgns.length c3, .int .i64 r.rule]] y.w fun e w' => e = .returned (.bool ok1) ∧ Below y.w.heap.size y.w w' := fun y => by rw [ok1e]; exact implRegimeOk _ r a y.w (hG.below (HB.out y)) ht (hE.below (HB.out y)) (hT.later (HB.out y)) (hS.later (HB.out y))
  have K2 : ∀ y : Later W0, Calls Tryz.prog 69 #[.agg #[.string s.name, .int .i64 s.fr, .int .i64 s.to, .slice b1 s.segs.length d1, .slice b2 s.pats.length d2, .slice b3 s.rgns.length d3, .int .i64 s.rule]] y.w fun e w' => e = .returned (.bool ok2) ∧ Below y.w.heap.size y.w w' := fun y => by rw [ok2e]; exact implRegimeOk _ s a y.w (hU.below (HB.out y)) gt (hE.below (HB.out y)) (hT.later (HB.out y)) (hS.later (HB.out y))
  have E0 := hideP e0
  unfold meetF meetL meetB
  rw [← ok1e, ← ok2e]
  clear e0 hG h hU g ht gt hT hE hS HR HZ ok1e ok2e
  cases ok1
  · simp only [Bool.false_and, Bool.false_eq_true, if_false]
    go_enter Tryz.func52, Tryz.ntmps52
    go_wp2_with fail
    rw [← E0.out]
    refine (K1 ⟨W0, Below.refl _ _⟩).mono ?_
    rintro e w1 ⟨rfl, hb⟩
    obtain ⟨x1, rfl⟩ := Later.of hb
    clear hb
    go_wp2
    go_returns
    exact ⟨rfl, HB.out x1⟩
  cases ok2
  · simp only [Bool.and_false, Bool.false_and, Bool.false_eq_true, if_false]
    go_enter Tryz.func52, Tryz.ntmps52
    go_wp2_with fail
    rw [← E0.out]
    refine (K1 ⟨W0, Below.refl _ _⟩).mono ?_
    rintro e w1 ⟨rfl, hb⟩
    obtain ⟨x1, rfl⟩ := Later.of hb
    clear hb
    go_wp2_with fail
    refine (K2 x1).mono ?_
    rintro e w2 ⟨rfl, hb⟩
    obtain ⟨x2, rfl⟩ := x1.next hb
    clear hb
    go_wp2
    go_returns
    exact ⟨rfl, HB.out x2⟩
  have M1 : ∀ x y : Int, Hid ((if y > x then y else x) = max x y) := fun x y => by unfold Hid; omega
  have M2 : ∀ x y : Int, Hid ((if y < x then y else x) = min x y) := fun x y => by unfold Hid; omega
  by_cases hm : max r.fr s.fr ≤ min r.to s.to
  all_goals
    have HD : Hid (decide (min r.to s.to < max r.fr s.fr) = !decide (max r.fr s.fr ≤ min r.to s.to)) := by unfold Hid; simp only [hm, decide_true, decide_false]; first | exact decide_eq_false (by omega) | exact decide_eq_true (by omega)
    simp only [hm, decide_true, decide_false, Bool.true_and, Bool.false_and, Bool.and_false, Bool.false_eq_true, if_false, if_true] at HD ⊢
    have hd := HD.out
    clear HD hm
    go_enter Tryz.func52, Tryz.ntmps52
    go_wp2_with fail
    rw [← E0.out]
    refine (K1 ⟨W0, Below.refl _ _⟩).mono ?_
    rintro e w1 ⟨rfl, hb⟩
    obtain ⟨x1, rfl⟩ := Later.of hb
    clear hb
    go_wp2_with fail
    refine (K2 x1).mono ?_
    rintro e w2 ⟨rfl, hb⟩
    obtain ⟨x2, rfl⟩ := x1.next hb
    clear hb
    go_upto_region 3 with fail
    refine wp_region_later (W := W0) x2.below (by kernel_rfl) (by kernel_rfl) ?_
    repeat (go_big_quiet_step (fail))
    refine wpQuiet_nil ?_
    intro _ hw'
    obtain ⟨x3, rfl⟩ := hw'
    try rw [(M1 _ _).out]
    try rw [(M2 _ _).out]
    go_wp2
    go_returns
    exact ⟨rfl, HB.out x3⟩
set_option maxHeartbeats 8000000 in
theorem specMeet (v u : Value) (r s : Rgm) (w : World) (h : GRow w v r) (g : GRow w u s) (hf : -9223372036854775808 ≤ r.fr) (ht : r.to ≤ 9223372036854775807) (gf : -9223372036854775808 ≤ s.fr) (gt : s.to ≤ 9223372036854775807) : Calls Tryz.prog 51 #[v, u] w fun e w' => e = .returned (.tuple #[.int .i64 (meetF r s), .int .i64 (meetL r s)]) ∧ Below w.heap.size w w' := by
  have hG := h
  have hU := g
  obtain ⟨a1, c1, a2, c2, a3, c3, rfl⟩ := h.parts
  obtain ⟨b1, d1, b2, d2, b3, d3, rfl⟩ := g.parts
  obtain ⟨W0, e0, HR, HZ, HB⟩ := boxR w #[.string r.name, .int .i64 r.fr, .int .i64 r.to, .slice a1 r.segs.length c1, .slice a2 r.pats.length c2, .slice a3 r.rgns.length c3, .int .i64 r.rule] 36 #[.string s.name, .int .i64 s.fr, .int .i64 s.to, .slice b1 s.segs.length d1, .slice b2 s.pats.length d2, .slice b3 s.rgns.length d3, .int .i64 s.rule] 36
  obtain ⟨r0, r1, r2, r3, r4, r5, r6⟩ := sevenL HR.out
  obtain ⟨u0, u1, u2, u3, u4, u5, u6⟩ := sevenL HZ.out
  obtain ⟨ok1, ok1e⟩ : ∃ b, b = regimeB r := ⟨_, rfl⟩
  obtain ⟨ok2, ok2e⟩ : ∃ b, b = regimeB s := ⟨_, rfl⟩
  have K1 : ∀ y : Later W0, Calls Tryz.prog 56 #[.agg #[.string r.name, .int .i64 r.fr, .int .i64 r.to, .slice a1 r.segs.length c1, .slice a2 r.pats.length c2, .slice a3 r.rgns.length c3, .int .i64 r.rule]] y.w fun e w' => e = .returned (.bool ok1) ∧ Below y.w.heap.size y.w w' := fun y => by rw [ok1e]; exact specRegimeOk _ r y.w (hG.below (HB.out y)) hf ht
  have K2 : ∀ y : Later W0, Calls Tryz.prog 56 #[.agg #[.string s.name, .int .i64 s.fr, .int .i64 s.to, .slice b1 s.segs.length d1, .slice b2 s.pats.length d2, .slice b3 s.rgns.length d3, .int .i64 s.rule]] y.w fun e w' => e = .returned (.bool ok2) ∧ Below y.w.heap.size y.w w' := fun y => by rw [ok2e]; exact specRegimeOk _ s y.w (hU.below (HB.out y)) gf gt
  have E0 := hideP e0
  unfold meetF meetL meetB
  rw [← ok1e, ← ok2e]
  clear e0 hG h hU g ht gt hf gf HR HZ ok1e ok2e
  have hmax : ∀ x y : Int, x < y → max x y = y := fun x y h => by omega
  have hmax' : ∀ x y : Int, ¬ x < y → max x y = x := fun x y h => by omega
  have hmin : ∀ x y : Int, y < x → min x y = y := fun x y h => by omega
  have hmin' : ∀ x y : Int, ¬ y < x → min x y = x := fun x y h => by omega
  have hno : ∀ x y : Int, x ≤ y → decide (y < x) = false := fun x y h => decide_eq_false (by omega)
  have hye : ∀ x y : Int, ¬ x ≤ y → decide (y < x) = true := fun x y h => decide_eq_true (by omega)
  by_cases h1 : r.fr < s.fr
  all_goals by_cases h2 : s.to < r.to
  · rw [hmax _ _ h1, hmin _ _ h2]
    have H1 : decide (r.fr < s.fr) = true := by exact decide_eq_true h1
    have H2 : decide (s.to < r.to) = true := by exact decide_eq_true h2
    clear hmax hmax' hmin hmin' h1 h2
    cases ok1
    · simp only [Bool.false_and, Bool.false_eq_true, if_false]
      clear hno hye K2
      go_enter Tryz.func51, Tryz.ntmps51
      go_upto_region 1 with fail
      rw [← E0.out]
      refine wp_region_later (W := W0) (Below.refl _ _) (by kernel_rfl) (by kernel_rfl) ?_
      repeat (go_big_quiet_step (fail))
      refine wpQuiet_nil ?_
      intro _ hw'
      obtain ⟨x0, rfl⟩ := hw'
      go_wp2_with fail
      refine (K1 x0).mono ?_
      rintro e w1 ⟨rfl, hb⟩
      obtain ⟨x1, rfl⟩ := x0.next hb
      clear hb
      go_wp2
      go_returns
      exact ⟨rfl, HB.out x1⟩
    cases ok2
    · simp only [Bool.and_false, Bool.false_and, Bool.false_eq_true, if_false]
      clear hno hye
      go_enter Tryz.func51, Tryz.ntmps51
      go_upto_region 1 with fail
      rw [← E0.out]
      refine wp_region_later (W := W0) (Below.refl _ _) (by kernel_rfl) (by kernel_rfl) ?_
      repeat (go_big_quiet_step (fail))
      refine wpQuiet_nil ?_
      intro _ hw'
      obtain ⟨x0, rfl⟩ := hw'
      go_wp2_with fail
      refine (K1 x0).mono ?_
      rintro e w1 ⟨rfl, hb⟩
      obtain ⟨x1, rfl⟩ := x0.next hb
      clear hb
      go_wp2_with fail
      refine (K2 x1).mono ?_
      rintro e w2 ⟨rfl, hb⟩
      obtain ⟨x2, rfl⟩ := x1.next hb
      clear hb
      go_wp2
      go_returns
      exact ⟨rfl, HB.out x2⟩
    by_cases hm : s.fr ≤ s.to
    · have hd := hno _ _ hm
      simp only [hm, decide_true, Bool.true_and, if_true]
      clear hno hye hm
      go_enter Tryz.func51, Tryz.ntmps51
      go_upto_region 1 with fail
      rw [← E0.out]
      refine wp_region_later (W := W0) (Below.refl _ _) (by kernel_rfl) (by kernel_rfl) ?_
      repeat (go_big_quiet_step (fail))
      refine wpQuiet_nil ?_
      intro _ hw'
      obtain ⟨x0, rfl⟩ := hw'
      go_wp2_with fail
      refine (K1 x0).mono ?_
      rintro e w1 ⟨rfl, hb⟩
      obtain ⟨x1, rfl⟩ := x0.next hb
      clear hb
      go_wp2_with fail
      refine (K2 x1).mono ?_
      rintro e w2 ⟨rfl, hb⟩
      obtain ⟨x2, rfl⟩ := x1.next hb
      clear hb
      go_wp2
      go_returns
      exact ⟨rfl, HB.out x2⟩
    · have hd := hye _ _ hm
      simp only [hm, decide_false, Bool.true_and, Bool.false_eq_true, if_false]
      clear hno hye hm
      go_enter Tryz.func51, Tryz.ntmps51
      go_upto_region 1 with fail
      rw [← E0.out]
      refine wp_region_later (W := W0) (Below.refl _ _) (by kernel_rfl) (by kernel_rfl) ?_
      repeat (go_big_quiet_step (fail))
      refine wpQuiet_nil ?_
      intro _ hw'
      obtain ⟨x0, rfl⟩ := hw'
      go_wp2_with fail
      refine (K1 x0).mono ?_
      rintro e w1 ⟨rfl, hb⟩
      obtain ⟨x1, rfl⟩ := x0.next hb
      clear hb
      go_wp2_with fail
      refine (K2 x1).mono ?_
      rintro e w2 ⟨rfl, hb⟩
      obtain ⟨x2, rfl⟩ := x1.next hb
      clear hb
      go_wp2
      go_returns
      exact ⟨rfl, HB.out x2⟩
  · rw [hmax _ _ h1, hmin' _ _ h2]
    have H1 : decide (r.fr < s.fr) = true := by exact decide_eq_true h1
    have H2 : decide (s.to < r.to) = false := by exact decide_eq_false h2
    clear hmax hmax' hmin hmin' h1 h2
    cases ok1
    · simp only [Bool.false_and, Bool.false_eq_true, if_false]
      clear hno hye K2
      go_enter Tryz.func51, Tryz.ntmps51
      go_upto_region 1 with fail
      rw [← E0.out]
      refine wp_region_later (W := W0) (Below.refl _ _) (by kernel_rfl) (by kernel_rfl) ?_
      repeat (go_big_quiet_step (fail))
      refine wpQuiet_nil ?_
      intro _ hw'
      obtain ⟨x0, rfl⟩ := hw'
      go_wp2_with fail
      refine (K1 x0).mono ?_
      rintro e w1 ⟨rfl, hb⟩
      obtain ⟨x1, rfl⟩ := x0.next hb
      clear hb
      go_wp2
      go_returns
      exact ⟨rfl, HB.out x1⟩
    cases ok2
    · simp only [Bool.and_false, Bool.false_and, Bool.false_eq_true, if_false]
      clear hno hye
      go_enter Tryz.func51, Tryz.ntmps51
      go_upto_region 1 with fail
      rw [← E0.out]
      refine wp_region_later (W := W0) (Below.refl _ _) (by kernel_rfl) (by kernel_rfl) ?_
      repeat (go_big_quiet_step (fail))
      refine wpQuiet_nil ?_
      intro _ hw'
      obtain ⟨x0, rfl⟩ := hw'
      go_wp2_with fail
      refine (K1 x0).mono ?_
      rintro e w1 ⟨rfl, hb⟩
      obtain ⟨x1, rfl⟩ := x0.next hb
      clear hb
      go_wp2_with fail
      refine (K2 x1).mono ?_
      rintro e w2 ⟨rfl, hb⟩
      obtain ⟨x2, rfl⟩ := x1.next hb
      clear hb
      go_wp2
      go_returns
      exact ⟨rfl, HB.out x2⟩
    by_cases hm : s.fr ≤ r.to
    · have hd := hno _ _ hm
      simp only [hm, decide_true, Bool.true_and, if_true]
      clear hno hye hm
      go_enter Tryz.func51, Tryz.ntmps51
      go_upto_region 1 with fail
      rw [← E0.out]
      refine wp_region_later (W := W0) (Below.refl _ _) (by kernel_rfl) (by kernel_rfl) ?_
      repeat (go_big_quiet_step (fail))
      refine wpQuiet_nil ?_
      intro _ hw'
      obtain ⟨x0, rfl⟩ := hw'
      go_wp2_with fail
      refine (K1 x0).mono ?_
      rintro e w1 ⟨rfl, hb⟩
      obtain ⟨x1, rfl⟩ := x0.next hb
      clear hb
      go_wp2_with fail
      refine (K2 x1).mono ?_
      rintro e w2 ⟨rfl, hb⟩
      obtain ⟨x2, rfl⟩ := x1.next hb
      clear hb
      go_wp2
      go_returns
      exact ⟨rfl, HB.out x2⟩
    · have hd := hye _ _ hm
      simp only [hm, decide_false, Bool.true_and, Bool.false_eq_true, if_false]
      clear hno hye hm
      go_enter Tryz.func51, Tryz.ntmps51
      go_upto_region 1 with fail
      rw [← E0.out]
      refine wp_region_later (W := W0) (Below.refl _ _) (by kernel_rfl) (by kernel_rfl) ?_
      repeat (go_big_quiet_step (fail))
      refine wpQuiet_nil ?_
      intro _ hw'
      obtain ⟨x0, rfl⟩ := hw'
      go_wp2_with fail
      refine (K1 x0).mono ?_
      rintro e w1 ⟨rfl, hb⟩
      obtain ⟨x1, rfl⟩ := x0.next hb
      clear hb
      go_wp2_with fail
      refine (K2 x1).mono ?_
      rintro e w2 ⟨rfl, hb⟩
      obtain ⟨x2, rfl⟩ := x1.next hb
      clear hb
      go_wp2
      go_returns
      exact ⟨rfl, HB.out x2⟩
  · rw [hmax' _ _ h1, hmin _ _ h2]
    have H1 : decide (r.fr < s.fr) = false := by exact decide_eq_false h1
    have H2 : decide (s.to < r.to) = true := by exact decide_eq_true h2
    clear hmax hmax' hmin hmin' h1 h2
    cases ok1
    · simp only [Bool.false_and, Bool.false_eq_true, if_false]
      clear hno hye K2
      go_enter Tryz.func51, Tryz.ntmps51
      go_upto_region 1 with fail
      rw [← E0.out]
      refine wp_region_later (W := W0) (Below.refl _ _) (by kernel_rfl) (by kernel_rfl) ?_
      repeat (go_big_quiet_step (fail))
      refine wpQuiet_nil ?_
      intro _ hw'
      obtain ⟨x0, rfl⟩ := hw'
      go_wp2_with fail
      refine (K1 x0).mono ?_
      rintro e w1 ⟨rfl, hb⟩
      obtain ⟨x1, rfl⟩ := x0.next hb
      clear hb
      go_wp2
      go_returns
      exact ⟨rfl, HB.out x1⟩
    cases ok2
    · simp only [Bool.and_false, Bool.false_and, Bool.false_eq_true, if_false]
      clear hno hye
      go_enter Tryz.func51, Tryz.ntmps51
      go_upto_region 1 with fail
      rw [← E0.out]
      refine wp_region_later (W := W0) (Below.refl _ _) (by kernel_rfl) (by kernel_rfl) ?_
      repeat (go_big_quiet_step (fail))
      refine wpQuiet_nil ?_
      intro _ hw'
      obtain ⟨x0, rfl⟩ := hw'
      go_wp2_with fail
      refine (K1 x0).mono ?_
      rintro e w1 ⟨rfl, hb⟩
      obtain ⟨x1, rfl⟩ := x0.next hb
      clear hb
      go_wp2_with fail
      refine (K2 x1).mono ?_
      rintro e w2 ⟨rfl, hb⟩
      obtain ⟨x2, rfl⟩ := x1.next hb
      clear hb
      go_wp2
      go_returns
      exact ⟨rfl, HB.out x2⟩
    by_cases hm : r.fr ≤ s.to
    · have hd := hno _ _ hm
      simp only [hm, decide_true, Bool.true_and, if_true]
      clear hno hye hm
      go_enter Tryz.func51, Tryz.ntmps51
      go_upto_region 1 with fail
      rw [← E0.out]
      refine wp_region_later (W := W0) (Below.refl _ _) (by kernel_rfl) (by kernel_rfl) ?_
      repeat (go_big_quiet_step (fail))
      refine wpQuiet_nil ?_
      intro _ hw'
      obtain ⟨x0, rfl⟩ := hw'
      go_wp2_with fail
      refine (K1 x0).mono ?_
      rintro e w1 ⟨rfl, hb⟩
      obtain ⟨x1, rfl⟩ := x0.next hb
      clear hb
      go_wp2_with fail
      refine (K2 x1).mono ?_
      rintro e w2 ⟨rfl, hb⟩
      obtain ⟨x2, rfl⟩ := x1.next hb
      clear hb
      go_wp2
      go_returns
      exact ⟨rfl, HB.out x2⟩
    · have hd := hye _ _ hm
      simp only [hm, decide_false, Bool.true_and, Bool.false_eq_true, if_false]
      clear hno hye hm
      go_enter Tryz.func51, Tryz.ntmps51
      go_upto_region 1 with fail
      rw [← E0.out]
      refine wp_region_later (W := W0) (Below.refl _ _) (by kernel_rfl) (by kernel_rfl) ?_
      repeat (go_big_quiet_step (fail))
      refine wpQuiet_nil ?_
      intro _ hw'
      obtain ⟨x0, rfl⟩ := hw'
      go_wp2_with fail
      refine (K1 x0).mono ?_
      rintro e w1 ⟨rfl, hb⟩
      obtain ⟨x1, rfl⟩ := x0.next hb
      clear hb
      go_wp2_with fail
      refine (K2 x1).mono ?_
      rintro e w2 ⟨rfl, hb⟩
      obtain ⟨x2, rfl⟩ := x1.next hb
      clear hb
      go_wp2
      go_returns
      exact ⟨rfl, HB.out x2⟩
  · rw [hmax' _ _ h1, hmin' _ _ h2]
    have H1 : decide (r.fr < s.fr) = false := by exact decide_eq_false h1
    have H2 : decide (s.to < r.to) = false := by exact decide_eq_false h2
    clear hmax hmax' hmin hmin' h1 h2
    cases ok1
    · simp only [Bool.false_and, Bool.false_eq_true, if_false]
      clear hno hye K2
      go_enter Tryz.func51, Tryz.ntmps51
      go_upto_region 1 with fail
      rw [← E0.out]
      refine wp_region_later (W := W0) (Below.refl _ _) (by kernel_rfl) (by kernel_rfl) ?_
      repeat (go_big_quiet_step (fail))
      refine wpQuiet_nil ?_
      intro _ hw'
      obtain ⟨x0, rfl⟩ := hw'
      go_wp2_with fail
      refine (K1 x0).mono ?_
      rintro e w1 ⟨rfl, hb⟩
      obtain ⟨x1, rfl⟩ := x0.next hb
      clear hb
      go_wp2
      go_returns
      exact ⟨rfl, HB.out x1⟩
    cases ok2
    · simp only [Bool.and_false, Bool.false_and, Bool.false_eq_true, if_false]
      clear hno hye
      go_enter Tryz.func51, Tryz.ntmps51
      go_upto_region 1 with fail
      rw [← E0.out]
      refine wp_region_later (W := W0) (Below.refl _ _) (by kernel_rfl) (by kernel_rfl) ?_
      repeat (go_big_quiet_step (fail))
      refine wpQuiet_nil ?_
      intro _ hw'
      obtain ⟨x0, rfl⟩ := hw'
      go_wp2_with fail
      refine (K1 x0).mono ?_
      rintro e w1 ⟨rfl, hb⟩
      obtain ⟨x1, rfl⟩ := x0.next hb
      clear hb
      go_wp2_with fail
      refine (K2 x1).mono ?_
      rintro e w2 ⟨rfl, hb⟩
      obtain ⟨x2, rfl⟩ := x1.next hb
      clear hb
      go_wp2
      go_returns
      exact ⟨rfl, HB.out x2⟩
    by_cases hm : r.fr ≤ r.to
    · have hd := hno _ _ hm
      simp only [hm, decide_true, Bool.true_and, if_true]
      clear hno hye hm
      go_enter Tryz.func51, Tryz.ntmps51
      go_upto_region 1 with fail
      rw [← E0.out]
      refine wp_region_later (W := W0) (Below.refl _ _) (by kernel_rfl) (by kernel_rfl) ?_
      repeat (go_big_quiet_step (fail))
      refine wpQuiet_nil ?_
      intro _ hw'
      obtain ⟨x0, rfl⟩ := hw'
      go_wp2_with fail
      refine (K1 x0).mono ?_
      rintro e w1 ⟨rfl, hb⟩
      obtain ⟨x1, rfl⟩ := x0.next hb
      clear hb
      go_wp2_with fail
      refine (K2 x1).mono ?_
      rintro e w2 ⟨rfl, hb⟩
      obtain ⟨x2, rfl⟩ := x1.next hb
      clear hb
      go_wp2
      go_returns
      exact ⟨rfl, HB.out x2⟩
    · have hd := hye _ _ hm
      simp only [hm, decide_false, Bool.true_and, Bool.false_eq_true, if_false]
      clear hno hye hm
      go_enter Tryz.func51, Tryz.ntmps51
      go_upto_region 1 with fail
      rw [← E0.out]
      refine wp_region_later (W := W0) (Below.refl _ _) (by kernel_rfl) (by kernel_rfl) ?_
      repeat (go_big_quiet_step (fail))
      refine wpQuiet_nil ?_
      intro _ hw'
      obtain ⟨x0, rfl⟩ := hw'
      go_wp2_with fail
      refine (K1 x0).mono ?_
      rintro e w1 ⟨rfl, hb⟩
      obtain ⟨x1, rfl⟩ := x0.next hb
      clear hb
      go_wp2_with fail
      refine (K2 x1).mono ?_
      rintro e w2 ⟨rfl, hb⟩
      obtain ⟨x2, rfl⟩ := x1.next hb
      clear hb
      go_wp2
      go_returns
      exact ⟨rfl, HB.out x2⟩
end Go.Proofs.YtilpencbbdpgfaaGreatDoor.ctr
