/- Contract of the model's RomanOf: it answers its plain function. -/
import Derived.Test.YtpclaceefapppaaGreatDoorJnZad
import Derived.Deep.DeepCutAuto
set_option maxRecDepth 100000
set_option maxHeartbeats 8000000
namespace Go.Proofs.YtpclaceefapppaaGreatDoor.ctr
open Go.RowKit
theorem days_count {c y m d : Int} (h : dateP c y m d) : (if monthDays c y m = 29 ∧ d ≤ 24 then 28 else monthDays c y m) = countDays c y m d := by
 have hm := dateP_month h
 have hc := h.1
 unfold countDays
 by_cases e2 : m = 2
 · subst e2
   by_cases hl : leapP c y
   · rw [monthDays_leap hc hl]
     by_cases h24 : d ≤ 24
     · rw [if_pos ⟨rfl, h24⟩, if_pos ⟨rfl, h24⟩]
     · rw [if_neg (fun h => h24 h.2), if_neg (fun h => h24 h.2)]
   · have h28 : monthDays c y 2 = 28 := monthDays_plain hc (by omega) (by omega) (fun h => hl h.2)
     rw [h28]
     split <;> split <;> omega
 · have h29 : monthDays c y m ≠ 29 := by
    rw [monthDays_plain hc hm.1 hm.2 (fun h => e2 h.1)]
    rcases month_cases hm.1 hm.2 with rfl | rfl | rfl | rfl | rfl | rfl | rfl | rfl | rfl | rfl | rfl | rfl <;> decide
   rw [if_neg (fun h => h29 h.1), if_neg (fun h => e2 h.1)]
theorem specRomanOf (c y m d : Int) (w : World) : CR 162 #[.agg #[.int .i64 c, .int .i64 y, .int .i64 m, .int .i64 d]] w (romV (romanOf c y m d)) := by
 obtain ⟨W0, hW0, hD, hR, hBl⟩ := two_box w #[.int .i64 c, .int .i64 y, .int .i64 m, .int .i64 d] romZ 161 54
 obtain ⟨c0, c1, c2, c3⟩ := cells4 hD
 obtain ⟨r0, r1, r2, r3⟩ := cells4 hR
 obtain ⟨f0, f1, f2, f3⟩ := thaws4 hR
 have KO : ∀ W, CR 221 #[.agg #[.int .i64 c, .int .i64 y, .int .i64 m, .int .i64 d]] W (.bool (dateOk c y m d)) := specDateOk c y m d
 have KM : ∀ W, CR 220 #[.int .i64 c, .int .i64 y, .int .i64 m] W (.int .i64 (monthDays c y m)) := specMonthDays c y m
 have KN : ∀ W, CS 227 #[.int .i64 m] W (.int .i64 (nones m)) := specNones m
 have KI : ∀ W, CS 228 #[.int .i64 m] W (.int .i64 (ides m)) := specIdes m
 have KL : ∀ W, CS 229 #[.int .i64 c, .int .i64 y] W (.bool (leapB c y)) := specLeap c y
 have HW0 := hideP hW0
 have HBl := hideP hBl
 have HR := hideP hR
 obtain ⟨x0, hx0⟩ := Later.of (Below.refl W0.heap.size W0)
 have HX0 := hideP hx0
 clear hW0 hBl hD hR hx0
 by_cases hok : dateP c y m d
 case neg =>
  rw [dateOk_false hok] at KO
  have HV : Hid (romanOf c y m d = ⟨0, 0, 0, false⟩) := by unfold Hid romanOf; rw [if_neg hok]
  rw [HV.out]
  clear HV KM KN KI KL hok
  go_enter Tryz.func162, Tryz.ntmps162
  go_wp2_with fail
  rw [← HW0.out, HX0.out]
  refine lat (KO _) fun x1 => ?_
  go_wp2_with fail
  rw [put4_eq]
  have Z := put4_blk (v0 := .int .i64 0) (v1 := .int .i64 0) (v2 := .int .i64 0) (v3 := .bool false) (HR.out x1)
  have z0 := Z.cell 0 rfl
  have z1 := Z.cell 1 rfl
  have z2 := Z.cell 2 rfl
  have z3 := Z.cell 3 rfl
  exact bodyPost_ret (by simp [results, Tryz.results162, go_sem, z0, z1, z2, z3]; try rfl) rfl ⟨rfl, put4_below (HBl.out x1) (by omega)⟩
 rw [dateOk_true hok] at KO
 have hm := dateP_month hok
 have hd := dateP_day hok
 have hm1 := hm.1
 have hm2 := hm.2
 have hd1 := hd.1
 have hd2 := hd.2
 have hmd := monthDays_le c y m
 have hcd := days_count hok
 have hnb := nones_b m
 have hib := ides_b m
 have hmr : m.tmod 12 = m % 12 := by rw [Int.tmod_eq_emod_of_nonneg (by omega)]
 have HV : Hid (romanOf c y m d = romanIn c y m d) := by unfold Hid romanOf; rw [if_pos hok]
 rw [HV.out]
 have HA : Hid (d = 1 → romanIn c y m d = ⟨1, 0, m, false⟩) := fun h => by unfold romanIn; rw [if_pos h]
 have HN : Hid (¬ d = 1 → d ≤ nones m → romanIn c y m d = ⟨nones m - d + 1, 1, m, false⟩) := fun h h' => by unfold romanIn; rw [if_neg h, if_pos h']
 have HI : Hid (¬ d = 1 → ¬ d ≤ nones m → d ≤ ides m → romanIn c y m d = ⟨ides m - d + 1, 2, m, false⟩) := fun h h' h'' => by unfold romanIn; rw [if_neg h, if_neg h', if_pos h'']
 have HE : Hid (¬ d = 1 → ¬ d ≤ nones m → ¬ d ≤ ides m → romanIn c y m d = ⟨countDays c y m d - d + 2, 0, m % 12 + 1, decide (m = 2) && (decide (d = 24) && leapB c y)⟩) := fun h h' h'' => by
  unfold romanIn
  rw [if_neg h, if_neg h', if_neg h'']
  congr 1
  unfold leapB
  by_cases e1 : m = 2 <;> by_cases e2 : d = 24 <;> by_cases e3 : leapP c y <;> simp [e1, e2, e3]
 rw [← hcd] at HE
 clear HV hok hm hd hcd
 generalize leapB c y = lb at *
 generalize romanIn c y m d = R at *
 generalize nones m = nn at *
 generalize ides m = ii at *
 generalize monthDays c y m = md at *
 obtain ⟨dd, hdd⟩ : ∃ dd, dd = (if md = 29 ∧ d ≤ 24 then 28 else md) := ⟨_, rfl⟩
 have hdb : 0 ≤ dd ∧ dd ≤ 31 := by rw [hdd]; split <;> omega
 rw [← hdd] at HE
 have HDD := hideP hdd
 clear hdd
 go_enter Tryz.func162, Tryz.ntmps162
 go_wp2_with fail
 rw [← HW0.out, HX0.out]
 refine lat (KO _) fun x1 => ?_
 go_wp2_with fail
 refine lat (KM _) fun x2 => ?_
 go_upto_region 4 with fail
 obtain ⟨bb, hbb⟩ : ∃ bb, bb = decide (md = 29 ∧ d ≤ 24) := ⟨_, rfl⟩
 go_cut [21] (fun s wx => s = .bool bb ∧ wx = x2.w)
 case first =>
  by_cases h29 : md = 29
  · have g1 : (md == 29) = true := by simp [h29]
    by_cases h24 : d ≤ 24
    · have g2 : decide (d ≤ 24) = true := decide_eq_true h24
      have HB : Hid (bb = true) := hbb.trans (decide_eq_true ⟨h29, h24⟩)
      clear h29 hbb
      go_wp2_with fail
      go_meet
      exact ⟨by rw [HB.out], rfl⟩
    · have g2 : decide (d ≤ 24) = false := decide_eq_false h24
      have HB : Hid (bb = false) := hbb.trans (decide_eq_false (fun h => h24 h.2))
      clear h29 hbb
      go_wp2_with fail
      go_meet
      exact ⟨by rw [HB.out], rfl⟩
  · have g1 : (md == 29) = false := by simp [h29]
    have HB : Hid (bb = false) := hbb.trans (decide_eq_false (fun h => h29 h.1))
    clear h29 hbb
    go_wp2_with fail
    go_meet
    exact ⟨by rw [HB.out], rfl⟩
 case rest =>
 obtain ⟨rfl, rfl⟩ := hcut
 have HBB := hideP hbb
 clear hbb
 go_upto_if 21 with fail
 go_cut [3] (fun s wx => s = .int .i64 dd ∧ wx = x2.w)
 case first =>
  cases bb
  · have HQ : Hid (dd = md) := HDD.out.trans (if_neg (of_decide_eq_false HBB.out.symm))
    go_wp2_with fail
    go_meet
    exact ⟨by rw [HQ.out], rfl⟩
  · have HQ : Hid (dd = 28) := HDD.out.trans (if_pos (of_decide_eq_true HBB.out.symm))
    go_wp2_with fail
    go_meet
    exact ⟨by rw [HQ.out], rfl⟩
 case rest =>
 obtain ⟨rfl, rfl⟩ := hcut
 clear HBB HDD
 by_cases e1 : d = 1
 · have HF := hideP (HA.out e1)
   have d1 : (d == 1) = true := by simp [e1]
   clear HA HN HI HE e1
   go_wp2_with fail
   rw [put4_eq]
   have Z := put4_blk (v0 := .int .i64 (1)) (v1 := .int .i64 0) (v2 := .int .i64 (m)) (v3 := .bool false) (HR.out x2)
   have z0 := Z.cell 0 rfl
   have z1 := Z.cell 1 rfl
   have z2 := Z.cell 2 rfl
   have z3 := Z.cell 3 rfl
   exact bodyPost_ret (by simp [results, Tryz.results162, go_sem, z0, z1, z2, z3]; try rfl) rfl ⟨by rw [HF.out], put4_below (HBl.out x2) (by omega)⟩
 have d1 : (d == 1) = false := by simp [e1]
 by_cases e2 : d ≤ nn
 · have HF := hideP (HN.out e1 e2)
   have d2 : decide (d ≤ nn) = true := decide_eq_true e2
   clear HA HN HI HE
   go_wp2_with fail
   refine wp_region_later (W := W0) x2.below (by kernel_rfl) (by kernel_rfl) ?_
   repeat (go_big_quiet_step (first | (go_at_call 227; exact calls_same (KN _))))
   refine quietE fun x3 => ?_
   go_wp2_with fail
   obtain ⟨xd, hxd⟩ : ∃ xd : Later W0, x3.w.drew = xd.w := ⟨⟨x3.w.drew, x3.below.drew⟩, rfl⟩
   refine wp_region_any (by kernel_rfl) ?_
   change wpAny _ _ _ _ (1 + 10) _ _ _
   refine any_prefix (C := fun w' => ∃ x : Later W0, w' = x.w) 10 1 (by decide) (by kernel_rfl) (by kernel_rfl) (by kernel_rfl) (by kernel_rfl) (by kernel_rfl) ⟨xd, hxd⟩ ?_
   simp only [List.take_succ_cons, List.take_zero]
   clear hxd xd
   repeat (go_big_quiet_step (first | (go_at_call 227; exact calls_same (KN _))))
   refine quietE fun x9 => ?_
   refine wpAny_ready (rs := [10]) (by kernel_rfl) (by simp) ?_
   refine AllReady.cons rfl (fun K hK => ?_) AllReady.nil
   go_simp
   refine hK _ _ ?_
   clear hK K
   refine wpAny_done (by kernel_rfl) ?_ _
   rw [put4_eq]
   go_wp2_with fail
   have Z := put4_blk (v0 := .int .i64 (nn - d + 1)) (v1 := .int .i64 1) (v2 := .int .i64 (m)) (v3 := .bool false) (HR.out x9)
   have z0 := Z.cell 0 rfl
   have z1 := Z.cell 1 rfl
   have z2 := Z.cell 2 rfl
   have z3 := Z.cell 3 rfl
   exact bodyPost_ret (by simp [results, Tryz.results162, go_sem, z0, z1, z2, z3]; try rfl) rfl ⟨by rw [HF.out], put4_below (HBl.out x9) (by omega)⟩
 have d2 : decide (d ≤ nn) = false := decide_eq_false e2
 go_wp2_with fail
 refine wp_region_later (W := W0) x2.below (by kernel_rfl) (by kernel_rfl) ?_
 repeat (go_big_quiet_step (first | (go_at_call 227; exact calls_same (KN _))))
 refine quietE fun x3 => ?_
 by_cases e3 : d ≤ ii
 · have HF := hideP (HI.out e1 e2 e3)
   have d3 : decide (d ≤ ii) = true := decide_eq_true e3
   clear HA HN HI HE
   go_wp2_with fail
   refine wp_region_later (W := W0) x3.below (by kernel_rfl) (by kernel_rfl) ?_
   repeat (go_big_quiet_step (first | (go_at_call 228; exact calls_same (KI _))))
   refine quietE fun x4 => ?_
   go_wp2_with fail
   obtain ⟨xd, hxd⟩ : ∃ xd : Later W0, x4.w.drew = xd.w := ⟨⟨x4.w.drew, x4.below.drew⟩, rfl⟩
   refine wp_region_any (by kernel_rfl) ?_
   change wpAny _ _ _ _ (1 + 10) _ _ _
   refine any_prefix (C := fun w' => ∃ x : Later W0, w' = x.w) 10 1 (by decide) (by kernel_rfl) (by kernel_rfl) (by kernel_rfl) (by kernel_rfl) (by kernel_rfl) ⟨xd, hxd⟩ ?_
   simp only [List.take_succ_cons, List.take_zero]
   clear hxd xd
   repeat (go_big_quiet_step (first | (go_at_call 228; exact calls_same (KI _))))
   refine quietE fun x9 => ?_
   refine wpAny_ready (rs := [10]) (by kernel_rfl) (by simp) ?_
   refine AllReady.cons rfl (fun K hK => ?_) AllReady.nil
   go_simp
   refine hK _ _ ?_
   clear hK K
   refine wpAny_done (by kernel_rfl) ?_ _
   rw [put4_eq]
   go_wp2_with fail
   have Z := put4_blk (v0 := .int .i64 (ii - d + 1)) (v1 := .int .i64 2) (v2 := .int .i64 (m)) (v3 := .bool false) (HR.out x9)
   have z0 := Z.cell 0 rfl
   have z1 := Z.cell 1 rfl
   have z2 := Z.cell 2 rfl
   have z3 := Z.cell 3 rfl
   exact bodyPost_ret (by simp [results, Tryz.results162, go_sem, z0, z1, z2, z3]; try rfl) rfl ⟨by rw [HF.out], put4_below (HBl.out x9) (by omega)⟩
 have d3 : decide (d ≤ ii) = false := decide_eq_false e3
 have HF0 := hideP (HE.out (by omega) (by omega) (by omega))
 clear HA HN HI HE
 go_wp2_with fail
 refine wp_region_later (W := W0) x3.below (by kernel_rfl) (by kernel_rfl) ?_
 repeat (go_big_quiet_step (first | (go_at_call 228; exact calls_same (KI _))))
 refine quietE fun x4 => ?_
 cases hm22 : decide (m = 2)
 · have m22 : (m == 2) = false := by simpa using hm22
   have HF : Hid (R = ⟨dd - d + 2, 0, m % 12 + 1, false⟩) := by rw [hm22] at HF0; exact HF0.out
   clear HF0 hm22
   go_wp2_with fail
   obtain ⟨xd, hxd⟩ : ∃ xd : Later W0, x4.w.drew = xd.w := ⟨⟨x4.w.drew, x4.below.drew⟩, rfl⟩
   refine wp_region_any (by kernel_rfl) ?_
   change wpAny _ _ _ _ (1 + 25) _ _ _
   refine any_prefix (C := fun w' => ∃ x : Later W0, w' = x.w) 25 1 (by decide) (by kernel_rfl) (by kernel_rfl) (by kernel_rfl) (by kernel_rfl) (by kernel_rfl) ⟨xd, hxd⟩ ?_
   simp only [List.take_succ_cons, List.take_zero]
   clear hxd xd
   repeat (go_big_quiet_step (first | (go_at_call 229; exact calls_same (KL _))))
   refine quietE fun x9 => ?_
   refine wpAny_ready (rs := [25]) (by kernel_rfl) (by simp) ?_
   refine AllReady.cons rfl (fun K hK => ?_) AllReady.nil
   go_simp
   refine hK _ _ ?_
   clear hK K
   refine wpAny_done (by kernel_rfl) ?_ _
   rw [put4_eq]
   go_wp2_with fail
   have Z := put4_blk (v0 := .int .i64 (dd - d + 2)) (v1 := .int .i64 0) (v2 := .int .i64 (m % 12 + 1)) (v3 := .bool false) (HR.out x9)
   have z0 := Z.cell 0 rfl
   have z1 := Z.cell 1 rfl
   have z2 := Z.cell 2 rfl
   have z3 := Z.cell 3 rfl
   exact bodyPost_ret (by simp [results, Tryz.results162, go_sem, z0, z1, z2, z3]; try rfl) rfl ⟨by rw [HF.out], put4_below (HBl.out x9) (by omega)⟩
 have m22 : (m == 2) = true := by simpa using hm22
 cases hm24 : decide (d = 24)
 focus
   have m24 : (d == 24) = false := by simpa using hm24
   have HF : Hid (R = ⟨dd - d + 2, 0, m % 12 + 1, false⟩) := by rw [hm22, hm24] at HF0; exact HF0.out
 rotate_left
 focus
   have m24 : (d == 24) = true := by simpa using hm24
   have HF : Hid (R = ⟨dd - d + 2, 0, m % 12 + 1, lb⟩) := by rw [hm22, hm24] at HF0; exact HF0.out
 rotate_left
 all_goals
  clear HF0 hm22 hm24
  go_wp2_with fail
  obtain ⟨xd, hxd⟩ : ∃ xd : Later W0, x4.w.drew = xd.w := ⟨⟨x4.w.drew, x4.below.drew⟩, rfl⟩
  refine wp_region_any (by kernel_rfl) ?_
  change wpAny _ _ _ _ (1 + 25) _ _ _
  refine any_prefix (C := fun w' => ∃ x : Later W0, w' = x.w) 25 1 (by decide) (by kernel_rfl) (by kernel_rfl) (by kernel_rfl) (by kernel_rfl) (by kernel_rfl) ⟨xd, hxd⟩ ?_
  simp only [List.take_succ_cons, List.take_zero]
  clear hxd xd
  repeat (go_big_quiet_step (first | (go_at_call 229; exact calls_same (KL _))))
  refine quietE fun x9 => ?_
  refine wpAny_ready (rs := [25]) (by kernel_rfl) (by simp) ?_
  refine AllReady.cons rfl (fun K hK => ?_) AllReady.nil
  go_simp
  refine hK _ _ ?_
  clear hK K
  refine wpAny_done (by kernel_rfl) ?_ _
  rw [put4_eq]
  go_wp2_with fail
 · have Z := put4_blk (v0 := .int .i64 (dd - d + 2)) (v1 := .int .i64 0) (v2 := .int .i64 (m % 12 + 1)) (v3 := .bool false) (HR.out x9)
   have z0 := Z.cell 0 rfl
   have z1 := Z.cell 1 rfl
   have z2 := Z.cell 2 rfl
   have z3 := Z.cell 3 rfl
   exact bodyPost_ret (by simp [results, Tryz.results162, go_sem, z0, z1, z2, z3]; try rfl) rfl ⟨by rw [HF.out], put4_below (HBl.out x9) (by omega)⟩
 have Z := put4_blk (v0 := .int .i64 (dd - d + 2)) (v1 := .int .i64 0) (v2 := .int .i64 (m % 12 + 1)) (v3 := .bool lb) (HR.out x9)
 have z0 := Z.cell 0 rfl
 have z1 := Z.cell 1 rfl
 have z2 := Z.cell 2 rfl
 have z3 := Z.cell 3 rfl
 exact bodyPost_ret (by simp [results, Tryz.results162, go_sem, z0, z1, z2, z3]; try rfl) rfl ⟨by rw [HF.out], put4_below (HBl.out x9) (by omega)⟩
end Go.Proofs.YtpclaceefapppaaGreatDoor.ctr
