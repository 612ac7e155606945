/- Contracts of the model's l09Segs and l09Patches; and what else the law reaches. -/
import Derived.Test.YtpclaceefapppaaGreatDoorJnZbc
import Derived.Test.YtpclaceefapppaaGreatDoorJnZbd
import Derived.Test.YtpclaceefapppaaGreatDoorJnZam
import Derived.Test.YtpclaceefapppaaGreatDoorJnZan
import Derived.Test.YtpclaceefapppaaGreatDoorJnZas
import Derived.Test.YtpclaceefapppaaGreatDoorJnZad
set_option maxRecDepth 100000
set_option maxHeartbeats 4000000
namespace Go.Proofs.YtpclaceefapppaaGreatDoor.ctr
open Go.RowKit
theorem specSegs9 (v : Value) (r : Rgm) (w : World) (h : GRow w v r) (hf : -9223372036854775808 ≤ r.fr) (ht : r.to ≤ 9223372036854775807) : CR 59 #[v] w (.bool (segsB r.fr r.to r.segs)) := by
 obtain ⟨nm, f, t, l, ps, rs, ru⟩ := r
 obtain ⟨v1, v2, v3, rfl, _, x1, x2, x3⟩ := h
 dsimp only at x1 x2 x3
 obtain ⟨W0, hW0, d0, d1, d2, d3, d4, d5, d6, hBl⟩ := seven_box w (.string nm) (.int .i64 f) (.int .i64 t) v1 v2 v3 (.int .i64 ru) 35
 have hrow := x1.below (hBl ⟨W0, Below.refl _ _⟩)
 have KT : Hid (∀ y : Later W0, l.length ≤ 1048576 → CR 106 #[.int .i64 f, .int .i64 t, v1] y.w (.int .i64 (tilesZ f t l))) := fun y h1 => specTiles f t v1 l y.w (hrow.below y.below) h1 hf ht
 obtain ⟨a1, c1, rfl, _⟩ := x1
 obtain ⟨a2, c2, rfl, _⟩ := x2
 obtain ⟨a3, c3, rfl, _⟩ := x3
 obtain ⟨a, c, ev, hl, hm, H⟩ := hrow
 cases ev
 have HK := hideP H
 have HW0 := hideP hW0
 have HBl := hideP hBl
 unfold maxLen at hm
 dsimp only
 clear H hW0 hBl
 clear hf ht
 have KL : Hid (∀ W, CS 98 #[.int .i64 (l.length : Int), .int .i64 1, .int .i64 20] W (.bool (inB (l.length : Int) 1 20))) := fun W => l01In _ _ _ W
 have hst : Hid (Below W0.heap.size W0 W0) := Below.refl _ _
 go_enter Tryz.func59, Tryz.ntmps59
 go_wp2
 rw [← HW0.out]
 go_loopw [3] (fun i wr => ∃ k : Nat, k ≤ l.length ∧ i = .int .i64 (k : Int) ∧ Hid (allTo (segFit f t l) k = true) ∧ ∃ y : Later W0, wr = y.w) (fun i _ => l.length - (intOf i).toNat)
 case atStart => exact ⟨0, Nat.zero_le _, rfl, rfl, ⟨W0, hst.out⟩, rfl⟩
 case round =>
  obtain ⟨k, hk, rfl, HF, y, rfl⟩ := hrel
  by_cases hlt : k < l.length
  · obtain ⟨g, rfl, hg, x⟩ := HK.out k hlt
    obtain ⟨e0, e1, e2, e3, e4⟩ := (x.below y.below hg).seg
    obtain ⟨W1, hW1, c10, c11, c12, c13, c14, hBl1⟩ := seg_box y.w (atK segK l k).fr (atK segK l k).to (atK segK l k).cal (atK segK l k).sty (atK segK l k).off 91
    have hY : ∀ z : Later W1, Below W0.heap.size W0 z.w := fun z => y.on (hBl1 z)
    have D1 : ∀ z : Later W1, z.w.cell? ⟨w.heap.size, 1, none⟩ = some (.int .i64 f) := fun z => d1 ⟨z.w, hY z⟩
    have D2 : ∀ z : Later W1, z.w.cell? ⟨w.heap.size, 2, none⟩ = some (.int .i64 t) := fun z => d2 ⟨z.w, hY z⟩
    have D3 : ∀ z : Later W1, z.w.cell? ⟨w.heap.size, 3, none⟩ = some (.slice (some ⟨g, 0, none⟩) l.length c1) := fun z => d3 ⟨z.w, hY z⟩
    have HP : Hid (∀ j, k = j + 1 → ∀ z : Later W1, z.w.cell? ⟨g, j * 5, none⟩ = some (.int .i64 (atK segK l j).fr)) := fun j e z => by
     obtain ⟨g', e', hg', x'⟩ := HK.out j (by omega)
     cases e'
     exact ((x'.below (hY z) hg').seg).1
    have F1 := hideP (fun h => segs_bad (f := f) (t := t) (k := k) (fit_no1 h) hlt)
    have F2 := hideP (fun h => segs_bad (f := f) (t := t) (k := k) (fit_no2 h) hlt)
    have F3 := hideP (fun h => segs_bad (f := f) (t := t) (k := k) (fit_no3 h) hlt)
    have F4 := hideP (fun (j : Nat) (e : k = j + 1) h => segs_bad (f := f) (t := t) (k := k) (fit_no4 e h) hlt)
    have F5 := hideP (fun h1 h2 h3 h4 => allTo_next HF.out (fit_yes (f := f) (t := t) (k := k) h1 h2 h3 h4))
    have HW1 := hideP hW1
    have HY := hideP hY
    clear x hW1 hBl1 hY
    generalize atK segK l k = s at *
    have KO : ∀ y : Later W1, CR 105 #[.agg #[.int .i64 s.fr, .int .i64 s.to, .int .i64 s.cal, .int .i64 s.sty, .int .i64 s.off]] y.w (.bool (segOkB s)) := fun y => specSegOk s y.w
    generalize segOkB s = b1 at *
    cases b1
    · have HR := hideP (F1.out rfl)
      go_wp2_with fail
      rw [← HW1.out]
      refine wp_region_later (W := W1) (Below.refl _ _) (by kernel_rfl) (by kernel_rfl) ?_
      repeat (go_big_quiet_step (first | (go_at_call 105; exact calls_later (KO _)) | fail))
      refine quietE fun u => ?_
      go_wp2
      go_ret
      exact ⟨ret_bool HR.out.symm, HBl.out ⟨u.w, HY.out u⟩⟩
    by_cases h2 : f ≤ s.fr
    case neg =>
     have HR := hideP (F2.out (by omega))
     have q3 : decide (s.fr < f) = true := decide_eq_true (by omega)
     go_wp2_with fail
     rw [← HW1.out]
     refine wp_region_later (W := W1) (Below.refl _ _) (by kernel_rfl) (by kernel_rfl) ?_
     repeat (go_big_quiet_step (first | (go_at_call 105; exact calls_later (KO _)) | fail))
     refine quietE fun u => ?_
     go_wp2
     go_ret
     exact ⟨ret_bool HR.out.symm, HBl.out ⟨u.w, HY.out u⟩⟩
    have q3 : decide (s.fr < f) = false := decide_eq_false (by omega)
    by_cases h3 : s.to ≤ t
    case neg =>
     have HR := hideP (F3.out (by omega))
     have q4 : decide (t < s.to) = true := decide_eq_true (by omega)
     go_wp2_with fail
     rw [← HW1.out]
     refine wp_region_later (W := W1) (Below.refl _ _) (by kernel_rfl) (by kernel_rfl) ?_
     repeat (go_big_quiet_step (first | (go_at_call 105; exact calls_later (KO _)) | fail))
     refine quietE fun u => ?_
     go_wp2
     go_ret
     exact ⟨ret_bool HR.out.symm, HBl.out ⟨u.w, HY.out u⟩⟩
    have q4 : decide (t < s.to) = false := decide_eq_false (by omega)
    obtain rfl | ⟨j, rfl⟩ : k = 0 ∨ ∃ j, k = j + 1 := by cases k with | zero => exact .inl rfl | succ j => exact .inr ⟨j, rfl⟩
    · have HN := hideP (F5.out rfl h2 h3 (fun j e => by omega))
      go_wp2_with fail
      rw [← HW1.out]
      refine wp_region_later (W := W1) (Below.refl _ _) (by kernel_rfl) (by kernel_rfl) ?_
      repeat (go_big_quiet_step (first | (go_at_call 105; exact calls_later (KO _)) | fail))
      refine quietE fun u => ?_
      go_wp2
      exact ⟨⟨0 + 1, by omega, by go_num, HN.out, ⟨u.w, HY.out u⟩, rfl⟩, by simp [intOf]; omega⟩
    · have e5 := HP.out j rfl
      have G4 := hideP (F4.out j rfl)
      have G5 := hideP (fun (h4 : (atK segK l j).fr < s.fr) => F5.out rfl h2 h3 (fun i e => (show i = j from by omega) ▸ h4))
      have hj0 : decide ((0 : Int) < (j : Int) + 1) = true := decide_eq_true (by omega)
      clear HP F1 F2 F3 F4 F5
      generalize (atK segK l j).fr = P at *
      by_cases h4 : P < s.fr
      case neg =>
       have HR := hideP (G4.out (by omega))
       have q5 : decide (s.fr ≤ P) = true := decide_eq_true (by omega)
       go_wp2_with fail
       rw [← HW1.out]
       refine wp_region_later (W := W1) (Below.refl _ _) (by kernel_rfl) (by kernel_rfl) ?_
       repeat (go_big_quiet_step (first | (go_at_call 105; exact calls_later (KO _)) | fail))
       refine quietE fun u => ?_
       go_wp2
       go_ret
       exact ⟨ret_bool HR.out.symm, HBl.out ⟨u.w, HY.out u⟩⟩
      have HN := hideP (G5.out h4)
      have q5 : decide (s.fr ≤ P) = false := decide_eq_false (by omega)
      go_wp2_with fail
      rw [← HW1.out]
      refine wp_region_later (W := W1) (Below.refl _ _) (by kernel_rfl) (by kernel_rfl) ?_
      repeat (go_big_quiet_step (first | (go_at_call 105; exact calls_later (KO _)) | fail))
      refine quietE fun u => ?_
      go_wp2
      exact ⟨⟨j + 1 + 1, by omega, by go_num, HN.out, ⟨u.w, HY.out u⟩, rfl⟩, by simp [intOf]; omega⟩
  · have hkn : k = l.length := by omega
    have HA : Hid (allTo (segFit f t l) l.length = true) := by rw [← hkn]; exact HF
    have HR1 := hideP (fun h => segs_end (f := f) (t := t) (l := l) h HA.out)
    have HR0 := hideP (fun h => segs_short (f := f) (t := t) (l := l) h)
    have HL : Hid (inB (l.length : Int) 1 20 = true → l.length ≤ 1048576) := fun h => by
     by_cases hx : l.length ≤ 1048576
     · exact hx
     · rw [inB_false (.inr (by omega))] at h; cases h
    have KC := hideP (fun h => KT.out y (HL.out h))
    clear KT HF
    subst hkn
    generalize inB (l.length : Int) 1 20 = b at *
    generalize tilesZ f t l = Z at *
    go_wp2_with fail
    refine sameC (KL.out _) ?_
    cases b
    · have HR := hideP (HR0.out rfl)
      go_wp2
      go_ret
      exact ⟨ret_bool HR.out.symm, HBl.out y⟩
    have HR := hideP (HR1.out rfl)
    have KD := hideP (KC.out rfl)
    clear KC HR1 HR0 HL
    go_wp2_with fail
    refine KD.out.mono ?_
    rintro e w2 ⟨rfl, hb⟩
    have HB2 : Hid (Below w.heap.size w w2) := HBl.out ⟨w2, y.on hb⟩
    clear hb
    by_cases hz : Z = 0
    · subst hz
      go_wp2
      go_ret
      exact ⟨ret_bool (by rw [HR.out]; rfl), HB2.out⟩
    · have hz' : (Z == 0) = false := by simp [hz]
      have HR2 : Hid (segsB f t l = false) := by unfold Hid; rw [HR.out]; exact decide_eq_false hz
      go_wp2
      go_ret
      exact ⟨ret_bool HR2.out.symm, HB2.out⟩
theorem specPatches9 (v : Value) (r : Rgm) (w : World) (h : GRow w v r) : CR 60 #[v] w (.bool (patsB r.fr r.to r.pats)) := by
 obtain ⟨nm, f, t, ss, l, rs, ru⟩ := r
 obtain ⟨v1, v2, v3, rfl, _, x1, x2, x3⟩ := h
 dsimp only at x1 x2 x3
 obtain ⟨W0, hW0, d0, d1, d2, d3, d4, d5, d6, hBl⟩ := seven_box w (.string nm) (.int .i64 f) (.int .i64 t) v1 v2 v3 (.int .i64 ru) 35
 have hrow := x2.below (hBl ⟨W0, Below.refl _ _⟩)
 obtain ⟨a1, c1, rfl, _⟩ := x1
 obtain ⟨a2, c2, rfl, _⟩ := x2
 obtain ⟨a3, c3, rfl, _⟩ := x3
 obtain ⟨a, c, ev, hl, hm, H⟩ := hrow
 cases ev
 have HK := hideP H
 have HW0 := hideP hW0
 have HBl := hideP hBl
 unfold maxLen at hm
 dsimp only
 clear H hW0 hBl
 have hst : Hid (Below W0.heap.size W0 W0) := Below.refl _ _
 go_enter Tryz.func60, Tryz.ntmps60
 go_wp2
 rw [← HW0.out]
 go_loopw [3] (fun i wr => ∃ k : Nat, k ≤ l.length ∧ i = .int .i64 (k : Int) ∧ Hid (allTo (patFit f t l) k = true) ∧ ∃ y : Later W0, wr = y.w) (fun i _ => l.length - (intOf i).toNat)
 case atStart => exact ⟨0, Nat.zero_le _, rfl, rfl, ⟨W0, hst.out⟩, rfl⟩
 case round =>
  obtain ⟨k, hk, rfl, HF, y, rfl⟩ := hrel
  by_cases hlt : k < l.length
  · obtain ⟨g, rfl, hg, x⟩ := HK.out k hlt
    obtain ⟨e0, e1, e2⟩ := (x.below y.below hg).pat
    obtain ⟨W1, hW1, c10, c11, c12, hBl1⟩ := pat_box y.w (atK patK l k).day (atK patK l k).mon (atK patK l k).dom 96
    have hY : ∀ z : Later W1, Below W0.heap.size W0 z.w := fun z => y.on (hBl1 z)
    have D1 : ∀ z : Later W1, z.w.cell? ⟨w.heap.size, 1, none⟩ = some (.int .i64 f) := fun z => d1 ⟨z.w, hY z⟩
    have D2 : ∀ z : Later W1, z.w.cell? ⟨w.heap.size, 2, none⟩ = some (.int .i64 t) := fun z => d2 ⟨z.w, hY z⟩
    have D3 : ∀ z : Later W1, z.w.cell? ⟨w.heap.size, 4, none⟩ = some (.slice (some ⟨g, 0, none⟩) l.length c2) := fun z => d4 ⟨z.w, hY z⟩
    have HP : Hid (∀ j, k = j + 1 → ∀ z : Later W1, z.w.cell? ⟨g, j * 3, none⟩ = some (.int .i64 (atK patK l j).day)) := fun j e z => by
     obtain ⟨g', e', hg', x'⟩ := HK.out j (by omega)
     cases e'
     exact ((x'.below (hY z) hg').pat).1
    have F1 := hideP (fun h => pats_bad (f := f) (t := t) (k := k) (pfit_no1 h) hlt)
    have F2 := hideP (fun h => pats_bad (f := f) (t := t) (k := k) (pfit_no2 h) hlt)
    have F4 := hideP (fun (j : Nat) (e : k = j + 1) h => pats_bad (f := f) (t := t) (k := k) (pfit_no4 e h) hlt)
    have F5 := hideP (fun h1 h2 h4 => allTo_next HF.out (pfit_yes (f := f) (t := t) (k := k) h1 h2 h4))
    have HW1 := hideP hW1
    have HY := hideP hY
    clear x hW1 hBl1 hY
    generalize atK patK l k = s at *
    have KA : ∀ y : Later W1, CS 98 #[.int .i64 s.day, .int .i64 f, .int .i64 t] y.w (.bool (inB s.day f t)) := fun y => l01In _ _ _ y.w
    have KM : ∀ y : Later W1, CS 98 #[.int .i64 s.mon, .int .i64 1, .int .i64 12] y.w (.bool (inB s.mon 1 12)) := fun y => l01In _ _ _ y.w
    have KD : ∀ y : Later W1, CS 98 #[.int .i64 s.dom, .int .i64 1, .int .i64 31] y.w (.bool (inB s.dom 1 31)) := fun y => l01In _ _ _ y.w
    have HPB : Hid (patB s = (inB s.mon 1 12 && inB s.dom 1 31)) := rfl
    generalize patB s = pb at *
    obtain ⟨s0, s1, s2⟩ := s
    dsimp only at *
    generalize inB s0 f t = b1 at *
    generalize inB s1 1 12 = b2 at *
    generalize inB s2 1 31 = b3 at *
    cases b1
    · have HR := hideP (F2.out rfl)
      go_wp2_with fail
      rw [← HW1.out]
      refine wp_region_later (W := W1) (Below.refl _ _) (by kernel_rfl) (by kernel_rfl) ?_
      repeat (go_big_quiet_step (first | (go_at_call_of 98 s0; exact calls_same (KA _)) | (go_at_call_of 98 s1; exact calls_same (KM _)) | (go_at_call_of 98 s2; exact calls_same (KD _)) | fail))
      refine quietE fun u => ?_
      go_wp2
      go_ret
      exact ⟨ret_bool HR.out.symm, HBl.out ⟨u.w, HY.out u⟩⟩
    cases b2
    · have HR := hideP (F1.out (by rw [HPB.out]; rfl))
      go_wp2_with fail
      rw [← HW1.out]
      refine wp_region_later (W := W1) (Below.refl _ _) (by kernel_rfl) (by kernel_rfl) ?_
      repeat (go_big_quiet_step (first | (go_at_call_of 98 s0; exact calls_same (KA _)) | (go_at_call_of 98 s1; exact calls_same (KM _)) | (go_at_call_of 98 s2; exact calls_same (KD _)) | fail))
      refine quietE fun u => ?_
      go_wp2
      go_ret
      exact ⟨ret_bool HR.out.symm, HBl.out ⟨u.w, HY.out u⟩⟩
    cases b3
    · have HR := hideP (F1.out (by rw [HPB.out]; rfl))
      go_wp2_with fail
      rw [← HW1.out]
      refine wp_region_later (W := W1) (Below.refl _ _) (by kernel_rfl) (by kernel_rfl) ?_
      repeat (go_big_quiet_step (first | (go_at_call_of 98 s0; exact calls_same (KA _)) | (go_at_call_of 98 s1; exact calls_same (KM _)) | (go_at_call_of 98 s2; exact calls_same (KD _)) | fail))
      refine quietE fun u => ?_
      go_wp2
      go_ret
      exact ⟨ret_bool HR.out.symm, HBl.out ⟨u.w, HY.out u⟩⟩
    have HP1 : Hid (pb = true) := HPB.out
    obtain rfl | ⟨j, rfl⟩ : k = 0 ∨ ∃ j, k = j + 1 := by cases k with | zero => exact .inl rfl | succ j => exact .inr ⟨j, rfl⟩
    focus
      have HN := hideP (F5.out HP1.out rfl (fun j e => by omega))
    rotate_left
    focus
      have e5 := HP.out j rfl
      have G4 := hideP (F4.out j rfl)
      have G5 := hideP (fun (h4 : (atK patK l j).day < s0) => F5.out HP1.out rfl (fun i e => (show i = j from by omega) ▸ h4))
      have hj0 : decide ((0 : Int) < (j : Int) + 1) = true := decide_eq_true (by omega)
      clear HP F1 F2 F4 F5
      generalize (atK patK l j).day = P at *
      by_cases h4 : P < s0
      case neg =>
       have HR := hideP (G4.out (by omega))
       have q5 : decide (s0 ≤ P) = true := decide_eq_true (by omega)
       go_wp2_with fail
       rw [← HW1.out]
       refine wp_region_later (W := W1) (Below.refl _ _) (by kernel_rfl) (by kernel_rfl) ?_
       repeat (go_big_quiet_step (first | (go_at_call_of 98 s0; exact calls_same (KA _)) | (go_at_call_of 98 s1; exact calls_same (KM _)) | (go_at_call_of 98 s2; exact calls_same (KD _)) | fail))
       refine quietE fun u => ?_
       go_wp2
       go_ret
       exact ⟨ret_bool HR.out.symm, HBl.out ⟨u.w, HY.out u⟩⟩
      have HN := hideP (G5.out h4)
      have q5 : decide (s0 ≤ P) = false := decide_eq_false (by omega)
    rotate_left
    all_goals
     go_wp2_with fail
     rw [← HW1.out]
     refine wp_region_later (W := W1) (Below.refl _ _) (by kernel_rfl) (by kernel_rfl) ?_
     repeat (go_big_quiet_step (first | (go_at_call_of 98 s0; exact calls_same (KA _)) | (go_at_call_of 98 s1; exact calls_same (KM _)) | (go_at_call_of 98 s2; exact calls_same (KD _)) | fail))
     refine quietE fun u => ?_
     go_wp2
    · exact ⟨⟨0 + 1, by omega, by go_num, HN.out, ⟨u.w, HY.out u⟩, rfl⟩, by simp [intOf]; omega⟩
    · exact ⟨⟨j + 1 + 1, by omega, by go_num, HN.out, ⟨u.w, HY.out u⟩, rfl⟩, by simp [intOf]; omega⟩
  · have hkn : k = l.length := by omega
    have HA : Hid (allTo (patFit f t l) l.length = true) := by rw [← hkn]; exact HF
    have HR := hideP (pats_end HA.out)
    clear HF
    subst hkn
    by_cases h8 : (l.length : Int) ≤ 8
    · have HR2 : Hid (patsB f t l = true) := HR.out.trans (decide_eq_true h8)
      go_wp2
      go_ret
      exact ⟨ret_bool HR2.out.symm, HBl.out y⟩
    · have HR2 : Hid (patsB f t l = false) := HR.out.trans (decide_eq_false h8)
      have q8 : decide ((l.length : Int) ≤ 8) = false := decide_eq_false h8
      go_wp2
      go_ret
      exact ⟨ret_bool HR2.out.symm, HBl.out y⟩
set_option linter.unusedSimpArgs false
theorem implRegimeOk (v : Value) (r : Rgm) (a : Addr) (w : World) (h : GRow w v r) (ht : r.to ≤ 9223372036854775807) (hE : ErrT w) (hT : Tab w) (hS : Sent w a) : CR 35 #[v] w (.bool (regimeB r)) := by
 have hn : r.name.size ≤ maxLen := by obtain ⟨_, _, _, _, hn, _⟩ := h; exact hn
 have KS : Hid (∀ W, Below w.heap.size w W → CR 75 #[v] W (.bool (segsB r.fr r.to r.segs))) := fun W hb => implSegsOk v r W (h.below hb) ht (hE.below hb)
 have KP : Hid (∀ W, Below w.heap.size w W → CR 76 #[v] W (.bool (patsB r.fr r.to r.pats))) := fun W hb => implPatchesOk v r W (h.below hb)
 have RB : Hid (regimeB r = (nameOk r.name && (dayB r.fr && (dayB r.to && (segsB r.fr r.to r.segs && (patsB r.fr r.to r.pats && (reignsOk r.rgns && ruleB r.rule))))))) := rfl
 have HO : Hid (r.to < r.fr → segsB r.fr r.to r.segs = false) := fun h => segs_order (by omega)
 generalize regimeB r = ans at *
 obtain ⟨nm, f, t, l, ps, rs, ru⟩ := r
 dsimp only at *
 obtain ⟨v1, v2, v3, rfl, _, x1, x2, x3⟩ := h
 dsimp only at *
 have KN : Hid (∀ W, CR 73 #[.string nm] W (.bool (nameOk nm))) := fun W => (implNameOk nm W hn).mono fun _ _ h => ⟨h.1, same_bel h.2⟩
 have KF : Hid (∀ W, CR 74 #[.int .i64 f] W (.bool (dayB f))) := fun W => (implOnLine f W).mono fun _ _ h => ⟨h.1, same_bel h.2⟩
 have KT : Hid (∀ W, CR 74 #[.int .i64 t] W (.bool (dayB t))) := fun W => (implOnLine t W).mono fun _ _ h => ⟨h.1, same_bel h.2⟩
 have KR : Hid (∀ W, Below w.heap.size w W → CR 77 #[v3] W (.bool (reignsOk rs))) := fun W hb => implReignsOk v3 rs a W (x3.below hb) (hT.later hb) (hS.later hb)
 obtain ⟨W0, hW0, d0, d1, d2, d3, d4, d5, d6, hBl⟩ := seven_box w (.string nm) (.int .i64 f) (.int .i64 t) v1 v2 v3 (.int .i64 ru) 35
 obtain ⟨a1, c1, rfl, _⟩ := x1
 obtain ⟨a2, c2, rfl, _⟩ := x2
 obtain ⟨a3, c3, rfl, _⟩ := x3
 have HW0 := hideP hW0
 have HBl := hideP hBl
 clear hW0 hBl hn ht hE hT hS
 generalize nameOk nm = b1 at *
 generalize dayB f = b2 at *
 generalize dayB t = b3 at *
 generalize segsB f t l = b4 at *
 generalize patsB f t ps = b5 at *
 generalize reignsOk rs = b6 at *
 go_enter Tryz.func35, Tryz.ntmps35
 go_wp2_with fail
 rw [← HW0.out]
 refine latO (KN.out _) fun x1 => ?_
 cases b1
 · have HR : Hid (ans = false) := by unfold Hid; rw [RB.out]; simp only [Bool.false_and, Bool.and_false, Bool.true_and]
   go_wp2
   go_ret
   exact ⟨ret_bool HR.out.symm, HBl.out x1⟩
 go_wp2_with fail
 refine lat (KF.out _) fun x2 => ?_
 cases b2
 · have HR : Hid (ans = false) := by unfold Hid; rw [RB.out]; simp only [Bool.false_and, Bool.and_false, Bool.true_and]
   go_wp2
   go_ret
   exact ⟨ret_bool HR.out.symm, HBl.out x2⟩
 go_wp2_with fail
 refine lat (KT.out _) fun x3 => ?_
 cases b3
 · have HR : Hid (ans = false) := by unfold Hid; rw [RB.out]; simp only [Bool.false_and, Bool.and_false, Bool.true_and]
   go_wp2
   go_ret
   exact ⟨ret_bool HR.out.symm, HBl.out x3⟩
 go_wp2_with fail
 refine lat (KS.out _ (HBl.out x3)) fun x4 => ?_
 cases b4
 · have HR : Hid (ans = false) := by unfold Hid; rw [RB.out]; simp only [Bool.false_and, Bool.and_false, Bool.true_and]
   go_wp2
   go_ret
   exact ⟨ret_bool HR.out.symm, HBl.out x4⟩
 go_wp2_with fail
 refine lat (KP.out _ (HBl.out x4)) fun x5 => ?_
 cases b5
 · have HR : Hid (ans = false) := by unfold Hid; rw [RB.out]; simp only [Bool.false_and, Bool.and_false, Bool.true_and]
   go_wp2
   go_ret
   exact ⟨ret_bool HR.out.symm, HBl.out x5⟩
 go_wp2_with fail
 refine lat (KR.out _ (HBl.out x5)) fun x6 => ?_
 cases b6
 · have HR : Hid (ans = false) := by unfold Hid; rw [RB.out]; simp only [Bool.false_and, Bool.and_false, Bool.true_and]
   go_wp2
   go_ret
   exact ⟨ret_bool HR.out.symm, HBl.out x6⟩
 have HQ : Hid (ans = ruleB ru) := by unfold Hid; rw [RB.out]; simp only [Bool.true_and]
 clear RB HO KN KF KT KS KP KR
 have KU : Hid (∀ W, CS 78 #[.int .i64 ru] W (.bool (ruleB ru))) := fun W => implRuleOk ru W
 generalize ruleB ru = b7 at *
 go_wp2_with fail
 refine sameC (KU.out _) ?_
 go_wp2
 go_ret
 exact ⟨ret_bool HQ.out.symm, HBl.out x6⟩
theorem specRegimeOk (v : Value) (r : Rgm) (w : World) (h : GRow w v r) (hf : -9223372036854775808 ≤ r.fr) (ht : r.to ≤ 9223372036854775807) : CR 29 #[v] w (.bool (regimeB r)) := by
 have hn : r.name.size ≤ maxLen := by obtain ⟨_, _, _, _, hn, _⟩ := h; exact hn
 have KS : Hid (∀ W, Below w.heap.size w W → CR 59 #[v] W (.bool (segsB r.fr r.to r.segs))) := fun W hb => specSegs9 v r W (h.below hb) hf ht
 have KP : Hid (∀ W, Below w.heap.size w W → CR 60 #[v] W (.bool (patsB r.fr r.to r.pats))) := fun W hb => specPatches9 v r W (h.below hb)
 have RB : Hid (regimeB r = (nameOk r.name && (dayB r.fr && (dayB r.to && (segsB r.fr r.to r.segs && (patsB r.fr r.to r.pats && (reignsOk r.rgns && ruleB r.rule))))))) := rfl
 have HO : Hid (r.to < r.fr → segsB r.fr r.to r.segs = false) := fun h => segs_order (by omega)
 generalize regimeB r = ans at *
 obtain ⟨nm, f, t, l, ps, rs, ru⟩ := r
 dsimp only at *
 obtain ⟨v1, v2, v3, rfl, _, x1, x2, x3⟩ := h
 dsimp only at *
 have KN : Hid (∀ W, CR 57 #[.string nm] W (.bool (nameOk nm))) := fun W => (specNameOk nm W hn).mono fun _ _ h => ⟨h.1, same_bel h.2⟩
 have KF : Hid (∀ W, CR 58 #[.int .i64 f] W (.bool (dayB f))) := fun W => (specDay9 f W).mono fun _ _ h => ⟨h.1, same_bel h.2⟩
 have KT : Hid (∀ W, CR 58 #[.int .i64 t] W (.bool (dayB t))) := fun W => (specDay9 t W).mono fun _ _ h => ⟨h.1, same_bel h.2⟩
 have KR : Hid (∀ W, Below w.heap.size w W → CR 61 #[v3] W (.bool (reignsOk rs))) := fun W hb => specReignsOk v3 rs W (x3.below hb)
 obtain ⟨W0, hW0, d0, d1, d2, d3, d4, d5, d6, hBl⟩ := seven_box w (.string nm) (.int .i64 f) (.int .i64 t) v1 v2 v3 (.int .i64 ru) 35
 obtain ⟨a1, c1, rfl, _⟩ := x1
 obtain ⟨a2, c2, rfl, _⟩ := x2
 obtain ⟨a3, c3, rfl, _⟩ := x3
 have HW0 := hideP hW0
 have HBl := hideP hBl
 clear hW0 hBl hn hf ht
 generalize nameOk nm = b1 at *
 generalize dayB f = b2 at *
 generalize dayB t = b3 at *
 generalize segsB f t l = b4 at *
 generalize patsB f t ps = b5 at *
 generalize reignsOk rs = b6 at *
 go_enter Tryz.func29, Tryz.ntmps29
 go_wp2_with fail
 rw [← HW0.out]
 refine latO (KN.out _) fun x1 => ?_
 cases b1
 · have HR : Hid (ans = false) := by unfold Hid; rw [RB.out]; simp only [Bool.false_and, Bool.and_false, Bool.true_and]
   go_wp2
   go_ret
   exact ⟨ret_bool HR.out.symm, HBl.out x1⟩
 go_wp2_with fail
 refine lat (KF.out _) fun x2 => ?_
 cases b2
 · have HR : Hid (ans = false) := by unfold Hid; rw [RB.out]; simp only [Bool.false_and, Bool.and_false, Bool.true_and]
   go_wp2
   go_ret
   exact ⟨ret_bool HR.out.symm, HBl.out x2⟩
 go_wp2_with fail
 refine lat (KT.out _) fun x3 => ?_
 cases b3
 · have HR : Hid (ans = false) := by unfold Hid; rw [RB.out]; simp only [Bool.false_and, Bool.and_false, Bool.true_and]
   go_wp2
   go_ret
   exact ⟨ret_bool HR.out.symm, HBl.out x3⟩
 by_cases hft : f ≤ t
 case neg =>
  have q1 : decide (f ≤ t) = false := decide_eq_false hft
  have HR : Hid (ans = false) := by unfold Hid; rw [RB.out, HO.out (by omega)]; simp only [Bool.false_and, Bool.true_and]
  go_wp2
  go_ret
  exact ⟨ret_bool HR.out.symm, HBl.out x3⟩
 go_wp2_with fail
 refine lat (KS.out _ (HBl.out x3)) fun x4 => ?_
 cases b4
 · have HR : Hid (ans = false) := by unfold Hid; rw [RB.out]; simp only [Bool.false_and, Bool.and_false, Bool.true_and]
   go_wp2
   go_ret
   exact ⟨ret_bool HR.out.symm, HBl.out x4⟩
 go_wp2_with fail
 refine lat (KP.out _ (HBl.out x4)) fun x5 => ?_
 cases b5
 · have HR : Hid (ans = false) := by unfold Hid; rw [RB.out]; simp only [Bool.false_and, Bool.and_false, Bool.true_and]
   go_wp2
   go_ret
   exact ⟨ret_bool HR.out.symm, HBl.out x5⟩
 go_wp2_with fail
 refine lat (KR.out _ (HBl.out x5)) fun x6 => ?_
 cases b6
 · have HR : Hid (ans = false) := by unfold Hid; rw [RB.out]; simp only [Bool.false_and, Bool.and_false, Bool.true_and]
   go_wp2
   go_ret
   exact ⟨ret_bool HR.out.symm, HBl.out x6⟩
 have HQ : Hid (ans = ruleB ru) := by unfold Hid; rw [RB.out]; simp only [Bool.true_and]
 clear RB HO KN KF KT KS KP KR
 by_cases h0 : ru = 0
 · subst h0
   have HR : Hid (ans = true) := HQ.out
   go_wp2
   go_ret
   exact ⟨ret_bool HR.out.symm, HBl.out x6⟩
 by_cases h1 : ru = 1
 · subst h1
   have HR : Hid (ans = true) := HQ.out
   go_wp2
   go_ret
   exact ⟨ret_bool HR.out.symm, HBl.out x6⟩
 have HR : Hid (ans = false) := by unfold Hid; rw [HQ.out, ruleB, decide_eq_false h0, decide_eq_false h1]; rfl
 have q2 : (ru == 0) = false := by simp [h0]
 have q3 : (ru == 1) = false := by simp [h1]
 go_wp2
 go_ret
 exact ⟨ret_bool HR.out.symm, HBl.out x6⟩
set_option linter.unusedSimpArgs false
def chTo (l : List Seg) (k : Nat) : List Int := ((l.drop 1).take k).map Seg.fr
noncomputable def changes (r : Rgm) : List Int := if regimeB r = true then chTo r.segs (r.segs.length - 1) else []
theorem bare_has {t : Int} : ∀ (L : List Seg) (f n : Int), bareS t L f = false → f ≤ n → n ≤ t → ∃ s ∈ L, s.fr ≤ n ∧ n ≤ s.to
  | [], f, n, h, h1, h2 => by
   rw [bareS] at h
   have := of_decide_eq_false h
   omega
  | s :: l, f, n, h, h1, h2 => by
   rw [bareS, if_pos (by omega)] at h
   by_cases a : s.to < f
   · rw [if_pos a] at h
     obtain ⟨x, hx, hh⟩ := bare_has l f n h h1 h2
     exact ⟨x, List.mem_cons_of_mem _ hx, hh⟩
   · rw [if_neg a] at h
     by_cases b : f < s.fr
     · rw [if_pos b] at h; cases h
     · rw [if_neg b] at h
       by_cases c : n ≤ s.to
       · exact ⟨s, List.mem_cons_self, by omega, c⟩
       · rw [if_neg (by omega)] at h
         obtain ⟨x, hx, hh⟩ := bare_has l (s.to + 1) n h (by omega) h2
         exact ⟨x, List.mem_cons_of_mem _ hx, hh⟩
theorem tiles_has {f t n : Int} {l : List Seg} (h : tilesZ f t l = 0) (h1 : f ≤ n) (h2 : n ≤ t) : ∃ s ∈ l, s.fr ≤ n ∧ n ≤ s.to := by
 unfold tilesZ tileC at h
 by_cases a : sharedB (fullS l) = true
 · rw [if_pos a] at h; omega
 · rw [if_neg a] at h
   by_cases b : bareS t (fullS l) f = true
   · rw [if_pos b] at h; omega
   · obtain ⟨s, hs, hh⟩ := bare_has (fullS l) f n (by simpa using b) h1 h2
     exact ⟨s, full_mem hs, hh⟩
theorem ifc_cases {α : Type} (K : IK α) (p : α → Bool) : ∀ (l : List α) (j : Nat), (ifFrom p l j = -1 ∧ ∀ x ∈ l, p x = false) ∨ ∃ k, k < l.length ∧ ifFrom p l j = ((j + k : Nat) : Int) ∧ p (atK K l k) = true
  | [], j => .inl ⟨rfl, fun x hx => by cases hx⟩
  | a :: l, j => by
   rw [ifFrom]
   cases h : p a
   · rw [if_neg (by simp)]
     rcases ifc_cases K p l (j + 1) with ⟨h1, h2⟩ | ⟨k, hk, h1, h2⟩
     · exact .inl ⟨h1, fun x hx => by rcases List.mem_cons.1 hx with rfl | hx; exact h; exact h2 x hx⟩
     · exact .inr ⟨k + 1, by simp; omega, by rw [h1]; congr 1; omega, by simpa [atK] using h2⟩
   · rw [if_pos rfl]
     exact .inr ⟨0, by simp, by simp, by simpa [atK] using h⟩
theorem segAt_cases (l : List Seg) (n : Int) : (segAt l n = -1 ∧ ∀ x ∈ l, segHas n x = false) ∨ ∃ k, k < l.length ∧ segAt l n = (k : Int) ∧ (atK segK l k).fr ≤ n ∧ n ≤ (atK segK l k).to := by
 rcases ifc_cases segK (segHas n) l 0 with h | ⟨k, hk, h1, h2⟩
 · exact .inl h
 · refine .inr ⟨k, hk, by unfold segAt ifind; rw [h1]; congr 1; omega, ?_⟩
   unfold segHas at h2
   by_cases a : (atK segK l k).fr ≤ n
   · by_cases b : n ≤ (atK segK l k).to
     · exact ⟨a, b⟩
     · rw [inB_false (.inr (by omega))] at h2; cases h2
   · rw [inB_false (.inl (by omega))] at h2; cases h2
theorem regime_parts {r : Rgm} (h : regimeB r = true) : allTo (segFit r.fr r.to r.segs) r.segs.length = true ∧ tilesZ r.fr r.to r.segs = 0 := by
 unfold regimeB segsB at h
 simp only [Bool.and_eq_true, decide_eq_true_eq] at h
 exact h.2.2.2.1.2
theorem seg_fact {r : Rgm} (h : regimeB r = true) (n : Int) : 0 ≤ segAt r.segs n ↔ (r.fr ≤ n ∧ n ≤ r.to) := by
 obtain ⟨ha, ht⟩ := regime_parts h
 constructor
 · intro h0
   rcases segAt_cases r.segs n with ⟨h1, _⟩ | ⟨k, hk, h1, h2, h3⟩
   · omega
   · have := segFit_ok (allTo_at ha hk)
     omega
 · rintro ⟨h1, h2⟩
   rcases segAt_cases r.segs n with ⟨_, h3⟩ | ⟨k, hk, h3, _⟩
   · obtain ⟨s, hs, h4, h5⟩ := tiles_has ht h1 h2
     have := h3 s hs
     unfold segHas at this
     rw [inB_true h4 h5] at this
     cases this
   · omega
theorem of_inB {x a b : Int} (h : inB x a b = true) : a ≤ x ∧ x ≤ b := by simpa [inB] using h
theorem tag_rise : ∀ {l : List Seg} (b : Nat), (l.Pairwise fun x y => x.fr < y.fr) → InOrder (tagS l b)
  | [], b, _ => List.Pairwise.nil
  | s :: l, b, h => by
   obtain ⟨h1, h2⟩ := List.pairwise_cons.1 h
   refine List.Pairwise.cons (fun y hy => ?_) (tag_rise (b + 1) h2)
   have := h1 _ (tagS_mem l (b + 1) y hy)
   rw [leP_iff]
   dsimp only
   omega
theorem rise_sort {l : List Seg} (h : l.Pairwise fun x y => x.fr < y.fr) : sortS l = l := by
 have e := sorted_same (l := l) (out := tagS l 0) (tag_rise 0 h) (List.Perm.refl _)
 rw [tagS_map] at e
 exact e.symm
theorem right_seg {r : Rgm} (h : regimeB r = true) {k : Nat} (hk : k < r.segs.length) : segOkB (atK segK r.segs k) = true ∧ r.fr ≤ (atK segK r.segs k).fr ∧ (atK segK r.segs k).to ≤ r.to := segFit_ok (allTo_at (regime_parts h).1 hk)
theorem right_next {r : Rgm} (h : regimeB r = true) {k : Nat} (hk : k + 1 < r.segs.length) : (atK segK r.segs k).fr < (atK segK r.segs (k + 1)).fr := by
 have := allTo_at (regime_parts h).1 hk
 rw [segFit_succ] at this
 simp only [Bool.and_eq_true, decide_eq_true_eq] at this
 exact this.2.2.2
theorem right_rise {r : Rgm} (h : regimeB r = true) : ∀ (d i : Nat), i + d + 1 < r.segs.length → (atK segK r.segs i).fr < (atK segK r.segs (i + d + 1)).fr
  | 0, i, hd => right_next h hd
  | d + 1, i, hd => by
   have h1 := right_rise h d i (by omega)
   have h2 := right_next h (k := i + d + 1) (by omega)
   rw [show i + (d + 1) + 1 = i + d + 1 + 1 by omega]
   omega
theorem right_pair {r : Rgm} (h : regimeB r = true) : r.segs.Pairwise fun x y => x.fr < y.fr := by
 rw [List.pairwise_iff_getElem]
 intro i j hi hj hij
 have := right_rise h (j - i - 1) i (by omega)
 rw [show i + (j - i - 1) + 1 = j by omega, atK_eq hi, atK_eq hj] at this
 exact this
theorem right_full {r : Rgm} (h : regimeB r = true) : fullS r.segs = r.segs := by
 unfold fullS
 rw [rise_sort (right_pair h)]
 refine List.filter_eq_self.2 (fun s hs => ?_)
 obtain ⟨k, hk, rfl⟩ := List.getElem_of_mem hs
 have := segOk_days (right_seg h hk).1
 rw [atK_eq hk] at this
 simpa [hasDayB] using this.1
theorem right_apart {r : Rgm} (h : regimeB r = true) {k : Nat} (hk : k + 1 < r.segs.length) : (atK segK r.segs k).to < (atK segK r.segs (k + 1)).fr := by
 have ht := (regime_parts h).2
 unfold tilesZ tileC at ht
 rw [right_full h] at ht
 by_cases a : sharedB r.segs = true
 · rw [if_pos a] at ht; omega
 · by_cases b : (atK segK r.segs k).to < (atK segK r.segs (k + 1)).fr
   · exact b
   · exfalso
     refine a (shared_yes ⟨k + 1, by omega, hk, ?_⟩)
     rw [sgA_eq hk, show k + 1 - 1 = k by omega, sgA_eq (by omega : k < r.segs.length)]
     rw [atK_eq (by omega : k < r.segs.length), atK_eq hk] at b
     omega
theorem right_far {r : Rgm} (h : regimeB r = true) {i j : Nat} (hij : i < j) (hj : j < r.segs.length) : (atK segK r.segs i).to < (atK segK r.segs j).fr := by
 have h1 := right_apart h (k := i) (by omega)
 by_cases e : j = i + 1
 · subst e; exact h1
 · have := right_rise h (j - (i + 1) - 1) (i + 1) (by omega)
   rw [show i + 1 + (j - (i + 1) - 1) + 1 = j by omega] at this
   omega
theorem right_mono {r : Rgm} (h : regimeB r = true) (n : Int) (a b : Nat) (hab : a ≤ b) (hb : b < r.segs.length) (hp : decide (n ≤ (atK segK r.segs a).to) = true) : decide (n ≤ (atK segK r.segs b).to) = true := by
 have hp := of_decide_eq_true hp
 refine decide_eq_true ?_
 by_cases e : a = b
 · subst e; exact hp
 · have h1 := right_far h (show a < b by omega) hb
   have h2 := segOk_days (right_seg h hb).1
   omega
theorem seg_one {r : Rgm} (h : regimeB r = true) {n : Int} {k : Nat} (hk : k < r.segs.length) (h1 : (atK segK r.segs k).fr ≤ n) (h2 : n ≤ (atK segK r.segs k).to) : segAt r.segs n = (k : Int) := by
 rcases segAt_cases r.segs n with ⟨_, h3⟩ | ⟨j, hj, h3, h4, h5⟩
 · have hm : atK segK r.segs k ∈ r.segs := by rw [atK_eq hk]; exact List.getElem_mem hk
   have := h3 _ hm
   unfold segHas at this
   rw [inB_true h1 h2] at this
   cases this
 · rw [h3]
   rcases Nat.lt_trichotomy j k with a | a | a
   · have := right_far h a hk; omega
   · rw [a]
   · have := right_far h a hj; omega
theorem seg_half {r : Rgm} (h : regimeB r = true) {n : Int} (h1 : r.fr ≤ n) (h2 : n ≤ r.to) {m : Nat} (hl : ∀ t, t < m → decide (n ≤ (atK segK r.segs t).to) = false) (hu : ∀ t, m ≤ t → t < r.segs.length → decide (n ≤ (atK segK r.segs t).to) = true) : m < r.segs.length ∧ segAt r.segs n = (m : Int) ∧ (atK segK r.segs m).fr ≤ n ∧ n ≤ (atK segK r.segs m).to := by
 have h0 := (seg_fact h n).2 ⟨h1, h2⟩
 rcases segAt_cases r.segs n with ⟨h3, _⟩ | ⟨j, hj, h3, h4, h5⟩
 · omega
 · have a : m ≤ j := by
    by_cases c : m ≤ j
    · exact c
    · have := hl j (by omega)
      have := of_decide_eq_false this
      omega
   have b : j ≤ m := by
    by_cases c : j ≤ m
    · exact c
    · have := of_decide_eq_true (hu m (Nat.le_refl _) (by omega))
      have := right_far h (show m < j by omega) hj
      omega
   have e : j = m := by omega
   subst e
   exact ⟨hj, h3, h4, h5⟩
theorem right_segs {r : Rgm} (h : regimeB r = true) : 1 ≤ r.segs.length ∧ r.segs.length ≤ 20 := by
 unfold regimeB segsB at h
 simp only [Bool.and_eq_true] at h
 have := of_inB h.2.2.2.1.1
 omega
theorem right_pats {r : Rgm} (h : regimeB r = true) : r.pats.length ≤ 8 := by
 unfold regimeB patsB at h
 simp only [Bool.and_eq_true, decide_eq_true_eq] at h
 have := h.2.2.2.2.1.1
 omega
theorem segOk_nums {s : Seg} (h : segOkB s = true) : 400 ≤ s.fr ∧ s.fr ≤ s.to ∧ s.to ≤ 1090000 ∧ (s.cal = 0 ∨ s.cal = 1) ∧ styleB s.sty = true ∧ -3 ≤ s.off ∧ s.off ≤ 3 := by
 unfold segOkB dayB at h
 simp only [Bool.and_eq_true, decide_eq_true_eq] at h
 obtain ⟨h1, h2, h3, h4, h5, h6⟩ := h
 have a := of_inB h1
 have b := of_inB h2
 have c := of_inB h6
 exact ⟨by omega, h3, by omega, calB_iff.1 h4, h5, by omega, by omega⟩
noncomputable def rdgAt (r : Rgm) (s : Seg) (n : Int) : Rdg :=
 ⟨s.cal, (styYear s.cal s.sty (n + s.off)).1, (dateOf s.cal (n + s.off)).2.1,
  if 0 ≤ patAt r.pats n then (atK patK r.pats (patAt r.pats n).toNat).mon else (dateOf s.cal (n + s.off)).2.2.1,
  if 0 ≤ patAt r.pats n then (atK patK r.pats (patAt r.pats n).toNat).dom else (dateOf s.cal (n + s.off)).2.2.2.1⟩
noncomputable def rdgOn (r : Rgm) (n : Int) : Rdg := rdgAt r (atK segK r.segs (segAt r.segs n).toNat) n
abbrev rdg0 : Rdg := ⟨0, 0, 0, 0, 0⟩
abbrev segV (s : Seg) : Value := .agg #[.int .i64 s.fr, .int .i64 s.to, .int .i64 s.cal, .int .i64 s.sty, .int .i64 s.off]
abbrev i5 : Array Value := #[.int .i64 0, .int .i64 0, .int .i64 0, .int .i64 0, .int .i64 0]
theorem implSegOn (v : Value) (r : Rgm) (n : Int) (w : World) (h : GRow w v r) (hr : regimeB r = true) (h1 : r.fr ≤ n) (h2 : n ≤ r.to) : CR 136 #[v, .int .i64 n] w (segV (atK segK r.segs (segAt r.segs n).toNat)) := by
 obtain ⟨v1, v2, v3, rfl, _, x1, x2, x3⟩ := h
 obtain ⟨W0, hW0⟩ : ∃ W0, W0 = ((w.alloc (.cells #[.string r.name, .int .i64 r.fr, .int .i64 r.to, v1, v2, v3, .int .i64 r.rule] 35)).alloc (.cells #[.int .i64 n] 3)).alloc (.cells i5 91) := ⟨_, rfl⟩
 have hBl' : ∀ w1, Below W0.heap.size W0 w1 → Below w.heap.size w w1 := by
  rw [hW0]
  exact fun w1 h => below_alloc (below_alloc (below_alloc h))
 have hBl : ∀ x : Later W0, Below w.heap.size w x.w := fun x => hBl' x.w x.below
 clear hBl'
 have hR : ∀ x : Later W0, Blk x.w w.heap.size #[.string r.name, .int .i64 r.fr, .int .i64 r.to, v1, v2, v3, .int .i64 r.rule] 35 := fun x => by
  have k := (((Blk.new w #[.string r.name, .int .i64 r.fr, .int .i64 r.to, v1, v2, v3, .int .i64 r.rule] 35).alloc (.cells #[.int .i64 n] 3)).alloc (.cells i5 91))
  rw [← hW0] at k
  exact k.later x
 have hN : ∀ x : Later W0, Blk x.w (w.heap.size + 1) #[.int .i64 n] 3 := fun x => by
  have k := (Blk.new (w.alloc (.cells #[.string r.name, .int .i64 r.fr, .int .i64 r.to, v1, v2, v3, .int .i64 r.rule] 35)) #[.int .i64 n] 3).alloc (.cells i5 91)
  rw [← hW0, World.size_alloc] at k
  exact k.later x
 have hZ : ∀ x : Later W0, Blk x.w (w.heap.size + 2) i5 91 := fun x => by
  have k := Blk.new ((w.alloc (.cells #[.string r.name, .int .i64 r.fr, .int .i64 r.to, v1, v2, v3, .int .i64 r.rule] 35)).alloc (.cells #[.int .i64 n] 3)) i5 91
  rw [← hW0, World.size_alloc, World.size_alloc] at k
  exact k.later x
 have hS : ∀ x : Later W0, IRow segK x.w v1 r.segs := fun x => x1.below (hBl x)
 have hlen := right_segs hr
 obtain ⟨m, hm, hmS, hm1, hm2⟩ : ∃ m : Nat, m < r.segs.length ∧ segAt r.segs n = (m : Int) ∧ (atK segK r.segs m).fr ≤ n ∧ n ≤ (atK segK r.segs m).to := by
  have h0 := (seg_fact hr n).2 ⟨h1, h2⟩
  rcases segAt_cases r.segs n with ⟨h3, _⟩ | ⟨j, hj, h3, h4, h5⟩
  · omega
  · exact ⟨j, hj, h3, h4, h5⟩
 have KS : ∀ y : Later W0, CR 190 #[.int .i64 (r.segs.length : Int), .func (.func 191) #[] #[.pointer (some ⟨w.heap.size, 0, none⟩), .pointer (some ⟨w.heap.size + 1, 0, none⟩)]] y.w (.int .i64 (m : Int)) := fun y => by
  refine (search (.pointer (some ⟨w.heap.size, 0, none⟩)) (.pointer (some ⟨w.heap.size + 1, 0, none⟩)) r.segs.length (fun k => decide (n ≤ (atK segK r.segs k).to)) y.w (by omega) (fun x i hi => ?_) (fun a b hab hb hp => right_mono hr n a b hab hb hp)).mono ?_
  · obtain ⟨z, hz⟩ := y.next x.below
    rw [hz]
    exact schHas r.segs v1 n i w.heap.size (w.heap.size + 1) z.w (hS z) hi ((hR z).cell 3 rfl) ((hN z).cell 0 rfl)
  · rintro e w' ⟨k, rfl, hk, hl, hu, hb⟩
    obtain ⟨_, k2, _⟩ := seg_half hr h1 h2 hl hu
    rw [hmS] at k2
    exact ⟨by rw [k2], hb⟩
 rw [hmS, Int.toNat_natCast]
 obtain ⟨a1, c1, rfl, _, _, hc⟩ := x1
 obtain ⟨a2, c2, rfl, _⟩ := x2
 obtain ⟨a3, c3, rfl, _⟩ := x3
 obtain ⟨g, rfl, hg, x⟩ := hc m hm
 have hg2 : ∀ y : Later W0, IAt segK y.w g m (atK segK r.segs m) := fun y => x.below (hBl y) hg
 have e0 : ∀ y : Later W0, y.w.cell? ⟨g, m * 5, none⟩ = some (.int .i64 (atK segK r.segs m).fr) := fun y => ((hg2 y).seg).1
 have e1 : ∀ y : Later W0, y.w.cell? ⟨g, m * 5 + 1, none⟩ = some (.int .i64 (atK segK r.segs m).to) := fun y => ((hg2 y).seg).2.1
 have e2 : ∀ y : Later W0, y.w.cell? ⟨g, m * 5 + 2, none⟩ = some (.int .i64 (atK segK r.segs m).cal) := fun y => ((hg2 y).seg).2.2.1
 have e3 : ∀ y : Later W0, y.w.cell? ⟨g, m * 5 + 3, none⟩ = some (.int .i64 (atK segK r.segs m).sty) := fun y => ((hg2 y).seg).2.2.2.1
 have e4 : ∀ y : Later W0, y.w.cell? ⟨g, m * 5 + 4, none⟩ = some (.int .i64 (atK segK r.segs m).off) := fun y => ((hg2 y).seg).2.2.2.2
 have r3 : ∀ y : Later W0, y.w.cell? ⟨w.heap.size, 3, none⟩ = some (.slice (some ⟨g, 0, none⟩) r.segs.length c1) := fun y => (hR y).cell 3 rfl
 obtain ⟨u0, u1, u2, u3, u4⟩ := cells5 hZ
 obtain ⟨f0, f1, f2, f3, f4⟩ := thaws5 hZ
 have hmz : (m : Int) < (r.segs.length : Int) := by omega
 have HW0 := hideP hW0
 have HBl := hideP hBl
 have HZ := hideP hZ
 clear hW0 hBl hZ hR hN hS hc hg2 x hg hm1 hm2 hmS hr h1 h2
 generalize atK segK r.segs m = s at *
 go_enter Tryz.func136, Tryz.ntmps136
 go_wp2_with fail
 rw [← HW0.out]
 obtain ⟨xd, hxd⟩ : ∃ xd : Later W0, W0.drew = xd.w := ⟨⟨W0.drew, (Below.refl _ _).drew⟩, rfl⟩
 refine wp_region_any (by kernel_rfl) ?_
 change wpAny _ _ _ _ (1 + 9) _ _ _
 refine any_prefix (C := fun w' => ∃ x : Later W0, w' = x.w) 9 1 (by decide) (by kernel_rfl) (by kernel_rfl) (by kernel_rfl) (by kernel_rfl) (by kernel_rfl) ⟨xd, hxd⟩ ?_
 simp only [List.take_succ_cons, List.take_zero]
 clear hxd xd
 repeat (go_big_quiet_step (first | (go_at_call 190; exact calls_later (KS _))))
 refine quietE fun x5 => ?_
 refine wpAny_ready (rs := [9]) (by kernel_rfl) (by simp) ?_
 refine AllReady.cons rfl (fun K hK => ?_) AllReady.nil
 go_simp
 refine hK _ _ ?_
 clear hK K
 refine wpAny_done (by kernel_rfl) ?_ _
 obtain ⟨W9, e9⟩ : ∃ W9, W9 = ((((x5.w.setCell ⟨w.heap.size + 2, 0, none⟩ (.int .i64 s.fr)).setCell ⟨w.heap.size + 2, 1, none⟩ (.int .i64 s.to)).setCell ⟨w.heap.size + 2, 2, none⟩ (.int .i64 s.cal)).setCell ⟨w.heap.size + 2, 3, none⟩ (.int .i64 s.sty)).setCell ⟨w.heap.size + 2, 4, none⟩ (.int .i64 s.off) := ⟨_, rfl⟩
 have Z9 : Blk W9 (w.heap.size + 2) #[.int .i64 s.fr, .int .i64 s.to, .int .i64 s.cal, .int .i64 s.sty, .int .i64 s.off] 91 := by rw [e9]; exact ((((((HZ.out x5).set 0 _).set 1 _).set 2 _).set 3 _).set 4 _)
 have B9 : Below w.heap.size w W9 := by rw [e9]; exact (Below.setCell (Below.setCell (Below.setCell (Below.setCell (Below.setCell (HBl.out x5) (p := ⟨w.heap.size + 2, 0, none⟩) (show w.heap.size ≤ w.heap.size + 2 by omega) _) (p := ⟨w.heap.size + 2, 1, none⟩) (show w.heap.size ≤ w.heap.size + 2 by omega) _) (p := ⟨w.heap.size + 2, 2, none⟩) (show w.heap.size ≤ w.heap.size + 2 by omega) _) (p := ⟨w.heap.size + 2, 3, none⟩) (show w.heap.size ≤ w.heap.size + 2 by omega) _) (p := ⟨w.heap.size + 2, 4, none⟩) (show w.heap.size ≤ w.heap.size + 2 by omega) _)
 rw [← e9]
 clear e9
 have q0 : W9.cell? ⟨w.heap.size + 2, 0, none⟩ = some (.int .i64 s.fr) := Z9.cell 0 rfl
 have q1 : W9.cell? ⟨w.heap.size + 2, 1, none⟩ = some (.int .i64 s.to) := Z9.cell 1 rfl
 have q2 : W9.cell? ⟨w.heap.size + 2, 2, none⟩ = some (.int .i64 s.cal) := Z9.cell 2 rfl
 have q3 : W9.cell? ⟨w.heap.size + 2, 3, none⟩ = some (.int .i64 s.sty) := Z9.cell 3 rfl
 have q4 : W9.cell? ⟨w.heap.size + 2, 4, none⟩ = some (.int .i64 s.off) := Z9.cell 4 rfl
 go_wp2_with fail
 exact bodyPost_ret (by simp [results, Tryz.results136, go_sem, q0, q1, q2, q3, q4]; try rfl) rfl ⟨rfl, B9⟩
end Go.Proofs.YtpclaceefapppaaGreatDoor.ctr
