/- Contracts of the model's l09Segs and l09Patches. -/
import Derived.Test.YtilpencbbdpgfaaGreatDoorJnPan
import Derived.Test.YtilpencbbdpgfaaGreatDoorTilSpecP
namespace Go.Proofs.YtilpencbbdpgfaaGreatDoor.ctr
open Go.RowKit
set_option maxRecDepth 100000 in
set_option maxHeartbeats 2000000 in
theorem specSegs9 (v : Value) (r : Rgm) (w : World) (h : GRow w v r) (hf : -9223372036854775808 ≤ r.fr) (ht : r.to ≤ 9223372036854775807) : Calls Tryz.prog 102 #[v] w fun e w' => e = .returned (.bool (segsB r.fr r.to r.segs)) ∧ Below w.heap.size w w' := by
  obtain ⟨nm, f, t, l, ps, rs, ru⟩ := r
  obtain ⟨v1, v2, v3, rfl, _, x1, x2, x3⟩ := h
  dsimp only at x1 x2 x3
  obtain ⟨W0, hW0, d0, d1, d2, d3, d4, d5, d6, hBl⟩ := seven_box w (.string nm) (.int .i64 f) (.int .i64 t) v1 v2 v3 (.int .i64 ru) 36
  have hrow := x1.below (hBl ⟨W0, Below.refl _ _⟩)
  have KT : Hid (∀ y : Later W0, l.length ≤ 1048576 → Calls Tryz.prog 167 #[.int .i64 f, .int .i64 t, v1] y.w fun e w' => e = .returned (.int .i64 (tilesZ f t l)) ∧ Below y.w.heap.size y.w w') := fun y h1 => specTiles f t v1 l y.w (hrow.below y.below) h1 hf ht
  obtain ⟨a1, c1, rfl, _⟩ := x1
  obtain ⟨a2, c2, rfl, _⟩ := x2
  obtain ⟨a3, c3, rfl, _⟩ := x3
  obtain ⟨a, c, ev, hl, hm, H⟩ := hrow
  cases ev
  have HK := hideP H
  have HW0 := hideP hW0
  have HBl := hideP hBl
  unfold maxLen at hm
  dsimp only
  clear H hW0 hBl
  clear hf ht
  have KL : Hid (∀ W, Calls Tryz.prog 88 #[.int .i64 (l.length : Int), .int .i64 1, .int .i64 20] W fun e w' => e = .returned (.bool (inB (l.length : Int) 1 20)) ∧ w' = W) := fun W => l01In _ _ _ W
  have hst : Hid (Below W0.heap.size W0 W0) := Below.refl _ _
  go_enter Tryz.func102, Tryz.ntmps102
  go_wp2
  rw [← HW0.out]
  go_loopw [3] (fun i wr => ∃ k : Nat, k ≤ l.length ∧ i = .int .i64 (k : Int) ∧ Hid (allTo (segFit f t l) k = true) ∧ ∃ y : Later W0, wr = y.w) (fun i _ => l.length - (intOf i).toNat)
  case atStart => exact ⟨0, Nat.zero_le _, rfl, rfl, ⟨W0, hst.out⟩, rfl⟩
  case round =>
    obtain ⟨k, hk, rfl, HF, y, rfl⟩ := hrel
    by_cases hlt : k < l.length
    · obtain ⟨g, rfl, hg, x⟩ := HK.out k hlt
      obtain ⟨e0, e1, e2, e3, e4⟩ := (x.below y.below hg).seg
      obtain ⟨W1, hW1, c10, c11, c12, c13, c14, hBl1⟩ := seg_box y.w (atK segK l k).fr (atK segK l k).to (atK segK l k).cal (atK segK l k).sty (atK segK l k).off 95
      have hY : ∀ z : Later W1, Below W0.heap.size W0 z.w := fun z => y.on (hBl1 z)
      have D1 : ∀ z : Later W1, z.w.cell? ⟨w.heap.size, 1, none⟩ = some (.int .i64 f) := fun z => d1 ⟨z.w, hY z⟩
      have D2 : ∀ z : Later W1, z.w.cell? ⟨w.heap.size, 2, none⟩ = some (.int .i64 t) := fun z => d2 ⟨z.w, hY z⟩
      have D3 : ∀ z : Later W1, z.w.cell? ⟨w.heap.size, 3, none⟩ = some (.slice (some ⟨g, 0, none⟩) l.length c1) := fun z => d3 ⟨z.w, hY z⟩
      have HP : Hid (∀ j, k = j + 1 → ∀ z : Later W1, z.w.cell? ⟨g, j * 5, none⟩ = some (.int .i64 (atK segK l j).fr)) := fun j e z => by
        obtain ⟨g', e', hg', x'⟩ := HK.out j (by omega)
        cases e'
        exact ((x'.below (hY z) hg').seg).1
      have F1 := hideP (fun h => segs_bad (f := f) (t := t) (k := k) (fit_no1 h) hlt)
      have F2 := hideP (fun h => segs_bad (f := f) (t := t) (k := k) (fit_no2 h) hlt)
      have F3 := hideP (fun h => segs_bad (f := f) (t := t) (k := k) (fit_no3 h) hlt)
      have F4 := hideP (fun (j : Nat) (e : k = j + 1) h => segs_bad (f := f) (t := t) (k := k) (fit_no4 e h) hlt)
      have F5 := hideP (fun h1 h2 h3 h4 => allTo_next HF.out (fit_yes (f := f) (t := t) (k := k) h1 h2 h3 h4))
      have HW1 := hideP hW1
      have HY := hideP hY
      clear x hW1 hBl1 hY
      generalize atK segK l k = s at *
      have KO : ∀ y : Later W1, Calls Tryz.prog 166 #[.agg #[.int .i64 s.fr, .int .i64 s.to, .int .i64 s.cal, .int .i64 s.sty, .int .i64 s.off]] y.w fun e w' => e = .returned (.bool (segOkB s)) ∧ Below y.w.heap.size y.w w' := fun y => specSegOk s y.w
      generalize segOkB s = b1 at *
      cases b1
      · have HR := hideP (F1.out rfl)
        go_wp2_with fail
        rw [← HW1.out]
        refine wp_region_later (W := W1) (Below.refl _ _) (by kernel_rfl) (by kernel_rfl) ?_
        repeat (go_big_quiet_step (first | (go_at_call 166; exact calls_later (KO _)) | fail))
        refine wpQuiet_nil ?_
        intro _ hw'
        obtain ⟨u, rfl⟩ := hw'
        go_wp2
        go_ret
        exact ⟨ret_bool HR.out.symm, HBl.out ⟨u.w, HY.out u⟩⟩
      by_cases h2 : f ≤ s.fr
      case neg =>
        have HR := hideP (F2.out (by omega))
        have q3 : decide (s.fr < f) = true := decide_eq_true (by omega)
        go_wp2_with fail
        rw [← HW1.out]
        refine wp_region_later (W := W1) (Below.refl _ _) (by kernel_rfl) (by kernel_rfl) ?_
        repeat (go_big_quiet_step (first | (go_at_call 166; exact calls_later (KO _)) | fail))
        refine wpQuiet_nil ?_
        intro _ hw'
        obtain ⟨u, rfl⟩ := hw'
        go_wp2
        go_ret
        exact ⟨ret_bool HR.out.symm, HBl.out ⟨u.w, HY.out u⟩⟩
      have q3 : decide (s.fr < f) = false := decide_eq_false (by omega)
      by_cases h3 : s.to ≤ t
      case neg =>
        have HR := hideP (F3.out (by omega))
        have q4 : decide (t < s.to) = true := decide_eq_true (by omega)
        go_wp2_with fail
        rw [← HW1.out]
        refine wp_region_later (W := W1) (Below.refl _ _) (by kernel_rfl) (by kernel_rfl) ?_
        repeat (go_big_quiet_step (first | (go_at_call 166; exact calls_later (KO _)) | fail))
        refine wpQuiet_nil ?_
        intro _ hw'
        obtain ⟨u, rfl⟩ := hw'
        go_wp2
        go_ret
        exact ⟨ret_bool HR.out.symm, HBl.out ⟨u.w, HY.out u⟩⟩
      have q4 : decide (t < s.to) = false := decide_eq_false (by omega)
      obtain rfl | ⟨j, rfl⟩ : k = 0 ∨ ∃ j, k = j + 1 := by cases k with | zero => exact .inl rfl | succ j => exact .inr ⟨j, rfl⟩
      · have HN := hideP (F5.out rfl h2 h3 (fun j e => by omega))
        go_wp2_with fail
        rw [← HW1.out]
        refine wp_region_later (W := W1) (Below.refl _ _) (by kernel_rfl) (by kernel_rfl) ?_
        repeat (go_big_quiet_step (first | (go_at_call 166; exact calls_later (KO _)) | fail))
        refine wpQuiet_nil ?_
        intro _ hw'
        obtain ⟨u, rfl⟩ := hw'
        go_wp2
        exact ⟨⟨0 + 1, by omega, by go_num, HN.out, ⟨u.w, HY.out u⟩, rfl⟩, by simp [intOf]; omega⟩
      · have e5 := HP.out j rfl
        have G4 := hideP (F4.out j rfl)
        have G5 := hideP (fun (h4 : (atK segK l j).fr < s.fr) => F5.out rfl h2 h3 (fun i e => (show i = j from by omega) ▸ h4))
        have hj0 : decide ((0 : Int) < (j : Int) + 1) = true := decide_eq_true (by omega)
        clear HP F1 F2 F3 F4 F5
        generalize (atK segK l j).fr = P at *
        by_cases h4 : P < s.fr
        case neg =>
          have HR := hideP (G4.out (by omega))
          have q5 : decide (s.fr ≤ P) = true := decide_eq_true (by omega)
          go_wp2_with fail
          rw [← HW1.out]
          refine wp_region_later (W := W1) (Below.refl _ _) (by kernel_rfl) (by kernel_rfl) ?_
          repeat (go_big_quiet_step (first | (go_at_call 166; exact calls_later (KO _)) | fail))
          refine wpQuiet_nil ?_
          intro _ hw'
          obtain ⟨u, rfl⟩ := hw'
          go_wp2
          go_ret
          exact ⟨ret_bool HR.out.symm, HBl.out ⟨u.w, HY.out u⟩⟩
        have HN := hideP (G5.out h4)
        have q5 : decide (s.fr ≤ P) = false := decide_eq_false (by omega)
        go_wp2_with fail
        rw [← HW1.out]
        refine wp_region_later (W := W1) (Below.refl _ _) (by kernel_rfl) (by kernel_rfl) ?_
        repeat (go_big_quiet_step (first | (go_at_call 166; exact calls_later (KO _)) | fail))
        refine wpQuiet_nil ?_
        intro _ hw'
        obtain ⟨u, rfl⟩ := hw'
        go_wp2
        exact ⟨⟨j + 1 + 1, by omega, by go_num, HN.out, ⟨u.w, HY.out u⟩, rfl⟩, by simp [intOf]; omega⟩
    · have hkn : k = l.length := by omega
      have HA : Hid (allTo (segFit f t l) l.length = true) := by rw [← hkn]; exact HF
      have HR1 := hideP (fun h => segs_end (f := f) (t := t) (l := l) h HA.out)
      have HR0 := hideP (fun h => segs_short (f := f) (t := t) (l := l) h)
      have HL : Hid (inB (l.length : Int) 1 20 = true → l.length ≤ 1048576) := fun h => by
        by_cases hx : l.length ≤ 1048576
        · exact hx
        · rw [inB_false (.inr (by omega))] at h; cases h
      have KC := hideP (fun h => KT.out y (HL.out h))
      clear KT HF
      subst hkn
      generalize inB (l.length : Int) 1 20 = b at *
      generalize tilesZ f t l = Z at *
      go_wp2_with fail
      refine (KL.out _).mono ?_
      rintro e w1 ⟨rfl, rfl⟩
      cases b
      · have HR := hideP (HR0.out rfl)
        go_wp2
        go_ret
        exact ⟨ret_bool HR.out.symm, HBl.out y⟩
      have HR := hideP (HR1.out rfl)
      have KD := hideP (KC.out rfl)
      clear KC HR1 HR0 HL
      go_wp2_with fail
      refine KD.out.mono ?_
      rintro e w2 ⟨rfl, hb⟩
      have HB2 : Hid (Below w.heap.size w w2) := HBl.out ⟨w2, y.on hb⟩
      clear hb
      by_cases hz : Z = 0
      · subst hz
        go_wp2
        go_ret
        exact ⟨ret_bool (by rw [HR.out]; rfl), HB2.out⟩
      · have hz' : (Z == 0) = false := by simp [hz]
        have HR2 : Hid (segsB f t l = false) := by unfold Hid; rw [HR.out]; exact decide_eq_false hz
        go_wp2
        go_ret
        exact ⟨ret_bool HR2.out.symm, HB2.out⟩
set_option maxRecDepth 100000 in
set_option maxHeartbeats 2000000 in
theorem specPatches9 (v : Value) (r : Rgm) (w : World) (h : GRow w v r) : Calls Tryz.prog 103 #[v] w fun e w' => e = .returned (.bool (patsB r.fr r.to r.pats)) ∧ Below w.heap.size w w' := by
  obtain ⟨nm, f, t, ss, l, rs, ru⟩ := r
  obtain ⟨v1, v2, v3, rfl, _, x1, x2, x3⟩ := h
  dsimp only at x1 x2 x3
  obtain ⟨W0, hW0, d0, d1, d2, d3, d4, d5, d6, hBl⟩ := seven_box w (.string nm) (.int .i64 f) (.int .i64 t) v1 v2 v3 (.int .i64 ru) 36
  have hrow := x2.below (hBl ⟨W0, Below.refl _ _⟩)
  obtain ⟨a1, c1, rfl, _⟩ := x1
  obtain ⟨a2, c2, rfl, _⟩ := x2
  obtain ⟨a3, c3, rfl, _⟩ := x3
  obtain ⟨a, c, ev, hl, hm, H⟩ := hrow
  cases ev
  have HK := hideP H
  have HW0 := hideP hW0
  have HBl := hideP hBl
  unfold maxLen at hm
  dsimp only
  clear H hW0 hBl
  have hst : Hid (Below W0.heap.size W0 W0) := Below.refl _ _
  go_enter Tryz.func103, Tryz.ntmps103
  go_wp2
  rw [← HW0.out]
  go_loopw [3] (fun i wr => ∃ k : Nat, k ≤ l.length ∧ i = .int .i64 (k : Int) ∧ Hid (allTo (patFit f t l) k = true) ∧ ∃ y : Later W0, wr = y.w) (fun i _ => l.length - (intOf i).toNat)
  case atStart => exact ⟨0, Nat.zero_le _, rfl, rfl, ⟨W0, hst.out⟩, rfl⟩
  case round =>
    obtain ⟨k, hk, rfl, HF, y, rfl⟩ := hrel
    by_cases hlt : k < l.length
    · obtain ⟨g, rfl, hg, x⟩ := HK.out k hlt
      obtain ⟨e0, e1, e2⟩ := (x.below y.below hg).pat
      obtain ⟨W1, hW1, c10, c11, c12, hBl1⟩ := pat_box y.w (atK patK l k).day (atK patK l k).mon (atK patK l k).dom 99
      have hY : ∀ z : Later W1, Below W0.heap.size W0 z.w := fun z => y.on (hBl1 z)
      have D1 : ∀ z : Later W1, z.w.cell? ⟨w.heap.size, 1, none⟩ = some (.int .i64 f) := fun z => d1 ⟨z.w, hY z⟩
      have D2 : ∀ z : Later W1, z.w.cell? ⟨w.heap.size, 2, none⟩ = some (.int .i64 t) := fun z => d2 ⟨z.w, hY z⟩
      have D3 : ∀ z : Later W1, z.w.cell? ⟨w.heap.size, 4, none⟩ = some (.slice (some ⟨g, 0, none⟩) l.length c2) := fun z => d4 ⟨z.w, hY z⟩
      have HP : Hid (∀ j, k = j + 1 → ∀ z : Later W1, z.w.cell? ⟨g, j * 3, none⟩ = some (.int .i64 (atK patK l j).day)) := fun j e z => by
        obtain ⟨g', e', hg', x'⟩ := HK.out j (by omega)
        cases e'
        exact ((x'.below (hY z) hg').pat).1
      have F1 := hideP (fun h => pats_bad (f := f) (t := t) (k := k) (pfit_no1 h) hlt)
      have F2 := hideP (fun h => pats_bad (f := f) (t := t) (k := k) (pfit_no2 h) hlt)
      have F4 := hideP (fun (j : Nat) (e : k = j + 1) h => pats_bad (f := f) (t := t) (k := k) (pfit_no4 e h) hlt)
      have F5 := hideP (fun h1 h2 h4 => allTo_next HF.out (pfit_yes (f := f) (t := t) (k := k) h1 h2 h4))
      have HW1 := hideP hW1
      have HY := hideP hY
      clear x hW1 hBl1 hY
      generalize atK patK l k = s at *
      have KA : ∀ y : Later W1, Calls Tryz.prog 88 #[.int .i64 s.day, .int .i64 f, .int .i64 t] y.w fun e w' => e = .returned (.bool (inB s.day f t)) ∧ w' = y.w := fun y => l01In _ _ _ y.w
      have KM : ∀ y : Later W1, Calls Tryz.prog 88 #[.int .i64 s.mon, .int .i64 1, .int .i64 12] y.w fun e w' => e = .returned (.bool (inB s.mon 1 12)) ∧ w' = y.w := fun y => l01In _ _ _ y.w
      have KD : ∀ y : Later W1, Calls Tryz.prog 88 #[.int .i64 s.dom, .int .i64 1, .int .i64 31] y.w fun e w' => e = .returned (.bool (inB s.dom 1 31)) ∧ w' = y.w := fun y => l01In _ _ _ y.w
      have HPB : Hid (patB s = (inB s.mon 1 12 && inB s.dom 1 31)) := rfl
      generalize patB s = pb at *
      obtain ⟨s0, s1, s2⟩ := s
      dsimp only at *
      generalize inB s0 f t = b1 at *
      generalize inB s1 1 12 = b2 at *
      generalize inB s2 1 31 = b3 at *
      cases b1
      · have HR := hideP (F2.out rfl)
        go_wp2_with fail
        rw [← HW1.out]
        refine wp_region_later (W := W1) (Below.refl _ _) (by kernel_rfl) (by kernel_rfl) ?_
        repeat (go_big_quiet_step (first | (go_at_call_of 88 s0; exact calls_same (KA _)) | (go_at_call_of 88 s1; exact calls_same (KM _)) | (go_at_call_of 88 s2; exact calls_same (KD _)) | fail))
        refine wpQuiet_nil ?_
        intro _ hw'
        obtain ⟨u, rfl⟩ := hw'
        go_wp2
        go_ret
        exact ⟨ret_bool HR.out.symm, HBl.out ⟨u.w, HY.out u⟩⟩
      cases b2
      · have HR := hideP (F1.out (by rw [HPB.out]; rfl))
        go_wp2_with fail
        rw [← HW1.out]
        refine wp_region_later (W := W1) (Below.refl _ _) (by kernel_rfl) (by kernel_rfl) ?_
        repeat (go_big_quiet_step (first | (go_at_call_of 88 s0; exact calls_same (KA _)) | (go_at_call_of 88 s1; exact calls_same (KM _)) | (go_at_call_of 88 s2; exact calls_same (KD _)) | fail))
        refine wpQuiet_nil ?_
        intro _ hw'
        obtain ⟨u, rfl⟩ := hw'
        go_wp2
        go_ret
        exact ⟨ret_bool HR.out.symm, HBl.out ⟨u.w, HY.out u⟩⟩
      cases b3
      · have HR := hideP (F1.out (by rw [HPB.out]; rfl))
        go_wp2_with fail
        rw [← HW1.out]
        refine wp_region_later (W := W1) (Below.refl _ _) (by kernel_rfl) (by kernel_rfl) ?_
        repeat (go_big_quiet_step (first | (go_at_call_of 88 s0; exact calls_same (KA _)) | (go_at_call_of 88 s1; exact calls_same (KM _)) | (go_at_call_of 88 s2; exact calls_same (KD _)) | fail))
        refine wpQuiet_nil ?_
        intro _ hw'
        obtain ⟨u, rfl⟩ := hw'
        go_wp2
        go_ret
        exact ⟨ret_bool HR.out.symm, HBl.out ⟨u.w, HY.out u⟩⟩
      have HP1 : Hid (pb = true) := HPB.out
      obtain rfl | ⟨j, rfl⟩ : k = 0 ∨ ∃ j, k = j + 1 := by cases k with | zero => exact .inl rfl | succ j => exact .inr ⟨j, rfl⟩
      · have HN := hideP (F5.out HP1.out rfl (fun j e => by omega))
        go_wp2_with fail
        rw [← HW1.out]
        refine wp_region_later (W := W1) (Below.refl _ _) (by kernel_rfl) (by kernel_rfl) ?_
        repeat (go_big_quiet_step (first | (go_at_call_of 88 s0; exact calls_same (KA _)) | (go_at_call_of 88 s1; exact calls_same (KM _)) | (go_at_call_of 88 s2; exact calls_same (KD _)) | fail))
        refine wpQuiet_nil ?_
        intro _ hw'
        obtain ⟨u, rfl⟩ := hw'
        go_wp2
        exact ⟨⟨0 + 1, by omega, by go_num, HN.out, ⟨u.w, HY.out u⟩, rfl⟩, by simp [intOf]; omega⟩
      · have e5 := HP.out j rfl
        have G4 := hideP (F4.out j rfl)
        have G5 := hideP (fun (h4 : (atK patK l j).day < s0) => F5.out HP1.out rfl (fun i e => (show i = j from by omega) ▸ h4))
        have hj0 : decide ((0 : Int) < (j : Int) + 1) = true := decide_eq_true (by omega)
        clear HP F1 F2 F4 F5
        generalize (atK patK l j).day = P at *
        by_cases h4 : P < s0
        case neg =>
          have HR := hideP (G4.out (by omega))
          have q5 : decide (s0 ≤ P) = true := decide_eq_true (by omega)
          go_wp2_with fail
          rw [← HW1.out]
          refine wp_region_later (W := W1) (Below.refl _ _) (by kernel_rfl) (by kernel_rfl) ?_
          repeat (go_big_quiet_step (first | (go_at_call_of 88 s0; exact calls_same (KA _)) | (go_at_call_of 88 s1; exact calls_same (KM _)) | (go_at_call_of 88 s2; exact calls_same (KD _)) | fail))
          refine wpQuiet_nil ?_
          intro _ hw'
          obtain ⟨u, rfl⟩ := hw'
          go_wp2
          go_ret
          exact ⟨ret_bool HR.out.symm, HBl.out ⟨u.w, HY.out u⟩⟩
        have HN := hideP (G5.out h4)
        have q5 : decide (s0 ≤ P) = false := decide_eq_false (by omega)
        go_wp2_with fail
        rw [← HW1.out]
        refine wp_region_later (W := W1) (Below.refl _ _) (by kernel_rfl) (by kernel_rfl) ?_
        repeat (go_big_quiet_step (first | (go_at_call_of 88 s0; exact calls_same (KA _)) | (go_at_call_of 88 s1; exact calls_same (KM _)) | (go_at_call_of 88 s2; exact calls_same (KD _)) | fail))
        refine wpQuiet_nil ?_
        intro _ hw'
        obtain ⟨u, rfl⟩ := hw'
        go_wp2
        exact ⟨⟨j + 1 + 1, by omega, by go_num, HN.out, ⟨u.w, HY.out u⟩, rfl⟩, by simp [intOf]; omega⟩
    · have hkn : k = l.length := by omega
      have HA : Hid (allTo (patFit f t l) l.length = true) := by rw [← hkn]; exact HF
      have HR := hideP (pats_end HA.out)
      clear HF
      subst hkn
      by_cases h8 : (l.length : Int) ≤ 8
      · have HR2 : Hid (patsB f t l = true) := HR.out.trans (decide_eq_true h8)
        go_wp2
        go_ret
        exact ⟨ret_bool HR2.out.symm, HBl.out y⟩
      · have HR2 : Hid (patsB f t l = false) := HR.out.trans (decide_eq_false h8)
        have q8 : decide ((l.length : Int) ≤ 8) = false := decide_eq_false h8
        go_wp2
        go_ret
        exact ⟨ret_bool HR2.out.symm, HBl.out y⟩
end Go.Proofs.YtilpencbbdpgfaaGreatDoor.ctr
