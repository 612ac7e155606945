/- Contracts of the code's segsOk, patchesOk, patchOk, ruleOk. Contracts of both RegimeOk: they answer one plain function. Contracts of both Changes: in a row of its own, the first days of all segments but the first. Plain facts on right regimes (each day of From .. To is in a segment, no other day is; their changes rise) and the contract of the laws' rising. Plain facts on a regime as it is drawn: segments that stand one behind the other tile, and such a regime is right. Plain facts on the segments of a right regime: they stand in order and apart, so halves find the one segment of a day; what a day is called. Contract of the program's segmentOn: in a right regime, at a day of it, the one segment that SegAt tells. Contract of the model's l11Read: in a right regime, at a day of it, its reading. -/
import Derived.Test.YtdmlhiailjnhcaaGreatDoorJnYbc
import Derived.Test.YtdmlhiailjnhcaaGreatDoorJnYap
import Derived.Test.YtdmlhiailjnhcaaGreatDoorJnYah
import Derived.Test.YtdmlhiailjnhcaaGreatDoorJnYad
import Derived.Test.YtdmlhiailjnhcaaGreatDoorJnYaw
import Derived.Test.YtdmlhiailjnhcaaGreatDoorJnYaa
import Derived.Test.YtdmlhiailjnhcaaGreatDoorJnYan
namespace Go.Proofs.YtdmlhiailjnhcaaGreatDoor.ctr
open Go.RowKit
set_option maxHeartbeats 1000000 in
theorem implPatchOk (s : Pat) (w : World) : CR 155 #[.agg #[.int .i64 s.day, .int .i64 s.mon, .int .i64 s.dom]] w (.bool (patB s)) := by
 unfold patB
 by_cases h1 : 1 ≤ s.mon
 case neg =>
  rw [inB_false (.inl (by omega)), Bool.false_and]
  have hd : decide (1 ≤ s.mon) = false := decide_eq_false h1
  go_enter Tryz.func155, Tryz.ntmps155
  go_wp2
  go_ret
  exact ⟨rfl, (Below.refl _ _).alloc (Nat.le_refl _) _⟩
 by_cases h2 : s.mon ≤ 12
 case neg =>
  rw [inB_false (.inr (by omega)), Bool.false_and]
  have hd : decide (s.mon ≤ 12) = false := decide_eq_false h2
  go_enter Tryz.func155, Tryz.ntmps155
  go_wp2
  go_ret
  exact ⟨rfl, (Below.refl _ _).alloc (Nat.le_refl _) _⟩
 rw [inB_true h1 h2, Bool.true_and]
 by_cases h3 : 1 ≤ s.dom
 case neg =>
  rw [inB_false (.inl (by omega))]
  have hd : decide (1 ≤ s.dom) = false := decide_eq_false h3
  go_enter Tryz.func155, Tryz.ntmps155
  go_wp2
  go_ret
  exact ⟨rfl, (Below.refl _ _).alloc (Nat.le_refl _) _⟩
 by_cases h4 : s.dom ≤ 31
 case neg =>
  rw [inB_false (.inr (by omega))]
  have hd : decide (s.dom ≤ 31) = false := decide_eq_false h4
  go_enter Tryz.func155, Tryz.ntmps155
  go_wp2
  go_ret
  exact ⟨rfl, (Below.refl _ _).alloc (Nat.le_refl _) _⟩
 rw [inB_true h3 h4]
 go_enter Tryz.func155, Tryz.ntmps155
 go_wp2
 go_ret
 exact ⟨rfl, (Below.refl _ _).alloc (Nat.le_refl _) _⟩
theorem implRuleOk (z : Int) (w : World) : Calls Tryz.prog 110 #[.int .i64 z] w fun e w' => e = .returned (.bool (ruleB z)) ∧ w' = w := by
 unfold ruleB
 by_cases h0 : z = 0
 · subst h0
   go_enter Tryz.func110, Tryz.ntmps110
   go_wp2
   go_ret
   exact ⟨rfl, rfl⟩
 by_cases h1 : z = 1
 · subst h1
   go_enter Tryz.func110, Tryz.ntmps110
   go_wp2
   go_ret
   exact ⟨rfl, rfl⟩
 rw [decide_eq_false h0, decide_eq_false h1]
 have hd : (z == 0) = false := by simp [h0]
 have hd' : (z == 1) = false := by simp [h1]
 go_enter Tryz.func110, Tryz.ntmps110
 go_wp2
 go_ret
 exact ⟨rfl, rfl⟩
set_option maxRecDepth 100000 in
set_option maxHeartbeats 2000000 in
theorem implSegsOk (v : Value) (r : Rgm) (w : World) (h : GRow w v r) (ht : r.to ≤ 9223372036854775807) (hE : ErrT w) : CR 107 #[v] w (.bool (segsB r.fr r.to r.segs)) := by
 obtain ⟨nm, f, t, l, ps, rs, ru⟩ := r
 obtain ⟨v1, v2, v3, rfl, _, x1, x2, x3⟩ := h
 dsimp only at x1 x2 x3
 obtain ⟨W0, hW0, d0, d1, d2, d3, d4, d5, d6, hBl⟩ := seven_box w (.string nm) (.int .i64 f) (.int .i64 t) v1 v2 v3 (.int .i64 ru) 38
 have hrow := x1.below (hBl ⟨W0, Below.refl _ _⟩)
 have KT : Hid (∀ y : Later W0, l.length ≤ 1048576 → (∀ s ∈ l, -9223372036854775808 ≤ s.to) → CR 154 #[.int .i64 f, .int .i64 t, v1] y.w (.int .i64 (tilesZ f t l))) := fun y h1 h2 => implTiles f t v1 l y.w (hrow.below y.below) h1 ht h2 (hE.below (hBl y))
 obtain ⟨a1, c1, rfl, _⟩ := x1
 obtain ⟨a2, c2, rfl, _⟩ := x2
 obtain ⟨a3, c3, rfl, _⟩ := x3
 obtain ⟨a, c, ev, hl, hm, H⟩ := hrow
 cases ev
 have HK := hideP H
 have HW0 := hideP hW0
 have HBl := hideP hBl
 unfold maxLen at hm
 dsimp only
 clear H hW0 hBl
 clear ht hE
 by_cases n1 : l.length < 1
 · have HR := hideP (segs_short (f := f) (t := t) (inB_false (x := (l.length : Int)) (a := 1) (b := 20) (.inl (by omega))))
   have q1 : (l.length : Int) < 1 := by omega
   go_enter Tryz.func107, Tryz.ntmps107
   go_wp2
   rw [← HW0.out]
   go_ret
   exact ⟨ret_bool HR.out.symm, HBl.out ⟨W0, Below.refl _ _⟩⟩
 have q1 : decide ((l.length : Int) < 1) = false := decide_eq_false (by omega)
 by_cases n2 : 20 < l.length
 · have HR := hideP (segs_short (f := f) (t := t) (inB_false (x := (l.length : Int)) (a := 1) (b := 20) (.inr (by omega))))
   have q2 : (20 : Int) < (l.length : Int) := by omega
   go_enter Tryz.func107, Tryz.ntmps107
   go_wp2
   rw [← HW0.out]
   go_ret
   exact ⟨ret_bool HR.out.symm, HBl.out ⟨W0, Below.refl _ _⟩⟩
 have q2 : decide ((20 : Int) < (l.length : Int)) = false := decide_eq_false (by omega)
 have HI : Hid (inB l.length 1 20 = true) := inB_true (by omega) (by omega)
 have hst : Hid (Below W0.heap.size W0 W0) := Below.refl _ _
 go_enter Tryz.func107, Tryz.ntmps107
 go_wp2
 rw [← HW0.out]
 go_loopw [18] (fun i wr => ∃ k : Nat, k ≤ l.length ∧ i = .int .i64 (k : Int) ∧ Hid (allTo (segFit f t l) k = true) ∧ ∃ y : Later W0, wr = y.w) (fun i _ => l.length - (intOf i).toNat)
 case atStart => exact ⟨0, Nat.zero_le _, rfl, rfl, ⟨W0, hst.out⟩, rfl⟩
 case round =>
  obtain ⟨k, hk, rfl, HF, y, rfl⟩ := hrel
  by_cases hlt : k < l.length
  · obtain ⟨g, rfl, hg, x⟩ := HK.out k hlt
    obtain ⟨e0, e1, e2, e3, e4⟩ := (x.below y.below hg).seg
    obtain ⟨W1, hW1, c10, c11, c12, c13, c14, hBl1⟩ := seg_box y.w (atK segK l k).fr (atK segK l k).to (atK segK l k).cal (atK segK l k).sty (atK segK l k).off 97
    have hY : ∀ z : Later W1, Below W0.heap.size W0 z.w := fun z => y.on (hBl1 z)
    have D1 : ∀ z : Later W1, z.w.cell? ⟨w.heap.size, 1, none⟩ = some (.int .i64 f) := fun z => d1 ⟨z.w, hY z⟩
    have D2 : ∀ z : Later W1, z.w.cell? ⟨w.heap.size, 2, none⟩ = some (.int .i64 t) := fun z => d2 ⟨z.w, hY z⟩
    have D3 : ∀ z : Later W1, z.w.cell? ⟨w.heap.size, 3, none⟩ = some (.slice (some ⟨g, 0, none⟩) l.length c1) := fun z => d3 ⟨z.w, hY z⟩
    have HP : Hid (∀ j, k = j + 1 → ∀ z : Later W1, z.w.cell? ⟨g, j * 5, none⟩ = some (.int .i64 (atK segK l j).fr)) := fun j e z => by
     obtain ⟨g', e', hg', x'⟩ := HK.out j (by omega)
     cases e'
     exact ((x'.below (hY z) hg').seg).1
    have F1 := hideP (fun h => segs_bad (f := f) (t := t) (k := k) (fit_no1 h) hlt)
    have F2 := hideP (fun h => segs_bad (f := f) (t := t) (k := k) (fit_no2 h) hlt)
    have F3 := hideP (fun h => segs_bad (f := f) (t := t) (k := k) (fit_no3 h) hlt)
    have F4 := hideP (fun (j : Nat) (e : k = j + 1) h => segs_bad (f := f) (t := t) (k := k) (fit_no4 e h) hlt)
    have F5 := hideP (fun h1 h2 h3 h4 => allTo_next HF.out (fit_yes (f := f) (t := t) (k := k) h1 h2 h3 h4))
    have HW1 := hideP hW1
    have HY := hideP hY
    clear x hW1 hBl1 hY
    generalize atK segK l k = s at *
    have KO : Hid (∀ W, CR 153 #[.agg #[.int .i64 s.fr, .int .i64 s.to, .int .i64 s.cal, .int .i64 s.sty, .int .i64 s.off]] W (.bool (segOkB s))) := fun W => implSegOk s W
    generalize segOkB s = b1 at *
    go_wp2_with fail
    rw [← HW1.out]
    refine latO (KO.out _) fun z => ?_
    clear e0 e1 e2 e3 e4
    cases b1
    · have HR := hideP (F1.out rfl)
      go_wp2
      go_ret
      exact ⟨ret_bool HR.out.symm, HBl.out ⟨z.w, HY.out z⟩⟩
    by_cases h2 : f ≤ s.fr
    case neg =>
     have HR := hideP (F2.out (by omega))
     have q3 : s.fr < f := by omega
     go_wp2
     go_ret
     exact ⟨ret_bool HR.out.symm, HBl.out ⟨z.w, HY.out z⟩⟩
    have q3 : decide (s.fr < f) = false := decide_eq_false (by omega)
    by_cases h3 : s.to ≤ t
    case neg =>
     have HR := hideP (F3.out (by omega))
     have q4 : t < s.to := by omega
     go_wp2
     go_ret
     exact ⟨ret_bool HR.out.symm, HBl.out ⟨z.w, HY.out z⟩⟩
    have q4 : decide (t < s.to) = false := decide_eq_false (by omega)
    obtain rfl | ⟨j, rfl⟩ : k = 0 ∨ ∃ j, k = j + 1 := by cases k with | zero => exact .inl rfl | succ j => exact .inr ⟨j, rfl⟩
    · have HN := hideP (F5.out rfl h2 h3 (fun j e => by omega))
      go_wp2_with fail
      refine wp_region_later (W := W1) z.below (by kernel_rfl) (by kernel_rfl) ?_
      repeat (go_big_quiet_step (fail))
      refine wpQuiet_nil ?_
      intro _ hw'
      obtain ⟨u, rfl⟩ := hw'
      go_wp2
      exact ⟨⟨0 + 1, by omega, by go_num, HN.out, ⟨u.w, HY.out u⟩, rfl⟩, by simp [intOf]; omega⟩
    · have e5 := HP.out j rfl
      have G4 := hideP (F4.out j rfl)
      have G5 := hideP (fun (h4 : (atK segK l j).fr < s.fr) => F5.out rfl h2 h3 (fun i e => (show i = j from by omega) ▸ h4))
      have hj0 : decide ((0 : Int) < (j : Int) + 1) = true := decide_eq_true (by omega)
      clear HP F1 F2 F3 F4 F5
      generalize (atK segK l j).fr = P at *
      by_cases h4 : P < s.fr
      case neg =>
       have HR := hideP (G4.out (by omega))
       have q5 : decide (s.fr ≤ P) = true := decide_eq_true (by omega)
       go_wp2_with fail
       refine wp_region_later (W := W1) z.below (by kernel_rfl) (by kernel_rfl) ?_
       repeat (go_big_quiet_step (fail))
       refine wpQuiet_nil ?_
       intro _ hw'
       obtain ⟨u, rfl⟩ := hw'
       go_wp2
       go_ret
       exact ⟨ret_bool HR.out.symm, HBl.out ⟨u.w, HY.out u⟩⟩
      have HN := hideP (G5.out h4)
      have q5 : decide (s.fr ≤ P) = false := decide_eq_false (by omega)
      go_wp2_with fail
      refine wp_region_later (W := W1) z.below (by kernel_rfl) (by kernel_rfl) ?_
      repeat (go_big_quiet_step (fail))
      refine wpQuiet_nil ?_
      intro _ hw'
      obtain ⟨u, rfl⟩ := hw'
      go_wp2
      exact ⟨⟨j + 1 + 1, by omega, by go_num, HN.out, ⟨u.w, HY.out u⟩, rfl⟩, by simp [intOf]; omega⟩
  · have hkn : k = l.length := by omega
    have HA : Hid (allTo (segFit f t l) l.length = true) := by rw [← hkn]; exact HF
    have HR := hideP (segs_end HI.out HA.out)
    have KC := hideP (KT.out y (by omega) (segs_days HA.out))
    clear KT HF
    subst hkn
    generalize tilesZ f t l = Z at *
    go_wp2_with fail
    refine KC.out.mono ?_
    rintro e w2 ⟨rfl, hb⟩
    have HB2 : Hid (Below w.heap.size w w2) := HBl.out ⟨w2, y.on hb⟩
    clear hb
    by_cases hz : Z = 0
    · subst hz
      go_wp2
      go_ret
      exact ⟨ret_bool (by rw [HR.out]; rfl), HB2.out⟩
    · have hz' : (Z == 0) = false := by simp [hz]
      have HR2 : Hid (segsB f t l = false) := by unfold Hid; rw [HR.out]; exact decide_eq_false hz
      go_wp2
      go_ret
      exact ⟨ret_bool HR2.out.symm, HB2.out⟩
set_option maxRecDepth 100000 in
set_option maxHeartbeats 2000000 in
theorem implPatchesOk (v : Value) (r : Rgm) (w : World) (h : GRow w v r) : CR 108 #[v] w (.bool (patsB r.fr r.to r.pats)) := by
 obtain ⟨nm, f, t, ss, l, rs, ru⟩ := r
 obtain ⟨v1, v2, v3, rfl, _, x1, x2, x3⟩ := h
 dsimp only at x1 x2 x3
 obtain ⟨W0, hW0, d0, d1, d2, d3, d4, d5, d6, hBl⟩ := seven_box w (.string nm) (.int .i64 f) (.int .i64 t) v1 v2 v3 (.int .i64 ru) 38
 have hrow := x2.below (hBl ⟨W0, Below.refl _ _⟩)
 obtain ⟨a1, c1, rfl, _⟩ := x1
 obtain ⟨a2, c2, rfl, _⟩ := x2
 obtain ⟨a3, c3, rfl, _⟩ := x3
 obtain ⟨a, c, ev, hl, hm, H⟩ := hrow
 cases ev
 have HK := hideP H
 have HW0 := hideP hW0
 have HBl := hideP hBl
 unfold maxLen at hm
 dsimp only
 clear H hW0 hBl
 by_cases n2 : 8 < l.length
 · have HR : Hid (patsB f t l = false) := by unfold Hid patsB; rw [decide_eq_false (by omega), Bool.false_and]
   have q2 : (8 : Int) < (l.length : Int) := by omega
   go_enter Tryz.func108, Tryz.ntmps108
   go_wp2
   rw [← HW0.out]
   go_ret
   exact ⟨ret_bool HR.out.symm, HBl.out ⟨W0, Below.refl _ _⟩⟩
 have q2 : decide ((8 : Int) < (l.length : Int)) = false := decide_eq_false (by omega)
 have HI : Hid (decide ((l.length : Int) ≤ 8) = true) := decide_eq_true (by omega)
 have hst : Hid (Below W0.heap.size W0 W0) := Below.refl _ _
 go_enter Tryz.func108, Tryz.ntmps108
 go_wp2
 rw [← HW0.out]
 go_loopw [12] (fun i wr => ∃ k : Nat, k ≤ l.length ∧ i = .int .i64 (k : Int) ∧ Hid (allTo (patFit f t l) k = true) ∧ ∃ y : Later W0, wr = y.w) (fun i _ => l.length - (intOf i).toNat)
 case atStart => exact ⟨0, Nat.zero_le _, rfl, rfl, ⟨W0, hst.out⟩, rfl⟩
 case round =>
  obtain ⟨k, hk, rfl, HF, y, rfl⟩ := hrel
  by_cases hlt : k < l.length
  · obtain ⟨g, rfl, hg, x⟩ := HK.out k hlt
    obtain ⟨e0, e1, e2⟩ := (x.below y.below hg).pat
    obtain ⟨W1, hW1, c10, c11, c12, hBl1⟩ := pat_box y.w (atK patK l k).day (atK patK l k).mon (atK patK l k).dom 113
    have hY : ∀ z : Later W1, Below W0.heap.size W0 z.w := fun z => y.on (hBl1 z)
    have D1 : ∀ z : Later W1, z.w.cell? ⟨w.heap.size, 1, none⟩ = some (.int .i64 f) := fun z => d1 ⟨z.w, hY z⟩
    have D2 : ∀ z : Later W1, z.w.cell? ⟨w.heap.size, 2, none⟩ = some (.int .i64 t) := fun z => d2 ⟨z.w, hY z⟩
    have D3 : ∀ z : Later W1, z.w.cell? ⟨w.heap.size, 4, none⟩ = some (.slice (some ⟨g, 0, none⟩) l.length c2) := fun z => d4 ⟨z.w, hY z⟩
    have HP : Hid (∀ j, k = j + 1 → ∀ z : Later W1, z.w.cell? ⟨g, j * 3, none⟩ = some (.int .i64 (atK patK l j).day)) := fun j e z => by
     obtain ⟨g', e', hg', x'⟩ := HK.out j (by omega)
     cases e'
     exact ((x'.below (hY z) hg').pat).1
    have F1 := hideP (fun h => pats_bad (f := f) (t := t) (k := k) (pfit_no1 h) hlt)
    have F2 := hideP (fun h => pats_bad (f := f) (t := t) (k := k) (pfit_no2 h) hlt)
    have F4 := hideP (fun (j : Nat) (e : k = j + 1) h => pats_bad (f := f) (t := t) (k := k) (pfit_no4 e h) hlt)
    have F5 := hideP (fun h1 h2 h4 => allTo_next HF.out (pfit_yes (f := f) (t := t) (k := k) h1 h2 h4))
    have HW1 := hideP hW1
    have HY := hideP hY
    clear x hW1 hBl1 hY
    generalize atK patK l k = s at *
    have KO : Hid (∀ W, CR 155 #[.agg #[.int .i64 s.day, .int .i64 s.mon, .int .i64 s.dom]] W (.bool (patB s))) := fun W => implPatchOk s W
    generalize patB s = b1 at *
    go_wp2_with fail
    rw [← HW1.out]
    refine latO (KO.out _) fun z => ?_
    clear e0 e1 e2
    cases b1
    · have HR := hideP (F1.out rfl)
      go_wp2
      go_ret
      exact ⟨ret_bool HR.out.symm, HBl.out ⟨z.w, HY.out z⟩⟩
    by_cases h2 : f ≤ s.day
    case neg =>
     have HR := hideP (F2.out (inB_false (.inl (by omega))))
     have q3 : s.day < f := by omega
     go_wp2
     go_ret
     exact ⟨ret_bool HR.out.symm, HBl.out ⟨z.w, HY.out z⟩⟩
    have q3 : decide (s.day < f) = false := decide_eq_false (by omega)
    by_cases h3 : s.day ≤ t
    case neg =>
     have HR := hideP (F2.out (inB_false (.inr (by omega))))
     have q4 : t < s.day := by omega
     go_wp2
     go_ret
     exact ⟨ret_bool HR.out.symm, HBl.out ⟨z.w, HY.out z⟩⟩
    have q4 : decide (t < s.day) = false := decide_eq_false (by omega)
    obtain rfl | ⟨j, rfl⟩ : k = 0 ∨ ∃ j, k = j + 1 := by cases k with | zero => exact .inl rfl | succ j => exact .inr ⟨j, rfl⟩
    · have HN := hideP (F5.out rfl (inB_true h2 h3) (fun j e => by omega))
      go_wp2_with fail
      refine wp_region_later (W := W1) z.below (by kernel_rfl) (by kernel_rfl) ?_
      repeat (go_big_quiet_step (fail))
      refine wpQuiet_nil ?_
      intro _ hw'
      obtain ⟨u, rfl⟩ := hw'
      go_wp2
      exact ⟨⟨0 + 1, by omega, by go_num, HN.out, ⟨u.w, HY.out u⟩, rfl⟩, by simp [intOf]; omega⟩
    · have e5 := HP.out j rfl
      have G4 := hideP (F4.out j rfl)
      have G5 := hideP (fun (h4 : (atK patK l j).day < s.day) => F5.out rfl (inB_true h2 h3) (fun i e => (show i = j from by omega) ▸ h4))
      have hj0 : decide ((0 : Int) < (j : Int) + 1) = true := decide_eq_true (by omega)
      clear HP F1 F2 F4 F5
      generalize (atK patK l j).day = P at *
      by_cases h4 : P < s.day
      case neg =>
       have HR := hideP (G4.out (by omega))
       have q5 : decide (s.day ≤ P) = true := decide_eq_true (by omega)
       go_wp2_with fail
       refine wp_region_later (W := W1) z.below (by kernel_rfl) (by kernel_rfl) ?_
       repeat (go_big_quiet_step (fail))
       refine wpQuiet_nil ?_
       intro _ hw'
       obtain ⟨u, rfl⟩ := hw'
       go_wp2
       go_ret
       exact ⟨ret_bool HR.out.symm, HBl.out ⟨u.w, HY.out u⟩⟩
      have HN := hideP (G5.out h4)
      have q5 : decide (s.day ≤ P) = false := decide_eq_false (by omega)
      go_wp2_with fail
      refine wp_region_later (W := W1) z.below (by kernel_rfl) (by kernel_rfl) ?_
      repeat (go_big_quiet_step (fail))
      refine wpQuiet_nil ?_
      intro _ hw'
      obtain ⟨u, rfl⟩ := hw'
      go_wp2
      exact ⟨⟨j + 1 + 1, by omega, by go_num, HN.out, ⟨u.w, HY.out u⟩, rfl⟩, by simp [intOf]; omega⟩
  · have hkn : k = l.length := by omega
    have HA : Hid (allTo (patFit f t l) l.length = true) := by rw [← hkn]; exact HF
    have HR : Hid (patsB f t l = true) := (pats_end HA.out).trans HI.out
    clear HF
    subst hkn
    go_wp2
    go_ret
    exact ⟨ret_bool HR.out.symm, HBl.out y⟩
end Go.Proofs.YtdmlhiailjnhcaaGreatDoor.ctr
namespace Go.Proofs.YtdmlhiailjnhcaaGreatDoor.ctr
open Go.RowKit
set_option linter.unusedSimpArgs false
set_option maxRecDepth 100000 in
set_option maxHeartbeats 2000000 in
theorem implRegimeOk (v : Value) (r : Rgm) (a : Addr) (w : World) (h : GRow w v r) (ht : r.to ≤ 9223372036854775807) (hE : ErrT w) (hT : Tab w) (hS : Sent w a) : CR 59 #[v] w (.bool (regimeB r)) := by
 have hn : r.name.size ≤ maxLen := by obtain ⟨_, _, _, _, hn, _⟩ := h; exact hn
 have KS : Hid (∀ W, Below w.heap.size w W → CR 107 #[v] W (.bool (segsB r.fr r.to r.segs))) := fun W hb => implSegsOk v r W (h.below hb) ht (hE.below hb)
 have KP : Hid (∀ W, Below w.heap.size w W → CR 108 #[v] W (.bool (patsB r.fr r.to r.pats))) := fun W hb => implPatchesOk v r W (h.below hb)
 have RB : Hid (regimeB r = (nameOk r.name && (dayB r.fr && (dayB r.to && (segsB r.fr r.to r.segs && (patsB r.fr r.to r.pats && (reignsOk r.rgns && ruleB r.rule))))))) := rfl
 have HO : Hid (r.to < r.fr → segsB r.fr r.to r.segs = false) := fun h => segs_order (by omega)
 generalize regimeB r = ans at *
 obtain ⟨nm, f, t, l, ps, rs, ru⟩ := r
 dsimp only at *
 obtain ⟨v1, v2, v3, rfl, _, x1, x2, x3⟩ := h
 dsimp only at *
 have KN : Hid (∀ W, CR 106 #[.string nm] W (.bool (nameOk nm))) := fun W => (implNameOk nm W hn).mono fun _ _ h => ⟨h.1, same_bel h.2⟩
 have KF : Hid (∀ W, CR 60 #[.int .i64 f] W (.bool (dayB f))) := fun W => (implOnLine f W).mono fun _ _ h => ⟨h.1, same_bel h.2⟩
 have KT : Hid (∀ W, CR 60 #[.int .i64 t] W (.bool (dayB t))) := fun W => (implOnLine t W).mono fun _ _ h => ⟨h.1, same_bel h.2⟩
 have KR : Hid (∀ W, Below w.heap.size w W → CR 109 #[v3] W (.bool (reignsOk rs))) := fun W hb => implReignsOk v3 rs a W (x3.below hb) (hT.later hb) (hS.later hb)
 obtain ⟨W0, hW0, d0, d1, d2, d3, d4, d5, d6, hBl⟩ := seven_box w (.string nm) (.int .i64 f) (.int .i64 t) v1 v2 v3 (.int .i64 ru) 38
 obtain ⟨a1, c1, rfl, _⟩ := x1
 obtain ⟨a2, c2, rfl, _⟩ := x2
 obtain ⟨a3, c3, rfl, _⟩ := x3
 have HW0 := hideP hW0
 have HBl := hideP hBl
 clear hW0 hBl hn ht hE hT hS
 generalize nameOk nm = b1 at *
 generalize dayB f = b2 at *
 generalize dayB t = b3 at *
 generalize segsB f t l = b4 at *
 generalize patsB f t ps = b5 at *
 generalize reignsOk rs = b6 at *
 go_enter Tryz.func59, Tryz.ntmps59
 go_wp2_with fail
 rw [← HW0.out]
 refine latO (KN.out _) fun x1 => ?_
 cases b1
 · have HR : Hid (ans = false) := by unfold Hid; rw [RB.out]; simp only [Bool.false_and, Bool.and_false, Bool.true_and]
   go_wp2
   go_ret
   exact ⟨ret_bool HR.out.symm, HBl.out x1⟩
 go_wp2_with fail
 refine lat (KF.out _) fun x2 => ?_
 cases b2
 · have HR : Hid (ans = false) := by unfold Hid; rw [RB.out]; simp only [Bool.false_and, Bool.and_false, Bool.true_and]
   go_wp2
   go_ret
   exact ⟨ret_bool HR.out.symm, HBl.out x2⟩
 go_wp2_with fail
 refine lat (KT.out _) fun x3 => ?_
 cases b3
 · have HR : Hid (ans = false) := by unfold Hid; rw [RB.out]; simp only [Bool.false_and, Bool.and_false, Bool.true_and]
   go_wp2
   go_ret
   exact ⟨ret_bool HR.out.symm, HBl.out x3⟩
 go_wp2_with fail
 refine lat (KS.out _ (HBl.out x3)) fun x4 => ?_
 cases b4
 · have HR : Hid (ans = false) := by unfold Hid; rw [RB.out]; simp only [Bool.false_and, Bool.and_false, Bool.true_and]
   go_wp2
   go_ret
   exact ⟨ret_bool HR.out.symm, HBl.out x4⟩
 go_wp2_with fail
 refine lat (KP.out _ (HBl.out x4)) fun x5 => ?_
 cases b5
 · have HR : Hid (ans = false) := by unfold Hid; rw [RB.out]; simp only [Bool.false_and, Bool.and_false, Bool.true_and]
   go_wp2
   go_ret
   exact ⟨ret_bool HR.out.symm, HBl.out x5⟩
 go_wp2_with fail
 refine lat (KR.out _ (HBl.out x5)) fun x6 => ?_
 cases b6
 · have HR : Hid (ans = false) := by unfold Hid; rw [RB.out]; simp only [Bool.false_and, Bool.and_false, Bool.true_and]
   go_wp2
   go_ret
   exact ⟨ret_bool HR.out.symm, HBl.out x6⟩
 have HQ : Hid (ans = ruleB ru) := by unfold Hid; rw [RB.out]; simp only [Bool.true_and]
 clear RB HO KN KF KT KS KP KR
 have KU : Hid (∀ W, Calls Tryz.prog 110 #[.int .i64 ru] W fun e w' => e = .returned (.bool (ruleB ru)) ∧ w' = W) := fun W => implRuleOk ru W
 generalize ruleB ru = b7 at *
 go_wp2_with fail
 refine (KU.out _).mono ?_
 rintro e w7 ⟨rfl, rfl⟩
 go_wp2
 go_ret
 exact ⟨ret_bool HQ.out.symm, HBl.out x6⟩
set_option maxRecDepth 100000 in
set_option maxHeartbeats 2000000 in
theorem specRegimeOk (v : Value) (r : Rgm) (w : World) (h : GRow w v r) (hf : -9223372036854775808 ≤ r.fr) (ht : r.to ≤ 9223372036854775807) : CR 57 #[v] w (.bool (regimeB r)) := by
 have hn : r.name.size ≤ maxLen := by obtain ⟨_, _, _, _, hn, _⟩ := h; exact hn
 have KS : Hid (∀ W, Below w.heap.size w W → CR 103 #[v] W (.bool (segsB r.fr r.to r.segs))) := fun W hb => specSegs9 v r W (h.below hb) hf ht
 have KP : Hid (∀ W, Below w.heap.size w W → CR 104 #[v] W (.bool (patsB r.fr r.to r.pats))) := fun W hb => specPatches9 v r W (h.below hb)
 have RB : Hid (regimeB r = (nameOk r.name && (dayB r.fr && (dayB r.to && (segsB r.fr r.to r.segs && (patsB r.fr r.to r.pats && (reignsOk r.rgns && ruleB r.rule))))))) := rfl
 have HO : Hid (r.to < r.fr → segsB r.fr r.to r.segs = false) := fun h => segs_order (by omega)
 generalize regimeB r = ans at *
 obtain ⟨nm, f, t, l, ps, rs, ru⟩ := r
 dsimp only at *
 obtain ⟨v1, v2, v3, rfl, _, x1, x2, x3⟩ := h
 dsimp only at *
 have KN : Hid (∀ W, CR 102 #[.string nm] W (.bool (nameOk nm))) := fun W => (specNameOk nm W hn).mono fun _ _ h => ⟨h.1, same_bel h.2⟩
 have KF : Hid (∀ W, CR 58 #[.int .i64 f] W (.bool (dayB f))) := fun W => (specDay9 f W).mono fun _ _ h => ⟨h.1, same_bel h.2⟩
 have KT : Hid (∀ W, CR 58 #[.int .i64 t] W (.bool (dayB t))) := fun W => (specDay9 t W).mono fun _ _ h => ⟨h.1, same_bel h.2⟩
 have KR : Hid (∀ W, Below w.heap.size w W → CR 105 #[v3] W (.bool (reignsOk rs))) := fun W hb => specReignsOk v3 rs W (x3.below hb)
 obtain ⟨W0, hW0, d0, d1, d2, d3, d4, d5, d6, hBl⟩ := seven_box w (.string nm) (.int .i64 f) (.int .i64 t) v1 v2 v3 (.int .i64 ru) 38
 obtain ⟨a1, c1, rfl, _⟩ := x1
 obtain ⟨a2, c2, rfl, _⟩ := x2
 obtain ⟨a3, c3, rfl, _⟩ := x3
 have HW0 := hideP hW0
 have HBl := hideP hBl
 clear hW0 hBl hn hf ht
 generalize nameOk nm = b1 at *
 generalize dayB f = b2 at *
 generalize dayB t = b3 at *
 generalize segsB f t l = b4 at *
 generalize patsB f t ps = b5 at *
 generalize reignsOk rs = b6 at *
 go_enter Tryz.func57, Tryz.ntmps57
 go_wp2_with fail
 rw [← HW0.out]
 refine latO (KN.out _) fun x1 => ?_
 cases b1
 · have HR : Hid (ans = false) := by unfold Hid; rw [RB.out]; simp only [Bool.false_and, Bool.and_false, Bool.true_and]
   go_wp2
   go_ret
   exact ⟨ret_bool HR.out.symm, HBl.out x1⟩
 go_wp2_with fail
 refine lat (KF.out _) fun x2 => ?_
 cases b2
 · have HR : Hid (ans = false) := by unfold Hid; rw [RB.out]; simp only [Bool.false_and, Bool.and_false, Bool.true_and]
   go_wp2
   go_ret
   exact ⟨ret_bool HR.out.symm, HBl.out x2⟩
 go_wp2_with fail
 refine lat (KT.out _) fun x3 => ?_
 cases b3
 · have HR : Hid (ans = false) := by unfold Hid; rw [RB.out]; simp only [Bool.false_and, Bool.and_false, Bool.true_and]
   go_wp2
   go_ret
   exact ⟨ret_bool HR.out.symm, HBl.out x3⟩
 by_cases hft : f ≤ t
 case neg =>
  have q1 : decide (f ≤ t) = false := decide_eq_false hft
  have HR : Hid (ans = false) := by unfold Hid; rw [RB.out, HO.out (by omega)]; simp only [Bool.false_and, Bool.true_and]
  go_wp2
  go_ret
  exact ⟨ret_bool HR.out.symm, HBl.out x3⟩
 go_wp2_with fail
 refine lat (KS.out _ (HBl.out x3)) fun x4 => ?_
 cases b4
 · have HR : Hid (ans = false) := by unfold Hid; rw [RB.out]; simp only [Bool.false_and, Bool.and_false, Bool.true_and]
   go_wp2
   go_ret
   exact ⟨ret_bool HR.out.symm, HBl.out x4⟩
 go_wp2_with fail
 refine lat (KP.out _ (HBl.out x4)) fun x5 => ?_
 cases b5
 · have HR : Hid (ans = false) := by unfold Hid; rw [RB.out]; simp only [Bool.false_and, Bool.and_false, Bool.true_and]
   go_wp2
   go_ret
   exact ⟨ret_bool HR.out.symm, HBl.out x5⟩
 go_wp2_with fail
 refine lat (KR.out _ (HBl.out x5)) fun x6 => ?_
 cases b6
 · have HR : Hid (ans = false) := by unfold Hid; rw [RB.out]; simp only [Bool.false_and, Bool.and_false, Bool.true_and]
   go_wp2
   go_ret
   exact ⟨ret_bool HR.out.symm, HBl.out x6⟩
 have HQ : Hid (ans = ruleB ru) := by unfold Hid; rw [RB.out]; simp only [Bool.true_and]
 clear RB HO KN KF KT KS KP KR
 by_cases h0 : ru = 0
 · subst h0
   have HR : Hid (ans = true) := HQ.out
   go_wp2
   go_ret
   exact ⟨ret_bool HR.out.symm, HBl.out x6⟩
 by_cases h1 : ru = 1
 · subst h1
   have HR : Hid (ans = true) := HQ.out
   go_wp2
   go_ret
   exact ⟨ret_bool HR.out.symm, HBl.out x6⟩
 have HR : Hid (ans = false) := by unfold Hid; rw [HQ.out, ruleB, decide_eq_false h0, decide_eq_false h1]; rfl
 have q2 : (ru == 0) = false := by simp [h0]
 have q3 : (ru == 1) = false := by simp [h1]
 go_wp2
 go_ret
 exact ⟨ret_bool HR.out.symm, HBl.out x6⟩
end Go.Proofs.YtdmlhiailjnhcaaGreatDoor.ctr
namespace Go.Proofs.YtdmlhiailjnhcaaGreatDoor.ctr
open Go.RowKit
set_option linter.unusedSimpArgs false
def chTo (l : List Seg) (k : Nat) : List Int := ((l.drop 1).take k).map Seg.fr
noncomputable def changes (r : Rgm) : List Int := if regimeB r = true then chTo r.segs (r.segs.length - 1) else []
end Go.Proofs.YtdmlhiailjnhcaaGreatDoor.ctr
namespace Go.Proofs.YtdmlhiailjnhcaaGreatDoor.ctr
open Go.RowKit
theorem bare_has {t : Int} : ∀ (L : List Seg) (f n : Int), bareS t L f = false → f ≤ n → n ≤ t → ∃ s ∈ L, s.fr ≤ n ∧ n ≤ s.to
  | [], f, n, h, h1, h2 => by
   rw [bareS] at h
   have := of_decide_eq_false h
   omega
  | s :: l, f, n, h, h1, h2 => by
   rw [bareS, if_pos (by omega)] at h
   by_cases a : s.to < f
   · rw [if_pos a] at h
     obtain ⟨x, hx, hh⟩ := bare_has l f n h h1 h2
     exact ⟨x, List.mem_cons_of_mem _ hx, hh⟩
   · rw [if_neg a] at h
     by_cases b : f < s.fr
     · rw [if_pos b] at h; cases h
     · rw [if_neg b] at h
       by_cases c : n ≤ s.to
       · exact ⟨s, List.mem_cons_self, by omega, c⟩
       · rw [if_neg (by omega)] at h
         obtain ⟨x, hx, hh⟩ := bare_has l (s.to + 1) n h (by omega) h2
         exact ⟨x, List.mem_cons_of_mem _ hx, hh⟩
theorem tiles_has {f t n : Int} {l : List Seg} (h : tilesZ f t l = 0) (h1 : f ≤ n) (h2 : n ≤ t) : ∃ s ∈ l, s.fr ≤ n ∧ n ≤ s.to := by
 unfold tilesZ tileC at h
 by_cases a : sharedB (fullS l) = true
 · rw [if_pos a] at h; omega
 · rw [if_neg a] at h
   by_cases b : bareS t (fullS l) f = true
   · rw [if_pos b] at h; omega
   · obtain ⟨s, hs, hh⟩ := bare_has (fullS l) f n (by simpa using b) h1 h2
     exact ⟨s, full_mem hs, hh⟩
theorem ifc_cases {α : Type} (K : IK α) (p : α → Bool) : ∀ (l : List α) (j : Nat), (ifFrom p l j = -1 ∧ ∀ x ∈ l, p x = false) ∨ ∃ k, k < l.length ∧ ifFrom p l j = ((j + k : Nat) : Int) ∧ p (atK K l k) = true
  | [], j => .inl ⟨rfl, fun x hx => by cases hx⟩
  | a :: l, j => by
   rw [ifFrom]
   cases h : p a
   · rw [if_neg (by simp)]
     rcases ifc_cases K p l (j + 1) with ⟨h1, h2⟩ | ⟨k, hk, h1, h2⟩
     · exact .inl ⟨h1, fun x hx => by rcases List.mem_cons.1 hx with rfl | hx; exact h; exact h2 x hx⟩
     · exact .inr ⟨k + 1, by simp; omega, by rw [h1]; congr 1; omega, by simpa [atK] using h2⟩
   · rw [if_pos rfl]
     exact .inr ⟨0, by simp, by simp, by simpa [atK] using h⟩
theorem segAt_cases (l : List Seg) (n : Int) : (segAt l n = -1 ∧ ∀ x ∈ l, segHas n x = false) ∨ ∃ k, k < l.length ∧ segAt l n = (k : Int) ∧ (atK segK l k).fr ≤ n ∧ n ≤ (atK segK l k).to := by
 rcases ifc_cases segK (segHas n) l 0 with h | ⟨k, hk, h1, h2⟩
 · exact .inl h
 · refine .inr ⟨k, hk, by unfold segAt ifind; rw [h1]; congr 1; omega, ?_⟩
   unfold segHas at h2
   by_cases a : (atK segK l k).fr ≤ n
   · by_cases b : n ≤ (atK segK l k).to
     · exact ⟨a, b⟩
     · rw [inB_false (.inr (by omega))] at h2; cases h2
   · rw [inB_false (.inl (by omega))] at h2; cases h2
theorem regime_parts {r : Rgm} (h : regimeB r = true) : allTo (segFit r.fr r.to r.segs) r.segs.length = true ∧ tilesZ r.fr r.to r.segs = 0 := by
 unfold regimeB segsB at h
 simp only [Bool.and_eq_true, decide_eq_true_eq] at h
 exact h.2.2.2.1.2
theorem seg_fact {r : Rgm} (h : regimeB r = true) (n : Int) : 0 ≤ segAt r.segs n ↔ (r.fr ≤ n ∧ n ≤ r.to) := by
 obtain ⟨ha, ht⟩ := regime_parts h
 constructor
 · intro h0
   rcases segAt_cases r.segs n with ⟨h1, _⟩ | ⟨k, hk, h1, h2, h3⟩
   · omega
   · have := segFit_ok (allTo_at ha hk)
     omega
 · rintro ⟨h1, h2⟩
   rcases segAt_cases r.segs n with ⟨_, h3⟩ | ⟨k, hk, h3, _⟩
   · obtain ⟨s, hs, h4, h5⟩ := tiles_has ht h1 h2
     have := h3 s hs
     unfold segHas at this
     rw [inB_true h4 h5] at this
     cases this
   · omega
end Go.Proofs.YtdmlhiailjnhcaaGreatDoor.ctr
namespace Go.Proofs.YtdmlhiailjnhcaaGreatDoor.ctr
open Go.RowKit
theorem tagS_mem : ∀ (l : List Seg) (b : Nat) (x : PSeg), x ∈ tagS l b → x.s ∈ l
  | [], b, x, h => by simp [tagS] at h
  | s :: l, b, x, h => by
   simp only [tagS, List.mem_cons] at h
   rcases h with rfl | h
   · exact List.mem_cons_self
   · exact List.mem_cons_of_mem _ (tagS_mem l (b + 1) x h)
theorem tagS_map : ∀ (l : List Seg) (b : Nat), (tagS l b).map PSeg.s = l
  | [], b => rfl
  | s :: l, b => by simp [tagS, tagS_map l (b + 1)]
end Go.Proofs.YtdmlhiailjnhcaaGreatDoor.ctr
namespace Go.Proofs.YtdmlhiailjnhcaaGreatDoor.ctr
open Go.RowKit
theorem of_inB {x a b : Int} (h : inB x a b = true) : a ≤ x ∧ x ≤ b := by simpa [inB] using h
theorem tag_rise : ∀ {l : List Seg} (b : Nat), (l.Pairwise fun x y => x.fr < y.fr) → InOrder (tagS l b)
  | [], b, _ => List.Pairwise.nil
  | s :: l, b, h => by
   obtain ⟨h1, h2⟩ := List.pairwise_cons.1 h
   refine List.Pairwise.cons (fun y hy => ?_) (tag_rise (b + 1) h2)
   have := h1 _ (tagS_mem l (b + 1) y hy)
   rw [leP_iff]
   dsimp only
   omega
theorem rise_sort {l : List Seg} (h : l.Pairwise fun x y => x.fr < y.fr) : sortS l = l := by
 have e := sorted_same (l := l) (out := tagS l 0) (tag_rise 0 h) (List.Perm.refl _)
 rw [tagS_map] at e
 exact e.symm
theorem right_seg {r : Rgm} (h : regimeB r = true) {k : Nat} (hk : k < r.segs.length) : segOkB (atK segK r.segs k) = true ∧ r.fr ≤ (atK segK r.segs k).fr ∧ (atK segK r.segs k).to ≤ r.to := segFit_ok (allTo_at (regime_parts h).1 hk)
theorem right_next {r : Rgm} (h : regimeB r = true) {k : Nat} (hk : k + 1 < r.segs.length) : (atK segK r.segs k).fr < (atK segK r.segs (k + 1)).fr := by
 have := allTo_at (regime_parts h).1 hk
 rw [segFit_succ] at this
 simp only [Bool.and_eq_true, decide_eq_true_eq] at this
 exact this.2.2.2
theorem right_rise {r : Rgm} (h : regimeB r = true) : ∀ (d i : Nat), i + d + 1 < r.segs.length → (atK segK r.segs i).fr < (atK segK r.segs (i + d + 1)).fr
  | 0, i, hd => right_next h hd
  | d + 1, i, hd => by
   have h1 := right_rise h d i (by omega)
   have h2 := right_next h (k := i + d + 1) (by omega)
   rw [show i + (d + 1) + 1 = i + d + 1 + 1 by omega]
   omega
theorem right_pair {r : Rgm} (h : regimeB r = true) : r.segs.Pairwise fun x y => x.fr < y.fr := by
 rw [List.pairwise_iff_getElem]
 intro i j hi hj hij
 have := right_rise h (j - i - 1) i (by omega)
 rw [show i + (j - i - 1) + 1 = j by omega, atK_eq hi, atK_eq hj] at this
 exact this
theorem right_full {r : Rgm} (h : regimeB r = true) : fullS r.segs = r.segs := by
 unfold fullS
 rw [rise_sort (right_pair h)]
 refine List.filter_eq_self.2 (fun s hs => ?_)
 obtain ⟨k, hk, rfl⟩ := List.getElem_of_mem hs
 have := segOk_days (right_seg h hk).1
 rw [atK_eq hk] at this
 simpa [hasDayB] using this.1
theorem right_apart {r : Rgm} (h : regimeB r = true) {k : Nat} (hk : k + 1 < r.segs.length) : (atK segK r.segs k).to < (atK segK r.segs (k + 1)).fr := by
 have ht := (regime_parts h).2
 unfold tilesZ tileC at ht
 rw [right_full h] at ht
 by_cases a : sharedB r.segs = true
 · rw [if_pos a] at ht; omega
 · by_cases b : (atK segK r.segs k).to < (atK segK r.segs (k + 1)).fr
   · exact b
   · exfalso
     refine a (shared_yes ⟨k + 1, by omega, hk, ?_⟩)
     rw [sgA_eq hk, show k + 1 - 1 = k by omega, sgA_eq (by omega : k < r.segs.length)]
     rw [atK_eq (by omega : k < r.segs.length), atK_eq hk] at b
     omega
theorem right_far {r : Rgm} (h : regimeB r = true) {i j : Nat} (hij : i < j) (hj : j < r.segs.length) : (atK segK r.segs i).to < (atK segK r.segs j).fr := by
 have h1 := right_apart h (k := i) (by omega)
 by_cases e : j = i + 1
 · subst e; exact h1
 · have := right_rise h (j - (i + 1) - 1) (i + 1) (by omega)
   rw [show i + 1 + (j - (i + 1) - 1) + 1 = j by omega] at this
   omega
theorem right_mono {r : Rgm} (h : regimeB r = true) (n : Int) (a b : Nat) (hab : a ≤ b) (hb : b < r.segs.length) (hp : decide (n ≤ (atK segK r.segs a).to) = true) : decide (n ≤ (atK segK r.segs b).to) = true := by
 have hp := of_decide_eq_true hp
 refine decide_eq_true ?_
 by_cases e : a = b
 · subst e; exact hp
 · have h1 := right_far h (show a < b by omega) hb
   have h2 := segOk_days (right_seg h hb).1
   omega
theorem seg_one {r : Rgm} (h : regimeB r = true) {n : Int} {k : Nat} (hk : k < r.segs.length) (h1 : (atK segK r.segs k).fr ≤ n) (h2 : n ≤ (atK segK r.segs k).to) : segAt r.segs n = (k : Int) := by
 rcases segAt_cases r.segs n with ⟨_, h3⟩ | ⟨j, hj, h3, h4, h5⟩
 · have hm : atK segK r.segs k ∈ r.segs := by rw [atK_eq hk]; exact List.getElem_mem hk
   have := h3 _ hm
   unfold segHas at this
   rw [inB_true h1 h2] at this
   cases this
 · rw [h3]
   rcases Nat.lt_trichotomy j k with a | a | a
   · have := right_far h a hk; omega
   · rw [a]
   · have := right_far h a hj; omega
theorem seg_half {r : Rgm} (h : regimeB r = true) {n : Int} (h1 : r.fr ≤ n) (h2 : n ≤ r.to) {m : Nat} (hl : ∀ t, t < m → decide (n ≤ (atK segK r.segs t).to) = false) (hu : ∀ t, m ≤ t → t < r.segs.length → decide (n ≤ (atK segK r.segs t).to) = true) : m < r.segs.length ∧ segAt r.segs n = (m : Int) ∧ (atK segK r.segs m).fr ≤ n ∧ n ≤ (atK segK r.segs m).to := by
 have h0 := (seg_fact h n).2 ⟨h1, h2⟩
 rcases segAt_cases r.segs n with ⟨h3, _⟩ | ⟨j, hj, h3, h4, h5⟩
 · omega
 · have a : m ≤ j := by
    by_cases c : m ≤ j
    · exact c
    · have := hl j (by omega)
      have := of_decide_eq_false this
      omega
   have b : j ≤ m := by
    by_cases c : j ≤ m
    · exact c
    · have := of_decide_eq_true (hu m (Nat.le_refl _) (by omega))
      have := right_far h (show m < j by omega) hj
      omega
   have e : j = m := by omega
   subst e
   exact ⟨hj, h3, h4, h5⟩
theorem right_segs {r : Rgm} (h : regimeB r = true) : 1 ≤ r.segs.length ∧ r.segs.length ≤ 20 := by
 unfold regimeB segsB at h
 simp only [Bool.and_eq_true] at h
 have := of_inB h.2.2.2.1.1
 omega
theorem right_pats {r : Rgm} (h : regimeB r = true) : r.pats.length ≤ 8 := by
 unfold regimeB patsB at h
 simp only [Bool.and_eq_true, decide_eq_true_eq] at h
 have := h.2.2.2.2.1.1
 omega
theorem segOk_nums {s : Seg} (h : segOkB s = true) : 400 ≤ s.fr ∧ s.fr ≤ s.to ∧ s.to ≤ 1090000 ∧ (s.cal = 0 ∨ s.cal = 1) ∧ styleB s.sty = true ∧ -3 ≤ s.off ∧ s.off ≤ 3 := by
 unfold segOkB dayB at h
 simp only [Bool.and_eq_true, decide_eq_true_eq] at h
 obtain ⟨h1, h2, h3, h4, h5, h6⟩ := h
 have a := of_inB h1
 have b := of_inB h2
 have c := of_inB h6
 exact ⟨by omega, h3, by omega, calB_iff.1 h4, h5, by omega, by omega⟩
noncomputable def rdgAt (r : Rgm) (s : Seg) (n : Int) : Rdg :=
 ⟨s.cal, (styYear s.cal s.sty (n + s.off)).1, (dateOf s.cal (n + s.off)).2.1,
  if 0 ≤ patAt r.pats n then (atK patK r.pats (patAt r.pats n).toNat).mon else (dateOf s.cal (n + s.off)).2.2.1,
  if 0 ≤ patAt r.pats n then (atK patK r.pats (patAt r.pats n).toNat).dom else (dateOf s.cal (n + s.off)).2.2.2.1⟩
noncomputable def rdgOn (r : Rgm) (n : Int) : Rdg := rdgAt r (atK segK r.segs (segAt r.segs n).toNat) n
abbrev rdg0 : Rdg := ⟨0, 0, 0, 0, 0⟩
noncomputable def readR (r : Rgm) (n : Int) : Value := if regimeB r = true ∧ r.fr ≤ n ∧ n ≤ r.to then .tuple #[rdgV (rdgOn r n), .bool true] else .tuple #[rdgV rdg0, .bool false]
end Go.Proofs.YtdmlhiailjnhcaaGreatDoor.ctr
namespace Go.Proofs.YtdmlhiailjnhcaaGreatDoor.ctr
open Go.RowKit
abbrev segV (s : Seg) : Value := .agg #[.int .i64 s.fr, .int .i64 s.to, .int .i64 s.cal, .int .i64 s.sty, .int .i64 s.off]
abbrev i5 : Array Value := #[.int .i64 0, .int .i64 0, .int .i64 0, .int .i64 0, .int .i64 0]
set_option maxHeartbeats 4000000 in
theorem implSegOn (v : Value) (r : Rgm) (n : Int) (w : World) (h : GRow w v r) (hr : regimeB r = true) (h1 : r.fr ≤ n) (h2 : n ≤ r.to) : CR 141 #[v, .int .i64 n] w (segV (atK segK r.segs (segAt r.segs n).toNat)) := by
 obtain ⟨v1, v2, v3, rfl, _, x1, x2, x3⟩ := h
 obtain ⟨W0, hW0⟩ : ∃ W0, W0 = ((w.alloc (.cells #[.string r.name, .int .i64 r.fr, .int .i64 r.to, v1, v2, v3, .int .i64 r.rule] 38)).alloc (.cells #[.int .i64 n] 3)).alloc (.cells i5 97) := ⟨_, rfl⟩
 have hBl' : ∀ w1, Below W0.heap.size W0 w1 → Below w.heap.size w w1 := by
  rw [hW0]
  exact fun w1 h => below_alloc (below_alloc (below_alloc h))
 have hBl : ∀ x : Later W0, Below w.heap.size w x.w := fun x => hBl' x.w x.below
 clear hBl'
 have hR : ∀ x : Later W0, Blk x.w w.heap.size #[.string r.name, .int .i64 r.fr, .int .i64 r.to, v1, v2, v3, .int .i64 r.rule] 38 := fun x => by
  have k := (((Blk.new w #[.string r.name, .int .i64 r.fr, .int .i64 r.to, v1, v2, v3, .int .i64 r.rule] 38).alloc (.cells #[.int .i64 n] 3)).alloc (.cells i5 97))
  rw [← hW0] at k
  exact k.later x
 have hN : ∀ x : Later W0, Blk x.w (w.heap.size + 1) #[.int .i64 n] 3 := fun x => by
  have k := (Blk.new (w.alloc (.cells #[.string r.name, .int .i64 r.fr, .int .i64 r.to, v1, v2, v3, .int .i64 r.rule] 38)) #[.int .i64 n] 3).alloc (.cells i5 97)
  rw [← hW0, World.size_alloc] at k
  exact k.later x
 have hZ : ∀ x : Later W0, Blk x.w (w.heap.size + 2) i5 97 := fun x => by
  have k := Blk.new ((w.alloc (.cells #[.string r.name, .int .i64 r.fr, .int .i64 r.to, v1, v2, v3, .int .i64 r.rule] 38)).alloc (.cells #[.int .i64 n] 3)) i5 97
  rw [← hW0, World.size_alloc, World.size_alloc] at k
  exact k.later x
 have hS : ∀ x : Later W0, IRow segK x.w v1 r.segs := fun x => x1.below (hBl x)
 have hlen := right_segs hr
 obtain ⟨m, hm, hmS, hm1, hm2⟩ : ∃ m : Nat, m < r.segs.length ∧ segAt r.segs n = (m : Int) ∧ (atK segK r.segs m).fr ≤ n ∧ n ≤ (atK segK r.segs m).to := by
  have h0 := (seg_fact hr n).2 ⟨h1, h2⟩
  rcases segAt_cases r.segs n with ⟨h3, _⟩ | ⟨j, hj, h3, h4, h5⟩
  · omega
  · exact ⟨j, hj, h3, h4, h5⟩
 have KS : ∀ y : Later W0, CR 176 #[.int .i64 (r.segs.length : Int), .func (.func 177) #[] #[.pointer (some ⟨w.heap.size, 0, none⟩), .pointer (some ⟨w.heap.size + 1, 0, none⟩)]] y.w (.int .i64 (m : Int)) := fun y => by
  refine (search (.pointer (some ⟨w.heap.size, 0, none⟩)) (.pointer (some ⟨w.heap.size + 1, 0, none⟩)) r.segs.length (fun k => decide (n ≤ (atK segK r.segs k).to)) y.w (by omega) (fun x i hi => ?_) (fun a b hab hb hp => right_mono hr n a b hab hb hp)).mono ?_
  · obtain ⟨z, hz⟩ := y.next x.below
    rw [hz]
    exact schHas r.segs v1 n i w.heap.size (w.heap.size + 1) z.w (hS z) hi ((hR z).cell 3 rfl) ((hN z).cell 0 rfl)
  · rintro e w' ⟨k, rfl, hk, hl, hu, hb⟩
    obtain ⟨_, k2, _⟩ := seg_half hr h1 h2 hl hu
    rw [hmS] at k2
    exact ⟨by rw [k2], hb⟩
 rw [hmS, Int.toNat_natCast]
 obtain ⟨a1, c1, rfl, _, _, hc⟩ := x1
 obtain ⟨a2, c2, rfl, _⟩ := x2
 obtain ⟨a3, c3, rfl, _⟩ := x3
 obtain ⟨g, rfl, hg, x⟩ := hc m hm
 have hg2 : ∀ y : Later W0, IAt segK y.w g m (atK segK r.segs m) := fun y => x.below (hBl y) hg
 have e0 : ∀ y : Later W0, y.w.cell? ⟨g, m * 5, none⟩ = some (.int .i64 (atK segK r.segs m).fr) := fun y => ((hg2 y).seg).1
 have e1 : ∀ y : Later W0, y.w.cell? ⟨g, m * 5 + 1, none⟩ = some (.int .i64 (atK segK r.segs m).to) := fun y => ((hg2 y).seg).2.1
 have e2 : ∀ y : Later W0, y.w.cell? ⟨g, m * 5 + 2, none⟩ = some (.int .i64 (atK segK r.segs m).cal) := fun y => ((hg2 y).seg).2.2.1
 have e3 : ∀ y : Later W0, y.w.cell? ⟨g, m * 5 + 3, none⟩ = some (.int .i64 (atK segK r.segs m).sty) := fun y => ((hg2 y).seg).2.2.2.1
 have e4 : ∀ y : Later W0, y.w.cell? ⟨g, m * 5 + 4, none⟩ = some (.int .i64 (atK segK r.segs m).off) := fun y => ((hg2 y).seg).2.2.2.2
 have r3 : ∀ y : Later W0, y.w.cell? ⟨w.heap.size, 3, none⟩ = some (.slice (some ⟨g, 0, none⟩) r.segs.length c1) := fun y => (hR y).cell 3 rfl
 obtain ⟨u0, u1, u2, u3, u4⟩ := cells5 hZ
 obtain ⟨f0, f1, f2, f3, f4⟩ := thaws5 hZ
 have hmz : (m : Int) < (r.segs.length : Int) := by omega
 have HW0 := hideP hW0
 have HBl := hideP hBl
 have HZ := hideP hZ
 clear hW0 hBl hZ hR hN hS hc hg2 x hg hm1 hm2 hmS hr h1 h2
 generalize atK segK r.segs m = s at *
 go_enter Tryz.func141, Tryz.ntmps141
 go_wp2_with fail
 rw [← HW0.out]
 obtain ⟨xd, hxd⟩ : ∃ xd : Later W0, W0.drew = xd.w := ⟨⟨W0.drew, (Below.refl _ _).drew⟩, rfl⟩
 refine wp_region_any (by kernel_rfl) ?_
 change wpAny _ _ _ _ (1 + 9) _ _ _
 refine any_prefix (C := fun w' => ∃ x : Later W0, w' = x.w) 9 1 (by decide) (by kernel_rfl) (by kernel_rfl) (by kernel_rfl) (by kernel_rfl) (by kernel_rfl) ⟨xd, hxd⟩ ?_
 simp only [List.take_succ_cons, List.take_zero]
 clear hxd xd
 repeat (go_big_quiet_step (first | (go_at_call 176; exact calls_later (KS _))))
 refine wpQuiet_nil ?_
 intro _ hw'
 obtain ⟨x5, rfl⟩ := hw'
 refine wpAny_ready (rs := [9]) (by kernel_rfl) (by simp) ?_
 refine AllReady.cons rfl (fun K hK => ?_) AllReady.nil
 go_simp
 refine hK _ _ ?_
 clear hK K
 refine wpAny_done (by kernel_rfl) ?_ _
 obtain ⟨W9, e9⟩ : ∃ W9, W9 = ((((x5.w.setCell ⟨w.heap.size + 2, 0, none⟩ (.int .i64 s.fr)).setCell ⟨w.heap.size + 2, 1, none⟩ (.int .i64 s.to)).setCell ⟨w.heap.size + 2, 2, none⟩ (.int .i64 s.cal)).setCell ⟨w.heap.size + 2, 3, none⟩ (.int .i64 s.sty)).setCell ⟨w.heap.size + 2, 4, none⟩ (.int .i64 s.off) := ⟨_, rfl⟩
 have Z9 : Blk W9 (w.heap.size + 2) #[.int .i64 s.fr, .int .i64 s.to, .int .i64 s.cal, .int .i64 s.sty, .int .i64 s.off] 97 := by rw [e9]; exact ((((((HZ.out x5).set 0 _).set 1 _).set 2 _).set 3 _).set 4 _)
 have B9 : Below w.heap.size w W9 := by rw [e9]; exact (Below.setCell (Below.setCell (Below.setCell (Below.setCell (Below.setCell (HBl.out x5) (p := ⟨w.heap.size + 2, 0, none⟩) (show w.heap.size ≤ w.heap.size + 2 by omega) _) (p := ⟨w.heap.size + 2, 1, none⟩) (show w.heap.size ≤ w.heap.size + 2 by omega) _) (p := ⟨w.heap.size + 2, 2, none⟩) (show w.heap.size ≤ w.heap.size + 2 by omega) _) (p := ⟨w.heap.size + 2, 3, none⟩) (show w.heap.size ≤ w.heap.size + 2 by omega) _) (p := ⟨w.heap.size + 2, 4, none⟩) (show w.heap.size ≤ w.heap.size + 2 by omega) _)
 rw [← e9]
 clear e9
 have q0 : W9.cell? ⟨w.heap.size + 2, 0, none⟩ = some (.int .i64 s.fr) := Z9.cell 0 rfl
 have q1 : W9.cell? ⟨w.heap.size + 2, 1, none⟩ = some (.int .i64 s.to) := Z9.cell 1 rfl
 have q2 : W9.cell? ⟨w.heap.size + 2, 2, none⟩ = some (.int .i64 s.cal) := Z9.cell 2 rfl
 have q3 : W9.cell? ⟨w.heap.size + 2, 3, none⟩ = some (.int .i64 s.sty) := Z9.cell 3 rfl
 have q4 : W9.cell? ⟨w.heap.size + 2, 4, none⟩ = some (.int .i64 s.off) := Z9.cell 4 rfl
 go_wp2_with fail
 exact bodyPost_ret (by simp [results, Tryz.results141, go_sem, q0, q1, q2, q3, q4]; try rfl) rfl ⟨rfl, B9⟩
end Go.Proofs.YtdmlhiailjnhcaaGreatDoor.ctr
namespace Go.Proofs.YtdmlhiailjnhcaaGreatDoor.ctr
open Go.RowKit
set_option maxHeartbeats 4000000 in
theorem specRead (v : Value) (r : Rgm) (n : Int) (w : World) (h : GRow w v r) (hr : regimeB r = true) (h1 : r.fr ≤ n) (h2 : n ≤ r.to) : CR 46 #[v, .int .i64 n] w (.tuple #[rdgV (rdgOn r n), .bool true]) := by
 obtain ⟨m, hm, hmS, hm1, hm2⟩ : ∃ m : Nat, m < r.segs.length ∧ segAt r.segs n = (m : Int) ∧ (atK segK r.segs m).fr ≤ n ∧ n ≤ (atK segK r.segs m).to := by
  have h0 := (seg_fact hr n).2 ⟨h1, h2⟩
  rcases segAt_cases r.segs n with ⟨h3, _⟩ | ⟨j, hj, h3, h4, h5⟩
  · omega
  · exact ⟨j, hj, h3, h4, h5⟩
 obtain ⟨n1, n2, n3, n4, _, n5, n6⟩ := segOk_nums (right_seg hr hm).1
 have hrd : rdgOn r n = rdgAt r (atK segK r.segs m) n := by unfold rdgOn; rw [hmS, Int.toNat_natCast]
 rw [hrd]
 clear hrd
 have hG := h
 obtain ⟨v1, v2, v3, rfl, _, x1, x2, x3⟩ := h
 obtain ⟨W0, e0⟩ : ∃ W0, W0 = (w.alloc (.cells #[.string r.name, .int .i64 r.fr, .int .i64 r.to, v1, v2, v3, .int .i64 r.rule] 38)).alloc (.cells #[.int .i64 0, .int .i64 0, .int .i64 0, .int .i64 0, .int .i64 0] 69) := ⟨_, rfl⟩
 have hB0' : ∀ w1, Below W0.heap.size W0 w1 → Below w.heap.size w w1 := by
  rw [e0]
  exact fun w1 h => below_alloc (below_alloc h)
 have hB0 : Hid (∀ y : Later W0, Below w.heap.size w y.w) := fun y => hB0' y.w y.below
 clear hB0'
 have hG0 : Hid (∀ y : Later W0, GRow y.w (.agg #[.string r.name, .int .i64 r.fr, .int .i64 r.to, v1, v2, v3, .int .i64 r.rule]) r) := fun y => GRow.below hG (hB0.out y)
 have KS : ∀ y : Later W0, CR 63 #[.agg #[.string r.name, .int .i64 r.fr, .int .i64 r.to, v1, v2, v3, .int .i64 r.rule], .int .i64 n] y.w (.int .i64 (m : Int)) := fun y => by
  have k := specSegAt _ r n y.w (hG0.out y)
  rw [hmS] at k
  exact k
 have KD : ∀ W, Hid (Below w.heap.size w W) → CR 64 #[.int .i64 (atK segK r.segs m).cal, .int .i64 (n + (atK segK r.segs m).off)] W (dateR (atK segK r.segs m).cal (n + (atK segK r.segs m).off)) := fun W hb => specDateOf _ _ W
 have KY : ∀ W, Hid (Below w.heap.size w W) → CR 79 #[.int .i64 (atK segK r.segs m).cal, .int .i64 (atK segK r.segs m).sty, .int .i64 (n + (atK segK r.segs m).off)] W (styR (atK segK r.segs m).cal (atK segK r.segs m).sty (n + (atK segK r.segs m).off)) := fun W hb => specStyleYear _ _ _ W
 have KP : ∀ y : Later W0, CR 65 #[.agg #[.string r.name, .int .i64 r.fr, .int .i64 r.to, v1, v2, v3, .int .i64 r.rule], .int .i64 n] y.w (.int .i64 (patAt r.pats n)) := fun y => specPatAt _ r n y.w (hG0.out y)
 unfold dateR at KD
 unfold styR at KY
 obtain ⟨p, hp⟩ : ∃ p, patAt r.pats n = p := ⟨_, rfl⟩
 have hpc : (p = -1) ∨ ∃ k : Nat, k < r.pats.length ∧ p = (k : Int) := by
  rw [← hp]
  rcases ifc_cases patK (patIs n) r.pats 0 with ⟨a, _⟩ | ⟨k, a, b, _⟩
  · exact .inl a
  · exact .inr ⟨k, a, by unfold patAt ifind; rw [b]; congr 1; omega⟩
 unfold rdgAt
 rw [hp] at KP ⊢
 obtain ⟨a1, c1, rfl, _, _, hcS⟩ := x1
 obtain ⟨a2, c2, rfl, _, _, hcP⟩ := x2
 obtain ⟨a3, c3, rfl, _⟩ := x3
 obtain ⟨gs, rfl, hgs, xs⟩ := hcS m hm
 have hgS : ∀ y : Later W0, IAt segK y.w gs m (atK segK r.segs m) := fun y => xs.below (hB0.out y) hgs
 have g00 : ∀ y : Later W0, y.w.cell? ⟨gs, m * 5, none⟩ = some (.int .i64 (atK segK r.segs m).fr) := fun y => ((hgS y).seg).1
 have g01 : ∀ y : Later W0, y.w.cell? ⟨gs, m * 5 + 1, none⟩ = some (.int .i64 (atK segK r.segs m).to) := fun y => ((hgS y).seg).2.1
 have g02 : ∀ y : Later W0, y.w.cell? ⟨gs, m * 5 + 2, none⟩ = some (.int .i64 (atK segK r.segs m).cal) := fun y => ((hgS y).seg).2.2.1
 have g03 : ∀ y : Later W0, y.w.cell? ⟨gs, m * 5 + 3, none⟩ = some (.int .i64 (atK segK r.segs m).sty) := fun y => ((hgS y).seg).2.2.2.1
 have g04 : ∀ y : Later W0, y.w.cell? ⟨gs, m * 5 + 4, none⟩ = some (.int .i64 (atK segK r.segs m).off) := fun y => ((hgS y).seg).2.2.2.2
 have hmz : (m : Int) < (r.segs.length : Int) := by omega
 clear xs hgS
 have HR0 : Hid (∀ y : Later W0, Blk y.w w.heap.size #[.string r.name, .int .i64 r.fr, .int .i64 r.to, .slice (some ⟨gs, 0, none⟩) r.segs.length c1, .slice a2 r.pats.length c2, .slice a3 r.rgns.length c3, .int .i64 r.rule] 38) := by unfold Hid; rw [e0]; exact fun y => ((Blk.new _ _ _).alloc _).later y
 have HZ0 : Hid (∀ y : Later W0, Blk y.w (w.heap.size + 1) #[.int .i64 0, .int .i64 0, .int .i64 0, .int .i64 0, .int .i64 0] 69) := by
  unfold Hid
  rw [e0]
  intro y
  have k := Blk.new (w.alloc (.cells #[.string r.name, .int .i64 r.fr, .int .i64 r.to, .slice (some ⟨gs, 0, none⟩) r.segs.length c1, .slice a2 r.pats.length c2, .slice a3 r.rgns.length c3, .int .i64 r.rule] 38)) #[.int .i64 0, .int .i64 0, .int .i64 0, .int .i64 0, .int .i64 0] 69
  rw [World.size_alloc] at k
  exact k.later y
 obtain ⟨R00, R01, R02, R03, R04, R05, R06⟩ := cells7 HR0.out
 obtain ⟨Z00, Z01, Z02, Z03, Z04⟩ := cells5 HZ0.out
 obtain ⟨fZ00, fZ01, fZ02, fZ03, fZ04⟩ := thaws5 HZ0.out
 have E0 := hideP e0
 have HP : Hid (∀ W, Below w.heap.size w W → ∀ k : Nat, k < r.pats.length → ∃ g, a2 = some ⟨g, 0, none⟩ ∧ g < w.heap.size ∧ IAt patK W g k (atK patK r.pats k)) := fun W hb k hk => by
  obtain ⟨g, e, hg, x⟩ := hcP k hk
  exact ⟨g, e, hg, x.below hb hg⟩
 clear e0 hcS hcP hG hr h1 h2 hp hmS hm
 generalize atK segK r.segs m = s at *
 generalize (styYear s.cal s.sty (n + s.off)).1 = y0 at *
 generalize (styYear s.cal s.sty (n + s.off)).2 = yb at *
 generalize (dateOf s.cal (n + s.off)).1 = d0 at *
 generalize (dateOf s.cal (n + s.off)).2.1 = d1 at *
 generalize (dateOf s.cal (n + s.off)).2.2.1 = d2 at *
 generalize (dateOf s.cal (n + s.off)).2.2.2.1 = d3 at *
 generalize (dateOf s.cal (n + s.off)).2.2.2.2 = db at *
 obtain ⟨mo, hmo⟩ : ∃ mo, (if 0 ≤ p then (atK patK r.pats p.toNat).mon else d2) = mo := ⟨_, rfl⟩
 obtain ⟨dy, hdy⟩ : ∃ dy, (if 0 ≤ p then (atK patK r.pats p.toNat).dom else d3) = dy := ⟨_, rfl⟩
 rw [hmo, hdy]
 go_enter Tryz.func46, Tryz.ntmps46
 go_wp2_with fail
 rw [← E0.out]
 refine latO (KS ⟨W0, Below.refl _ _⟩) fun x1 => ?_
 clear KS
 go_wp2_with fail
 obtain ⟨W1, e1⟩ : ∃ W1, W1 = x1.w.alloc (.cells #[.int .i64 s.fr, .int .i64 s.to, .int .i64 s.cal, .int .i64 s.sty, .int .i64 s.off] 97) := ⟨_, rfl⟩
 have t1 : Hid (∀ y : Later W1, Below W0.heap.size W0 y.w) := by unfold Hid; rw [e1]; exact fun y => x1.on (below_alloc y.below)
 have HR1 : Hid (∀ y : Later W1, Blk y.w (w.heap.size) #[.string r.name, .int .i64 r.fr, .int .i64 r.to, .slice (some ⟨gs, 0, none⟩) r.segs.length c1, .slice a2 r.pats.length c2, .slice a3 r.rgns.length c3, .int .i64 r.rule] 38) := fun y => HR0.out ⟨y.w, t1.out y⟩
 have HZ1 : Hid (∀ y : Later W1, Blk y.w (w.heap.size + 1) #[.int .i64 0, .int .i64 0, .int .i64 0, .int .i64 0, .int .i64 0] 69) := fun y => HZ0.out ⟨y.w, t1.out y⟩
 have HS1 : Hid (∀ y : Later W1, Blk y.w x1.w.heap.size #[.int .i64 s.fr, .int .i64 s.to, .int .i64 s.cal, .int .i64 s.sty, .int .i64 s.off] 97) := by unfold Hid; rw [e1]; exact fun y => (Blk.new _ _ _).later y
 obtain ⟨S10, S11, S12, S13, S14⟩ := cells5 HS1.out
 have B1 : Hid (∀ y : Later W1, Below w.heap.size w y.w) := fun y => hB0.out ⟨y.w, t1.out y⟩
 rw [← e1]
 clear e1
 refine latO (KD W1 (B1.out ⟨W1, Below.refl _ _⟩)) fun x2 => ?_
 clear KD
 have A12 : ∀ (y : Later W1) (ob : Obj), (y.w.alloc ob).cell? ⟨x1.w.heap.size, 2, none⟩ = some (.int .i64 s.cal) := fun y ob => S12 ⟨y.w.alloc ob, y.below.alloc y.below.size ob⟩
 have A13 : ∀ (y : Later W1) (ob : Obj), (y.w.alloc ob).cell? ⟨x1.w.heap.size, 3, none⟩ = some (.int .i64 s.sty) := fun y ob => S13 ⟨y.w.alloc ob, y.below.alloc y.below.size ob⟩
 have A14 : ∀ (y : Later W1) (ob : Obj), (y.w.alloc ob).cell? ⟨x1.w.heap.size, 4, none⟩ = some (.int .i64 s.off) := fun y ob => S14 ⟨y.w.alloc ob, y.below.alloc y.below.size ob⟩
 go_wp2_with fail
 obtain ⟨W2, e2⟩ : ∃ W2, W2 = x2.w.alloc (.cells #[.int .i64 d0, .int .i64 d1, .int .i64 d2, .int .i64 d3] 99) := ⟨_, rfl⟩
 have t2 : Hid (∀ y : Later W2, Below W1.heap.size W1 y.w) := by unfold Hid; rw [e2]; exact fun y => x2.on (below_alloc y.below)
 have HR2 : Hid (∀ y : Later W2, Blk y.w (w.heap.size) #[.string r.name, .int .i64 r.fr, .int .i64 r.to, .slice (some ⟨gs, 0, none⟩) r.segs.length c1, .slice a2 r.pats.length c2, .slice a3 r.rgns.length c3, .int .i64 r.rule] 38) := fun y => HR1.out ⟨y.w, t2.out y⟩
 have HZ2 : Hid (∀ y : Later W2, Blk y.w (w.heap.size + 1) #[.int .i64 0, .int .i64 0, .int .i64 0, .int .i64 0, .int .i64 0] 69) := fun y => HZ1.out ⟨y.w, t2.out y⟩
 have HS2 : Hid (∀ y : Later W2, Blk y.w (x1.w.heap.size) #[.int .i64 s.fr, .int .i64 s.to, .int .i64 s.cal, .int .i64 s.sty, .int .i64 s.off] 97) := fun y => HS1.out ⟨y.w, t2.out y⟩
 have HD2 : Hid (∀ y : Later W2, Blk y.w x2.w.heap.size #[.int .i64 d0, .int .i64 d1, .int .i64 d2, .int .i64 d3] 99) := by unfold Hid; rw [e2]; exact fun y => (Blk.new _ _ _).later y
 obtain ⟨S20, S21, S22, S23, S24⟩ := cells5 HS2.out
 obtain ⟨D20, D21, D22, D23⟩ := cells4 HD2.out
 obtain ⟨R20, R21, R22, R23, R24, R25, R26⟩ := cells7 HR2.out
 have B2 : Hid (∀ y : Later W2, Below w.heap.size w y.w) := fun y => B1.out ⟨y.w, t2.out y⟩
 rw [← e2]
 clear e2 A12 A13 A14 S10 S11 S12 S13 S14
 refine latO (KY W2 (B2.out ⟨W2, Below.refl _ _⟩)) fun x3 => ?_
 clear KY
 have A20 : ∀ (y : Later W2) (ob : Obj), (y.w.alloc ob).cell? ⟨w.heap.size, 0, none⟩ = some (.string r.name) := fun y ob => R20 ⟨y.w.alloc ob, y.below.alloc y.below.size ob⟩
 have A21 : ∀ (y : Later W2) (ob : Obj), (y.w.alloc ob).cell? ⟨w.heap.size, 1, none⟩ = some (.int .i64 r.fr) := fun y ob => R21 ⟨y.w.alloc ob, y.below.alloc y.below.size ob⟩
 have A22 : ∀ (y : Later W2) (ob : Obj), (y.w.alloc ob).cell? ⟨w.heap.size, 2, none⟩ = some (.int .i64 r.to) := fun y ob => R22 ⟨y.w.alloc ob, y.below.alloc y.below.size ob⟩
 have A23 : ∀ (y : Later W2) (ob : Obj), (y.w.alloc ob).cell? ⟨w.heap.size, 3, none⟩ = some (.slice (some ⟨gs, 0, none⟩) r.segs.length c1) := fun y ob => R23 ⟨y.w.alloc ob, y.below.alloc y.below.size ob⟩
 have A24 : ∀ (y : Later W2) (ob : Obj), (y.w.alloc ob).cell? ⟨w.heap.size, 4, none⟩ = some (.slice a2 r.pats.length c2) := fun y ob => R24 ⟨y.w.alloc ob, y.below.alloc y.below.size ob⟩
 have A25 : ∀ (y : Later W2) (ob : Obj), (y.w.alloc ob).cell? ⟨w.heap.size, 5, none⟩ = some (.slice a3 r.rgns.length c3) := fun y ob => R25 ⟨y.w.alloc ob, y.below.alloc y.below.size ob⟩
 have A26 : ∀ (y : Later W2) (ob : Obj), (y.w.alloc ob).cell? ⟨w.heap.size, 6, none⟩ = some (.int .i64 r.rule) := fun y ob => R26 ⟨y.w.alloc ob, y.below.alloc y.below.size ob⟩
 go_wp2_with fail
 obtain ⟨W3, e3⟩ : ∃ W3, W3 = x3.w.alloc (.cells #[.int .i64 s.cal, .int .i64 y0, .int .i64 d1, .int .i64 d2, .int .i64 d3] 69) := ⟨_, rfl⟩
 have t3 : Hid (∀ y : Later W3, Below W2.heap.size W2 y.w) := by unfold Hid; rw [e3]; exact fun y => x3.on (below_alloc y.below)
 have HR3 : Hid (∀ y : Later W3, Blk y.w (w.heap.size) #[.string r.name, .int .i64 r.fr, .int .i64 r.to, .slice (some ⟨gs, 0, none⟩) r.segs.length c1, .slice a2 r.pats.length c2, .slice a3 r.rgns.length c3, .int .i64 r.rule] 38) := fun y => HR2.out ⟨y.w, t3.out y⟩
 have HZ3 : Hid (∀ y : Later W3, Blk y.w (w.heap.size + 1) #[.int .i64 0, .int .i64 0, .int .i64 0, .int .i64 0, .int .i64 0] 69) := fun y => HZ2.out ⟨y.w, t3.out y⟩
 have HX3 : Hid (∀ y : Later W3, Blk y.w x3.w.heap.size #[.int .i64 s.cal, .int .i64 y0, .int .i64 d1, .int .i64 d2, .int .i64 d3] 69) := by unfold Hid; rw [e3]; exact fun y => (Blk.new _ _ _).later y
 obtain ⟨R30, R31, R32, R33, R34, R35, R36⟩ := cells7 HR3.out
 obtain ⟨X30, X31, X32, X33, X34⟩ := cells5 HX3.out
 obtain ⟨Z30, Z31, Z32, Z33, Z34⟩ := cells5 HZ3.out
 have fX33 : ∀ y : Later W3, y.w.frozen? ⟨x3.w.heap.size, 3, none⟩ = false := fun y => (HX3.out y).thaw 3
 have fX34 : ∀ y : Later W3, y.w.frozen? ⟨x3.w.heap.size, 4, none⟩ = false := fun y => (HX3.out y).thaw 4
 obtain ⟨fZ30, fZ31, fZ32, fZ33, fZ34⟩ := thaws5 HZ3.out
 have B3 : Hid (∀ y : Later W3, Below w.heap.size w y.w) := fun y => B2.out ⟨y.w, t3.out y⟩
 have T3 : Hid (∀ y : Later W3, Below W0.heap.size W0 y.w) := fun y => (Later.mk (W := W1) _ (t2.out ⟨y.w, t3.out y⟩)).below.trans (Below.refl _ _) |> fun h => t1.out ⟨y.w, h⟩
 rw [← e3]
 have q3 : Below W0.heap.size W0 W3 := T3.out ⟨W3, Below.refl _ _⟩
 clear e3 A20 A21 A22 A23 A24 A25 A26 R20 R21 R22 R23 R24 R25 R26 S20 S21 S22 S23 S24 D20 D21 D22 D23 R00 R01 R02 R03 R04 R05 R06
 refine (KP ⟨W3, q3⟩).mono ?_
 rintro e w4 ⟨rfl, hb⟩
 obtain ⟨x4, rfl⟩ := Later.of (W := W3) hb
 clear hb KP q3
 rcases hpc with rfl | ⟨k, hk, rfl⟩
 · rw [if_neg (by omega)] at hmo hdy
   subst hmo
   subst hdy
   go_wp2
   exact ret5 (HZ3.out x4) (B3.out x4) (by omega) rfl (fun _ q0 q1 q2 q3 q4 B9 => ⟨by simp [results, Tryz.results46, go_sem, q0, q1, q2, q3, q4]; try rfl, rfl, B9⟩)
 · rw [if_pos (by omega), Int.toNat_natCast] at hmo hdy
   obtain ⟨g, rfl, hgw, xp⟩ := HP.out x4.w (B3.out x4) k hk
   obtain ⟨c0, c1', c2'⟩ := xp.pat
   have hkz : (k : Int) < (r.pats.length : Int) := by omega
   have hx3 : w.heap.size + 1 < x3.w.heap.size := by
    have := (HZ2.out x3).lt
    omega
   have hG : g ≠ x3.w.heap.size := by omega
   have hGr : w.heap.size ≠ x3.w.heap.size := by omega
   have hGz : x3.w.heap.size ≠ w.heap.size + 1 := by omega
   rw [hmo] at c1'
   rw [hdy] at c2'
   clear HP xp hmo hdy
   have k1 : ∀ u : Value, (x4.w.setCell ⟨x3.w.heap.size, 3, none⟩ u).cell? ⟨w.heap.size, 4, none⟩ = some (.slice (some ⟨g, 0, none⟩) r.pats.length c2) := fun u => ((HR3.out x4).other (i := 3) (v := u) (Ne.symm hGr)).cell 4 rfl
   have k2 : ∀ u : Value, (x4.w.setCell ⟨x3.w.heap.size, 3, none⟩ u).cell? ⟨g, k * 3 + 2, none⟩ = some (.int .i64 dy) := fun u => (World.cell?_setCell_other x4.w ⟨x3.w.heap.size, 3, none⟩ ⟨g, k * 3 + 2, none⟩ u (by intro e; exact hG (by first | exact congrArg Addr.block e | exact (congrArg Addr.block e).symm))).trans c2'
   have k3 : ∀ u : Value, (x4.w.setCell ⟨x3.w.heap.size, 3, none⟩ u).frozen? ⟨x3.w.heap.size, 4, none⟩ = false := fun u => ((HX3.out x4).set 3 u).thaw 4
   have k4 : ∀ u : Value, (x4.w.setCell ⟨x3.w.heap.size, 3, none⟩ u).cell? ⟨x3.w.heap.size, 4, none⟩ = some (.int .i64 d3) := fun u => ((HX3.out x4).set 3 u).cell 4 rfl
   have l0 : ∀ u u2 : Value, ((x4.w.setCell ⟨x3.w.heap.size, 3, none⟩ u).setCell ⟨x3.w.heap.size, 4, none⟩ u2).cell? ⟨x3.w.heap.size, 0, none⟩ = some (.int .i64 s.cal) := fun u u2 => (((HX3.out x4).set 3 u).set 4 u2).cell 0 rfl
   have l1 : ∀ u u2 : Value, ((x4.w.setCell ⟨x3.w.heap.size, 3, none⟩ u).setCell ⟨x3.w.heap.size, 4, none⟩ u2).cell? ⟨x3.w.heap.size, 1, none⟩ = some (.int .i64 y0) := fun u u2 => (((HX3.out x4).set 3 u).set 4 u2).cell 1 rfl
   have l2 : ∀ u u2 : Value, ((x4.w.setCell ⟨x3.w.heap.size, 3, none⟩ u).setCell ⟨x3.w.heap.size, 4, none⟩ u2).cell? ⟨x3.w.heap.size, 2, none⟩ = some (.int .i64 d1) := fun u u2 => (((HX3.out x4).set 3 u).set 4 u2).cell 2 rfl
   have l3 : ∀ u u2 : Value, ((x4.w.setCell ⟨x3.w.heap.size, 3, none⟩ u).setCell ⟨x3.w.heap.size, 4, none⟩ u2).cell? ⟨x3.w.heap.size, 3, none⟩ = some (u) := fun u u2 => (((HX3.out x4).set 3 u).set 4 u2).cell 3 rfl
   have l4 : ∀ u u2 : Value, ((x4.w.setCell ⟨x3.w.heap.size, 3, none⟩ u).setCell ⟨x3.w.heap.size, 4, none⟩ u2).cell? ⟨x3.w.heap.size, 4, none⟩ = some (u2) := fun u u2 => (((HX3.out x4).set 3 u).set 4 u2).cell 4 rfl
   have m0 : ∀ u u2 : Value, ((x4.w.setCell ⟨x3.w.heap.size, 3, none⟩ u).setCell ⟨x3.w.heap.size, 4, none⟩ u2).frozen? ⟨w.heap.size + 1, 0, none⟩ = false := fun u u2 => (((HZ3.out x4).other (i := 3) (v := u) hGz).other (i := 4) (v := u2) hGz).thaw 0
   have p0 : ∀ u u2 : Value, ((x4.w.setCell ⟨x3.w.heap.size, 3, none⟩ u).setCell ⟨x3.w.heap.size, 4, none⟩ u2).cell? ⟨w.heap.size + 1, 0, none⟩ = some (.int .i64 0) := fun u u2 => (((HZ3.out x4).other (i := 3) (v := u) hGz).other (i := 4) (v := u2) hGz).cell 0 rfl
   have m1 : ∀ u u2 : Value, ((x4.w.setCell ⟨x3.w.heap.size, 3, none⟩ u).setCell ⟨x3.w.heap.size, 4, none⟩ u2).frozen? ⟨w.heap.size + 1, 1, none⟩ = false := fun u u2 => (((HZ3.out x4).other (i := 3) (v := u) hGz).other (i := 4) (v := u2) hGz).thaw 1
   have p1 : ∀ u u2 : Value, ((x4.w.setCell ⟨x3.w.heap.size, 3, none⟩ u).setCell ⟨x3.w.heap.size, 4, none⟩ u2).cell? ⟨w.heap.size + 1, 1, none⟩ = some (.int .i64 0) := fun u u2 => (((HZ3.out x4).other (i := 3) (v := u) hGz).other (i := 4) (v := u2) hGz).cell 1 rfl
   have m2 : ∀ u u2 : Value, ((x4.w.setCell ⟨x3.w.heap.size, 3, none⟩ u).setCell ⟨x3.w.heap.size, 4, none⟩ u2).frozen? ⟨w.heap.size + 1, 2, none⟩ = false := fun u u2 => (((HZ3.out x4).other (i := 3) (v := u) hGz).other (i := 4) (v := u2) hGz).thaw 2
   have p2 : ∀ u u2 : Value, ((x4.w.setCell ⟨x3.w.heap.size, 3, none⟩ u).setCell ⟨x3.w.heap.size, 4, none⟩ u2).cell? ⟨w.heap.size + 1, 2, none⟩ = some (.int .i64 0) := fun u u2 => (((HZ3.out x4).other (i := 3) (v := u) hGz).other (i := 4) (v := u2) hGz).cell 2 rfl
   have m3 : ∀ u u2 : Value, ((x4.w.setCell ⟨x3.w.heap.size, 3, none⟩ u).setCell ⟨x3.w.heap.size, 4, none⟩ u2).frozen? ⟨w.heap.size + 1, 3, none⟩ = false := fun u u2 => (((HZ3.out x4).other (i := 3) (v := u) hGz).other (i := 4) (v := u2) hGz).thaw 3
   have p3 : ∀ u u2 : Value, ((x4.w.setCell ⟨x3.w.heap.size, 3, none⟩ u).setCell ⟨x3.w.heap.size, 4, none⟩ u2).cell? ⟨w.heap.size + 1, 3, none⟩ = some (.int .i64 0) := fun u u2 => (((HZ3.out x4).other (i := 3) (v := u) hGz).other (i := 4) (v := u2) hGz).cell 3 rfl
   have m4 : ∀ u u2 : Value, ((x4.w.setCell ⟨x3.w.heap.size, 3, none⟩ u).setCell ⟨x3.w.heap.size, 4, none⟩ u2).frozen? ⟨w.heap.size + 1, 4, none⟩ = false := fun u u2 => (((HZ3.out x4).other (i := 3) (v := u) hGz).other (i := 4) (v := u2) hGz).thaw 4
   have p4 : ∀ u u2 : Value, ((x4.w.setCell ⟨x3.w.heap.size, 3, none⟩ u).setCell ⟨x3.w.heap.size, 4, none⟩ u2).cell? ⟨w.heap.size + 1, 4, none⟩ = some (.int .i64 0) := fun u u2 => (((HZ3.out x4).other (i := 3) (v := u) hGz).other (i := 4) (v := u2) hGz).cell 4 rfl
   go_wp2
   obtain ⟨W9, e9⟩ : ∃ W9, W9 = ((((((x4.w.setCell ⟨x3.w.heap.size, 3, none⟩ (.int .i64 mo)).setCell ⟨x3.w.heap.size, 4, none⟩ (.int .i64 dy)).setCell ⟨w.heap.size + 1, 0, none⟩ (.int .i64 s.cal)).setCell ⟨w.heap.size + 1, 1, none⟩ (.int .i64 y0)).setCell ⟨w.heap.size + 1, 2, none⟩ (.int .i64 d1)).setCell ⟨w.heap.size + 1, 3, none⟩ (.int .i64 mo)).setCell ⟨w.heap.size + 1, 4, none⟩ (.int .i64 dy) := ⟨_, rfl⟩
   have Z9 : Blk W9 (w.heap.size + 1) #[.int .i64 s.cal, .int .i64 y0, .int .i64 d1, .int .i64 mo, .int .i64 dy] 69 := by rw [e9]; exact ((((((((HZ3.out x4).other (i := 3) hGz).other (i := 4) hGz).set 0 _).set 1 _).set 2 _).set 3 _).set 4 _)
   have B9 : Below w.heap.size w W9 := by rw [e9]; exact (Below.setCell (Below.setCell (Below.setCell (Below.setCell (Below.setCell (Below.setCell (Below.setCell (B3.out x4) (p := ⟨x3.w.heap.size, 3, none⟩) (show w.heap.size ≤ x3.w.heap.size by omega) _) (p := ⟨x3.w.heap.size, 4, none⟩) (show w.heap.size ≤ x3.w.heap.size by omega) _) (p := ⟨w.heap.size + 1, 0, none⟩) (show w.heap.size ≤ w.heap.size + 1 by omega) _) (p := ⟨w.heap.size + 1, 1, none⟩) (show w.heap.size ≤ w.heap.size + 1 by omega) _) (p := ⟨w.heap.size + 1, 2, none⟩) (show w.heap.size ≤ w.heap.size + 1 by omega) _) (p := ⟨w.heap.size + 1, 3, none⟩) (show w.heap.size ≤ w.heap.size + 1 by omega) _) (p := ⟨w.heap.size + 1, 4, none⟩) (show w.heap.size ≤ w.heap.size + 1 by omega) _)
   rw [← e9]
   clear e9
   have q0 : W9.cell? ⟨w.heap.size + 1, 0, none⟩ = some (.int .i64 s.cal) := Z9.cell 0 rfl
   have q1 : W9.cell? ⟨w.heap.size + 1, 1, none⟩ = some (.int .i64 y0) := Z9.cell 1 rfl
   have q2 : W9.cell? ⟨w.heap.size + 1, 2, none⟩ = some (.int .i64 d1) := Z9.cell 2 rfl
   have q3 : W9.cell? ⟨w.heap.size + 1, 3, none⟩ = some (.int .i64 mo) := Z9.cell 3 rfl
   have q4 : W9.cell? ⟨w.heap.size + 1, 4, none⟩ = some (.int .i64 dy) := Z9.cell 4 rfl
   exact bodyPost_ret (by simp [results, Tryz.results46, go_sem, q0, q1, q2, q3, q4]; try rfl) rfl ⟨rfl, B9⟩
end Go.Proofs.YtdmlhiailjnhcaaGreatDoor.ctr
