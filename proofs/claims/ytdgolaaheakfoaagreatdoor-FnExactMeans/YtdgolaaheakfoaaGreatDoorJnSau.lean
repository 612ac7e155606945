/- Contract of the model's ReignsOk: it answers its plain function. A regime's plain check: which segments, which patches, which rules are right. Contracts of the code's segsOk, patchesOk, patchOk, ruleOk. -/
import Derived.Test.YtdgolaaheakfoaaGreatDoorJnSat
import Derived.Test.YtdgolaaheakfoaaGreatDoorJnSam
import Derived.Test.YtdgolaaheakfoaaGreatDoorJnSaq
import Derived.Test.YtdgolaaheakfoaaGreatDoorJnSah
import Derived.Test.YtdgolaaheakfoaaGreatDoorJnSai
namespace Go.Proofs.YtdgolaaheakfoaaGreatDoor.ctr
open Go.RowKit
set_option maxRecDepth 100000 in
set_option maxHeartbeats 4000000 in
theorem specReignsOk (v : Value) (l : List Rgn) (w : World) (h : RRow w v l) : Calls Tryz.prog 73 #[v] w fun e w' => e = .returned (.bool (reignsOk l)) ∧ Below w.heap.size w w' := by
  obtain ⟨a, c, rfl, hl, hm, hn, H⟩ := h
  have K := hideP H
  have HN := hideP hn
  unfold maxLen at hm
  clear H hn
  go_enter Tryz.func73, Tryz.ntmps73
  go_wp2
  go_loopw [3] (fun i wr => ∃ k : Nat, k ≤ l.length ∧ i = .int .i64 (k : Int) ∧ Hid (okTo l k = true) ∧ Below w.heap.size w wr) (fun i _ => l.length - (intOf i).toNat)
  case atStart => exact ⟨0, Nat.zero_le _, rfl, rfl, Below.refl _ _⟩
  case round =>
    obtain ⟨k, hk, rfl, HF, hB⟩ := hrel
    have HB := hideP hB
    clear hB
    by_cases hlt : k < l.length
    · obtain ⟨g, rfl, hg, x⟩ := K.out k hlt
      obtain ⟨a0, a1, a2⟩ := x.below HB.out hg
      have hnk := HN.out k hlt
      obtain ⟨W0, hW0, c0, c1, c2, hBl⟩ := rgn_box wr (rgA l k).name (rgA l k).fr (rgA l k).to 123
      have hBw : ∀ y : Later W0, Below w.heap.size w y.w := fun y => HB.out.trans ((hBl y).mono HB.out.size)
      have KM : Hid (∀ m, m < k → ∀ y : Later W0, y.w.cell? ⟨g, m * 3, none⟩ = some (.string (rgA l m).name) ∧ y.w.cell? ⟨g, m * 3 + 2, none⟩ = some (.int .i64 (rgA l m).to)) := fun m hmk y => by
        obtain ⟨g', e, hg', z⟩ := K.out m (by omega)
        cases e
        exact ⟨(z.below (hBw y) hg').1, (z.below (hBw y) hg').2.2⟩
      have KN : ∀ y : Later W0, Calls Tryz.prog 69 #[.string (rgA l k).name] y.w fun e w' => e = .returned (.bool (nameOk (rgA l k).name)) ∧ w' = y.w := fun y => specNameOk _ y.w hnk
      have KF : ∀ y : Later W0, Calls Tryz.prog 115 #[.int .i64 (rgA l k).fr] y.w fun e w' => e = .returned (.bool (bothB (rgA l k).fr)) ∧ Below y.w.heap.size y.w w' := fun y => specDated _ y.w
      have KT : ∀ y : Later W0, Calls Tryz.prog 115 #[.int .i64 (rgA l k).to] y.w fun e w' => e = .returned (.bool (bothB (rgA l k).to)) ∧ Below y.w.heap.size y.w w' := fun y => specDated _ y.w
      have J1 := hideP (fun h => okTo_next HF.out (k := k) h)
      have J2 := hideP (fun h => ok_bad (k := k) h hlt)
      have HK : Hid (okAt l k = ((nameOk (rgA l k).name && (decide ((rgA l k).fr ≤ (rgA l k).to) && (bothB (rgA l k).fr && bothB (rgA l k).to))) && (behB (l.take k) (rgA l k).fr && decide (namedR (l.take k) (rgA l k).name = -1)))) := rfl
      have HW0 := hideP hW0
      have HBw := hideP hBw
      have HBH := hideP (behB_take (Nat.le_of_lt hlt) (rgA l k).fr)
      clear x hnk hW0 hBl hBw
      generalize rgA l k = r at *
      obtain ⟨nm, f, t⟩ := r
      dsimp only at a0 a1 a2 c0 c1 c2 KN KF KT HK HBH HW0
      generalize nameOk nm = b1 at *
      generalize hb2 : bothB f = b2 at *
      generalize hb3 : bothB t = b3 at *
      have HX : Hid (okAt l k = false → reignsOk l = false) := J2.out
      clear hb2 hb3
      cases b1
      · have _u := hlt
        have HR := hideP (HX.out (by rw [HK.out]; rfl))
        go_wp2_with fail
        rw [← HW0.out]
        refine wp_region_later (W := W0) (Below.refl _ _) (by kernel_rfl) (by kernel_rfl) ?_
        repeat (go_big_quiet_step (first | (go_at_call 69; exact calls_same (KN _)) | (go_at_call_of 115 f; exact calls_later (KF _)) | (go_at_call_of 115 t; exact calls_later (KT _)) | fail))
        refine wpQuiet_nil ?_
        intro _ hw'
        obtain ⟨y, rfl⟩ := hw'
        go_wp2
        go_ret
        exact ⟨ret_bool HR.out.symm, HBw.out y⟩
      by_cases hft : f ≤ t
      case neg =>
        have hd : decide (t < f) = true := decide_eq_true (by omega)
        have HR := hideP (HX.out (by rw [HK.out]; rw [decide_eq_false hft]; rfl))
        go_wp2_with fail
        rw [← HW0.out]
        refine wp_region_later (W := W0) (Below.refl _ _) (by kernel_rfl) (by kernel_rfl) ?_
        repeat (go_big_quiet_step (first | (go_at_call 69; exact calls_same (KN _)) | (go_at_call_of 115 f; exact calls_later (KF _)) | (go_at_call_of 115 t; exact calls_later (KT _)) | fail))
        refine wpQuiet_nil ?_
        intro _ hw'
        obtain ⟨y, rfl⟩ := hw'
        go_wp2
        go_ret
        exact ⟨ret_bool HR.out.symm, HBw.out y⟩
      have hd : decide (t < f) = false := decide_eq_false (by omega)
      cases b2
      · have _u := hlt
        have HR := hideP (HX.out (by rw [HK.out]; rw [decide_eq_true hft]; rfl))
        go_wp2_with fail
        rw [← HW0.out]
        refine wp_region_later (W := W0) (Below.refl _ _) (by kernel_rfl) (by kernel_rfl) ?_
        repeat (go_big_quiet_step (first | (go_at_call 69; exact calls_same (KN _)) | (go_at_call_of 115 f; exact calls_later (KF _)) | (go_at_call_of 115 t; exact calls_later (KT _)) | fail))
        refine wpQuiet_nil ?_
        intro _ hw'
        obtain ⟨y, rfl⟩ := hw'
        go_wp2
        go_ret
        exact ⟨ret_bool HR.out.symm, HBw.out y⟩
      cases b3
      · have _u := hlt
        have HR := hideP (HX.out (by rw [HK.out]; rw [decide_eq_true hft]; rfl))
        go_wp2_with fail
        rw [← HW0.out]
        refine wp_region_later (W := W0) (Below.refl _ _) (by kernel_rfl) (by kernel_rfl) ?_
        repeat (go_big_quiet_step (first | (go_at_call 69; exact calls_same (KN _)) | (go_at_call_of 115 f; exact calls_later (KF _)) | (go_at_call_of 115 t; exact calls_later (KT _)) | fail))
        refine wpQuiet_nil ?_
        intro _ hw'
        obtain ⟨y, rfl⟩ := hw'
        go_wp2
        go_ret
        exact ⟨ret_bool HR.out.symm, HBw.out y⟩
      have HK2 : Hid (okAt l k = (behB (l.take k) f && decide (namedR (l.take k) nm = -1))) := by unfold Hid; rw [HK.out, decide_eq_true hft]; rfl
      clear HK
      obtain rfl | ⟨j, rfl⟩ : k = 0 ∨ ∃ j, k = j + 1 := by cases k with | zero => exact .inl rfl | succ j => exact .inr ⟨j, rfl⟩
      · have HBE : Hid (behB (l.take 0) f = true) := by unfold Hid; rw [HBH.out]; rfl
        go_wp2_with fail
        rw [← HW0.out]
        refine wp_region_later (W := W0) (Below.refl _ _) (by kernel_rfl) (by kernel_rfl) ?_
        repeat (go_big_quiet_step (first | (go_at_call 69; exact calls_same (KN _)) | (go_at_call_of 115 f; exact calls_later (KF _)) | (go_at_call_of 115 t; exact calls_later (KT _)) | fail))
        refine wpQuiet_nil ?_
        intro _ hw'
        obtain ⟨y, rfl⟩ := hw'
        go_wp2_with fail
        go_loopw [5] (fun q wq => ∃ m : Nat, m ≤ 0 ∧ q = .int .i64 (m : Int) ∧ Hid (rfFrom (isNamed nm) ((l.take (0)).drop m) m = namedR (l.take (0)) nm) ∧ Below W0.heap.size W0 wq) (fun q _ => 0 - (intOf q).toNat)
        case atStart => exact ⟨0, Nat.zero_le _, rfl, rfl, y.below⟩
        case round =>
          obtain ⟨m, hmk, rfl, HG, hC⟩ := hrel
          have HC := hideP hC
          clear hC
          have hlen : (l.take (0)).length = 0 := by rw [List.length_take]; omega
          have HLn := hideP hlen
          clear hlen
          have GN := hideP (rf_end (by rw [HLn.out]; omega) HG.out)
          obtain rfl : m = 0 := by omega
          have HR := hideP (J1.out (by rw [HK2.out, GN.out, HBE.out]; rfl))
          have HCw : Hid (Below w.heap.size w wr) := HBw.out ⟨wr, HC.out⟩
          go_wp2
          exact ⟨⟨0 + 1, by omega, by go_num, HR.out, HCw.out⟩, by simp [intOf]; omega⟩
      · obtain ⟨_, q2⟩ : _ ∧ (∀ y : Later W0, y.w.cell? ⟨g, j * 3 + 2, none⟩ = some (.int .i64 (rgA l j).to)) := ⟨trivial, fun y => (KM.out j (by omega) y).2⟩
        have HBH2 : Hid (behB (l.take (j + 1)) f = decide ((rgA l j).to < f)) := by unfold Hid; rw [HBH.out, decide_eq_false (by omega)]; rfl
        clear HBH
        generalize (rgA l j).to = T at *
        have hj0 : decide ((0 : Int) < (j : Int) + 1) = true := decide_eq_true (by omega)
        by_cases hTf : T < f
        case neg =>
          have hd2 : decide (f ≤ T) = true := decide_eq_true (by omega)
          have HR := hideP (HX.out (by rw [HK2.out, HBH2.out, decide_eq_false hTf]; rfl))
          go_wp2_with fail
          rw [← HW0.out]
          refine wp_region_later (W := W0) (Below.refl _ _) (by kernel_rfl) (by kernel_rfl) ?_
          repeat (go_big_quiet_step (first | (go_at_call 69; exact calls_same (KN _)) | (go_at_call_of 115 f; exact calls_later (KF _)) | (go_at_call_of 115 t; exact calls_later (KT _)) | fail))
          refine wpQuiet_nil ?_
          intro _ hw'
          obtain ⟨y, rfl⟩ := hw'
          go_wp2
          go_ret
          exact ⟨ret_bool HR.out.symm, HBw.out y⟩
        have hd2 : decide (f ≤ T) = false := decide_eq_false (by omega)
        have HBE : Hid (behB (l.take (j + 1)) f = true) := by unfold Hid; rw [HBH2.out, decide_eq_true hTf]
        go_wp2_with fail
        rw [← HW0.out]
        refine wp_region_later (W := W0) (Below.refl _ _) (by kernel_rfl) (by kernel_rfl) ?_
        repeat (go_big_quiet_step (first | (go_at_call 69; exact calls_same (KN _)) | (go_at_call_of 115 f; exact calls_later (KF _)) | (go_at_call_of 115 t; exact calls_later (KT _)) | fail))
        refine wpQuiet_nil ?_
        intro _ hw'
        obtain ⟨y, rfl⟩ := hw'
        go_wp2_with fail
        go_loopw [5] (fun q wq => ∃ m : Nat, m ≤ (j + 1) ∧ q = .int .i64 (m : Int) ∧ Hid (rfFrom (isNamed nm) ((l.take ((j + 1))).drop m) m = namedR (l.take ((j + 1))) nm) ∧ Below W0.heap.size W0 wq) (fun q _ => (j + 1) - (intOf q).toNat)
        case atStart => exact ⟨0, Nat.zero_le _, rfl, rfl, y.below⟩
        case round =>
          obtain ⟨m, hmk, rfl, HG, hC⟩ := hrel
          have HC := hideP hC
          clear hC
          have hlen : (l.take ((j + 1))).length = (j + 1) := by rw [List.length_take]; omega
          have HLn := hideP hlen
          clear hlen
          by_cases hml : m < (j + 1)
          · have e0 := fun y => (KM.out m hml y).1
            have G1 := hideP (fun h => rf_hit (p := isNamed nm) (by rw [HLn.out]; exact hml) h HG.out)
            have G2 := hideP (fun h => rf_miss (p := isNamed nm) (by rw [HLn.out]; exact hml) h HG.out)
            rw [rgA_take hml] at G1 G2
            generalize rgA l m = r2 at *
            cases hq : (r2.name.toList == nm.toList)
            · have GN := hideP (G2.out (decide_eq_false (str_ne hq)))
              go_wp2_with fail
              refine wp_region_later (W := W0) HC.out (by kernel_rfl) (by kernel_rfl) ?_
              repeat (go_big_quiet_step (fail))
              refine wpQuiet_nil ?_
              intro _ hw'
              obtain ⟨y2, rfl⟩ := hw'
              go_wp2
              exact ⟨⟨m + 1, by omega, by go_num, GN.out, y2.below⟩, by simp [intOf]; omega⟩
            · have GN := hideP (G1.out (decide_eq_true (str_eq hq)))
              have HR := hideP (HX.out (by rw [HK2.out, GN.out, decide_eq_false (by omega), Bool.and_false]))
              go_wp2_with fail
              refine wp_region_later (W := W0) HC.out (by kernel_rfl) (by kernel_rfl) ?_
              repeat (go_big_quiet_step (fail))
              refine wpQuiet_nil ?_
              intro _ hw'
              obtain ⟨y2, rfl⟩ := hw'
              go_wp2
              go_ret
              exact ⟨ret_bool HR.out.symm, HBw.out y2⟩
          · have GN := hideP (rf_end (by rw [HLn.out]; omega) HG.out)
            have HR := hideP (J1.out (by rw [HK2.out, GN.out, HBE.out]; rfl))
            have HCw : Hid (Below w.heap.size w wr) := HBw.out ⟨wr, HC.out⟩
            go_wp2
            exact ⟨⟨(j + 1) + 1, by omega, by go_num, HR.out, HCw.out⟩, by simp [intOf]; omega⟩
    · have hkn : k = l.length := by omega
      have HR := hideP (ok_all (by rw [← hkn]; exact HF.out))
      subst hkn
      go_wp2
      go_ret
      exact ⟨ret_bool (by rw [HR.out]; exact decide_eq_decide.2 (by omega)), HB.out⟩
end Go.Proofs.YtdgolaaheakfoaaGreatDoor.ctr
namespace Go.Proofs.YtdgolaaheakfoaaGreatDoor.ctr
open Go.RowKit
def allTo (p : Nat → Bool) (k : Nat) : Bool := (List.range k).all p
theorem allTo_next {p : Nat → Bool} {k : Nat} (h : allTo p k = true) (hk : p k = true) : allTo p (k + 1) = true := by
  unfold allTo at *
  rw [List.range_succ, List.all_append, h]
  simp [hk]
theorem allTo_bad {p : Nat → Bool} {k n : Nat} (hk : p k = false) (h : k < n) : allTo p n = false := by
  unfold allTo
  rw [List.all_eq_false]
  exact ⟨k, List.mem_range.2 h, by rw [hk]; simp⟩
theorem allTo_at {p : Nat → Bool} {k n : Nat} (h : allTo p n = true) (hk : k < n) : p k = true := by
  unfold allTo at h
  exact List.all_eq_true.1 h k (List.mem_range.2 hk)
def segFit (f t : Int) (l : List Seg) (k : Nat) : Bool := segOkB (atK segK l k) && (decide (f ≤ (atK segK l k).fr) && (decide ((atK segK l k).to ≤ t) && (decide (k = 0) || decide ((atK segK l (k - 1)).fr < (atK segK l k).fr))))
noncomputable def segsB (f t : Int) (l : List Seg) : Bool := inB l.length 1 20 && (allTo (segFit f t l) l.length && decide (tilesZ f t l = 0))
theorem segs_short {f t : Int} {l : List Seg} (h : inB l.length 1 20 = false) : segsB f t l = false := by unfold segsB; rw [h, Bool.false_and]
theorem segs_bad {f t : Int} {l : List Seg} {k : Nat} (h : segFit f t l k = false) (hk : k < l.length) : segsB f t l = false := by unfold segsB; rw [allTo_bad h hk, Bool.false_and, Bool.and_false]
theorem segs_end {f t : Int} {l : List Seg} (h : inB l.length 1 20 = true) (ha : allTo (segFit f t l) l.length = true) : segsB f t l = decide (tilesZ f t l = 0) := by unfold segsB; rw [h, ha, Bool.true_and, Bool.true_and]
theorem segFit_ok {f t : Int} {l : List Seg} {k : Nat} (h : segFit f t l k = true) : segOkB (atK segK l k) = true ∧ f ≤ (atK segK l k).fr ∧ (atK segK l k).to ≤ t := by
  unfold segFit at h
  simp only [Bool.and_eq_true, decide_eq_true_eq] at h
  exact ⟨h.1, h.2.1, h.2.2.1⟩
theorem segOk_days {s : Seg} (h : segOkB s = true) : s.fr ≤ s.to ∧ 400 ≤ s.to := by
  unfold segOkB at h
  simp only [Bool.and_eq_true, decide_eq_true_eq] at h
  refine ⟨h.2.2.1, ?_⟩
  by_cases hs : 400 ≤ s.to
  · exact hs
  · have := h.2.1; unfold dayB at this; rw [inB_false (.inl (by omega))] at this; cases this
theorem segs_days {f t : Int} {l : List Seg} (ha : allTo (segFit f t l) l.length = true) : ∀ s ∈ l, -9223372036854775808 ≤ s.to := by
  intro s hs
  obtain ⟨i, hi, rfl⟩ := List.mem_iff_getElem.1 hs
  have h := (segOk_days (segFit_ok (allTo_at ha hi)).1).2
  rw [atK_eq hi] at h
  omega
theorem segs_order {f t : Int} {l : List Seg} (h : ¬ f ≤ t) : segsB f t l = false := by
  cases hb : inB l.length 1 20
  · exact segs_short hb
  have hl : 0 < l.length := by
    by_cases hl : 0 < l.length
    · exact hl
    · rw [inB_false (.inl (by omega))] at hb; cases hb
  cases hs : segFit f t l 0
  · exact segs_bad hs hl
  · have := segFit_ok hs; have := segOk_days this.1; omega
theorem segFit_zero {f t : Int} {l : List Seg} : segFit f t l 0 = (segOkB (atK segK l 0) && (decide (f ≤ (atK segK l 0).fr) && (decide ((atK segK l 0).to ≤ t) && true))) := rfl
theorem segFit_succ {f t : Int} {l : List Seg} {j : Nat} : segFit f t l (j + 1) = (segOkB (atK segK l (j + 1)) && (decide (f ≤ (atK segK l (j + 1)).fr) && (decide ((atK segK l (j + 1)).to ≤ t) && decide ((atK segK l j).fr < (atK segK l (j + 1)).fr)))) := by
  unfold segFit
  rw [decide_eq_false (p := j + 1 = 0) (by omega), Bool.false_or]
  rfl
def patB (p : Pat) : Bool := inB p.mon 1 12 && inB p.dom 1 31
def patFit (f t : Int) (l : List Pat) (k : Nat) : Bool := patB (atK patK l k) && (inB (atK patK l k).day f t && (decide (k = 0) || decide ((atK patK l (k - 1)).day < (atK patK l k).day)))
def patsB (f t : Int) (l : List Pat) : Bool := decide ((l.length : Int) ≤ 8) && allTo (patFit f t l) l.length
theorem pats_bad {f t : Int} {l : List Pat} {k : Nat} (h : patFit f t l k = false) (hk : k < l.length) : patsB f t l = false := by unfold patsB; rw [allTo_bad h hk, Bool.and_false]
theorem pats_end {f t : Int} {l : List Pat} (ha : allTo (patFit f t l) l.length = true) : patsB f t l = decide ((l.length : Int) ≤ 8) := by unfold patsB; rw [ha, Bool.and_true]
theorem patFit_zero {f t : Int} {l : List Pat} : patFit f t l 0 = (patB (atK patK l 0) && (inB (atK patK l 0).day f t && true)) := rfl
theorem patFit_succ {f t : Int} {l : List Pat} {j : Nat} : patFit f t l (j + 1) = (patB (atK patK l (j + 1)) && (inB (atK patK l (j + 1)).day f t && decide ((atK patK l j).day < (atK patK l (j + 1)).day))) := by
  unfold patFit
  rw [decide_eq_false (p := j + 1 = 0) (by omega), Bool.false_or]
  rfl
theorem fit_no1 {f t : Int} {l : List Seg} {k : Nat} (h : segOkB (atK segK l k) = false) : segFit f t l k = false := by unfold segFit; rw [h, Bool.false_and]
theorem fit_no2 {f t : Int} {l : List Seg} {k : Nat} (h : (atK segK l k).fr < f) : segFit f t l k = false := by unfold segFit; rw [decide_eq_false (by omega : ¬ f ≤ (atK segK l k).fr), Bool.false_and, Bool.and_false]
theorem fit_no3 {f t : Int} {l : List Seg} {k : Nat} (h : t < (atK segK l k).to) : segFit f t l k = false := by unfold segFit; rw [decide_eq_false (by omega : ¬ (atK segK l k).to ≤ t), Bool.false_and, Bool.and_false, Bool.and_false]
theorem fit_no4 {f t : Int} {l : List Seg} {k j : Nat} (e : k = j + 1) (h : (atK segK l k).fr ≤ (atK segK l j).fr) : segFit f t l k = false := by subst e; rw [segFit_succ, decide_eq_false (by omega : ¬ (atK segK l j).fr < (atK segK l (j + 1)).fr), Bool.and_false, Bool.and_false, Bool.and_false]
theorem fit_yes {f t : Int} {l : List Seg} {k : Nat} (h1 : segOkB (atK segK l k) = true) (h2 : f ≤ (atK segK l k).fr) (h3 : (atK segK l k).to ≤ t) (h4 : ∀ j, k = j + 1 → (atK segK l j).fr < (atK segK l k).fr) : segFit f t l k = true := by
  cases k with
  | zero => rw [segFit_zero, h1, decide_eq_true h2, decide_eq_true h3]; rfl
  | succ j => rw [segFit_succ, h1, decide_eq_true h2, decide_eq_true h3, decide_eq_true (h4 j rfl)]; rfl
theorem pfit_no1 {f t : Int} {l : List Pat} {k : Nat} (h : patB (atK patK l k) = false) : patFit f t l k = false := by unfold patFit; rw [h, Bool.false_and]
theorem pfit_no2 {f t : Int} {l : List Pat} {k : Nat} (h : inB (atK patK l k).day f t = false) : patFit f t l k = false := by unfold patFit; rw [h, Bool.false_and, Bool.and_false]
theorem pfit_no4 {f t : Int} {l : List Pat} {k j : Nat} (e : k = j + 1) (h : (atK patK l k).day ≤ (atK patK l j).day) : patFit f t l k = false := by subst e; rw [patFit_succ, decide_eq_false (by omega : ¬ (atK patK l j).day < (atK patK l (j + 1)).day), Bool.and_false, Bool.and_false]
theorem pfit_yes {f t : Int} {l : List Pat} {k : Nat} (h1 : patB (atK patK l k) = true) (h2 : inB (atK patK l k).day f t = true) (h4 : ∀ j, k = j + 1 → (atK patK l j).day < (atK patK l k).day) : patFit f t l k = true := by
  cases k with
  | zero => rw [patFit_zero, h1, h2]; rfl
  | succ j => rw [patFit_succ, h1, h2, decide_eq_true (h4 j rfl)]; rfl
def ruleB (z : Int) : Bool := decide (z = 0) || decide (z = 1)
noncomputable def regimeB (r : Rgm) : Bool := nameOk r.name && (dayB r.fr && (dayB r.to && (segsB r.fr r.to r.segs && (patsB r.fr r.to r.pats && (reignsOk r.rgns && ruleB r.rule)))))
theorem pat_box (w : World) (a b c : Int) (t : TypeId) : ∃ W0, W0 = w.alloc (.cells #[.int .i64 a, .int .i64 b, .int .i64 c] t) ∧ (∀ x : Later W0, x.w.cell? ⟨w.heap.size, 0, none⟩ = some (.int .i64 a)) ∧ (∀ x : Later W0, x.w.cell? ⟨w.heap.size, 1, none⟩ = some (.int .i64 b)) ∧ (∀ x : Later W0, x.w.cell? ⟨w.heap.size, 2, none⟩ = some (.int .i64 c)) ∧ ∀ x : Later W0, Below w.heap.size w x.w :=
  ⟨_, rfl, Later.new rfl 0 rfl, Later.new rfl 1 rfl, Later.new rfl 2 rfl, fun x => below_alloc x.below⟩
end Go.Proofs.YtdgolaaheakfoaaGreatDoor.ctr
namespace Go.Proofs.YtdgolaaheakfoaaGreatDoor.ctr
open Go.RowKit
set_option maxHeartbeats 1000000 in
theorem implPatchOk (s : Pat) (w : World) : Calls Tryz.prog 138 #[.agg #[.int .i64 s.day, .int .i64 s.mon, .int .i64 s.dom]] w fun e w' => e = .returned (.bool (patB s)) ∧ Below w.heap.size w w' := by
  unfold patB
  by_cases h1 : 1 ≤ s.mon
  case neg =>
    rw [inB_false (.inl (by omega)), Bool.false_and]
    have hd : decide (1 ≤ s.mon) = false := decide_eq_false h1
    go_enter Tryz.func138, Tryz.ntmps138
    go_wp2
    go_ret
    exact ⟨rfl, (Below.refl _ _).alloc (Nat.le_refl _) _⟩
  by_cases h2 : s.mon ≤ 12
  case neg =>
    rw [inB_false (.inr (by omega)), Bool.false_and]
    have hd : decide (s.mon ≤ 12) = false := decide_eq_false h2
    go_enter Tryz.func138, Tryz.ntmps138
    go_wp2
    go_ret
    exact ⟨rfl, (Below.refl _ _).alloc (Nat.le_refl _) _⟩
  rw [inB_true h1 h2, Bool.true_and]
  by_cases h3 : 1 ≤ s.dom
  case neg =>
    rw [inB_false (.inl (by omega))]
    have hd : decide (1 ≤ s.dom) = false := decide_eq_false h3
    go_enter Tryz.func138, Tryz.ntmps138
    go_wp2
    go_ret
    exact ⟨rfl, (Below.refl _ _).alloc (Nat.le_refl _) _⟩
  by_cases h4 : s.dom ≤ 31
  case neg =>
    rw [inB_false (.inr (by omega))]
    have hd : decide (s.dom ≤ 31) = false := decide_eq_false h4
    go_enter Tryz.func138, Tryz.ntmps138
    go_wp2
    go_ret
    exact ⟨rfl, (Below.refl _ _).alloc (Nat.le_refl _) _⟩
  rw [inB_true h3 h4]
  go_enter Tryz.func138, Tryz.ntmps138
  go_wp2
  go_ret
  exact ⟨rfl, (Below.refl _ _).alloc (Nat.le_refl _) _⟩
theorem implRuleOk (z : Int) (w : World) : Calls Tryz.prog 108 #[.int .i64 z] w fun e w' => e = .returned (.bool (ruleB z)) ∧ w' = w := by
  unfold ruleB
  by_cases h0 : z = 0
  · subst h0
    go_enter Tryz.func108, Tryz.ntmps108
    go_wp2
    go_ret
    exact ⟨rfl, rfl⟩
  by_cases h1 : z = 1
  · subst h1
    go_enter Tryz.func108, Tryz.ntmps108
    go_wp2
    go_ret
    exact ⟨rfl, rfl⟩
  rw [decide_eq_false h0, decide_eq_false h1]
  have hd : (z == 0) = false := by simp [h0]
  have hd' : (z == 1) = false := by simp [h1]
  go_enter Tryz.func108, Tryz.ntmps108
  go_wp2
  go_ret
  exact ⟨rfl, rfl⟩
set_option maxRecDepth 100000 in
set_option maxHeartbeats 2000000 in
theorem implSegsOk (v : Value) (r : Rgm) (w : World) (h : GRow w v r) (ht : r.to ≤ 9223372036854775807) (hE : ErrT w) : Calls Tryz.prog 105 #[v] w fun e w' => e = .returned (.bool (segsB r.fr r.to r.segs)) ∧ Below w.heap.size w w' := by
  obtain ⟨nm, f, t, l, ps, rs, ru⟩ := r
  obtain ⟨v1, v2, v3, rfl, _, x1, x2, x3⟩ := h
  dsimp only at x1 x2 x3
  obtain ⟨W0, hW0, d0, d1, d2, d3, d4, d5, d6, hBl⟩ := seven_box w (.string nm) (.int .i64 f) (.int .i64 t) v1 v2 v3 (.int .i64 ru) 40
  have hrow := x1.below (hBl ⟨W0, Below.refl _ _⟩)
  have KT : Hid (∀ y : Later W0, l.length ≤ 1048576 → (∀ s ∈ l, -9223372036854775808 ≤ s.to) → Calls Tryz.prog 137 #[.int .i64 f, .int .i64 t, v1] y.w fun e w' => e = .returned (.int .i64 (tilesZ f t l)) ∧ Below y.w.heap.size y.w w') := fun y h1 h2 => implTiles f t v1 l y.w (hrow.below y.below) h1 ht h2 (hE.below (hBl y))
  obtain ⟨a1, c1, rfl, _⟩ := x1
  obtain ⟨a2, c2, rfl, _⟩ := x2
  obtain ⟨a3, c3, rfl, _⟩ := x3
  obtain ⟨a, c, ev, hl, hm, H⟩ := hrow
  cases ev
  have HK := hideP H
  have HW0 := hideP hW0
  have HBl := hideP hBl
  unfold maxLen at hm
  dsimp only
  clear H hW0 hBl
  clear ht hE
  by_cases n1 : l.length < 1
  · have HR := hideP (segs_short (f := f) (t := t) (inB_false (x := (l.length : Int)) (a := 1) (b := 20) (.inl (by omega))))
    have q1 : (l.length : Int) < 1 := by omega
    go_enter Tryz.func105, Tryz.ntmps105
    go_wp2
    rw [← HW0.out]
    go_ret
    exact ⟨ret_bool HR.out.symm, HBl.out ⟨W0, Below.refl _ _⟩⟩
  have q1 : decide ((l.length : Int) < 1) = false := decide_eq_false (by omega)
  by_cases n2 : 20 < l.length
  · have HR := hideP (segs_short (f := f) (t := t) (inB_false (x := (l.length : Int)) (a := 1) (b := 20) (.inr (by omega))))
    have q2 : (20 : Int) < (l.length : Int) := by omega
    go_enter Tryz.func105, Tryz.ntmps105
    go_wp2
    rw [← HW0.out]
    go_ret
    exact ⟨ret_bool HR.out.symm, HBl.out ⟨W0, Below.refl _ _⟩⟩
  have q2 : decide ((20 : Int) < (l.length : Int)) = false := decide_eq_false (by omega)
  have HI : Hid (inB l.length 1 20 = true) := inB_true (by omega) (by omega)
  have hst : Hid (Below W0.heap.size W0 W0) := Below.refl _ _
  go_enter Tryz.func105, Tryz.ntmps105
  go_wp2
  rw [← HW0.out]
  go_loopw [18] (fun i wr => ∃ k : Nat, k ≤ l.length ∧ i = .int .i64 (k : Int) ∧ Hid (allTo (segFit f t l) k = true) ∧ ∃ y : Later W0, wr = y.w) (fun i _ => l.length - (intOf i).toNat)
  case atStart => exact ⟨0, Nat.zero_le _, rfl, rfl, ⟨W0, hst.out⟩, rfl⟩
  case round =>
    obtain ⟨k, hk, rfl, HF, y, rfl⟩ := hrel
    by_cases hlt : k < l.length
    · obtain ⟨g, rfl, hg, x⟩ := HK.out k hlt
      obtain ⟨e0, e1, e2, e3, e4⟩ := (x.below y.below hg).seg
      obtain ⟨W1, hW1, c10, c11, c12, c13, c14, hBl1⟩ := seg_box y.w (atK segK l k).fr (atK segK l k).to (atK segK l k).cal (atK segK l k).sty (atK segK l k).off 90
      have hY : ∀ z : Later W1, Below W0.heap.size W0 z.w := fun z => y.on (hBl1 z)
      have D1 : ∀ z : Later W1, z.w.cell? ⟨w.heap.size, 1, none⟩ = some (.int .i64 f) := fun z => d1 ⟨z.w, hY z⟩
      have D2 : ∀ z : Later W1, z.w.cell? ⟨w.heap.size, 2, none⟩ = some (.int .i64 t) := fun z => d2 ⟨z.w, hY z⟩
      have D3 : ∀ z : Later W1, z.w.cell? ⟨w.heap.size, 3, none⟩ = some (.slice (some ⟨g, 0, none⟩) l.length c1) := fun z => d3 ⟨z.w, hY z⟩
      have HP : Hid (∀ j, k = j + 1 → ∀ z : Later W1, z.w.cell? ⟨g, j * 5, none⟩ = some (.int .i64 (atK segK l j).fr)) := fun j e z => by
        obtain ⟨g', e', hg', x'⟩ := HK.out j (by omega)
        cases e'
        exact ((x'.below (hY z) hg').seg).1
      have F1 := hideP (fun h => segs_bad (f := f) (t := t) (k := k) (fit_no1 h) hlt)
      have F2 := hideP (fun h => segs_bad (f := f) (t := t) (k := k) (fit_no2 h) hlt)
      have F3 := hideP (fun h => segs_bad (f := f) (t := t) (k := k) (fit_no3 h) hlt)
      have F4 := hideP (fun (j : Nat) (e : k = j + 1) h => segs_bad (f := f) (t := t) (k := k) (fit_no4 e h) hlt)
      have F5 := hideP (fun h1 h2 h3 h4 => allTo_next HF.out (fit_yes (f := f) (t := t) (k := k) h1 h2 h3 h4))
      have HW1 := hideP hW1
      have HY := hideP hY
      clear x hW1 hBl1 hY
      generalize atK segK l k = s at *
      have KO : Hid (∀ W, Calls Tryz.prog 136 #[.agg #[.int .i64 s.fr, .int .i64 s.to, .int .i64 s.cal, .int .i64 s.sty, .int .i64 s.off]] W fun e w' => e = .returned (.bool (segOkB s)) ∧ Below W.heap.size W w') := fun W => implSegOk s W
      generalize segOkB s = b1 at *
      go_wp2_with fail
      rw [← HW1.out]
      refine (KO.out _).mono ?_
      rintro e w2 ⟨rfl, hb⟩
      obtain ⟨z, rfl⟩ := Later.of hb
      clear hb e0 e1 e2 e3 e4
      cases b1
      · have HR := hideP (F1.out rfl)
        go_wp2
        go_ret
        exact ⟨ret_bool HR.out.symm, HBl.out ⟨z.w, HY.out z⟩⟩
      by_cases h2 : f ≤ s.fr
      case neg =>
        have HR := hideP (F2.out (by omega))
        have q3 : s.fr < f := by omega
        go_wp2
        go_ret
        exact ⟨ret_bool HR.out.symm, HBl.out ⟨z.w, HY.out z⟩⟩
      have q3 : decide (s.fr < f) = false := decide_eq_false (by omega)
      by_cases h3 : s.to ≤ t
      case neg =>
        have HR := hideP (F3.out (by omega))
        have q4 : t < s.to := by omega
        go_wp2
        go_ret
        exact ⟨ret_bool HR.out.symm, HBl.out ⟨z.w, HY.out z⟩⟩
      have q4 : decide (t < s.to) = false := decide_eq_false (by omega)
      obtain rfl | ⟨j, rfl⟩ : k = 0 ∨ ∃ j, k = j + 1 := by cases k with | zero => exact .inl rfl | succ j => exact .inr ⟨j, rfl⟩
      · have HN := hideP (F5.out rfl h2 h3 (fun j e => by omega))
        go_wp2_with fail
        refine wp_region_later (W := W1) z.below (by kernel_rfl) (by kernel_rfl) ?_
        repeat (go_big_quiet_step (fail))
        refine wpQuiet_nil ?_
        intro _ hw'
        obtain ⟨u, rfl⟩ := hw'
        go_wp2
        exact ⟨⟨0 + 1, by omega, by go_num, HN.out, ⟨u.w, HY.out u⟩, rfl⟩, by simp [intOf]; omega⟩
      · have e5 := HP.out j rfl
        have G4 := hideP (F4.out j rfl)
        have G5 := hideP (fun (h4 : (atK segK l j).fr < s.fr) => F5.out rfl h2 h3 (fun i e => (show i = j from by omega) ▸ h4))
        have hj0 : decide ((0 : Int) < (j : Int) + 1) = true := decide_eq_true (by omega)
        clear HP F1 F2 F3 F4 F5
        generalize (atK segK l j).fr = P at *
        by_cases h4 : P < s.fr
        case neg =>
          have HR := hideP (G4.out (by omega))
          have q5 : decide (s.fr ≤ P) = true := decide_eq_true (by omega)
          go_wp2_with fail
          refine wp_region_later (W := W1) z.below (by kernel_rfl) (by kernel_rfl) ?_
          repeat (go_big_quiet_step (fail))
          refine wpQuiet_nil ?_
          intro _ hw'
          obtain ⟨u, rfl⟩ := hw'
          go_wp2
          go_ret
          exact ⟨ret_bool HR.out.symm, HBl.out ⟨u.w, HY.out u⟩⟩
        have HN := hideP (G5.out h4)
        have q5 : decide (s.fr ≤ P) = false := decide_eq_false (by omega)
        go_wp2_with fail
        refine wp_region_later (W := W1) z.below (by kernel_rfl) (by kernel_rfl) ?_
        repeat (go_big_quiet_step (fail))
        refine wpQuiet_nil ?_
        intro _ hw'
        obtain ⟨u, rfl⟩ := hw'
        go_wp2
        exact ⟨⟨j + 1 + 1, by omega, by go_num, HN.out, ⟨u.w, HY.out u⟩, rfl⟩, by simp [intOf]; omega⟩
    · have hkn : k = l.length := by omega
      have HA : Hid (allTo (segFit f t l) l.length = true) := by rw [← hkn]; exact HF
      have HR := hideP (segs_end HI.out HA.out)
      have KC := hideP (KT.out y (by omega) (segs_days HA.out))
      clear KT HF
      subst hkn
      generalize tilesZ f t l = Z at *
      go_wp2_with fail
      refine KC.out.mono ?_
      rintro e w2 ⟨rfl, hb⟩
      have HB2 : Hid (Below w.heap.size w w2) := HBl.out ⟨w2, y.on hb⟩
      clear hb
      by_cases hz : Z = 0
      · subst hz
        go_wp2
        go_ret
        exact ⟨ret_bool (by rw [HR.out]; rfl), HB2.out⟩
      · have hz' : (Z == 0) = false := by simp [hz]
        have HR2 : Hid (segsB f t l = false) := by unfold Hid; rw [HR.out]; exact decide_eq_false hz
        go_wp2
        go_ret
        exact ⟨ret_bool HR2.out.symm, HB2.out⟩
set_option maxRecDepth 100000 in
set_option maxHeartbeats 2000000 in
theorem implPatchesOk (v : Value) (r : Rgm) (w : World) (h : GRow w v r) : Calls Tryz.prog 106 #[v] w fun e w' => e = .returned (.bool (patsB r.fr r.to r.pats)) ∧ Below w.heap.size w w' := by
  obtain ⟨nm, f, t, ss, l, rs, ru⟩ := r
  obtain ⟨v1, v2, v3, rfl, _, x1, x2, x3⟩ := h
  dsimp only at x1 x2 x3
  obtain ⟨W0, hW0, d0, d1, d2, d3, d4, d5, d6, hBl⟩ := seven_box w (.string nm) (.int .i64 f) (.int .i64 t) v1 v2 v3 (.int .i64 ru) 40
  have hrow := x2.below (hBl ⟨W0, Below.refl _ _⟩)
  obtain ⟨a1, c1, rfl, _⟩ := x1
  obtain ⟨a2, c2, rfl, _⟩ := x2
  obtain ⟨a3, c3, rfl, _⟩ := x3
  obtain ⟨a, c, ev, hl, hm, H⟩ := hrow
  cases ev
  have HK := hideP H
  have HW0 := hideP hW0
  have HBl := hideP hBl
  unfold maxLen at hm
  dsimp only
  clear H hW0 hBl
  by_cases n2 : 8 < l.length
  · have HR : Hid (patsB f t l = false) := by unfold Hid patsB; rw [decide_eq_false (by omega), Bool.false_and]
    have q2 : (8 : Int) < (l.length : Int) := by omega
    go_enter Tryz.func106, Tryz.ntmps106
    go_wp2
    rw [← HW0.out]
    go_ret
    exact ⟨ret_bool HR.out.symm, HBl.out ⟨W0, Below.refl _ _⟩⟩
  have q2 : decide ((8 : Int) < (l.length : Int)) = false := decide_eq_false (by omega)
  have HI : Hid (decide ((l.length : Int) ≤ 8) = true) := decide_eq_true (by omega)
  have hst : Hid (Below W0.heap.size W0 W0) := Below.refl _ _
  go_enter Tryz.func106, Tryz.ntmps106
  go_wp2
  rw [← HW0.out]
  go_loopw [12] (fun i wr => ∃ k : Nat, k ≤ l.length ∧ i = .int .i64 (k : Int) ∧ Hid (allTo (patFit f t l) k = true) ∧ ∃ y : Later W0, wr = y.w) (fun i _ => l.length - (intOf i).toNat)
  case atStart => exact ⟨0, Nat.zero_le _, rfl, rfl, ⟨W0, hst.out⟩, rfl⟩
  case round =>
    obtain ⟨k, hk, rfl, HF, y, rfl⟩ := hrel
    by_cases hlt : k < l.length
    · obtain ⟨g, rfl, hg, x⟩ := HK.out k hlt
      obtain ⟨e0, e1, e2⟩ := (x.below y.below hg).pat
      obtain ⟨W1, hW1, c10, c11, c12, hBl1⟩ := pat_box y.w (atK patK l k).day (atK patK l k).mon (atK patK l k).dom 120
      have hY : ∀ z : Later W1, Below W0.heap.size W0 z.w := fun z => y.on (hBl1 z)
      have D1 : ∀ z : Later W1, z.w.cell? ⟨w.heap.size, 1, none⟩ = some (.int .i64 f) := fun z => d1 ⟨z.w, hY z⟩
      have D2 : ∀ z : Later W1, z.w.cell? ⟨w.heap.size, 2, none⟩ = some (.int .i64 t) := fun z => d2 ⟨z.w, hY z⟩
      have D3 : ∀ z : Later W1, z.w.cell? ⟨w.heap.size, 4, none⟩ = some (.slice (some ⟨g, 0, none⟩) l.length c2) := fun z => d4 ⟨z.w, hY z⟩
      have HP : Hid (∀ j, k = j + 1 → ∀ z : Later W1, z.w.cell? ⟨g, j * 3, none⟩ = some (.int .i64 (atK patK l j).day)) := fun j e z => by
        obtain ⟨g', e', hg', x'⟩ := HK.out j (by omega)
        cases e'
        exact ((x'.below (hY z) hg').pat).1
      have F1 := hideP (fun h => pats_bad (f := f) (t := t) (k := k) (pfit_no1 h) hlt)
      have F2 := hideP (fun h => pats_bad (f := f) (t := t) (k := k) (pfit_no2 h) hlt)
      have F4 := hideP (fun (j : Nat) (e : k = j + 1) h => pats_bad (f := f) (t := t) (k := k) (pfit_no4 e h) hlt)
      have F5 := hideP (fun h1 h2 h4 => allTo_next HF.out (pfit_yes (f := f) (t := t) (k := k) h1 h2 h4))
      have HW1 := hideP hW1
      have HY := hideP hY
      clear x hW1 hBl1 hY
      generalize atK patK l k = s at *
      have KO : Hid (∀ W, Calls Tryz.prog 138 #[.agg #[.int .i64 s.day, .int .i64 s.mon, .int .i64 s.dom]] W fun e w' => e = .returned (.bool (patB s)) ∧ Below W.heap.size W w') := fun W => implPatchOk s W
      generalize patB s = b1 at *
      go_wp2_with fail
      rw [← HW1.out]
      refine (KO.out _).mono ?_
      rintro e w2 ⟨rfl, hb⟩
      obtain ⟨z, rfl⟩ := Later.of hb
      clear hb e0 e1 e2
      cases b1
      · have HR := hideP (F1.out rfl)
        go_wp2
        go_ret
        exact ⟨ret_bool HR.out.symm, HBl.out ⟨z.w, HY.out z⟩⟩
      by_cases h2 : f ≤ s.day
      case neg =>
        have HR := hideP (F2.out (inB_false (.inl (by omega))))
        have q3 : s.day < f := by omega
        go_wp2
        go_ret
        exact ⟨ret_bool HR.out.symm, HBl.out ⟨z.w, HY.out z⟩⟩
      have q3 : decide (s.day < f) = false := decide_eq_false (by omega)
      by_cases h3 : s.day ≤ t
      case neg =>
        have HR := hideP (F2.out (inB_false (.inr (by omega))))
        have q4 : t < s.day := by omega
        go_wp2
        go_ret
        exact ⟨ret_bool HR.out.symm, HBl.out ⟨z.w, HY.out z⟩⟩
      have q4 : decide (t < s.day) = false := decide_eq_false (by omega)
      obtain rfl | ⟨j, rfl⟩ : k = 0 ∨ ∃ j, k = j + 1 := by cases k with | zero => exact .inl rfl | succ j => exact .inr ⟨j, rfl⟩
      · have HN := hideP (F5.out rfl (inB_true h2 h3) (fun j e => by omega))
        go_wp2_with fail
        refine wp_region_later (W := W1) z.below (by kernel_rfl) (by kernel_rfl) ?_
        repeat (go_big_quiet_step (fail))
        refine wpQuiet_nil ?_
        intro _ hw'
        obtain ⟨u, rfl⟩ := hw'
        go_wp2
        exact ⟨⟨0 + 1, by omega, by go_num, HN.out, ⟨u.w, HY.out u⟩, rfl⟩, by simp [intOf]; omega⟩
      · have e5 := HP.out j rfl
        have G4 := hideP (F4.out j rfl)
        have G5 := hideP (fun (h4 : (atK patK l j).day < s.day) => F5.out rfl (inB_true h2 h3) (fun i e => (show i = j from by omega) ▸ h4))
        have hj0 : decide ((0 : Int) < (j : Int) + 1) = true := decide_eq_true (by omega)
        clear HP F1 F2 F4 F5
        generalize (atK patK l j).day = P at *
        by_cases h4 : P < s.day
        case neg =>
          have HR := hideP (G4.out (by omega))
          have q5 : decide (s.day ≤ P) = true := decide_eq_true (by omega)
          go_wp2_with fail
          refine wp_region_later (W := W1) z.below (by kernel_rfl) (by kernel_rfl) ?_
          repeat (go_big_quiet_step (fail))
          refine wpQuiet_nil ?_
          intro _ hw'
          obtain ⟨u, rfl⟩ := hw'
          go_wp2
          go_ret
          exact ⟨ret_bool HR.out.symm, HBl.out ⟨u.w, HY.out u⟩⟩
        have HN := hideP (G5.out h4)
        have q5 : decide (s.day ≤ P) = false := decide_eq_false (by omega)
        go_wp2_with fail
        refine wp_region_later (W := W1) z.below (by kernel_rfl) (by kernel_rfl) ?_
        repeat (go_big_quiet_step (fail))
        refine wpQuiet_nil ?_
        intro _ hw'
        obtain ⟨u, rfl⟩ := hw'
        go_wp2
        exact ⟨⟨j + 1 + 1, by omega, by go_num, HN.out, ⟨u.w, HY.out u⟩, rfl⟩, by simp [intOf]; omega⟩
    · have hkn : k = l.length := by omega
      have HA : Hid (allTo (patFit f t l) l.length = true) := by rw [← hkn]; exact HF
      have HR : Hid (patsB f t l = true) := (pats_end HA.out).trans HI.out
      clear HF
      subst hkn
      go_wp2
      go_ret
      exact ⟨ret_bool HR.out.symm, HBl.out y⟩
end Go.Proofs.YtdgolaaheakfoaaGreatDoor.ctr
