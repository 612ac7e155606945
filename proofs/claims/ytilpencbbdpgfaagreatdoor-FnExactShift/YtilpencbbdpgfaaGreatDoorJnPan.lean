/- Contract of the model's ReignsOk: it answers its plain function. A regime's plain check: which segments, which patches, which rules are right. Regions that draw their order, walked in pieces: a first piece whose operations are quiet in a class of worlds and behind which alone the others come up ('any_prefix'); and three moves beside a call whose answer hangs on the world ('any_call'). -/
import Derived.Test.YtilpencbbdpgfaaGreatDoorJnPam
import Derived.Test.YtilpencbbdpgfaaGreatDoorJnPad
import Derived.Test.YtilpencbbdpgfaaGreatDoorJnPai
import Derived.Test.YtilpencbbdpgfaaGreatDoorJnPaa
namespace Go.Proofs.YtilpencbbdpgfaaGreatDoor.ctr
open Go.RowKit
set_option maxRecDepth 100000 in
set_option maxHeartbeats 4000000 in
theorem specReignsOk (v : Value) (l : List Rgn) (w : World) (h : RRow w v l) : Calls Tryz.prog 104 #[v] w fun e w' => e = .returned (.bool (reignsOk l)) ∧ Below w.heap.size w w' := by
  obtain ⟨a, c, rfl, hl, hm, hn, H⟩ := h
  have K := hideP H
  have HN := hideP hn
  unfold maxLen at hm
  clear H hn
  go_enter Tryz.func104, Tryz.ntmps104
  go_wp2
  go_loopw [3] (fun i wr => ∃ k : Nat, k ≤ l.length ∧ i = .int .i64 (k : Int) ∧ Hid (okTo l k = true) ∧ Below w.heap.size w wr) (fun i _ => l.length - (intOf i).toNat)
  case atStart => exact ⟨0, Nat.zero_le _, rfl, rfl, Below.refl _ _⟩
  case round =>
    obtain ⟨k, hk, rfl, HF, hB⟩ := hrel
    have HB := hideP hB
    clear hB
    by_cases hlt : k < l.length
    · obtain ⟨g, rfl, hg, x⟩ := K.out k hlt
      obtain ⟨a0, a1, a2⟩ := x.below HB.out hg
      have hnk := HN.out k hlt
      obtain ⟨W0, hW0, c0, c1, c2, hBl⟩ := rgn_box wr (rgA l k).name (rgA l k).fr (rgA l k).to 142
      have hBw : ∀ y : Later W0, Below w.heap.size w y.w := fun y => HB.out.trans ((hBl y).mono HB.out.size)
      have KM : Hid (∀ m, m < k → ∀ y : Later W0, y.w.cell? ⟨g, m * 3, none⟩ = some (.string (rgA l m).name) ∧ y.w.cell? ⟨g, m * 3 + 2, none⟩ = some (.int .i64 (rgA l m).to)) := fun m hmk y => by
        obtain ⟨g', e, hg', z⟩ := K.out m (by omega)
        cases e
        exact ⟨(z.below (hBw y) hg').1, (z.below (hBw y) hg').2.2⟩
      have KN : ∀ y : Later W0, Calls Tryz.prog 100 #[.string (rgA l k).name] y.w fun e w' => e = .returned (.bool (nameOk (rgA l k).name)) ∧ w' = y.w := fun y => specNameOk _ y.w hnk
      have KF : ∀ y : Later W0, Calls Tryz.prog 168 #[.int .i64 (rgA l k).fr] y.w fun e w' => e = .returned (.bool (bothB (rgA l k).fr)) ∧ Below y.w.heap.size y.w w' := fun y => specDated _ y.w
      have KT : ∀ y : Later W0, Calls Tryz.prog 168 #[.int .i64 (rgA l k).to] y.w fun e w' => e = .returned (.bool (bothB (rgA l k).to)) ∧ Below y.w.heap.size y.w w' := fun y => specDated _ y.w
      have J1 := hideP (fun h => okTo_next HF.out (k := k) h)
      have J2 := hideP (fun h => ok_bad (k := k) h hlt)
      have HK : Hid (okAt l k = ((nameOk (rgA l k).name && (decide ((rgA l k).fr ≤ (rgA l k).to) && (bothB (rgA l k).fr && bothB (rgA l k).to))) && (behB (l.take k) (rgA l k).fr && decide (namedR (l.take k) (rgA l k).name = -1)))) := rfl
      have HW0 := hideP hW0
      have HBw := hideP hBw
      have HBH := hideP (behB_take (Nat.le_of_lt hlt) (rgA l k).fr)
      clear x hnk hW0 hBl hBw
      generalize rgA l k = r at *
      obtain ⟨nm, f, t⟩ := r
      dsimp only at a0 a1 a2 c0 c1 c2 KN KF KT HK HBH HW0
      generalize nameOk nm = b1 at *
      generalize hb2 : bothB f = b2 at *
      generalize hb3 : bothB t = b3 at *
      have HX : Hid (okAt l k = false → reignsOk l = false) := J2.out
      clear hb2 hb3
      cases b1
      · have _u := hlt
        have HR := hideP (HX.out (by rw [HK.out]; rfl))
        go_wp2_with fail
        rw [← HW0.out]
        refine wp_region_later (W := W0) (Below.refl _ _) (by kernel_rfl) (by kernel_rfl) ?_
        repeat (go_big_quiet_step (first | (go_at_call 100; exact calls_same (KN _)) | (go_at_call_of 168 f; exact calls_later (KF _)) | (go_at_call_of 168 t; exact calls_later (KT _)) | fail))
        refine wpQuiet_nil ?_
        intro _ hw'
        obtain ⟨y, rfl⟩ := hw'
        go_wp2
        go_ret
        exact ⟨ret_bool HR.out.symm, HBw.out y⟩
      by_cases hft : f ≤ t
      case neg =>
        have hd : decide (t < f) = true := decide_eq_true (by omega)
        have HR := hideP (HX.out (by rw [HK.out]; rw [decide_eq_false hft]; rfl))
        go_wp2_with fail
        rw [← HW0.out]
        refine wp_region_later (W := W0) (Below.refl _ _) (by kernel_rfl) (by kernel_rfl) ?_
        repeat (go_big_quiet_step (first | (go_at_call 100; exact calls_same (KN _)) | (go_at_call_of 168 f; exact calls_later (KF _)) | (go_at_call_of 168 t; exact calls_later (KT _)) | fail))
        refine wpQuiet_nil ?_
        intro _ hw'
        obtain ⟨y, rfl⟩ := hw'
        go_wp2
        go_ret
        exact ⟨ret_bool HR.out.symm, HBw.out y⟩
      have hd : decide (t < f) = false := decide_eq_false (by omega)
      cases b2
      · have _u := hlt
        have HR := hideP (HX.out (by rw [HK.out]; rw [decide_eq_true hft]; rfl))
        go_wp2_with fail
        rw [← HW0.out]
        refine wp_region_later (W := W0) (Below.refl _ _) (by kernel_rfl) (by kernel_rfl) ?_
        repeat (go_big_quiet_step (first | (go_at_call 100; exact calls_same (KN _)) | (go_at_call_of 168 f; exact calls_later (KF _)) | (go_at_call_of 168 t; exact calls_later (KT _)) | fail))
        refine wpQuiet_nil ?_
        intro _ hw'
        obtain ⟨y, rfl⟩ := hw'
        go_wp2
        go_ret
        exact ⟨ret_bool HR.out.symm, HBw.out y⟩
      cases b3
      · have _u := hlt
        have HR := hideP (HX.out (by rw [HK.out]; rw [decide_eq_true hft]; rfl))
        go_wp2_with fail
        rw [← HW0.out]
        refine wp_region_later (W := W0) (Below.refl _ _) (by kernel_rfl) (by kernel_rfl) ?_
        repeat (go_big_quiet_step (first | (go_at_call 100; exact calls_same (KN _)) | (go_at_call_of 168 f; exact calls_later (KF _)) | (go_at_call_of 168 t; exact calls_later (KT _)) | fail))
        refine wpQuiet_nil ?_
        intro _ hw'
        obtain ⟨y, rfl⟩ := hw'
        go_wp2
        go_ret
        exact ⟨ret_bool HR.out.symm, HBw.out y⟩
      have HK2 : Hid (okAt l k = (behB (l.take k) f && decide (namedR (l.take k) nm = -1))) := by unfold Hid; rw [HK.out, decide_eq_true hft]; rfl
      clear HK
      obtain rfl | ⟨j, rfl⟩ : k = 0 ∨ ∃ j, k = j + 1 := by cases k with | zero => exact .inl rfl | succ j => exact .inr ⟨j, rfl⟩
      · have HBE : Hid (behB (l.take 0) f = true) := by unfold Hid; rw [HBH.out]; rfl
        go_wp2_with fail
        rw [← HW0.out]
        refine wp_region_later (W := W0) (Below.refl _ _) (by kernel_rfl) (by kernel_rfl) ?_
        repeat (go_big_quiet_step (first | (go_at_call 100; exact calls_same (KN _)) | (go_at_call_of 168 f; exact calls_later (KF _)) | (go_at_call_of 168 t; exact calls_later (KT _)) | fail))
        refine wpQuiet_nil ?_
        intro _ hw'
        obtain ⟨y, rfl⟩ := hw'
        go_wp2_with fail
        go_loopw [5] (fun q wq => ∃ m : Nat, m ≤ 0 ∧ q = .int .i64 (m : Int) ∧ Hid (rfFrom (isNamed nm) ((l.take (0)).drop m) m = namedR (l.take (0)) nm) ∧ Below W0.heap.size W0 wq) (fun q _ => 0 - (intOf q).toNat)
        case atStart => exact ⟨0, Nat.zero_le _, rfl, rfl, y.below⟩
        case round =>
          obtain ⟨m, hmk, rfl, HG, hC⟩ := hrel
          have HC := hideP hC
          clear hC
          have hlen : (l.take (0)).length = 0 := by rw [List.length_take]; omega
          have HLn := hideP hlen
          clear hlen
          have GN := hideP (rf_end (by rw [HLn.out]; omega) HG.out)
          obtain rfl : m = 0 := by omega
          have HR := hideP (J1.out (by rw [HK2.out, GN.out, HBE.out]; rfl))
          have HCw : Hid (Below w.heap.size w wr) := HBw.out ⟨wr, HC.out⟩
          go_wp2
          exact ⟨⟨0 + 1, by omega, by go_num, HR.out, HCw.out⟩, by simp [intOf]; omega⟩
      · obtain ⟨_, q2⟩ : _ ∧ (∀ y : Later W0, y.w.cell? ⟨g, j * 3 + 2, none⟩ = some (.int .i64 (rgA l j).to)) := ⟨trivial, fun y => (KM.out j (by omega) y).2⟩
        have HBH2 : Hid (behB (l.take (j + 1)) f = decide ((rgA l j).to < f)) := by unfold Hid; rw [HBH.out, decide_eq_false (by omega)]; rfl
        clear HBH
        generalize (rgA l j).to = T at *
        have hj0 : decide ((0 : Int) < (j : Int) + 1) = true := decide_eq_true (by omega)
        by_cases hTf : T < f
        case neg =>
          have hd2 : decide (f ≤ T) = true := decide_eq_true (by omega)
          have HR := hideP (HX.out (by rw [HK2.out, HBH2.out, decide_eq_false hTf]; rfl))
          go_wp2_with fail
          rw [← HW0.out]
          refine wp_region_later (W := W0) (Below.refl _ _) (by kernel_rfl) (by kernel_rfl) ?_
          repeat (go_big_quiet_step (first | (go_at_call 100; exact calls_same (KN _)) | (go_at_call_of 168 f; exact calls_later (KF _)) | (go_at_call_of 168 t; exact calls_later (KT _)) | fail))
          refine wpQuiet_nil ?_
          intro _ hw'
          obtain ⟨y, rfl⟩ := hw'
          go_wp2
          go_ret
          exact ⟨ret_bool HR.out.symm, HBw.out y⟩
        have hd2 : decide (f ≤ T) = false := decide_eq_false (by omega)
        have HBE : Hid (behB (l.take (j + 1)) f = true) := by unfold Hid; rw [HBH2.out, decide_eq_true hTf]
        go_wp2_with fail
        rw [← HW0.out]
        refine wp_region_later (W := W0) (Below.refl _ _) (by kernel_rfl) (by kernel_rfl) ?_
        repeat (go_big_quiet_step (first | (go_at_call 100; exact calls_same (KN _)) | (go_at_call_of 168 f; exact calls_later (KF _)) | (go_at_call_of 168 t; exact calls_later (KT _)) | fail))
        refine wpQuiet_nil ?_
        intro _ hw'
        obtain ⟨y, rfl⟩ := hw'
        go_wp2_with fail
        go_loopw [5] (fun q wq => ∃ m : Nat, m ≤ (j + 1) ∧ q = .int .i64 (m : Int) ∧ Hid (rfFrom (isNamed nm) ((l.take ((j + 1))).drop m) m = namedR (l.take ((j + 1))) nm) ∧ Below W0.heap.size W0 wq) (fun q _ => (j + 1) - (intOf q).toNat)
        case atStart => exact ⟨0, Nat.zero_le _, rfl, rfl, y.below⟩
        case round =>
          obtain ⟨m, hmk, rfl, HG, hC⟩ := hrel
          have HC := hideP hC
          clear hC
          have hlen : (l.take ((j + 1))).length = (j + 1) := by rw [List.length_take]; omega
          have HLn := hideP hlen
          clear hlen
          by_cases hml : m < (j + 1)
          · have e0 := fun y => (KM.out m hml y).1
            have G1 := hideP (fun h => rf_hit (p := isNamed nm) (by rw [HLn.out]; exact hml) h HG.out)
            have G2 := hideP (fun h => rf_miss (p := isNamed nm) (by rw [HLn.out]; exact hml) h HG.out)
            rw [rgA_take hml] at G1 G2
            generalize rgA l m = r2 at *
            cases hq : (r2.name.toList == nm.toList)
            · have GN := hideP (G2.out (decide_eq_false (str_ne hq)))
              go_wp2_with fail
              refine wp_region_later (W := W0) HC.out (by kernel_rfl) (by kernel_rfl) ?_
              repeat (go_big_quiet_step (fail))
              refine wpQuiet_nil ?_
              intro _ hw'
              obtain ⟨y2, rfl⟩ := hw'
              go_wp2
              exact ⟨⟨m + 1, by omega, by go_num, GN.out, y2.below⟩, by simp [intOf]; omega⟩
            · have GN := hideP (G1.out (decide_eq_true (str_eq hq)))
              have HR := hideP (HX.out (by rw [HK2.out, GN.out, decide_eq_false (by omega), Bool.and_false]))
              go_wp2_with fail
              refine wp_region_later (W := W0) HC.out (by kernel_rfl) (by kernel_rfl) ?_
              repeat (go_big_quiet_step (fail))
              refine wpQuiet_nil ?_
              intro _ hw'
              obtain ⟨y2, rfl⟩ := hw'
              go_wp2
              go_ret
              exact ⟨ret_bool HR.out.symm, HBw.out y2⟩
          · have GN := hideP (rf_end (by rw [HLn.out]; omega) HG.out)
            have HR := hideP (J1.out (by rw [HK2.out, GN.out, HBE.out]; rfl))
            have HCw : Hid (Below w.heap.size w wr) := HBw.out ⟨wr, HC.out⟩
            go_wp2
            exact ⟨⟨(j + 1) + 1, by omega, by go_num, HR.out, HCw.out⟩, by simp [intOf]; omega⟩
    · have hkn : k = l.length := by omega
      have HR := hideP (ok_all (by rw [← hkn]; exact HF.out))
      subst hkn
      go_wp2
      go_ret
      exact ⟨ret_bool (by rw [HR.out]; exact decide_eq_decide.2 (by omega)), HB.out⟩
end Go.Proofs.YtilpencbbdpgfaaGreatDoor.ctr
namespace Go.Proofs.YtilpencbbdpgfaaGreatDoor.ctr
open Go.RowKit
def allTo (p : Nat → Bool) (k : Nat) : Bool := (List.range k).all p
theorem allTo_next {p : Nat → Bool} {k : Nat} (h : allTo p k = true) (hk : p k = true) : allTo p (k + 1) = true := by
  unfold allTo at *
  rw [List.range_succ, List.all_append, h]
  simp [hk]
theorem allTo_bad {p : Nat → Bool} {k n : Nat} (hk : p k = false) (h : k < n) : allTo p n = false := by
  unfold allTo
  rw [List.all_eq_false]
  exact ⟨k, List.mem_range.2 h, by rw [hk]; simp⟩
theorem allTo_at {p : Nat → Bool} {k n : Nat} (h : allTo p n = true) (hk : k < n) : p k = true := by
  unfold allTo at h
  exact List.all_eq_true.1 h k (List.mem_range.2 hk)
def segFit (f t : Int) (l : List Seg) (k : Nat) : Bool := segOkB (atK segK l k) && (decide (f ≤ (atK segK l k).fr) && (decide ((atK segK l k).to ≤ t) && (decide (k = 0) || decide ((atK segK l (k - 1)).fr < (atK segK l k).fr))))
noncomputable def segsB (f t : Int) (l : List Seg) : Bool := inB l.length 1 20 && (allTo (segFit f t l) l.length && decide (tilesZ f t l = 0))
theorem segs_short {f t : Int} {l : List Seg} (h : inB l.length 1 20 = false) : segsB f t l = false := by unfold segsB; rw [h, Bool.false_and]
theorem segs_bad {f t : Int} {l : List Seg} {k : Nat} (h : segFit f t l k = false) (hk : k < l.length) : segsB f t l = false := by unfold segsB; rw [allTo_bad h hk, Bool.false_and, Bool.and_false]
theorem segs_end {f t : Int} {l : List Seg} (h : inB l.length 1 20 = true) (ha : allTo (segFit f t l) l.length = true) : segsB f t l = decide (tilesZ f t l = 0) := by unfold segsB; rw [h, ha, Bool.true_and, Bool.true_and]
theorem segFit_ok {f t : Int} {l : List Seg} {k : Nat} (h : segFit f t l k = true) : segOkB (atK segK l k) = true ∧ f ≤ (atK segK l k).fr ∧ (atK segK l k).to ≤ t := by
  unfold segFit at h
  simp only [Bool.and_eq_true, decide_eq_true_eq] at h
  exact ⟨h.1, h.2.1, h.2.2.1⟩
theorem segOk_days {s : Seg} (h : segOkB s = true) : s.fr ≤ s.to ∧ 400 ≤ s.to := by
  unfold segOkB at h
  simp only [Bool.and_eq_true, decide_eq_true_eq] at h
  refine ⟨h.2.2.1, ?_⟩
  by_cases hs : 400 ≤ s.to
  · exact hs
  · have := h.2.1; unfold dayB at this; rw [inB_false (.inl (by omega))] at this; cases this
theorem segs_days {f t : Int} {l : List Seg} (ha : allTo (segFit f t l) l.length = true) : ∀ s ∈ l, -9223372036854775808 ≤ s.to := by
  intro s hs
  obtain ⟨i, hi, rfl⟩ := List.mem_iff_getElem.1 hs
  have h := (segOk_days (segFit_ok (allTo_at ha hi)).1).2
  rw [atK_eq hi] at h
  omega
theorem segs_order {f t : Int} {l : List Seg} (h : ¬ f ≤ t) : segsB f t l = false := by
  cases hb : inB l.length 1 20
  · exact segs_short hb
  have hl : 0 < l.length := by
    by_cases hl : 0 < l.length
    · exact hl
    · rw [inB_false (.inl (by omega))] at hb; cases hb
  cases hs : segFit f t l 0
  · exact segs_bad hs hl
  · have := segFit_ok hs; have := segOk_days this.1; omega
theorem segFit_zero {f t : Int} {l : List Seg} : segFit f t l 0 = (segOkB (atK segK l 0) && (decide (f ≤ (atK segK l 0).fr) && (decide ((atK segK l 0).to ≤ t) && true))) := rfl
theorem segFit_succ {f t : Int} {l : List Seg} {j : Nat} : segFit f t l (j + 1) = (segOkB (atK segK l (j + 1)) && (decide (f ≤ (atK segK l (j + 1)).fr) && (decide ((atK segK l (j + 1)).to ≤ t) && decide ((atK segK l j).fr < (atK segK l (j + 1)).fr)))) := by
  unfold segFit
  rw [decide_eq_false (p := j + 1 = 0) (by omega), Bool.false_or]
  rfl
def patB (p : Pat) : Bool := inB p.mon 1 12 && inB p.dom 1 31
def patFit (f t : Int) (l : List Pat) (k : Nat) : Bool := patB (atK patK l k) && (inB (atK patK l k).day f t && (decide (k = 0) || decide ((atK patK l (k - 1)).day < (atK patK l k).day)))
def patsB (f t : Int) (l : List Pat) : Bool := decide ((l.length : Int) ≤ 8) && allTo (patFit f t l) l.length
theorem pats_bad {f t : Int} {l : List Pat} {k : Nat} (h : patFit f t l k = false) (hk : k < l.length) : patsB f t l = false := by unfold patsB; rw [allTo_bad h hk, Bool.and_false]
theorem pats_end {f t : Int} {l : List Pat} (ha : allTo (patFit f t l) l.length = true) : patsB f t l = decide ((l.length : Int) ≤ 8) := by unfold patsB; rw [ha, Bool.and_true]
theorem patFit_zero {f t : Int} {l : List Pat} : patFit f t l 0 = (patB (atK patK l 0) && (inB (atK patK l 0).day f t && true)) := rfl
theorem patFit_succ {f t : Int} {l : List Pat} {j : Nat} : patFit f t l (j + 1) = (patB (atK patK l (j + 1)) && (inB (atK patK l (j + 1)).day f t && decide ((atK patK l j).day < (atK patK l (j + 1)).day))) := by
  unfold patFit
  rw [decide_eq_false (p := j + 1 = 0) (by omega), Bool.false_or]
  rfl
theorem fit_no1 {f t : Int} {l : List Seg} {k : Nat} (h : segOkB (atK segK l k) = false) : segFit f t l k = false := by unfold segFit; rw [h, Bool.false_and]
theorem fit_no2 {f t : Int} {l : List Seg} {k : Nat} (h : (atK segK l k).fr < f) : segFit f t l k = false := by unfold segFit; rw [decide_eq_false (by omega : ¬ f ≤ (atK segK l k).fr), Bool.false_and, Bool.and_false]
theorem fit_no3 {f t : Int} {l : List Seg} {k : Nat} (h : t < (atK segK l k).to) : segFit f t l k = false := by unfold segFit; rw [decide_eq_false (by omega : ¬ (atK segK l k).to ≤ t), Bool.false_and, Bool.and_false, Bool.and_false]
theorem fit_no4 {f t : Int} {l : List Seg} {k j : Nat} (e : k = j + 1) (h : (atK segK l k).fr ≤ (atK segK l j).fr) : segFit f t l k = false := by subst e; rw [segFit_succ, decide_eq_false (by omega : ¬ (atK segK l j).fr < (atK segK l (j + 1)).fr), Bool.and_false, Bool.and_false, Bool.and_false]
theorem fit_yes {f t : Int} {l : List Seg} {k : Nat} (h1 : segOkB (atK segK l k) = true) (h2 : f ≤ (atK segK l k).fr) (h3 : (atK segK l k).to ≤ t) (h4 : ∀ j, k = j + 1 → (atK segK l j).fr < (atK segK l k).fr) : segFit f t l k = true := by
  cases k with
  | zero => rw [segFit_zero, h1, decide_eq_true h2, decide_eq_true h3]; rfl
  | succ j => rw [segFit_succ, h1, decide_eq_true h2, decide_eq_true h3, decide_eq_true (h4 j rfl)]; rfl
theorem pfit_no1 {f t : Int} {l : List Pat} {k : Nat} (h : patB (atK patK l k) = false) : patFit f t l k = false := by unfold patFit; rw [h, Bool.false_and]
theorem pfit_no2 {f t : Int} {l : List Pat} {k : Nat} (h : inB (atK patK l k).day f t = false) : patFit f t l k = false := by unfold patFit; rw [h, Bool.false_and, Bool.and_false]
theorem pfit_no4 {f t : Int} {l : List Pat} {k j : Nat} (e : k = j + 1) (h : (atK patK l k).day ≤ (atK patK l j).day) : patFit f t l k = false := by subst e; rw [patFit_succ, decide_eq_false (by omega : ¬ (atK patK l j).day < (atK patK l (j + 1)).day), Bool.and_false, Bool.and_false]
theorem pfit_yes {f t : Int} {l : List Pat} {k : Nat} (h1 : patB (atK patK l k) = true) (h2 : inB (atK patK l k).day f t = true) (h4 : ∀ j, k = j + 1 → (atK patK l j).day < (atK patK l k).day) : patFit f t l k = true := by
  cases k with
  | zero => rw [patFit_zero, h1, h2]; rfl
  | succ j => rw [patFit_succ, h1, h2, decide_eq_true (h4 j rfl)]; rfl
def ruleB (z : Int) : Bool := decide (z = 0) || decide (z = 1)
noncomputable def regimeB (r : Rgm) : Bool := nameOk r.name && (dayB r.fr && (dayB r.to && (segsB r.fr r.to r.segs && (patsB r.fr r.to r.pats && (reignsOk r.rgns && ruleB r.rule)))))
theorem pat_box (w : World) (a b c : Int) (t : TypeId) : ∃ W0, W0 = w.alloc (.cells #[.int .i64 a, .int .i64 b, .int .i64 c] t) ∧ (∀ x : Later W0, x.w.cell? ⟨w.heap.size, 0, none⟩ = some (.int .i64 a)) ∧ (∀ x : Later W0, x.w.cell? ⟨w.heap.size, 1, none⟩ = some (.int .i64 b)) ∧ (∀ x : Later W0, x.w.cell? ⟨w.heap.size, 2, none⟩ = some (.int .i64 c)) ∧ ∀ x : Later W0, Below w.heap.size w x.w :=
  ⟨_, rfl, Later.new rfl 0 rfl, Later.new rfl 1 rfl, Later.new rfl 2 rfl, fun x => below_alloc x.below⟩
end Go.Proofs.YtilpencbbdpgfaaGreatDoor.ctr
namespace Go.Proofs.YtilpencbbdpgfaaGreatDoor.ctr
open Go.RowKit
section
variable {P : Program} {ops : Array Oper} {md : Region.Mode} {C : World → Prop}
theorem wpQuiet_mono {Q1 Q2 : Act → Prop} (hQ : ∀ a, Q1 a → Q2 a) : ∀ (l : List Oper) (a : Act), wpQuiet P ops C Q1 l a → wpQuiet P ops C Q2 l a
  | [], a, h => hQ a h
  | o :: l, a, h => by
    unfold wpQuiet at h ⊢
    split
    · rename_i hw
      rw [if_pos hw] at h
      exact Oper.quiet_mono (fun a' => wpQuiet_mono hQ l a') h
    · rename_i hw
      rw [if_neg hw] at h
      exact wpQuiet_mono hQ l _ h
def wpMix (P : Program) (md : Region.Mode) (ops : Array Oper) (C : World → Prop) (N : Nat) (R : Array Bool → Act → Prop) : Nat → Array Bool → Act → Prop
  | 0, listed, a => R listed a
  | m + 1, listed, a => Region.ready md ops listed ≠ [] ∧ ∀ i ∈ Region.ready md ops listed, i < N ∧ qOp P ops C i (wpMix P md ops C N R m (listed.setIfInBounds i true)) a
def lexP (md : Region.Mode) (ops : Array Oper) : Nat → Nat → Array Bool → Bool
  | 0, _, _ => true
  | n + 1, k, listed => (Region.ready md ops listed).contains k && Region.free md ops listed k && lexP md ops n (k + 1) (listed.setIfInBounds k true)
def setN : Nat → Nat → Array Bool → Array Bool
  | 0, _, l => l
  | n + 1, k, l => setN n (k + 1) (l.setIfInBounds k true)
def linkB (md : Region.Mode) (ops : Array Oper) (N : Nat) : Bool := (List.range (N - 1)).all fun i => (List.range N).any fun k => decide (i < k) && ((ops[k]?).map fun o => o.after.any fun e => Region.binds md e && e.on == i).getD false
def waitB (md : Region.Mode) (ops : Array Oper) (N : Nat) : Bool := (List.range ops.size).all fun j => decide (j < N) || ((ops[j]?).map fun o => o.after.any fun e => Region.binds md e && (e.on == N - 1 || (decide (N ≤ e.on) && decide (e.on < ops.size)))).getD false
def Closed (md : Region.Mode) (ops : Array Oper) (listed : Array Bool) : Prop := ∀ j o, ops[j]? = some o → listed.getD j false = true → ∀ e ∈ o.after, Region.binds md e = true → listed.getD e.on false = true
def Above (ops : Array Oper) (N : Nat) (listed : Array Bool) : Prop := ∀ j, N ≤ j → j < ops.size → listed.getD j true = false
theorem yes_no {listed : Array Bool} {i : Nat} (h : listed.getD i false = true) (h' : listed.getD i true = false) : False := by
  rcases Nat.lt_or_ge i listed.size with k | k
  · simp [k] at h h'
    rw [h] at h'
    cases h'
  · simp [Array.getElem?_eq_none k] at h
theorem closed_set {listed : Array Bool} (h : Closed md ops listed) {j : Nat} (hj : j ∈ Region.ready md ops listed) : Closed md ops (listed.setIfInBounds j true) := fun k o ho hk e he hb => by
  by_cases hkj : j = k
  · subst hkj
    obtain ⟨_, o', ho', hall⟩ := mem_ready.1 hj
    obtain rfl := Option.some.inj (ho.symm.trans ho')
    exact getD_set_true (hall e he hb)
  · rw [getD_set_ne false hkj] at hk
    exact getD_set_true (h k o ho hk e he hb)
theorem above_set {listed : Array Bool} {N : Nat} (h : Above ops N listed) {j : Nat} (hj : j < N) : Above ops N (listed.setIfInBounds j true) := fun k hk hs => by
  rw [getD_set_ne true (by omega)]
  exact h k hk hs
theorem all_below {listed : Array Bool} {N : Nat} (hc : Closed md ops listed) (hl : linkB md ops N = true) (hN : listed.getD (N - 1) false = true) : ∀ (d i : Nat), i + d = N - 1 → i < N → listed.getD i false = true := by
  intro d
  induction d using Nat.strongRecOn with
  | ind d ih =>
    intro i hid hi
    by_cases hd : d = 0
    · rw [show i = N - 1 by omega]
      exact hN
    · have h1 := List.all_eq_true.1 hl i (List.mem_range.2 (by omega))
      obtain ⟨k, hk, h2⟩ := List.any_eq_true.1 h1
      have hkN := List.mem_range.1 hk
      simp only [Bool.and_eq_true, decide_eq_true_eq] at h2
      obtain ⟨hik, h3⟩ := h2
      cases ho : ops[k]? with
      | none => simp [ho] at h3
      | some o =>
        simp only [ho, Option.map_some, Option.getD_some] at h3
        obtain ⟨x, hx, hxe⟩ := Array.any_eq_true'.1 h3
        simp only [Bool.and_eq_true, beq_iff_eq] at hxe
        have hkl := ih (N - 1 - k) (by omega) k (by omega) hkN
        have := hc k o ho hkl x hx hxe.1
        rw [hxe.2] at this
        exact this
theorem wait_for {listed : Array Bool} {N : Nat} (hc : Closed md ops listed) (ha : Above ops N listed) (hl : linkB md ops N = true) (hw : waitB md ops N = true) {i j : Nat} (hi : i < N) (hun : listed.getD i true = false) (hj : j ∈ Region.ready md ops listed) : j < N := by
  rcases Nat.lt_or_ge j N with h | h
  · exact h
  · exfalso
    obtain ⟨_, o, ho, hall⟩ := mem_ready.1 hj
    have hsz : j < ops.size := (Array.getElem?_eq_some_iff.1 ho).1
    have h1 := List.all_eq_true.1 hw j (List.mem_range.2 hsz)
    simp only [ho, Option.map_some, Option.getD_some, Bool.or_eq_true, decide_eq_true_eq] at h1
    rcases h1 with h1 | h1
    · omega
    · obtain ⟨x, hx, hxe⟩ := Array.any_eq_true'.1 h1
      simp only [Bool.and_eq_true, Bool.or_eq_true, beq_iff_eq, decide_eq_true_eq] at hxe
      have hlx := hall x hx hxe.1
      rcases hxe.2 with e | ⟨e1, e2⟩
      · rw [e] at hlx
        exact yes_no (all_below hc hl hlx (N - 1 - i) i (by omega) hi) hun
      · exact yes_no hlx (ha x.on e1 e2)
theorem wpAny_of_mix {N : Nat} {R : Array Bool → Act → Prop} {Q' : Exit → Act → World → Prop} {f : Nat} (hR : ∀ listed a w, C w → R listed a → wpAny P md ops Q' f listed a w) :
    ∀ (m : Nat) (listed : Array Bool) (a : Act) (w : World), C w → wpMix P md ops C N R m listed a → wpAny P md ops Q' (f + m) listed a w
  | 0, _, _, _, hw, h => hR _ _ _ hw h
  | m + 1, _, _, _, hw, h => ⟨fun h0 => absurd h0 h.1, fun i hi => wpOp_of_qOp hw (fun a' w' hw' k => wpAny_of_mix hR m _ a' w' hw' k) (h.2 i hi).2⟩
theorem mix_first {N : Nat} {R : Array Bool → Act → Prop} (hRl : ∀ listed a, R listed a → ∀ j, j < N → listed.getD j false = true) (hl : linkB md ops N = true) (hwt : waitB md ops N = true) {i : Nat} {oi : Oper} {v : Value} (hi : ops[i]? = some oi) (hN : i < N) (hsel : ∀ (j : Nat) (o : Oper) cs b, ops[j]? = some o → o.op ≠ .select cs b) :
    ∀ (m : Nat) (listed : Array Bool) (a : Act), Closed md ops listed → Above ops N listed →
      (∀ j oj, ops[j]? = some oj → j ≠ i → listed.getD j true = false → (∀ e ∈ oj.after, Region.binds md e = true → e.on ≠ i) → oi.apart ops oj = true) →
      i ∈ Region.ready md ops listed → YieldsIn P ops C oi v a →
      wpMix P md ops C N R m (listed.setIfInBounds i true) (a.put oi.dst v) → wpMix P md ops C N R (m + 1) listed a := by
  intro m
  induction m with
  | zero =>
    intro listed a hc ha _ hr hy H
    refine ⟨fun h => (by rw [h] at hr; cases hr), fun j hj => ?_⟩
    have hjN := wait_for hc ha hl hwt hN (mem_ready.1 hr).1 hj
    by_cases hji : j = i
    · subst hji
      exact ⟨hjN, hy.qOp hi H⟩
    · have h1 := hRl _ _ H j hjN
      rw [getD_set_ne false (Ne.symm hji)] at h1
      exact absurd (mem_ready.1 hj).1 (fun h => yes_no h1 h)
  | succ m ih =>
    intro listed a hc ha hfree hr hy H
    refine ⟨fun h => (by rw [h] at hr; cases hr), fun j hj => ?_⟩
    by_cases hji : j = i
    · subst hji
      exact ⟨hN, hy.qOp hi H⟩
    · obtain ⟨hjN, h1⟩ := H.2 j (ready_mono hj hji)
      refine ⟨hjN, ?_⟩
      obtain ⟨hjun, oj, hoj, hall⟩ := mem_ready.1 hj
      have hnot : ∀ e ∈ oj.after, Region.binds md e = true → e.on ≠ i := fun e he hb heq => by
        have k1 := hall e he hb
        rw [heq] at k1
        exact yes_no k1 (mem_ready.1 hr).1
      have h2 := qOp_put hoj (hfree j oj hoj hji hjun hnot) (fun cs b => hsel i oi cs b hi) (fun cs b => hsel j oj cs b hoj) hy h1
      have hfree' : ∀ k ok, ops[k]? = some ok → k ≠ i → (listed.setIfInBounds j true).getD k true = false → (∀ e ∈ ok.after, Region.binds md e = true → e.on ≠ i) → oi.apart ops ok = true := fun k ok hk hki hun hno => by
        refine hfree k ok hk hki ?_ hno
        by_cases hjk : j = k
        · subst hjk
          exact hjun
        · rw [getD_set_ne true hjk] at hun
          exact hun
      refine qOp_mono (fun a' h3 => ih (listed.setIfInBounds j true) a' (closed_set hc hj) (above_set ha hjN) hfree' (ready_mono hr (Ne.symm hji)) h3.1 ?_) h2
      rw [Array.setIfInBounds_comm _ _ hji]
      exact h3.2
theorem mix_lex {N : Nat} {R : Array Bool → Act → Prop} (hRl : ∀ listed a, R listed a → ∀ j, j < N → listed.getD j false = true) (hl : linkB md ops N = true) (hwt : waitB md ops N = true) (hs : Region.noSelect ops = true) : ∀ (l : List Oper) (k : Nat) (listed : Array Bool) (a : Act), k + l.length ≤ N → (∀ j, j < l.length → l[j]? = ops[k + j]?) →
    lexP md ops l.length k listed = true → Closed md ops listed → Above ops N listed → wpQuiet P ops C (fun a' => R (setN l.length k listed) a') l a → wpMix P md ops C N R l.length listed a
  | [], _, _, _, _, _, _, _, _, h => h
  | o :: l, k, listed, a, hk, hll, hB, hc, ha, h => by
    have h0 : ops[k]? = some o := by simpa using (hll 0 (by simp)).symm
    simp only [List.length_cons] at hk
    simp only [List.length_cons, lexP, Bool.and_eq_true] at hB
    obtain ⟨⟨hr, hf⟩, hB'⟩ := hB
    have hr' : k ∈ Region.ready md ops listed := by simpa using hr
    have hst : qOp P ops C k (wpQuiet P ops C (fun a' => R (setN (o :: l).length k listed) a') l) a := by unfold qOp; simp only [h0]; exact h
    obtain ⟨v, hy, hK⟩ := yieldsIn_of_qOp h0 hst
    exact mix_first hRl hl hwt h0 (by omega) (Region.noSelect_spec hs) l.length listed a hc ha (Region.free_spec h0 hf) hr' hy
      (mix_lex hRl hl hwt hs l (k + 1) _ _ (by omega) (fun j hj => by have := hll (j + 1) (by simpa using hj); simpa [Nat.add_assoc, Nat.add_comm 1 j] using this) hB' (closed_set hc hr') (above_set ha (by omega)) hK)
end
theorem any_prefix {P : Program} {C : World → Prop} {Q : Exit → Act → World → Prop} {big : List Oper} (n f : Nat) {a : Act} {w : World} (hn : n ≤ big.length) (hs : Region.noSelect big.toArray = true) (hB : lexP .any big.toArray n 0 (Array.replicate big.length false) = true) (hl : linkB .any big.toArray n = true) (hwt : waitB .any big.toArray n = true)
    (hA : ((List.range n).all fun j => (setN n 0 (Array.replicate big.length false)).getD j false) = true) (hw : C w)
    (h : wpQuiet P big.toArray C (fun a' => ∀ w', C w' → wpAny P .any big.toArray Q f (setN n 0 (Array.replicate big.length false)) a' w') (big.take n) a) : wpAny P .any big.toArray Q (f + n) (Array.replicate big.length false) a w := by
  have hlen : (big.take n).length = n := by rw [List.length_take]; omega
  have hAll : ∀ j, j < n → (setN n 0 (Array.replicate big.length false)).getD j false = true := fun j hj => List.all_eq_true.1 hA j (List.mem_range.2 hj)
  have hm := mix_lex (P := P) (md := .any) (ops := big.toArray) (C := C) (N := n) (R := fun listed a => (∀ j, j < n → listed.getD j false = true) ∧ ∀ w', C w' → wpAny P .any big.toArray Q f listed a w') (fun _ _ h => h.1) hl hwt hs (big.take n) 0 (Array.replicate big.length false) a (by omega)
    (fun j hj => by rw [hlen] at hj; simp [hj]) (by rw [hlen]; exact hB)
    (fun j o _ hj => by
      exfalso
      by_cases hjl : j < big.length
      · simp [hjl] at hj
      · simp [Array.getElem?_eq_none (show (Array.replicate big.length false).size ≤ j by simp; omega)] at hj)
    (fun j _ hj => by
      have hj' : j < big.length := by simpa using hj
      simp [hj'])
    (by rw [hlen]; exact wpQuiet_mono (fun a' h => ⟨hAll, h⟩) _ _ h)
  rw [hlen] at hm
  exact wpAny_of_mix (N := n) (R := fun listed a => (∀ j, j < n → listed.getD j false = true) ∧ ∀ w', C w' → wpAny P .any big.toArray Q f listed a w') (fun _ _ w h1 h2 => h2.2 w h1) n _ a w hw hm
section
variable {P : Program} {ops : Array Oper} {Q : Exit → Act → World → Prop} {md : Region.Mode}
end
end Go.Proofs.YtilpencbbdpgfaaGreatDoor.ctr
