/- Contract of the model's ReignsOk: it answers its plain function. -/
import Derived.Test.YtaakgidndjoocaaGreatDoorRgnOkM
namespace Go.Proofs.YtaakgidndjoocaaGreatDoor.ctr
open Go.RowKit

set_option maxRecDepth 100000 in
set_option maxHeartbeats 4000000 in
theorem specReignsOk (v : Value) (l : List Rgn) (w : World) (h : RRow w v l) : Calls Tryz.prog 84 #[v] w fun e w' => e = .returned (.bool (reignsOk l)) ∧ Below w.heap.size w w' := by
  obtain ⟨a, c, rfl, hl, hm, hn, H⟩ := h
  have K := hideP H
  have HN := hideP hn
  unfold maxLen at hm
  clear H hn
  go_enter Tryz.func84, Tryz.ntmps84
  go_wp2
  go_loopw [3] (fun i wr => ∃ k : Nat, k ≤ l.length ∧ i = .int .i64 (k : Int) ∧ Hid (okTo l k = true) ∧ Below w.heap.size w wr) (fun i _ => l.length - (intOf i).toNat)
  case atStart => exact ⟨0, Nat.zero_le _, rfl, rfl, Below.refl _ _⟩
  case round =>
    obtain ⟨k, hk, rfl, HF, hB⟩ := hrel
    have HB := hideP hB
    clear hB
    by_cases hlt : k < l.length
    · obtain ⟨g, rfl, hg, x⟩ := K.out k hlt
      obtain ⟨a0, a1, a2⟩ := x.below HB.out hg
      have hnk := HN.out k hlt
      obtain ⟨W0, hW0, c0, c1, c2, hBl⟩ := rgn_box wr (rgA l k).name (rgA l k).fr (rgA l k).to 125
      have hBw : ∀ y : Later W0, Below w.heap.size w y.w := fun y => HB.out.trans ((hBl y).mono HB.out.size)
      have KM : Hid (∀ m, m < k → ∀ y : Later W0, y.w.cell? ⟨g, m * 3, none⟩ = some (.string (rgA l m).name) ∧ y.w.cell? ⟨g, m * 3 + 2, none⟩ = some (.int .i64 (rgA l m).to)) := fun m hmk y => by
        obtain ⟨g', e, hg', z⟩ := K.out m (by omega)
        cases e
        exact ⟨(z.below (hBw y) hg').1, (z.below (hBw y) hg').2.2⟩
      have KN : ∀ y : Later W0, Calls Tryz.prog 80 #[.string (rgA l k).name] y.w fun e w' => e = .returned (.bool (nameOk (rgA l k).name)) ∧ w' = y.w := fun y => specNameOk _ y.w hnk
      have KF : ∀ y : Later W0, Calls Tryz.prog 139 #[.int .i64 (rgA l k).fr] y.w fun e w' => e = .returned (.bool (bothB (rgA l k).fr)) ∧ Below y.w.heap.size y.w w' := fun y => specDated _ y.w
      have KT : ∀ y : Later W0, Calls Tryz.prog 139 #[.int .i64 (rgA l k).to] y.w fun e w' => e = .returned (.bool (bothB (rgA l k).to)) ∧ Below y.w.heap.size y.w w' := fun y => specDated _ y.w
      have J1 := hideP (fun h => okTo_next HF.out (k := k) h)
      have J2 := hideP (fun h => ok_bad (k := k) h hlt)
      have HK : Hid (okAt l k = ((nameOk (rgA l k).name && (decide ((rgA l k).fr ≤ (rgA l k).to) && (bothB (rgA l k).fr && bothB (rgA l k).to))) && (behB (l.take k) (rgA l k).fr && decide (namedR (l.take k) (rgA l k).name = -1)))) := rfl
      have HW0 := hideP hW0
      have HBw := hideP hBw
      have HBH := hideP (behB_take (Nat.le_of_lt hlt) (rgA l k).fr)
      clear x hnk hW0 hBl hBw
      generalize rgA l k = r at *
      obtain ⟨nm, f, t⟩ := r
      dsimp only at a0 a1 a2 c0 c1 c2 KN KF KT HK HBH HW0
      generalize nameOk nm = b1 at *
      generalize hb2 : bothB f = b2 at *
      generalize hb3 : bothB t = b3 at *
      have HX : Hid (okAt l k = false → reignsOk l = false) := J2.out
      clear hb2 hb3
      cases b1
      · have _u := hlt
        have HR := hideP (HX.out (by rw [HK.out]; rfl))
        go_wp2_with fail
        rw [← HW0.out]
        refine wp_region_later (W := W0) (Below.refl _ _) (by kernel_rfl) (by kernel_rfl) ?_
        repeat (go_big_quiet_step (first | (go_at_call 80; exact calls_same (KN _)) | (go_at_call_of 139 f; exact calls_later (KF _)) | (go_at_call_of 139 t; exact calls_later (KT _)) | fail))
        refine wpQuiet_nil ?_
        intro _ hw'
        obtain ⟨y, rfl⟩ := hw'
        go_wp2
        go_ret
        exact ⟨ret_bool HR.out.symm, HBw.out y⟩
      by_cases hft : f ≤ t
      case neg =>
        have hd : decide (t < f) = true := decide_eq_true (by omega)
        have HR := hideP (HX.out (by rw [HK.out]; rw [decide_eq_false hft]; rfl))
        go_wp2_with fail
        rw [← HW0.out]
        refine wp_region_later (W := W0) (Below.refl _ _) (by kernel_rfl) (by kernel_rfl) ?_
        repeat (go_big_quiet_step (first | (go_at_call 80; exact calls_same (KN _)) | (go_at_call_of 139 f; exact calls_later (KF _)) | (go_at_call_of 139 t; exact calls_later (KT _)) | fail))
        refine wpQuiet_nil ?_
        intro _ hw'
        obtain ⟨y, rfl⟩ := hw'
        go_wp2
        go_ret
        exact ⟨ret_bool HR.out.symm, HBw.out y⟩
      have hd : decide (t < f) = false := decide_eq_false (by omega)
      cases b2
      · have _u := hlt
        have HR := hideP (HX.out (by rw [HK.out]; rw [decide_eq_true hft]; rfl))
        go_wp2_with fail
        rw [← HW0.out]
        refine wp_region_later (W := W0) (Below.refl _ _) (by kernel_rfl) (by kernel_rfl) ?_
        repeat (go_big_quiet_step (first | (go_at_call 80; exact calls_same (KN _)) | (go_at_call_of 139 f; exact calls_later (KF _)) | (go_at_call_of 139 t; exact calls_later (KT _)) | fail))
        refine wpQuiet_nil ?_
        intro _ hw'
        obtain ⟨y, rfl⟩ := hw'
        go_wp2
        go_ret
        exact ⟨ret_bool HR.out.symm, HBw.out y⟩
      cases b3
      · have _u := hlt
        have HR := hideP (HX.out (by rw [HK.out]; rw [decide_eq_true hft]; rfl))
        go_wp2_with fail
        rw [← HW0.out]
        refine wp_region_later (W := W0) (Below.refl _ _) (by kernel_rfl) (by kernel_rfl) ?_
        repeat (go_big_quiet_step (first | (go_at_call 80; exact calls_same (KN _)) | (go_at_call_of 139 f; exact calls_later (KF _)) | (go_at_call_of 139 t; exact calls_later (KT _)) | fail))
        refine wpQuiet_nil ?_
        intro _ hw'
        obtain ⟨y, rfl⟩ := hw'
        go_wp2
        go_ret
        exact ⟨ret_bool HR.out.symm, HBw.out y⟩
      have HK2 : Hid (okAt l k = (behB (l.take k) f && decide (namedR (l.take k) nm = -1))) := by unfold Hid; rw [HK.out, decide_eq_true hft]; rfl
      clear HK
      obtain rfl | ⟨j, rfl⟩ : k = 0 ∨ ∃ j, k = j + 1 := by cases k with | zero => exact .inl rfl | succ j => exact .inr ⟨j, rfl⟩
      · have HBE : Hid (behB (l.take 0) f = true) := by unfold Hid; rw [HBH.out]; rfl
        go_wp2_with fail
        rw [← HW0.out]
        refine wp_region_later (W := W0) (Below.refl _ _) (by kernel_rfl) (by kernel_rfl) ?_
        repeat (go_big_quiet_step (first | (go_at_call 80; exact calls_same (KN _)) | (go_at_call_of 139 f; exact calls_later (KF _)) | (go_at_call_of 139 t; exact calls_later (KT _)) | fail))
        refine wpQuiet_nil ?_
        intro _ hw'
        obtain ⟨y, rfl⟩ := hw'
        go_wp2_with fail
        go_loopw [5] (fun q wq => ∃ m : Nat, m ≤ 0 ∧ q = .int .i64 (m : Int) ∧ Hid (rfFrom (isNamed nm) ((l.take (0)).drop m) m = namedR (l.take (0)) nm) ∧ Below W0.heap.size W0 wq) (fun q _ => 0 - (intOf q).toNat)
        case atStart => exact ⟨0, Nat.zero_le _, rfl, rfl, y.below⟩
        case round =>
          obtain ⟨m, hmk, rfl, HG, hC⟩ := hrel
          have HC := hideP hC
          clear hC
          have hlen : (l.take (0)).length = 0 := by rw [List.length_take]; omega
          have HLn := hideP hlen
          clear hlen
          have GN := hideP (rf_end (by rw [HLn.out]; omega) HG.out)
          obtain rfl : m = 0 := by omega
          have HR := hideP (J1.out (by rw [HK2.out, GN.out, HBE.out]; rfl))
          have HCw : Hid (Below w.heap.size w wr) := HBw.out ⟨wr, HC.out⟩
          go_wp2
          exact ⟨⟨0 + 1, by omega, by go_num, HR.out, HCw.out⟩, by simp [intOf]; omega⟩
      · obtain ⟨_, q2⟩ : _ ∧ (∀ y : Later W0, y.w.cell? ⟨g, j * 3 + 2, none⟩ = some (.int .i64 (rgA l j).to)) := ⟨trivial, fun y => (KM.out j (by omega) y).2⟩
        have HBH2 : Hid (behB (l.take (j + 1)) f = decide ((rgA l j).to < f)) := by unfold Hid; rw [HBH.out, decide_eq_false (by omega)]; rfl
        clear HBH
        generalize (rgA l j).to = T at *
        have hj0 : decide ((0 : Int) < (j : Int) + 1) = true := decide_eq_true (by omega)
        by_cases hTf : T < f
        case neg =>
          have hd2 : decide (f ≤ T) = true := decide_eq_true (by omega)
          have HR := hideP (HX.out (by rw [HK2.out, HBH2.out, decide_eq_false hTf]; rfl))
          go_wp2_with fail
          rw [← HW0.out]
          refine wp_region_later (W := W0) (Below.refl _ _) (by kernel_rfl) (by kernel_rfl) ?_
          repeat (go_big_quiet_step (first | (go_at_call 80; exact calls_same (KN _)) | (go_at_call_of 139 f; exact calls_later (KF _)) | (go_at_call_of 139 t; exact calls_later (KT _)) | fail))
          refine wpQuiet_nil ?_
          intro _ hw'
          obtain ⟨y, rfl⟩ := hw'
          go_wp2
          go_ret
          exact ⟨ret_bool HR.out.symm, HBw.out y⟩
        have hd2 : decide (f ≤ T) = false := decide_eq_false (by omega)
        have HBE : Hid (behB (l.take (j + 1)) f = true) := by unfold Hid; rw [HBH2.out, decide_eq_true hTf]
        go_wp2_with fail
        rw [← HW0.out]
        refine wp_region_later (W := W0) (Below.refl _ _) (by kernel_rfl) (by kernel_rfl) ?_
        repeat (go_big_quiet_step (first | (go_at_call 80; exact calls_same (KN _)) | (go_at_call_of 139 f; exact calls_later (KF _)) | (go_at_call_of 139 t; exact calls_later (KT _)) | fail))
        refine wpQuiet_nil ?_
        intro _ hw'
        obtain ⟨y, rfl⟩ := hw'
        go_wp2_with fail
        go_loopw [5] (fun q wq => ∃ m : Nat, m ≤ (j + 1) ∧ q = .int .i64 (m : Int) ∧ Hid (rfFrom (isNamed nm) ((l.take ((j + 1))).drop m) m = namedR (l.take ((j + 1))) nm) ∧ Below W0.heap.size W0 wq) (fun q _ => (j + 1) - (intOf q).toNat)
        case atStart => exact ⟨0, Nat.zero_le _, rfl, rfl, y.below⟩
        case round =>
          obtain ⟨m, hmk, rfl, HG, hC⟩ := hrel
          have HC := hideP hC
          clear hC
          have hlen : (l.take ((j + 1))).length = (j + 1) := by rw [List.length_take]; omega
          have HLn := hideP hlen
          clear hlen
          by_cases hml : m < (j + 1)
          · have e0 := fun y => (KM.out m hml y).1
            have G1 := hideP (fun h => rf_hit (p := isNamed nm) (by rw [HLn.out]; exact hml) h HG.out)
            have G2 := hideP (fun h => rf_miss (p := isNamed nm) (by rw [HLn.out]; exact hml) h HG.out)
            rw [rgA_take hml] at G1 G2
            generalize rgA l m = r2 at *
            cases hq : (r2.name.toList == nm.toList)
            · have GN := hideP (G2.out (decide_eq_false (str_ne hq)))
              go_wp2_with fail
              refine wp_region_later (W := W0) HC.out (by kernel_rfl) (by kernel_rfl) ?_
              repeat (go_big_quiet_step (fail))
              refine wpQuiet_nil ?_
              intro _ hw'
              obtain ⟨y2, rfl⟩ := hw'
              go_wp2
              exact ⟨⟨m + 1, by omega, by go_num, GN.out, y2.below⟩, by simp [intOf]; omega⟩
            · have GN := hideP (G1.out (decide_eq_true (str_eq hq)))
              have HR := hideP (HX.out (by rw [HK2.out, GN.out, decide_eq_false (by omega), Bool.and_false]))
              go_wp2_with fail
              refine wp_region_later (W := W0) HC.out (by kernel_rfl) (by kernel_rfl) ?_
              repeat (go_big_quiet_step (fail))
              refine wpQuiet_nil ?_
              intro _ hw'
              obtain ⟨y2, rfl⟩ := hw'
              go_wp2
              go_ret
              exact ⟨ret_bool HR.out.symm, HBw.out y2⟩
          · have GN := hideP (rf_end (by rw [HLn.out]; omega) HG.out)
            have HR := hideP (J1.out (by rw [HK2.out, GN.out, HBE.out]; rfl))
            have HCw : Hid (Below w.heap.size w wr) := HBw.out ⟨wr, HC.out⟩
            go_wp2
            exact ⟨⟨(j + 1) + 1, by omega, by go_num, HR.out, HCw.out⟩, by simp [intOf]; omega⟩
    · have hkn : k = l.length := by omega
      have HR := hideP (ok_all (by rw [← hkn]; exact HF.out))
      subst hkn
      go_wp2
      go_ret
      exact ⟨ret_bool (by rw [HR.out]; exact decide_eq_decide.2 (by omega)), HB.out⟩
end Go.Proofs.YtaakgidndjoocaaGreatDoor.ctr
