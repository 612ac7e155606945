/- Contracts of the program's kalendsBehind and RomanOf: each answers its plain function, where the table of months holds its numbers. -/
import Derived.Test.YtoofnjccpoeomaaGreatDoorRomKit
namespace Go.Proofs.YtoofnjccpoeomaaGreatDoor.ctr
open Go.RowKit

set_option maxHeartbeats 1000000 in
theorem implKalends (c y m d : Int) (w : World) (hT : Tab w) : Calls Tryz.prog 126 #[.agg #[.int .i64 c, .int .i64 y, .int .i64 m, .int .i64 d]] w fun e w' => e = .returned (.int .i64 (countDays c y m d + 1)) ∧ Below w.heap.size w w' := by
  obtain ⟨W0, hW0, c0, c1, c2, c3, hBl⟩ := date_box w c y m d
  obtain ⟨x0, hx0⟩ := Later.of (Below.refl W0.heap.size W0)
  have KM : ∀ x : Later W0, Calls Tryz.prog 103 #[.int .i64 c, .int .i64 y, .int .i64 m] x.w fun e w' => e = .returned (.int .i64 (monthDays c y m)) ∧ Below x.w.heap.size x.w w' := fun x => implMonthDays c y m x.w (hT.later (hBl x))
  have hM := KM x0
  have k0 := c0 x0
  have k1 := c1 x0
  have k2 := c2 x0
  have k3 := c3 x0
  have k4 := tabCell (hT.later (hBl x0)) 1 (by omega)
  rw [show tab12.getD 1 0 = 28 from rfl] at k4
  have hmd := monthDays_le c y m
  have HW0 := hideP hW0
  have HBl := hideP hBl
  have HX0 := hideP hx0
  rw [← hx0] at k0 k1 k2 k3 k4 hM
  clear hW0 hBl hx0 c0 c1 c2 c3 hT KM
  by_cases h1 : m = 2
  · have hm : (m == 2) = true := by simp [h1]
    by_cases h2 : d ≤ 24
    · rw [show countDays c y m d = 28 from by unfold countDays; rw [if_pos ⟨h1, h2⟩]]
      have g2 : decide (d ≤ 24) = true := decide_eq_true h2
      rw [HW0.out] at k4
      clear hM h1 hmd
      go_enter Tryz.func126, Tryz.ntmps126
      go_wp2_with fail
      rw [← HW0.out]
      go_wp2
      go_ret
      rw [HX0.out]
      exact ⟨rfl, HBl.out x0⟩
    · rw [show countDays c y m d = monthDays c y m from by unfold countDays; rw [if_neg (fun h => h2 h.2)]]
      have g2 : decide (d ≤ 24) = false := decide_eq_false h2
      clear h1 k4
      generalize monthDays c y m = md at *
      go_enter Tryz.func126, Tryz.ntmps126
      go_wp2_with fail
      rw [← HW0.out]
      go_wp2_with fail
      refine hM.mono ?_
      rintro e w1 ⟨rfl, hb⟩
      obtain ⟨x1, rfl⟩ := Later.of hb
      clear hb
      go_wp2
      go_ret
      exact ⟨rfl, HBl.out x1⟩
  · have hm : (m == 2) = false := by simp [h1]
    rw [show countDays c y m d = monthDays c y m from by unfold countDays; rw [if_neg (fun h => h1 h.1)]]
    clear h1 k4
    generalize monthDays c y m = md at *
    go_enter Tryz.func126, Tryz.ntmps126
    go_wp2_with fail
    rw [← HW0.out]
    go_wp2_with fail
    refine hM.mono ?_
    rintro e w1 ⟨rfl, hb⟩
    obtain ⟨x1, rfl⟩ := Later.of hb
    clear hb
    go_wp2
    go_ret
    exact ⟨rfl, HBl.out x1⟩

set_option maxRecDepth 100000 in
set_option maxHeartbeats 4000000 in
theorem implRomanOf (c y m d : Int) (w : World) (hT : Tab w) : Calls Tryz.prog 106 #[.agg #[.int .i64 c, .int .i64 y, .int .i64 m, .int .i64 d]] w fun e w' => e = .returned (romV (romanOf c y m d)) ∧ Below w.heap.size w w' := by
  obtain ⟨W0, hW0, hD, hR, hBl⟩ := two_box w #[.int .i64 c, .int .i64 y, .int .i64 m, .int .i64 d] romZ 101 28
  have c0 : ∀ x : Later W0, x.w.cell? ⟨w.heap.size, 0, none⟩ = some (.int .i64 c) := fun x => (hD x).cell 0 rfl
  have c1 : ∀ x : Later W0, x.w.cell? ⟨w.heap.size, 1, none⟩ = some (.int .i64 y) := fun x => (hD x).cell 1 rfl
  have c2 : ∀ x : Later W0, x.w.cell? ⟨w.heap.size, 2, none⟩ = some (.int .i64 m) := fun x => (hD x).cell 2 rfl
  have c3 : ∀ x : Later W0, x.w.cell? ⟨w.heap.size, 3, none⟩ = some (.int .i64 d) := fun x => (hD x).cell 3 rfl
  have r0 : ∀ x : Later W0, x.w.cell? ⟨w.heap.size + 1, 0, none⟩ = some (.int .i64 0) := fun x => (hR x).cell 0 rfl
  have r1 : ∀ x : Later W0, x.w.cell? ⟨w.heap.size + 1, 1, none⟩ = some (.int .i64 0) := fun x => (hR x).cell 1 rfl
  have r2 : ∀ x : Later W0, x.w.cell? ⟨w.heap.size + 1, 2, none⟩ = some (.int .i64 0) := fun x => (hR x).cell 2 rfl
  have r3 : ∀ x : Later W0, x.w.cell? ⟨w.heap.size + 1, 3, none⟩ = some (.bool false) := fun x => (hR x).cell 3 rfl
  have f0 : ∀ x : Later W0, x.w.frozen? ⟨w.heap.size + 1, 0, none⟩ = false := fun x => (hR x).thaw 0
  have f1 : ∀ x : Later W0, x.w.frozen? ⟨w.heap.size + 1, 1, none⟩ = false := fun x => (hR x).thaw 1
  have f2 : ∀ x : Later W0, x.w.frozen? ⟨w.heap.size + 1, 2, none⟩ = false := fun x => (hR x).thaw 2
  have f3 : ∀ x : Later W0, x.w.frozen? ⟨w.heap.size + 1, 3, none⟩ = false := fun x => (hR x).thaw 3
  have KO : ∀ x : Later W0, Calls Tryz.prog 90 #[.agg #[.int .i64 c, .int .i64 y, .int .i64 m, .int .i64 d]] x.w fun e w' => e = .returned (.bool (dateOk c y m d)) ∧ Below x.w.heap.size x.w w' := fun x => implDateOk c y m d x.w (hT.later (hBl x))
  have KK : ∀ x : Later W0, Calls Tryz.prog 126 #[.agg #[.int .i64 c, .int .i64 y, .int .i64 m, .int .i64 d]] x.w fun e w' => e = .returned (.int .i64 (countDays c y m d + 1)) ∧ Below x.w.heap.size x.w w' := fun x => implKalends c y m d x.w (hT.later (hBl x))
  have KW : ∀ x : Later W0, Calls Tryz.prog 127 #[.agg #[.int .i64 c, .int .i64 y, .int .i64 m, .int .i64 d]] x.w fun e w' => e = .returned (.bool (decide (m = 2 ∧ d = 24 ∧ leapP c y))) ∧ Below x.w.heap.size x.w w' := fun x => implIsTwice c y m d x.w
  have HW0 := hideP hW0
  have HBl := hideP hBl
  have HR := hideP hR
  obtain ⟨x0, hx0⟩ := Later.of (Below.refl W0.heap.size W0)
  have HX0 := hideP hx0
  clear hW0 hBl hD hR hT hx0
  by_cases hok : dateP c y m d
  case neg =>
    rw [dateOk_false hok] at KO
    have HV : Hid (romanOf c y m d = ⟨0, 0, 0, false⟩) := by unfold Hid romanOf; rw [if_neg hok]
    rw [HV.out]
    clear HV KK KW hok
    go_enter Tryz.func106, Tryz.ntmps106
    go_wp2_with fail
    rw [← HW0.out, HX0.out]
    refine wp_scope_fwd 0 (by rfl) ?_
    go_wp2_with fail
    refine (KO _).mono ?_
    rintro e w1 ⟨rfl, hb⟩
    obtain ⟨x1, rfl⟩ := x0.next hb
    clear hb
    go_wp2_with fail
    rw [put4_eq]
    have Z := put4_blk (v0 := .int .i64 0) (v1 := .int .i64 0) (v2 := .int .i64 0) (v3 := .bool false) (HR.out x1)
    have z0 := Z.cell 0 rfl
    have z1 := Z.cell 1 rfl
    have z2 := Z.cell 2 rfl
    have z3 := Z.cell 3 rfl
    refine jump_ret ?_
    exact bodyPost_ret (by simp [results, Tryz.results106, go_sem, z0, z1, z2, z3]; try rfl) rfl ⟨rfl, put4_below (HBl.out x1) (by omega)⟩
  rw [dateOk_true hok] at KO
  have hm := dateP_month hok
  have hd := dateP_day hok
  have hm1 := hm.1
  have hm2 := hm.2
  have hd1 := hd.1
  have hd2 := hd.2
  have hmd := monthDays_le c y m
  have hcb : 0 ≤ countDays c y m d ∧ countDays c y m d ≤ 31 := by unfold countDays; split <;> omega
  have HV : Hid (romanOf c y m d = romanIn c y m d) := by unfold Hid romanOf; rw [if_pos hok]
  rw [HV.out]
  have KB : ∀ W, Calls Tryz.prog 125 #[.int .i64 m] W fun e w' => e = .returned (.int .i64 (m % 12 + 1)) ∧ w' = W := fun W => implMonthBehind m W hm1 hm2
  have KD : ∀ k W, Calls Tryz.prog 104 #[.int .i64 m, .int .i64 k] W fun e w' => e = .returned (.int .i64 (markN m k)) ∧ w' = W := fun k W => implMarkDay m k W
  -- what each way answers
  have HA : Hid (∀ k : Nat, k ≤ 2 → d ≤ markN m k → (∀ j : Nat, j < k → markN m j < d) → romanIn c y m d = ⟨markN m k - d + 1, k, m, decide (m = 2 ∧ d = 24 ∧ leapP c y)⟩) := by
    intro k hk h1 h2
    have hn := nones_in hm1 hm2
    have hi := ides_in hm1 hm2
    have hn7 := nones_b m
    have tw : decide (m = 2 ∧ d = 24 ∧ leapP c y) = false := by
      apply decide_eq_false
      rintro ⟨rfl, rfl, _⟩
      have : markN 2 k ≤ 13 := by
        have : k = 0 ∨ k = 1 ∨ k = 2 := by omega
        rcases this with rfl | rfl | rfl <;> decide
      omega
    rw [tw]
    have : k = 0 ∨ k = 1 ∨ k = 2 := by omega
    rcases this with rfl | rfl | rfl
    · have e1 : d = 1 := by have : markN m ((0 : Nat) : Int) = 1 := rfl
                            omega
      subst e1
      rfl
    · have a0 := h2 0 (by omega)
      have b0 : markN m ((0 : Nat) : Int) = 1 := rfl
      have b1 : markN m ((1 : Nat) : Int) = nones m := rfl
      rw [b1] at h1
      unfold romanIn
      rw [if_neg (by omega), if_pos h1, b1]
      rfl
    · have a0 := h2 0 (by omega)
      have a1 := h2 1 (by omega)
      have b0 : markN m ((0 : Nat) : Int) = 1 := rfl
      have b1 : markN m ((1 : Nat) : Int) = nones m := rfl
      have b2 : markN m ((2 : Nat) : Int) = ides m := rfl
      rw [b2] at h1
      unfold romanIn
      rw [if_neg (by omega), if_neg (by omega), if_pos h1, b2]
      rfl
  have HE : Hid ((∀ j : Nat, j < 3 → markN m j < d) → romanIn c y m d = ⟨countDays c y m d + 1 - d + 1, 0, m % 12 + 1, decide (m = 2 ∧ d = 24 ∧ leapP c y)⟩) := by
    intro h2
    have a0 := h2 0 (by omega)
    have a1 := h2 1 (by omega)
    have a2 := h2 2 (by omega)
    have b0 : markN m ((0 : Nat) : Int) = 1 := rfl
    have b1 : markN m ((1 : Nat) : Int) = nones m := rfl
    have b2 : markN m ((2 : Nat) : Int) = ides m := rfl
    unfold romanIn
    rw [if_neg (by omega), if_neg (by omega), if_neg (by omega), show countDays c y m d - d + 2 = countDays c y m d + 1 - d + 1 from by omega]
  clear HV hok hm hd hmd
  generalize decide (m = 2 ∧ d = 24 ∧ leapP c y) = tw at *
  generalize romanIn c y m d = R at *
  generalize countDays c y m d = cd at *
  go_enter Tryz.func106, Tryz.ntmps106
  go_wp2_with fail
  rw [← HW0.out, HX0.out]
  refine wp_scope_fwd 0 (by rfl) ?_
  go_wp2_with fail
  refine (KO _).mono ?_
  rintro e w1 ⟨rfl, hb⟩
  obtain ⟨x1, rfl⟩ := x0.next hb
  clear hb
  go_wp2_with fail
  go_loopw [4, 5] (fun o s wr => ∃ (k : Nat) (z : Int), k ≤ 3 ∧ o = .int .i64 (k : Int) ∧ s = .int .i64 z ∧ wr = x1.w ∧ (∀ j : Nat, j < k → markN m j < d)) (fun o _ _ => 3 - (intOf o).toNat)
  case atStart => exact ⟨0, 0, by omega, rfl, rfl, rfl, by omega⟩
  case round =>
    obtain ⟨k, z, hk, rfl, rfl, hwr, hj⟩ := hrel
    rw [hwr]
    clear hwr
    have HJ := hideP hj
    clear hj
    by_cases hlt : k < 3
    · have hmb := markN_b m k
      have KK1 := KD k
      by_cases hle : d ≤ markN m k
      · have HF := hideP (HA.out k (by omega) hle HJ.out)
        clear HA HE HJ KD KK
        generalize markN m k = mk at *
        go_wp2_with fail
        refine (KK1 _).mono ?_
        rintro e w2 ⟨rfl, rfl⟩
        go_wp2_with fail
        go_step3
        refine ⟨rfl, ?_⟩
        go_wp2_with fail
        obtain ⟨xd, hxd⟩ : ∃ xd : Later W0, x1.w.drew = xd.w := ⟨⟨x1.w.drew, (x1.below).drew⟩, rfl⟩
        refine wp_region_any (by kernel_rfl) ?_
        change wpAny _ _ _ _ (1 + 10) _ _ _
        refine any_prefix (C := fun w' => ∃ x : Later W0, w' = x.w) 10 1 (by decide) (by kernel_rfl) (by kernel_rfl) (by kernel_rfl) (by kernel_rfl) (by kernel_rfl) ⟨xd, hxd⟩ ?_
        simp only [List.take_succ_cons, List.take_zero]
        clear hxd xd
        repeat (go_big_quiet_step (first | (go_at_call 127; exact calls_later (KW _))))
        refine wpQuiet_nil ?_
        intro _ hw'
        obtain ⟨x5, rfl⟩ := hw'
        refine wpAny_ready (rs := [10]) (by kernel_rfl) (by simp) ?_
        refine AllReady.cons rfl (fun K hK => ?_) AllReady.nil
        go_simp
        refine hK _ _ ?_
        clear hK K
        refine wpAny_done (by kernel_rfl) ?_ _
        rw [put4_eq]
        go_wp2_with fail
        have Z := put4_blk (v0 := .int .i64 (mk - d + 1)) (v1 := .int .i64 (k : Int)) (v2 := .int .i64 m) (v3 := .bool tw) (HR.out x5)
        have z0 := Z.cell 0 rfl
        have z1 := Z.cell 1 rfl
        have z2 := Z.cell 2 rfl
        have z3 := Z.cell 3 rfl
        rw [Exit.noGoto_ret]
        exact bodyPost_ret (by simp [results, Tryz.results106, go_sem, z0, z1, z2, z3]; try rfl) rfl ⟨by rw [HF.out], put4_below (HBl.out x5) (by omega)⟩
      · have HJ' : Hid (∀ j : Nat, j < k + 1 → markN m j < d) := by
          intro j hj
          by_cases e : j = k
          · subst e
            omega
          · exact HJ.out j (by omega)
        clear HA HE HJ KD KK
        generalize markN m k = mk at *
        go_wp2_with fail
        refine (KK1 _).mono ?_
        rintro e w2 ⟨rfl, rfl⟩
        go_wp2
        exact ⟨⟨k + 1, mk, by omega, by go_num, rfl, (by first | rfl | trivial), HJ'.out⟩, by simp [intOf]; omega⟩
    · have hk3 : k = 3 := by omega
      subst hk3
      have HF := hideP (HE.out HJ.out)
      clear HA HE HJ KD
      go_wp2_with fail
      refine wp_region_later (W := W0) x1.below (by kernel_rfl) (by kernel_rfl) ?_
      repeat (go_big_quiet_step (first | (go_at_call 125; exact calls_same (KB _)) | (go_at_call 126; exact calls_later (KK _))))
      refine wpQuiet_nil ?_
      intro _ hw'
      obtain ⟨x4, rfl⟩ := hw'
      go_wp2_with fail
      go_step3
      go_wp2_with fail
      obtain ⟨xd, hxd⟩ : ∃ xd : Later W0, x4.w.drew = xd.w := ⟨⟨x4.w.drew, (x4.below).drew⟩, rfl⟩
      refine wp_region_any (by kernel_rfl) ?_
      change wpAny _ _ _ _ (1 + 10) _ _ _
      refine any_prefix (C := fun w' => ∃ x : Later W0, w' = x.w) 10 1 (by decide) (by kernel_rfl) (by kernel_rfl) (by kernel_rfl) (by kernel_rfl) (by kernel_rfl) ⟨xd, hxd⟩ ?_
      simp only [List.take_succ_cons, List.take_zero]
      clear hxd xd
      repeat (go_big_quiet_step (first | (go_at_call 127; exact calls_later (KW _))))
      refine wpQuiet_nil ?_
      intro _ hw'
      obtain ⟨x5, rfl⟩ := hw'
      refine wpAny_ready (rs := [10]) (by kernel_rfl) (by simp) ?_
      refine AllReady.cons rfl (fun K hK => ?_) AllReady.nil
      go_simp
      refine hK _ _ ?_
      clear hK K
      refine wpAny_done (by kernel_rfl) ?_ _
      rw [put4_eq]
      go_wp2_with fail
      have Z := put4_blk (v0 := .int .i64 ((cd + 1) - d + 1)) (v1 := .int .i64 0) (v2 := .int .i64 (m % 12 + 1)) (v3 := .bool tw) (HR.out x5)
      have z0 := Z.cell 0 rfl
      have z1 := Z.cell 1 rfl
      have z2 := Z.cell 2 rfl
      have z3 := Z.cell 3 rfl
      refine jump_ret ?_
      exact bodyPost_ret (by simp [results, Tryz.results106, go_sem, z0, z1, z2, z3]; try rfl) rfl ⟨by rw [HF.out], put4_below (HBl.out x5) (by omega)⟩
end Go.Proofs.YtoofnjccpoeomaaGreatDoor.ctr
