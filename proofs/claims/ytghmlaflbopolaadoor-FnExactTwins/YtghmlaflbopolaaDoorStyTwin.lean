/- Contracts of the program's and the model's Twins: each answers the plain function, where the table of months holds its numbers. -/
import Derived.Test.YtghmlaflbopolaaDoorStyFun
import Derived.Test.YtghmlaflbopolaaDoorRegSplit
import Derived.Deep.RegionWith
namespace Go.Proofs.YtghmlaflbopolaaDoor.ctr
open Go.RowKit

theorem max_int (a b : Int) : max a b = if a < b then b else a := by
  by_cases h : a < b
  · rw [if_pos h]; omega
  · rw [if_neg h]; omega
theorem twins_no {c s y : Int} (h : ¬ (yearP c y ∧ s = 4)) : twins c s y = 0 := by unfold twins; rw [if_neg h]
set_option maxHeartbeats 1000000 in
theorem implTwins (c s y : Int) (w : World) (hT : Tab w) : Calls Tryd.prog 28 #[.int .i64 c, .int .i64 s, .int .i64 y] w fun e w' => e = .returned (.int .i64 (twins c s y)) ∧ Below w.heap.size w w' := by
  have KT : ∀ x : Later w, Tab x.w := fun x => hT.later x.below
  have KY : ∀ x : Later w, Calls Tryd.prog 46 #[.int .i64 c, .int .i64 y] x.w fun e w' => e = .returned (.bool (yearB c y)) ∧ Below x.w.heap.size x.w w' := fun x => implYearOk c y x.w (KT x)
  clear hT
  by_cases hs : s = 4
  · have hd : decide (s = 4) = true := decide_eq_true hs
    by_cases hy : yearP c y
    · simp only [yearB_true hy] at KY
      have HR : Hid (twins c s y = max (sumE c (y + 1) - sumE c y) 0) := by unfold Hid twins; rw [if_pos ⟨hy, hs⟩]
      obtain ⟨hc, hy1, hy2⟩ := hy
      have f1 := easter_fact_at hc hy1 (show y ≤ 4000 by omega)
      have f2 := easter_fact_at hc (show 1 ≤ y + 1 by omega) (show y + 1 ≤ 4000 by omega)
      have g1 := f1.1
      have g2 := f1.2.1
      have g3 := f2.1
      have g4 := f2.2.1
      have K0 : ∀ x : Later w, Calls Tryd.prog 66 #[.agg #[.int .i64 c, .int .i64 y]] x.w fun e w' => e = .returned (.int .i64 (sumE c y - 113)) ∧ Below x.w.heap.size x.w w' := fun x => impl_easterDays c y x.w (KT x) hc hy1 (by omega)
      have K1 : ∀ x : Later w, Calls Tryd.prog 66 #[.agg #[.int .i64 c, .int .i64 (y + 1)]] x.w fun e w' => e = .returned (.int .i64 (sumE c (y + 1) - 113)) ∧ Below x.w.heap.size x.w w' := fun x => impl_easterDays c (y + 1) x.w (KT x) hc (by omega) (by omega)
      rw [HR.out]
      clear HR f1 f2 hc KT
      generalize sumE c (y + 1) = e1 at *
      generalize sumE c y = e0 at *
      go_enter Tryd.func28, Tryd.ntmps28
      go_wp2_with fail
      refine (KY ⟨w, Below.refl _ _⟩).mono ?_
      rintro e w1 ⟨rfl, hb⟩
      obtain ⟨x1, rfl⟩ := Later.of hb
      clear hb
      obtain ⟨W0, hW0⟩ : ∃ W0, W0 = (x1.w.alloc (.cells #[.int .i64 c, .int .i64 y] 67)).alloc (.cells #[.int .i64 c, .int .i64 (y + 1)] 67) := ⟨_, rfl⟩
      have HW0 := hideP hW0
      have b0 : Blk W0 x1.w.heap.size #[.int .i64 c, .int .i64 y] 67 := by rw [hW0]; exact (Blk.new x1.w _ _).alloc _
      have b1 : Blk W0 (x1.w.heap.size + 1) #[.int .i64 c, .int .i64 (y + 1)] 67 := by rw [hW0]; simpa using Blk.new (x1.w.alloc (.cells #[.int .i64 c, .int .i64 y] 67)) #[.int .i64 c, .int .i64 (y + 1)] 67
      have HL0 : Hid (Below w.heap.size w W0) := by unfold Hid; rw [hW0]; exact (x1.below.alloc x1.below.size _).alloc (by have h : w.heap.size ≤ x1.w.heap.size := x1.below.size; simp; omega) _
      have HL : Hid (∀ x : Later W0, Below w.heap.size w x.w) := fun x => HL0.out.trans (x.below.mono HL0.out.size)
      have a0 : ∀ x : Later W0, x.w.cell? ⟨x1.w.heap.size, 0, none⟩ = some (.int .i64 c) := fun x => (b0.later x).cell 0 rfl
      have a1 : ∀ x : Later W0, x.w.cell? ⟨x1.w.heap.size, 1, none⟩ = some (.int .i64 y) := fun x => (b0.later x).cell 1 rfl
      have a2 : ∀ x : Later W0, x.w.cell? ⟨x1.w.heap.size + 1, 0, none⟩ = some (.int .i64 c) := fun x => (b1.later x).cell 0 rfl
      have a3 : ∀ x : Later W0, x.w.cell? ⟨x1.w.heap.size + 1, 1, none⟩ = some (.int .i64 (y + 1)) := fun x => (b1.later x).cell 1 rfl
      have K0' : ∀ x : Later W0, Calls Tryd.prog 66 #[.agg #[.int .i64 c, .int .i64 y]] x.w fun e w' => e = .returned (.int .i64 (e0 - 113)) ∧ Below x.w.heap.size x.w w' := fun x => K0 ⟨x.w, HL.out x⟩
      have K1' : ∀ x : Later W0, Calls Tryd.prog 66 #[.agg #[.int .i64 c, .int .i64 (y + 1)]] x.w fun e w' => e = .returned (.int .i64 (e1 - 113)) ∧ Below x.w.heap.size x.w w' := fun x => K1 ⟨x.w, HL.out x⟩
      clear hW0 b0 b1 K0 K1 KY
      have HM := hideP (max_int (e1 - e0) 0)
      go_wp2_with fail
      rw [← HW0.out]
      have h1 : Hid (y + 1 = y + 1) := rfl
      clear HW0
      generalize y + 1 = Y1 at *
      obtain ⟨xd, hxd⟩ : ∃ xd : Later W0, W0.drew = xd.w := ⟨⟨W0.drew, (Below.refl _ _).drew⟩, rfl⟩
      refine wp_region_any (by kernel_rfl) ?_
      change wpAny _ _ _ _ (2 + 5) _ _ _
      refine any_prefix (C := fun w' => ∃ x : Later W0, w' = x.w) 5 2 (by decide) (by kernel_rfl) (by kernel_rfl) (by kernel_rfl) (by kernel_rfl) (by kernel_rfl) ⟨xd, hxd⟩ ?_
      simp only [List.take_succ_cons, List.take_zero]
      clear hxd xd
      repeat (go_big_quiet_step (first | (go_at_call_of 66 Y1; exact calls_later (K1' _)) | (go_at_call_of 66 y; exact calls_later (K0' _))))
      refine wpQuiet_nil ?_
      intro _ hw'
      obtain ⟨x5, rfl⟩ := hw'
      refine wpAny_ready (rs := [5]) (by kernel_rfl) (by simp) ?_
      refine AllReady.cons rfl (fun K hK => ?_) AllReady.nil
      go_simp
      refine hK _ _ ?_
      clear hK K
      have HX : Hid ((if e1 - 113 - (e0 - 113) < 0 then 0 else e1 - 113 - (e0 - 113)) = max (e1 - e0) 0) := by
        unfold Hid
        by_cases h : e1 - 113 - (e0 - 113) < 0
        · rw [if_pos h]; omega
        · rw [if_neg h]; omega
      generalize (if e1 - 113 - (e0 - 113) < 0 then 0 else e1 - 113 - (e0 - 113)) = X at *
      refine wpAny_ready (rs := [6]) (by kernel_rfl) (by simp) ?_
      refine AllReady.cons rfl (fun K hK => ?_) AllReady.nil
      go_simp
      refine hK _ _ ?_
      clear hK K
      refine wpAny_done (by kernel_rfl) ?_ _
      go_wp2
      go_ret
      exact ⟨ret_int HX.out, HL.out x5⟩
    · simp only [yearB_false hy] at KY
      rw [twins_no (fun k => hy k.1)]
      clear hy KT
      go_enter Tryd.func28, Tryd.ntmps28
      go_wp2_with fail
      refine (KY ⟨w, Below.refl _ _⟩).mono ?_
      rintro e w1 ⟨rfl, hb⟩
      obtain ⟨x1, rfl⟩ := Later.of hb
      clear hb
      go_wp2
      go_ret
      exact ⟨rfl, x1.below⟩
  · have hd : decide (s = 4) = false := decide_eq_false hs
    rw [twins_no (fun k => hs k.2)]
    clear KT KY
    go_enter Tryd.func28, Tryd.ntmps28
    go_wp2
    go_ret
    exact ⟨rfl, Below.refl _ _⟩


theorem twin_none {c s y x : Int} (h : dateOf c x = (0, 0, 0, 0, false)) : twinB c s y x = false := by unfold twinB; rw [h]; rfl
theorem twin_at {c s y x Y m d : Int} (h : dateOf c x = (c, Y, m, d, true)) : twinB c s y x = (decide (lineD c (Y + 1) m d < start c s (y + 1)) && decide (d ≤ monthDays c (Y + 1) m)) := by unfold twinB; rw [h]; rfl
theorem cntT_hit {c s y : Int} {k : Nat} (h : twinB c s y (start c s y + k) = true) : cntT c s y (k + 1) = cntT c s y k + 1 := by rw [cntT, if_pos h]
theorem cntT_miss {c s y : Int} {k : Nat} (h : twinB c s y (start c s y + k) = false) : cntT c s y (k + 1) = cntT c s y k := by rw [cntT, if_neg (by rw [h]; simp)]; omega

set_option maxHeartbeats 2000000 in
theorem specTwins (c s y : Int) (w : World) : Calls Tryd.prog 29 #[.int .i64 c, .int .i64 s, .int .i64 y] w fun e w' => e = .returned (.int .i64 (twins c s y)) ∧ Below w.heap.size w w' := by
  have KY : ∀ x : Later w, Calls Tryd.prog 65 #[.int .i64 c, .int .i64 s, .int .i64 y] x.w fun e w' => e = .returned (.bool (yearB c y && styleB s)) ∧ Below x.w.heap.size x.w w' := fun x => specYear6 c s y x.w
  by_cases h : yearP c y ∧ styleP s
  · simp only [yB_true h] at KY
    have K0 : ∀ x : Later w, Calls Tryd.prog 57 #[.int .i64 c, .int .i64 s, .int .i64 y] x.w fun e w' => e = .returned (.int .i64 (start c s y)) ∧ Below x.w.heap.size x.w w' := fun x => specStart c s y x.w h.1.1 h.2 h.1.2.1 (by have := h.1.2.2; omega)
    have K1 : ∀ W, Calls Tryd.prog 57 #[.int .i64 c, .int .i64 s, .int .i64 (y + 1)] W fun e w' => e = .returned (.int .i64 (start c s (y + 1))) ∧ Below W.heap.size W w' := fun W => specStart c s (y + 1) W h.1.1 h.2 (by have := h.1.2.1; omega) (by have := h.1.2.2; omega)
    have hb1 := start_bound h.1.1 h.2 h.1.2.1 (show y ≤ 3900 by have := h.1.2.2; omega)
    have hb2 := start_bound h.1.1 h.2 (show 1 ≤ y + 1 by have := h.1.2.1; omega) (show y + 1 ≤ 3900 by have := h.1.2.2; omega)
    have HR := hideP (cntT_all h.1 h.2)
    have hy1 := h.1.2.1
    have hy2 := h.1.2.2
    have hc := h.1.1
    have HH : Hid (∀ k : Nat, twinB c s y (start c s y + k) = true → cntT c s y (k + 1) = cntT c s y k + 1) := fun k => cntT_hit
    have HM : Hid (∀ k : Nat, twinB c s y (start c s y + k) = false → cntT c s y (k + 1) = cntT c s y k) := fun k => cntT_miss
    have HA : Hid (∀ x Y m d, dateOf c x = (c, Y, m, d, true) → twinB c s y x = (decide (lineD c (Y + 1) m d < start c s (y + 1)) && decide (d ≤ monthDays c (Y + 1) m))) := fun x Y m d h => twin_at h
    have HZ : Hid (∀ x, dateOf c x = (0, 0, 0, 0, false) → twinB c s y x = false) := fun x h => twin_none h
    have HC : Hid (∀ k : Nat, 0 ≤ cntT c s y k ∧ cntT c s y k ≤ k) := cntT_bound c s y
    rw [← HR.out]
    clear h HR
    generalize start c s (y + 1) = R1 at *
    generalize start c s y = R0 at *
    go_enter Tryd.func29, Tryd.ntmps29
    go_wp2_with fail
    refine (KY ⟨w, Below.refl _ _⟩).mono ?_
    rintro e w1 ⟨rfl, hb⟩
    obtain ⟨x1, rfl⟩ := Later.of hb
    clear hb
    go_wp2_with fail
    refine (K0 x1).mono ?_
    rintro e w2 ⟨rfl, hb⟩
    obtain ⟨x2, rfl⟩ := x1.next hb
    clear hb KY K0
    go_wp2_with fail
    go_loopw [7, 9] (fun n i wr => ∃ (k : Nat) (x : Later w), k ≤ 60 ∧ i = .int .i64 (R0 + k) ∧ n = .int .i64 (cntT c s y k) ∧ wr = x.w) (fun _ i _ => (2000000 - intOf i).toNat)
    case atStart => exact ⟨0, x2, by omega, by simp, rfl, rfl⟩
    case round =>
      obtain ⟨k, x, hk, rfl, rfl, rfl⟩ := hrel
      have hcb := HC.out k
      by_cases hlt : k < 60
      · have KD := specDateOf c (R0 + k) x.w
        have hlt' : R0 + (k : Int) < R0 + 60 := by omega
        rcases date_cases c (R0 + k) with hD | ⟨Y, m, d, hD, _, hY1, hY2, _, _⟩
        · rw [dateR_no hD] at KD
          have HT := hideP (HM.out k (HZ.out _ hD))
          have KL : ∀ W, Calls Tryd.prog 67 #[.int .i64 c, .int .i64 1, .int .i64 0, .int .i64 0] W fun e w' => e = .returned (.int .i64 (lineD c 1 0 0)) ∧ Below W.heap.size W w' := fun W => specDay c 1 0 0 W hc (by omega) (by omega) (by omega) (by omega) (by omega)
          unfold z4 at KD
          clear hD HH HM HA HZ HC hc K1
          generalize lineD c 1 0 0 = L at *
          generalize cntT c s y k = N at *
          go_wp2_with fail
          refine KD.mono ?_
          rintro e w3 ⟨rfl, hb⟩
          obtain ⟨x3, rfl⟩ := x.next hb
          clear hb
          obtain ⟨W0, hW0⟩ : ∃ W0, W0 = x3.w.alloc (.cells #[.int .i64 0, .int .i64 0, .int .i64 0, .int .i64 0] 40) := ⟨_, rfl⟩
          have HW0 := hideP hW0
          have HL : Hid (∀ z : Later W0, Below w.heap.size w z.w) := fun z => x3.on (below_of_alloc HW0.out z.below)
          clear hW0
          go_wp2_with fail
          rw [← HW0.out]
          refine (KL _).mono ?_
          rintro e w4 ⟨rfl, hb⟩
          obtain ⟨x4, rfl⟩ := Later.of hb
          clear hb
          go_wp2_with fail
          refine wp_region_later (W := W0) x4.below (by kernel_rfl) (by kernel_rfl) ?_
          repeat (go_big_quiet_step (fail))
          refine wpQuiet_nil ?_
          intro _ hw'
          obtain ⟨x5, rfl⟩ := hw'
          go_wp2
          exact ⟨⟨k + 1, ⟨x5.w, HL.out x5⟩, by omega, by go_num, by rw [HT.out], rfl⟩, by simp [intOf]; omega⟩
        · skip
          rw [dateR_yes hD] at KD
          have hd := (date_back hD).2.1
          have hm := dateP_month hd
          have hdd := dateP_day hd
          have KL : ∀ W, Calls Tryd.prog 67 #[.int .i64 c, .int .i64 (Y + 1), .int .i64 m, .int .i64 d] W fun e w' => e = .returned (.int .i64 (lineD c (Y + 1) m d)) ∧ Below W.heap.size W w' := fun W => specDay c (Y + 1) m d W hc (by omega) (by omega) (by omega) (by omega) (by omega)
          have KM : ∀ W, Calls Tryd.prog 68 #[.int .i64 c, .int .i64 (Y + 1), .int .i64 m] W fun e w' => e = .returned (.int .i64 (monthDays c (Y + 1) m)) ∧ Below W.heap.size W w' := specMonthDays c (Y + 1) m
          have hA := HA.out _ Y m d hD
          by_cases h1 : lineD c (Y + 1) m d < R1
          · rw [decide_eq_true h1, Bool.true_and] at hA
            by_cases h2 : d ≤ monthDays c (Y + 1) m
            · rw [decide_eq_true h2] at hA
              have HT := hideP (HH.out k hA)
              have hd1 := decide_eq_true h1
              have hd2 := decide_eq_true h2
              clear hD HH HM HA HZ HC hd hA
              generalize lineD c (Y + 1) m d = L at *
              generalize monthDays c (Y + 1) m = md at *
              generalize cntT c s y k = N at *
              go_wp2_with fail
              refine KD.mono ?_
              rintro e w3 ⟨rfl, hb⟩
              obtain ⟨x3, rfl⟩ := x.next hb
              clear hb KD
              obtain ⟨W0, hW0⟩ : ∃ W0, W0 = x3.w.alloc (.cells #[.int .i64 c, .int .i64 Y, .int .i64 m, .int .i64 d] 40) := ⟨_, rfl⟩
              have HW0 := hideP hW0
              have c1 : ∀ x : Later W0, x.w.cell? ⟨x3.w.heap.size, 1, none⟩ = some (.int .i64 Y) := Later.new hW0 1 rfl
              have c2 : ∀ x : Later W0, x.w.cell? ⟨x3.w.heap.size, 2, none⟩ = some (.int .i64 m) := Later.new hW0 2 rfl
              have c3 : ∀ x : Later W0, x.w.cell? ⟨x3.w.heap.size, 3, none⟩ = some (.int .i64 d) := Later.new hW0 3 rfl
              have HL : Hid (∀ z : Later W0, Below w.heap.size w z.w) := fun z => x3.on (below_of_alloc HW0.out z.below)
              clear hW0
              go_wp2_with fail
              rw [← HW0.out]
              refine (KL _).mono ?_
              rintro e w4 ⟨rfl, hb⟩
              obtain ⟨x4, rfl⟩ := Later.of hb
              clear hb KL
              go_wp2_with fail
              refine wp_region_later (W := W0) x4.below (by kernel_rfl) (by kernel_rfl) ?_
              repeat (go_big_quiet_step (first | (go_at_call 57; exact calls_later (K1 _)) | (go_at_call 68; exact calls_later (KM _))))
              refine wpQuiet_nil ?_
              intro _ hw'
              obtain ⟨x5, rfl⟩ := hw'
              go_wp2
              exact ⟨⟨k + 1, ⟨x5.w, HL.out x5⟩, by omega, by go_num, by rw [HT.out], rfl⟩, by simp [intOf]; omega⟩
            · rw [decide_eq_false h2] at hA
              have HT := hideP (HM.out k hA)
              have hd1 := decide_eq_true h1
              have hd2 := decide_eq_false h2
              clear hD HH HM HA HZ HC hd hA
              generalize lineD c (Y + 1) m d = L at *
              generalize monthDays c (Y + 1) m = md at *
              generalize cntT c s y k = N at *
              go_wp2_with fail
              refine KD.mono ?_
              rintro e w3 ⟨rfl, hb⟩
              obtain ⟨x3, rfl⟩ := x.next hb
              clear hb KD
              obtain ⟨W0, hW0⟩ : ∃ W0, W0 = x3.w.alloc (.cells #[.int .i64 c, .int .i64 Y, .int .i64 m, .int .i64 d] 40) := ⟨_, rfl⟩
              have HW0 := hideP hW0
              have c1 : ∀ x : Later W0, x.w.cell? ⟨x3.w.heap.size, 1, none⟩ = some (.int .i64 Y) := Later.new hW0 1 rfl
              have c2 : ∀ x : Later W0, x.w.cell? ⟨x3.w.heap.size, 2, none⟩ = some (.int .i64 m) := Later.new hW0 2 rfl
              have c3 : ∀ x : Later W0, x.w.cell? ⟨x3.w.heap.size, 3, none⟩ = some (.int .i64 d) := Later.new hW0 3 rfl
              have HL : Hid (∀ z : Later W0, Below w.heap.size w z.w) := fun z => x3.on (below_of_alloc HW0.out z.below)
              clear hW0
              go_wp2_with fail
              rw [← HW0.out]
              refine (KL _).mono ?_
              rintro e w4 ⟨rfl, hb⟩
              obtain ⟨x4, rfl⟩ := Later.of hb
              clear hb KL
              go_wp2_with fail
              refine wp_region_later (W := W0) x4.below (by kernel_rfl) (by kernel_rfl) ?_
              repeat (go_big_quiet_step (first | (go_at_call 57; exact calls_later (K1 _)) | (go_at_call 68; exact calls_later (KM _))))
              refine wpQuiet_nil ?_
              intro _ hw'
              obtain ⟨x5, rfl⟩ := hw'
              go_wp2
              exact ⟨⟨k + 1, ⟨x5.w, HL.out x5⟩, by omega, by go_num, by rw [HT.out], rfl⟩, by simp [intOf]; omega⟩
          · rw [decide_eq_false h1, Bool.false_and] at hA
            have HT := hideP (HM.out k hA)
            have hd1 := decide_eq_false h1
            clear hD HH HM HA HZ HC hd hA
            generalize lineD c (Y + 1) m d = L at *
            generalize monthDays c (Y + 1) m = md at *
            generalize cntT c s y k = N at *
            go_wp2_with fail
            refine KD.mono ?_
            rintro e w3 ⟨rfl, hb⟩
            obtain ⟨x3, rfl⟩ := x.next hb
            clear hb KD
            obtain ⟨W0, hW0⟩ : ∃ W0, W0 = x3.w.alloc (.cells #[.int .i64 c, .int .i64 Y, .int .i64 m, .int .i64 d] 40) := ⟨_, rfl⟩
            have HW0 := hideP hW0
            have c1 : ∀ x : Later W0, x.w.cell? ⟨x3.w.heap.size, 1, none⟩ = some (.int .i64 Y) := Later.new hW0 1 rfl
            have c2 : ∀ x : Later W0, x.w.cell? ⟨x3.w.heap.size, 2, none⟩ = some (.int .i64 m) := Later.new hW0 2 rfl
            have c3 : ∀ x : Later W0, x.w.cell? ⟨x3.w.heap.size, 3, none⟩ = some (.int .i64 d) := Later.new hW0 3 rfl
            have HL : Hid (∀ z : Later W0, Below w.heap.size w z.w) := fun z => x3.on (below_of_alloc HW0.out z.below)
            clear hW0
            go_wp2_with fail
            rw [← HW0.out]
            refine (KL _).mono ?_
            rintro e w4 ⟨rfl, hb⟩
            obtain ⟨x4, rfl⟩ := Later.of hb
            clear hb KL
            go_wp2_with fail
            refine wp_region_later (W := W0) x4.below (by kernel_rfl) (by kernel_rfl) ?_
            repeat (go_big_quiet_step (first | (go_at_call 57; exact calls_later (K1 _)) | (go_at_call 68; exact calls_later (KM _))))
            refine wpQuiet_nil ?_
            intro _ hw'
            obtain ⟨x5, rfl⟩ := hw'
            go_wp2
            exact ⟨⟨k + 1, ⟨x5.w, HL.out x5⟩, by omega, by go_num, by rw [HT.out], rfl⟩, by simp [intOf]; omega⟩
      · have hk60 : k = 60 := by omega
        subst hk60
        clear HH HM HA HZ HC K1 hc
        go_wp2
        go_ret
        exact ⟨rfl, x.below⟩
  · simp only [yB_false h] at KY
    rw [twins_no (fun k => h ⟨k.1, by rw [k.2]; unfold styleP; omega⟩)]
    clear h
    go_enter Tryd.func29, Tryd.ntmps29
    go_wp2_with fail
    refine (KY ⟨w, Below.refl _ _⟩).mono ?_
    rintro e w1 ⟨rfl, hb⟩
    obtain ⟨x1, rfl⟩ := Later.of hb
    clear hb
    go_wp2
    go_ret
    exact ⟨rfl, x1.below⟩
end Go.Proofs.YtghmlaflbopolaaDoor.ctr
