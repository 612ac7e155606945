/- Contracts of the year that holds a day: the model's l02Year and the program's yearHolding. Contract of the model's DateOf: it answers its plain function at every argument. Contract of the program's DateOf: it answers its plain function at every argument, where its table holds its numbers. Contracts of the program's isInBoth, endsOk, reignOk, isBehind and reignNamed, and of the model's l08Dated: each answers its plain function. -/
import Derived.Test.YtilpencbbdpgfaaGreatDoorJnQai
import Derived.Test.YtilpencbbdpgfaaGreatDoorJnQaa
import Derived.Deep.RegionWith
import Derived.Test.YtilpencbbdpgfaaGreatDoorRgnListQ
namespace Go.Proofs.YtilpencbbdpgfaaGreatDoor.ctr
open Go.RowKit
theorem year_low {c n : Int} (hc : c = 0 ∨ c = 1) (h1 : -1000 ≤ n) (h2 : n ≤ 1200000) : first c (n / 366) ≤ n ∧ -5 ≤ n / 366 ∧ n / 366 ≤ 3300 := by
  rcases hc with rfl | rfl
  · rw [first_jul]; omega
  · rw [first_gre]; omega
theorem year_top {c y n : Int} (hc : c = 0 ∨ c = 1) (h1 : first c y ≤ n) (h2 : n ≤ 1200000) : y ≤ 3300 := by
  rcases hc with rfl | rfl
  · rw [first_jul] at h1; omega
  · rw [first_gre] at h1; omega
theorem year_mean {c n q : Int} (hc : c = 0 ∨ c = 1) (h2 : n ≤ 1200000) (hq : q = (n * 400).tdiv 146097) (h1 : 1 ≤ q) : first c q ≤ n := by
  have hn : 0 ≤ n := by
    by_cases hn : 0 ≤ n
    · exact hn
    · have e := Int.neg_tdiv (n * 400) 146097
      have e2 : (-(n * 400)).tdiv 146097 = -(n * 400) / 146097 := Int.tdiv_eq_ediv_of_nonneg (by omega)
      omega
  have e : (n * 400).tdiv 146097 = n * 400 / 146097 := Int.tdiv_eq_ediv_of_nonneg (by omega)
  rw [e] at hq
  rcases hc with rfl | rfl
  · rw [first_jul]; omega
  · rw [first_gre]; omega
set_option maxHeartbeats 400000 in
theorem specYear (c n : Int) (w : World) (hc : c = 0 ∨ c = 1) (h1 : -1000 ≤ n) (h2 : n ≤ 1200000) : Calls Tryz.prog 169 #[.int .i64 c, .int .i64 n] w fun e w' => e = .returned (.int .i64 (yearOf c n)) ∧ w' = w ∧ first c (yearOf c n) ≤ n ∧ n < first c (yearOf c n + 1) ∧ -5 ≤ yearOf c n ∧ yearOf c n ≤ 3300 := by
  have HL := hideP (year_low hc h1 h2)
  have HC := hideP hc
  have KD : ∀ W, Calls Tryz.prog 232 #[.int .i64 n, .int .i64 366] W fun e w' => e = .returned (.int .i64 (n / 366)) ∧ w' = W := fun W => by rw [← floorDiv_small (by omega) (by omega) (by omega)]; exact specFloorDiv _ _ W
  obtain ⟨R, hR⟩ : ∃ R, R = yearOf c n := ⟨_, rfl⟩
  rw [← hR]
  have HR := hideP hR
  clear hR hc
  generalize n / 366 = q at *
  go_enter Tryz.func169, Tryz.ntmps169
  go_wp2_with (go_at_call 232; refine (KD _).mono ?_; rintro e w1 ⟨rfl, rfl⟩)
  rename_i w
  go_loop [5] (fun v => ∃ y : Int, v = .int .i64 y ∧ Hid (first c y ≤ n) ∧ -5 ≤ y ∧ y ≤ 3300) (fun v => (4000 - intOf v).toNat)
  case atStart => exact ⟨q, rfl, HL.out.1, HL.out.2.1, HL.out.2.2⟩
  case round =>
    obtain ⟨y, rfl, HY, y1, y2⟩ := hrel
    have KF : ∀ W, Calls Tryz.prog 170 #[.int .i64 c, .int .i64 (y + 1)] W fun e w' => e = .returned (.int .i64 (first c (y + 1))) ∧ w' = W := fun W => specFirst c (y + 1) W HC.out (by omega) (by omega)
    by_cases h : first c (y + 1) ≤ n
    · have ht := year_top HC.out h h2
      have HN := hideP h
      obtain ⟨F, eF⟩ : ∃ F, first c (y + 1) = F := ⟨_, rfl⟩
      rw [eF] at KF h
      clear eF
      go_wp2_with (go_at_call 170; refine (KF _).mono ?_; rintro e w1 ⟨rfl, rfl⟩)
      exact ⟨⟨y + 1, by go_num, HN, by omega, by omega⟩, by simp [intOf]; omega⟩
    · have HE : Hid (R = y) := by unfold Hid; rw [HR.out]; exact yearOf_eq HC.out HY.out (by omega)
      have HF : Hid (n < first c (y + 1)) := by unfold Hid; omega
      have h' : n < first c (y + 1) := by omega
      clear h
      obtain ⟨F, eF⟩ : ∃ F, first c (y + 1) = F := ⟨_, rfl⟩
      rw [eF] at KF h'
      clear eF
      go_wp2_with (go_at_call 170; refine (KF _).mono ?_; rintro e w1 ⟨rfl, rfl⟩)
      go_ret
      obtain rfl : R = y := HE.out
      exact ⟨rfl, rfl, HY.out, HF.out, y1, y2⟩
set_option maxHeartbeats 400000 in
theorem implYear (c n : Int) (w : World) (hc : c = 0 ∨ c = 1) (h1 : first c 1 ≤ n) (h2 : n ≤ 1200000) : Calls Tryz.prog 177 #[.iface (calT c) (.agg #[]), .int .i64 n] w fun e w' => e = .returned (.int .i64 (yearOf c n)) ∧ w' = w := by
  have hl : -1000 ≤ n := by
    rcases hc with rfl | rfl
    · rw [first_jul] at h1; omega
    · rw [first_gre] at h1; omega
  have HC := hideP hc
  have H1 := hideP h1
  obtain ⟨R, hR⟩ : ∃ R, R = yearOf c n := ⟨_, rfl⟩
  rw [← hR]
  have HR := hideP hR
  have KE : ∀ y : Int, Hid (-6 ≤ y ∧ y ≤ 3900) → ∀ W, Calls Tryz.prog 176 #[.iface (calT c) (.agg #[]), .int .i64 (y + 1)] W fun e w' => e = .returned (.int .i64 (first c (y + 1) - 1)) ∧ w' = W := fun y hy W => implEve c (y + 1) W HC.out (by have := hy.out; omega) (by have := hy.out; omega)
  obtain ⟨q, hq⟩ : ∃ q, q = (n * 400).tdiv 146097 := ⟨_, rfl⟩
  have HM : Hid (1 ≤ q → first c q ≤ n) := fun h => year_mean HC.out h2 hq h
  have HT : Hid (∀ y, first c y ≤ n → y ≤ 3300) := fun y h => year_top HC.out h h2
  generalize calT c = T at *
  clear hR hc h1
  by_cases hq1 : q < 1
  · go_enter Tryz.func177, Tryz.ntmps177
    go_wp2_with fail
    go_loop [5] (fun v => ∃ y : Int, v = .int .i64 y ∧ Hid (first c y ≤ n) ∧ 1 ≤ y ∧ y ≤ 3300) (fun v => (4000 - intOf v).toNat)
    case atStart => exact ⟨1, rfl, H1, by omega, by omega⟩
    case round =>
      obtain ⟨y, rfl, HY, y1, y2⟩ := hrel
      have KF := KE y (by unfold Hid; omega)
      by_cases h : first c (y + 1) ≤ n
      · have ht := HT.out _ h
        have HN := hideP h
        have b1 := first_bound HC.out (show -5 ≤ y + 1 by omega) (show y + 1 ≤ 4000 by omega)
        obtain ⟨F, eF⟩ : ∃ F, first c (y + 1) = F := ⟨_, rfl⟩
        rw [eF] at KF h b1
        clear eF
        go_wp2_with (go_at_call 176; refine (KF _).mono ?_; rintro e w1 ⟨rfl, rfl⟩)
        exact ⟨⟨y + 1, by go_num, HN, by omega, by omega⟩, by simp [intOf]; omega⟩
      · have HE : Hid (R = y) := by unfold Hid; rw [HR.out]; exact yearOf_eq HC.out HY.out (by omega)
        have b1 := first_bound HC.out (show -5 ≤ y + 1 by omega) (show y + 1 ≤ 4000 by omega)
        obtain ⟨F, eF⟩ : ∃ F, first c (y + 1) = F := ⟨_, rfl⟩
        rw [eF] at KF h b1
        clear eF
        go_wp2_with (go_at_call 176; refine (KF _).mono ?_; rintro e w1 ⟨rfl, rfl⟩)
        go_ret
        exact ⟨ret_int HE.out.symm, rfl⟩
  · have hb : 1 ≤ q ∧ q ≤ 3300 := ⟨by omega, HT.out _ (HM.out (by omega))⟩
    go_enter Tryz.func177, Tryz.ntmps177
    go_wp2_with fail
    go_loop [5] (fun v => ∃ y : Int, v = .int .i64 y ∧ Hid (first c y ≤ n) ∧ 1 ≤ y ∧ y ≤ 3300) (fun v => (4000 - intOf v).toNat)
    case atStart => exact ⟨q, by rw [hq], HM.out hb.1, hb.1, hb.2⟩
    case round =>
      obtain ⟨y, rfl, HY, y1, y2⟩ := hrel
      have KF := KE y (by unfold Hid; omega)
      by_cases h : first c (y + 1) ≤ n
      · have ht := HT.out _ h
        have HN := hideP h
        have b1 := first_bound HC.out (show -5 ≤ y + 1 by omega) (show y + 1 ≤ 4000 by omega)
        obtain ⟨F, eF⟩ : ∃ F, first c (y + 1) = F := ⟨_, rfl⟩
        rw [eF] at KF h b1
        clear eF
        go_wp2_with (go_at_call 176; refine (KF _).mono ?_; rintro e w1 ⟨rfl, rfl⟩)
        exact ⟨⟨y + 1, by go_num, HN, by omega, by omega⟩, by simp [intOf]; omega⟩
      · have HE : Hid (R = y) := by unfold Hid; rw [HR.out]; exact yearOf_eq HC.out HY.out (by omega)
        have b1 := first_bound HC.out (show -5 ≤ y + 1 by omega) (show y + 1 ≤ 4000 by omega)
        obtain ⟨F, eF⟩ : ∃ F, first c (y + 1) = F := ⟨_, rfl⟩
        rw [eF] at KF h b1
        clear eF
        go_wp2_with (go_at_call 176; refine (KF _).mono ?_; rintro e w1 ⟨rfl, rfl⟩)
        go_ret
        exact ⟨ret_int HE.out.symm, rfl⟩
end Go.Proofs.YtilpencbbdpgfaaGreatDoor.ctr
namespace Go.Proofs.YtilpencbbdpgfaaGreatDoor.ctr
open Go.RowKit
abbrev z4 : Array Value := #[.int .i64 0, .int .i64 0, .int .i64 0, .int .i64 0]
theorem dateOf_no {c n : Int} (h : ¬ ((c = 0 ∨ c = 1) ∧ 1 ≤ yearOf c n ∧ yearOf c n ≤ 3000 ∧ -1000 ≤ n ∧ n ≤ 1200000)) : dateOf c n = (0, 0, 0, 0, false) := by unfold dateOf; rw [if_neg h]
theorem dateOf_yes {c n y : Int} {k : Nat} (hc : c = 0 ∨ c = 1) (h1 : -1000 ≤ n) (h2 : n ≤ 1200000) (hy : yearOf c n = y) (hk : monthOf c y (n - first c y) = k) (y1 : 1 ≤ y) (y2 : y ≤ 3000) : dateOf c n = (c, y, (k : Int) + 1, n - first c y - before c y k + 1, true) := by
  unfold dateOf
  rw [hy, hk, if_pos ⟨hc, y1, y2, h1, h2⟩]
noncomputable def dateR (c n : Int) : Value := .tuple #[.agg #[.int .i64 (dateOf c n).1, .int .i64 (dateOf c n).2.1, .int .i64 (dateOf c n).2.2.1, .int .i64 (dateOf c n).2.2.2.1], .bool (dateOf c n).2.2.2.2]
theorem dateR_no {c n : Int} (h : dateOf c n = (0, 0, 0, 0, false)) : dateR c n = .tuple #[.agg z4, .bool false] := by unfold dateR; rw [h]
theorem dateR_yes {c n y m d : Int} (h : dateOf c n = (c, y, m, d, true)) : dateR c n = .tuple #[.agg #[.int .i64 c, .int .i64 y, .int .i64 m, .int .i64 d], .bool true] := by unfold dateR; rw [h]
set_option maxHeartbeats 1000000 in
theorem specDateOf (c n : Int) (w : World) : Calls Tryz.prog 106 #[.int .i64 c, .int .i64 n] w fun e w' => e = .returned (dateR c n) ∧ Below w.heap.size w w' := by
  by_cases hc : c = 0 ∨ c = 1
  case neg =>
    rw [dateR_no (dateOf_no (fun h => hc h.1))]
    have KC := fun W => specCal c W
    rw [calB_no hc] at KC
    clear hc
    go_enter Tryz.func106, Tryz.ntmps106
    go_wp2_with (go_at_call 120; refine (KC _).mono ?_; rintro e w1 ⟨rfl, rfl⟩)
    go_returns
    refine ⟨rfl, ?_⟩
    go_grown
  have KC := fun W => specCal c W
  rw [calB_iff.2 hc] at KC
  have KI := fun W => l01In n (-1000) 1200000 W
  by_cases hn : -1000 ≤ n ∧ n ≤ 1200000
  case neg =>
    rw [dateR_no (dateOf_no (fun h => hn h.2.2.2))]
    rw [inB_false (by omega)] at KI
    clear hc hn
    go_enter Tryz.func106, Tryz.ntmps106
    go_wp2_with (first | (go_at_call 120; refine (KC _).mono ?_; rintro e w1 ⟨rfl, rfl⟩) | (go_at_call 88; refine (KI _).mono ?_; rintro e w1 ⟨rfl, rfl⟩))
    go_returns
    refine ⟨rfl, ?_⟩
    go_grown
  obtain ⟨h1, h2⟩ := hn
  rw [inB_true h1 h2] at KI
  have KY := fun W => specYear c n W hc h1 h2
  obtain ⟨y, hy⟩ : ∃ y, yearOf c n = y := ⟨_, rfl⟩
  rw [hy] at KY
  have KF := fun a b W => specFirst c y W hc a b
  obtain ⟨F, hF⟩ : ∃ F, first c y = F := ⟨_, rfl⟩
  have hs := first_step hc y
  rw [hF] at KF hs
  obtain ⟨V, hV⟩ : ∃ V, dateR c n = V := ⟨_, rfl⟩
  rw [hV]
  have HH : Hid ((c = 0 ∨ c = 1) ∧ yearOf c n = y ∧ first c y = F ∧ first c (y + 1) = F + before c y 12 ∧ dateR c n = V) := ⟨hc, hy, hF, hs, hV⟩
  have hb0 := fun (hh : -5 ≤ y) (hh2 : y ≤ 3300) => first_bound hc hh (show y ≤ 4000 by omega)
  rw [hF] at hb0
  clear hc hy hF hs hV
  go_enter Tryz.func106, Tryz.ntmps106
  go_wp2_with (first | (go_at_call 120; refine (KC _).mono ?_; rintro e w1 ⟨rfl, rfl⟩) | (go_at_call 88; refine (KI _).mono ?_; rintro e w1 ⟨rfl, rfl⟩) | (go_at_call 169; refine (KY _).mono ?_; rintro e w1 ⟨rfl, rfl, q1, q2, q3, q4⟩; have b0 := hb0 q3 q4; rw [HH.out.2.2.1] at q1; rw [HH.out.2.2.2.1] at q2; have Q2 := hideP q2; clear q2) | (go_at_call 170; refine (KF (by omega) (by omega) _).mono ?_; rintro e w1 ⟨rfl, rfl⟩))
  go_loopw [7] (fun v wr => ∃ k : Nat, k < 12 ∧ v = .int .i64 (n - F - before c y k) ∧ before c y k ≤ n - F ∧ Below w.heap.size w wr ∧ Blk wr w.heap.size z4 92 ∧ Blk wr (w.heap.size + 1) #[.int .i64 c, .int .i64 y, .int .i64 ((k : Int) + 1), .int .i64 0] 92) (fun v _ => (intOf v).toNat)
  case atStart =>
    refine ⟨0, by omega, by simp [before], by simp [before]; omega, ?_, ?_, ?_⟩
    · exact ((Below.refl _ _).alloc (Nat.le_refl _) _).alloc (by rw [World.size_alloc]; omega) _
    · exact (Blk.new w _ _).alloc _
    · have := Blk.new (w.alloc (.cells z4 92)) #[.int .i64 c, .int .i64 y, .int .i64 (((0 : Nat) : Int) + 1), .int .i64 0] 92
      rw [World.size_alloc] at this
      exact this
  case round =>
    obtain ⟨k, hk, rfl, hle, hb, hz, hd⟩ := hrel
    have c1 : ∀ x : Later wr, x.w.cell? ⟨w.heap.size + 1, 1, none⟩ = some (.int .i64 y) := fun x => (hd.later x).cell 1 rfl
    have c2 : ∀ x : Later wr, x.w.cell? ⟨w.heap.size + 1, 2, none⟩ = some (.int .i64 ((k : Int) + 1)) := fun x => (hd.later x).cell 2 rfl
    have c0 : ∀ x : Later wr, x.w.cell? ⟨w.heap.size + 1, 0, none⟩ = some (.int .i64 c) := fun x => (hd.later x).cell 0 rfl
    have c3 : ∀ x : Later wr, x.w.cell? ⟨w.heap.size + 1, 3, none⟩ = some (.int .i64 0) := fun x => (hd.later x).cell 3 rfl
    have f3 : ∀ x : Later wr, x.w.frozen? ⟨w.heap.size + 1, 3, none⟩ = false := fun x => (hd.later x).thaw 3
    have c10 := hd.cell 1 rfl
    have c20 := hd.cell 2 rfl
    have f2 : ∀ x : Later wr, x.w.frozen? ⟨w.heap.size + 1, 2, none⟩ = false := fun x => (hd.later x).thaw 2
    have KM : ∀ W, Calls Tryz.prog 121 #[.int .i64 c, .int .i64 y, .int .i64 ((k : Int) + 1)] W fun e w' => e = .returned (.int .i64 (monthDays c y ((k : Int) + 1))) ∧ Below W.heap.size W w' := specMonthDays c y _
    have b1 := before_bound c y k
    have b2 := monthDays_le c y ((k : Int) + 1)
    have b3 := monthDays_ge (y := y) HH.out.1 (show 1 ≤ (k : Int) + 1 by omega) (show (k : Int) + 1 ≤ 12 by omega)
    have HN := hideP (before_next c y k)
    have HD := hideP hd
    have HZ := hideP hz
    have HB := hideP hb
    clear hd hz hb
    obtain ⟨md, em⟩ : ∃ md, monthDays c y ((k : Int) + 1) = md := ⟨_, rfl⟩
    rw [em] at KM b2 b3 HN
    have HE := hideP em
    clear em
    obtain ⟨B, eB⟩ : ∃ B, before c y k = B := ⟨_, rfl⟩
    have HBk := hideP eB
    rw [eB] at HN b1 hle
    rw [eB]
    clear eB
    by_cases hge : md ≤ n - F - B
    · go_wp2_with fail
      refine (KM _).mono ?_
      rintro e w1 ⟨rfl, hb1⟩
      obtain ⟨x1, rfl⟩ := Later.of hb1
      clear hb1
      go_wp2_with fail
      refine (KM _).mono ?_
      rintro e w1 ⟨rfl, hb1⟩
      obtain ⟨x2, rfl⟩ := x1.next hb1
      clear hb1
      go_wp2_with fail
      refine ⟨⟨k + 1, ?_, ?_, ?_, below_store (HB.out.trans (x2.below.mono HB.out.size)) _ (by omega), ((HZ.out.later x2).other (by omega)), ?_⟩, ?_⟩
      · by_cases hq : k + 1 < 12
        · exact hq
        · obtain rfl : k = 11 := by omega
          have := HN.out
          have := Q2.out
          simp only [Nat.reduceAdd] at *
          omega
      · exact congrArg (Value.int .i64) (by rw [HN.out]; omega)
      · rw [HN.out]; omega
      · rw [show ((k + 1 : Nat) : Int) + 1 = (k : Int) + 1 + 1 by omega]
        exact (HD.out.later x2).set 2 _
      · simp [intOf]; omega
    · go_wp2_with fail
      refine (KM _).mono ?_
      rintro e w1 ⟨rfl, hb1⟩
      obtain ⟨x1, rfl⟩ := Later.of hb1
      clear hb1
      go_wp2_with fail
      obtain ⟨W3, e3⟩ : ∃ W3, W3 = x1.w.setCell ⟨w.heap.size + 1, 3, none⟩ (.int .i64 (n - F - B + 1)) := ⟨_, rfl⟩
      have D3 : Blk W3 (w.heap.size + 1) #[.int .i64 c, .int .i64 y, .int .i64 ((k : Int) + 1), .int .i64 (n - F - B + 1)] 92 := by rw [e3]; exact (HD.out.later x1).set 3 _
      have Z3 : Blk W3 w.heap.size z4 92 := by rw [e3]; exact (HZ.out.later x1).other (by omega)
      have B3 : Below w.heap.size w W3 := by rw [e3]; exact below_store (HB.out.trans (x1.below.mono HB.out.size)) _ (by omega)
      rw [← e3]
      have HB3 := hideP B3
      have HZ3 := hideP Z3
      clear e3 c0 c1 c2 c3 c10 c20 f2 f3
      have c0 : ∀ x : Later W3, x.w.cell? ⟨w.heap.size + 1, 0, none⟩ = some (.int .i64 c) := fun x => (D3.later x).cell 0 rfl
      have c1 : ∀ x : Later W3, x.w.cell? ⟨w.heap.size + 1, 1, none⟩ = some (.int .i64 y) := fun x => (D3.later x).cell 1 rfl
      have c2 : ∀ x : Later W3, x.w.cell? ⟨w.heap.size + 1, 2, none⟩ = some (.int .i64 ((k : Int) + 1)) := fun x => (D3.later x).cell 2 rfl
      have c3 : ∀ x : Later W3, x.w.cell? ⟨w.heap.size + 1, 3, none⟩ = some (.int .i64 (n - F - B + 1)) := fun x => (D3.later x).cell 3 rfl
      have g0 : ∀ x : Later W3, x.w.cell? ⟨w.heap.size, 0, none⟩ = some (.int .i64 0) := fun x => (Z3.later x).cell 0 rfl
      have f0 : ∀ x : Later W3, x.w.frozen? ⟨w.heap.size, 0, none⟩ = false := fun x => (Z3.later x).thaw 0
      have g1 : ∀ x : Later W3, x.w.cell? ⟨w.heap.size, 1, none⟩ = some (.int .i64 0) := fun x => (Z3.later x).cell 1 rfl
      have f1 : ∀ x : Later W3, x.w.frozen? ⟨w.heap.size, 1, none⟩ = false := fun x => (Z3.later x).thaw 1
      have g2 : ∀ x : Later W3, x.w.cell? ⟨w.heap.size, 2, none⟩ = some (.int .i64 0) := fun x => (Z3.later x).cell 2 rfl
      have f2 : ∀ x : Later W3, x.w.frozen? ⟨w.heap.size, 2, none⟩ = false := fun x => (Z3.later x).thaw 2
      have g3 : ∀ x : Later W3, x.w.cell? ⟨w.heap.size, 3, none⟩ = some (.int .i64 0) := fun x => (Z3.later x).cell 3 rfl
      have f3 : ∀ x : Later W3, x.w.frozen? ⟨w.heap.size, 3, none⟩ = false := fun x => (Z3.later x).thaw 3
      have hmon : monthOf c y (n - first c y) = k := by rw [HH.out.2.2.1]; exact monthOf_eq (by rw [HBk.out]; exact hle) (by rw [HN.out]; omega)
      have K0 := specDateOk c y ((k : Int) + 1) (n - F - B + 1) W3
      by_cases hyr : 1 ≤ y ∧ y ≤ 3000
      · have hp : dateP c y ((k : Int) + 1) (n - F - B + 1) := ⟨HH.out.1, hyr.1, hyr.2, by omega, by rw [HE.out]; omega⟩
        rw [dateOk_true hp] at K0
        have eV := dateR_yes (dateOf_yes HH.out.1 h1 h2 HH.out.2.1 hmon hyr.1 hyr.2)
        rw [HH.out.2.2.1, HBk.out, HH.out.2.2.2.2] at eV
        have HV := hideP eV
        clear eV hp hmon hyr D3 Z3 B3
        refine K0.mono ?_
        rintro e w1 ⟨rfl, hb1⟩
        obtain ⟨x4, rfl⟩ := Later.of hb1
        clear hb1 K0
        go_wp2_with fail
        obtain ⟨W5, e5⟩ : ∃ W5, W5 = ((((x4.w.setCell ⟨w.heap.size, 0, none⟩ (.int .i64 c)).setCell ⟨w.heap.size, 1, none⟩ (.int .i64 y)).setCell ⟨w.heap.size, 2, none⟩ (.int .i64 ((k : Int) + 1))).setCell ⟨w.heap.size, 3, none⟩ (.int .i64 (n - F - B + 1))) := ⟨_, rfl⟩
        have Z5 : Blk W5 w.heap.size #[.int .i64 c, .int .i64 y, .int .i64 ((k : Int) + 1), .int .i64 (n - F - B + 1)] 92 := by rw [e5]; exact ((((HZ3.out.later x4).set 0 _).set 1 _).set 2 _).set 3 _
        have B5 : Below w.heap.size w W5 := by
          rw [e5]
          have hw := HB3.out.trans (x4.below.mono HB3.out.size)
          exact below_store (below_store (below_store (below_store hw _ (Nat.le_refl _)) _ (Nat.le_refl _)) _ (Nat.le_refl _)) _ (Nat.le_refl _)
        rw [← e5]
        clear e5
        have r0 : W5.cell? ⟨w.heap.size, 0, none⟩ = some (.int .i64 c) := Z5.cell 0 rfl
        have r1 : W5.cell? ⟨w.heap.size, 1, none⟩ = some (.int .i64 y) := Z5.cell 1 rfl
        have r2 : W5.cell? ⟨w.heap.size, 2, none⟩ = some (.int .i64 ((k : Int) + 1)) := Z5.cell 2 rfl
        have r3 : W5.cell? ⟨w.heap.size, 3, none⟩ = some (.int .i64 (n - F - B + 1)) := Z5.cell 3 rfl
        refine bodyPost_ret (by simp [results, Tryz.results106, go_sem, r0, r1, r2, r3]; try rfl) rfl ?_
        exact ⟨by rw [HV.out], B5⟩
      · have hp : ¬ dateP c y ((k : Int) + 1) (n - F - B + 1) := fun h => hyr ⟨h.2.1, h.2.2.1⟩
        rw [dateOk_false hp] at K0
        have eV : V = .tuple #[.agg z4, .bool false] := by rw [← HH.out.2.2.2.2]; exact dateR_no (dateOf_no (fun h => hyr ⟨HH.out.2.1 ▸ h.2.1, HH.out.2.1 ▸ h.2.2.1⟩))
        have HV := hideP eV
        clear eV hp hmon hyr D3 Z3 B3
        refine K0.mono ?_
        rintro e w1 ⟨rfl, hb1⟩
        obtain ⟨x4, rfl⟩ := Later.of hb1
        clear hb1 K0
        go_wp2_with fail
        obtain ⟨W5, e5⟩ : ∃ W5, W5 = ((((x4.w.setCell ⟨w.heap.size, 0, none⟩ (.int .i64 0)).setCell ⟨w.heap.size, 1, none⟩ (.int .i64 0)).setCell ⟨w.heap.size, 2, none⟩ (.int .i64 0)).setCell ⟨w.heap.size, 3, none⟩ (.int .i64 0)) := ⟨_, rfl⟩
        have Z5 : Blk W5 w.heap.size #[.int .i64 0, .int .i64 0, .int .i64 0, .int .i64 0] 92 := by rw [e5]; exact ((((HZ3.out.later x4).set 0 _).set 1 _).set 2 _).set 3 _
        have B5 : Below w.heap.size w W5 := by
          rw [e5]
          have hw := HB3.out.trans (x4.below.mono HB3.out.size)
          exact below_store (below_store (below_store (below_store hw _ (Nat.le_refl _)) _ (Nat.le_refl _)) _ (Nat.le_refl _)) _ (Nat.le_refl _)
        rw [← e5]
        clear e5
        have r0 : W5.cell? ⟨w.heap.size, 0, none⟩ = some (.int .i64 0) := Z5.cell 0 rfl
        have r1 : W5.cell? ⟨w.heap.size, 1, none⟩ = some (.int .i64 0) := Z5.cell 1 rfl
        have r2 : W5.cell? ⟨w.heap.size, 2, none⟩ = some (.int .i64 0) := Z5.cell 2 rfl
        have r3 : W5.cell? ⟨w.heap.size, 3, none⟩ = some (.int .i64 0) := Z5.cell 3 rfl
        refine bodyPost_ret (by simp [results, Tryz.results106, go_sem, r0, r1, r2, r3]; try rfl) rfl ?_
        exact ⟨by rw [HV.out], B5⟩
end Go.Proofs.YtilpencbbdpgfaaGreatDoor.ctr
namespace Go.Proofs.YtilpencbbdpgfaaGreatDoor.ctr
open Go.RowKit
theorem year_ex {c n : Int} (hc : c = 0 ∨ c = 1) (h1 : -1000 ≤ n) (h2 : n ≤ 1200000) : first c (yearOf c n) ≤ n ∧ n < first c (yearOf c n + 1) := by
  have step : ∀ (j : Nat) (y : Int), first c y ≤ n → 3301 - y ≤ j → ∃ z, first c z ≤ n ∧ n < first c (z + 1) := by
    intro j
    induction j with
    | zero =>
      intro y hy hj
      have := year_top hc hy h2
      omega
    | succ j ih =>
      intro y hy hj
      by_cases h : first c (y + 1) ≤ n
      · exact ih (y + 1) h (by omega)
      · exact ⟨y, hy, by omega⟩
  obtain ⟨z, hz1, hz2⟩ := step (3301 - n / 366).toNat _ (year_low hc h1 h2).1 (by omega)
  rw [yearOf_eq hc hz1 hz2]
  exact ⟨hz1, hz2⟩
theorem first_le {c y z : Int} (hc : c = 0 ∨ c = 1) (h : y ≤ z) : first c y ≤ first c z := by
  by_cases e : y = z
  · subst e; exact Int.le_refl _
  · exact Int.le_of_lt (first_lt hc (by omega))
theorem date_early {c n : Int} (hc : c = 0 ∨ c = 1) (h : n < first c 1) : dateOf c n = (0, 0, 0, 0, false) := by
  apply dateOf_no
  rintro ⟨_, y1, _, n1, n2⟩
  have := year_ex hc n1 n2
  have := first_le hc y1
  omega
theorem date_late {c n : Int} (hc : c = 0 ∨ c = 1) (h : first c 3001 ≤ n) : dateOf c n = (0, 0, 0, 0, false) := by
  apply dateOf_no
  rintro ⟨_, _, y2, n1, n2⟩
  have := year_ex hc n1 n2
  have := first_le hc (show yearOf c n + 1 ≤ 3001 by omega)
  omega
theorem year_in {c n : Int} (hc : c = 0 ∨ c = 1) (h1 : first c 1 ≤ n) (h2 : n < first c 3001) : -1000 ≤ n ∧ n ≤ 1200000 ∧ 1 ≤ yearOf c n ∧ yearOf c n ≤ 3000 := by
  have a1 : -1000 ≤ n ∧ n ≤ 1200000 := by
    rcases hc with rfl | rfl
    · rw [first_jul] at h1 h2; omega
    · rw [first_gre] at h1 h2; omega
  have e := year_ex hc a1.1 a1.2
  refine ⟨a1.1, a1.2, ?_, ?_⟩
  · by_cases h : 1 ≤ yearOf c n
    · exact h
    · have := first_le hc (show yearOf c n + 1 ≤ 1 by omega); omega
  · by_cases h : yearOf c n ≤ 3000
    · exact h
    · have := first_le hc (show 3001 ≤ yearOf c n by omega); omega
theorem wrapEq (x : Int) (h : -9223372036854775808 ≤ x ∧ x ≤ 9223372036854775807) : IntKind.i64.wrap x = x := by
  rw [IntKind.wrap_i64]
  omega
def Later.drewL {W : World} (x : Later W) : Later W := ⟨x.w.drew, x.below.drew⟩
def dayAt (b : Nat) (w : World) : Nat := (intOf ((w.cell? ⟨b, 3, none⟩).getD undef)).toNat
theorem dayAt_of {w : World} {b : Nat} {d : Int} (h : w.cell? ⟨b, 3, none⟩ = some (.int .i64 d)) : dayAt b w = d.toNat := by unfold dayAt; rw [h]; rfl
set_option maxHeartbeats 1000000 in
theorem implDateOf (c n : Int) (w : World) (hT : Tab w) : Calls Tryz.prog 113 #[.int .i64 c, .int .i64 n] w fun e w' => e = .returned (dateR c n) ∧ Below w.heap.size w w' := by
  by_cases hc : c = 0 ∨ c = 1
  case neg =>
    rw [dateR_no (dateOf_no (fun h => hc h.1))]
    have KC := fun W => implCalNo c (by omega) (by omega) W
    clear hc hT
    go_enter Tryz.func113, Tryz.ntmps113
    go_wp2_with (go_at_call 175; refine (KC _).mono ?_; rintro e w1 ⟨rfl, rfl⟩)
    go_returns
    refine ⟨rfl, ?_⟩
    go_grown
  have KC := fun W => implCal c hc W
  have E1 := fun W => implEve c 1 W hc (by omega) (by omega)
  have E2 := fun W => implEve c 3001 W hc (by omega) (by omega)
  have bb1 := first_bound hc (show -5 ≤ (1 : Int) by omega) (by omega)
  have bb2 := first_bound hc (show -5 ≤ (3001 : Int) by omega) (by omega)
  by_cases hlo : n < first c 1
  case pos =>
    rw [dateR_no (date_early hc hlo)]
    clear hc hT E2 bb2
    generalize calT c = T at *
    generalize first c 1 = F1 at *
    go_enter Tryz.func113, Tryz.ntmps113
    go_wp2_with (first | (go_at_call 175; refine (KC _).mono ?_; rintro e w1 ⟨rfl, rfl⟩) | (go_at_call 176; refine (E1 _).mono ?_; rintro e w1 ⟨rfl, rfl⟩))
    go_returns
    refine ⟨rfl, ?_⟩
    go_grown
  by_cases hhi : first c 3001 ≤ n
  case pos =>
    rw [dateR_no (date_late hc hhi)]
    clear hc hT
    generalize calT c = T at *
    generalize first c 1 = F1 at *
    generalize first c 3001 = F2 at *
    go_enter Tryz.func113, Tryz.ntmps113
    go_wp2_with (first | (go_at_call 175; refine (KC _).mono ?_; rintro e w1 ⟨rfl, rfl⟩) | (go_at_call_of 176 (1 : Int); refine (E1 _).mono ?_; rintro e w1 ⟨rfl, rfl⟩) | (go_at_call_of 176 (3001 : Int); refine (E2 _).mono ?_; rintro e w1 ⟨rfl, rfl⟩))
    go_returns
    refine ⟨rfl, ?_⟩
    go_grown
  obtain ⟨n1, n2, y1, y2⟩ := year_in hc (show first c 1 ≤ n by omega) (show n < first c 3001 by omega)
  obtain ⟨q1, q2⟩ := year_ex hc n1 n2
  have KY := fun W => implYear c n W hc (show first c 1 ≤ n by omega) n2
  obtain ⟨y, hy⟩ : ∃ y, yearOf c n = y := ⟨_, rfl⟩
  rw [hy] at KY y1 y2 q1 q2
  have KF := fun W => implEve c y W hc (by omega) (by omega)
  have b0 := first_bound hc (show -5 ≤ y by omega) (show y ≤ 4000 by omega)
  have hs := first_step hc y
  rw [hs] at q2
  obtain ⟨F, hF⟩ : ∃ F, first c y = F := ⟨_, rfl⟩
  rw [hF] at KF q1 q2 b0
  obtain ⟨V, hV⟩ : ∃ V, dateR c n = V := ⟨_, rfl⟩
  rw [hV]
  have HH : Hid ((c = 0 ∨ c = 1) ∧ yearOf c n = y ∧ first c y = F ∧ dateR c n = V) := ⟨hc, hy, hF, hV⟩
  have Q2 := hideP q2
  have HT := hideP hT
  generalize calT c = T at *
  generalize first c 1 = F1 at *
  generalize first c 3001 = F2 at *
  clear hc hy hF hs hV q2 hT
  go_enter Tryz.func113, Tryz.ntmps113
  go_wp2_with (first | (go_at_call 175; refine (KC _).mono ?_; rintro e w1 ⟨rfl, rfl⟩) | (go_at_call_of 176 (1 : Int); refine (E1 _).mono ?_; rintro e w1 ⟨rfl, rfl⟩) | (go_at_call_of 176 (3001 : Int); refine (E2 _).mono ?_; rintro e w1 ⟨rfl, rfl⟩) | (go_at_call 177; refine (KY _).mono ?_; rintro e w1 ⟨rfl, rfl⟩) | (go_at_call_of 176 y; refine (KF _).mono ?_; rintro e w1 ⟨rfl, rfl⟩))
  go_loopw [] (fun wr => ∃ k : Nat, k < 12 ∧ before c y k ≤ n - F ∧ Below w.heap.size w wr ∧ Blk wr w.heap.size z4 92 ∧ Blk wr (w.heap.size + 1) #[.int .i64 c, .int .i64 y, .int .i64 ((k : Int) + 1), .int .i64 (n - F + 1 - before c y k)] 92) (fun wr => dayAt (w.heap.size + 1) wr)
  case atStart =>
    refine ⟨0, by omega, by simp [before]; omega, ?_, ?_, ?_⟩
    · exact ((Below.refl _ _).alloc (Nat.le_refl _) _).alloc (by rw [World.size_alloc]; omega) _
    · exact (Blk.new w _ _).alloc _
    · have := Blk.new (w.alloc (.cells z4 92)) #[.int .i64 c, .int .i64 y, .int .i64 1, .int .i64 (n - (F - 1))] 92
      rw [World.size_alloc] at this
      rw [show n - F + 1 - before c y 0 = n - (F - 1) by simp [before]; omega]
      exact this
  case round =>
    obtain ⟨k, hk, hle, hb, hz, hd⟩ := hrel
    have KM : ∀ x : Later wr, Calls Tryz.prog 178 #[.int .i64 c, .int .i64 y, .int .i64 ((k : Int) + 1)] x.w fun e w' => e = .returned (.int .i64 (monthDays c y ((k : Int) + 1))) ∧ Below x.w.heap.size x.w w' := fun x => implMonthDays c y _ x.w ((HT.out.later hb).later x.below)
    have b1 := before_bound c y k
    have b2 := monthDays_le c y ((k : Int) + 1)
    have b3 := monthDays_ge (y := y) HH.out.1 (show 1 ≤ (k : Int) + 1 by omega) (show (k : Int) + 1 ≤ 12 by omega)
    have HN := hideP (before_next c y k)
    obtain ⟨md, em⟩ : ∃ md, monthDays c y ((k : Int) + 1) = md := ⟨_, rfl⟩
    rw [em] at KM b2 b3 HN
    have HE := hideP em
    clear em
    obtain ⟨B, eB⟩ : ∃ B, before c y k = B := ⟨_, rfl⟩
    have HBk := hideP eB
    rw [eB] at HN b1 hle hd
    clear eB
    have c0 : ∀ x : Later wr, x.w.cell? ⟨w.heap.size + 1, 0, none⟩ = some (.int .i64 c) := fun x => (hd.later x).cell 0 rfl
    have c1 : ∀ x : Later wr, x.w.cell? ⟨w.heap.size + 1, 1, none⟩ = some (.int .i64 y) := fun x => (hd.later x).cell 1 rfl
    have c2 : ∀ x : Later wr, x.w.cell? ⟨w.heap.size + 1, 2, none⟩ = some (.int .i64 ((k : Int) + 1)) := fun x => (hd.later x).cell 2 rfl
    have c3 : ∀ x : Later wr, x.w.cell? ⟨w.heap.size + 1, 3, none⟩ = some (.int .i64 (n - F + 1 - B)) := fun x => (hd.later x).cell 3 rfl
    have f2 : ∀ x : Later wr, x.w.frozen? ⟨w.heap.size + 1, 2, none⟩ = false := fun x => (hd.later x).thaw 2
    have f3 : ∀ x : Later wr, x.w.frozen? ⟨w.heap.size + 1, 3, none⟩ = false := fun x => (hd.later x).thaw 3
    have HDA := hideP (dayAt_of (hd.cell 3 rfl))
    have HD := hideP hd
    have HZ := hideP hz
    have HB := hideP hb
    clear hd hz hb
    by_cases hgt : md < n - F + 1 - B
    · have hg : decide (md < n - F + 1 - B) = true := decide_eq_true hgt
      have hwr := wrapEq (n - F + 1 - B - md) (by omega)
      have HK : Hid (k + 1 < 12) := by
        unfold Hid
        by_cases hq : k + 1 < 12
        · exact hq
        · obtain rfl : k = 11 := by omega
          have := HN.out
          have := Q2.out
          simp only [Nat.reduceAdd] at *
          omega
      go_wp2_with fail
      refine wp_region_later (W := wr) (Below.refl _ _) (by kernel_rfl) (by kernel_rfl) ?_
      repeat (go_big_quiet_step ((go_at_call 178; exact calls_later (KM _))))
      refine wpQuiet_nil ?_
      intro _ hw'
      obtain ⟨x1, rfl⟩ := hw'
      go_wp2_with fail
      go_region_with (go_at_call 178; refine (KM x1.drewL).mono ?_; rintro e w1 ⟨rfl, hb1⟩; obtain ⟨x2, rfl⟩ := x1.drewL.next hb1; clear hb1)
      all_goals
        go_wp2_with fail
        refine ⟨⟨k + 1, HK.out, by rw [HN.out]; omega, below_store (below_store (HB.out.trans (x2.below.mono HB.out.size)) _ (by omega)) _ (by omega), ((HZ.out.later x2).other (by omega)).other (by omega), ?_⟩, ?_⟩
        · rw [show ((k + 1 : Nat) : Int) + 1 = (k : Int) + 1 + 1 by omega, HN.out, show n - F + 1 - (B + md) = n - F + 1 - B - md by omega]
          exact ((HD.out.later x2).set 3 _).set 2 _
        · rw [HDA.out, dayAt_of ((((HD.out.later x2).set 3 _).set 2 _).cell 3 rfl)]
          omega
    · have hg : decide (md < n - F + 1 - B) = false := decide_eq_false hgt
      have hmon : monthOf c y (n - first c y) = k := by rw [HH.out.2.2.1]; exact monthOf_eq (by rw [HBk.out]; exact hle) (by rw [HN.out]; omega)
      have eV := dateR_yes (dateOf_yes HH.out.1 n1 n2 HH.out.2.1 hmon y1 y2)
      rw [HH.out.2.2.1, HBk.out, HH.out.2.2.2, show n - F - B + 1 = n - F + 1 - B by omega] at eV
      have HV := hideP eV
      clear eV hmon
      have g0 : ∀ x : Later wr, x.w.cell? ⟨w.heap.size, 0, none⟩ = some (.int .i64 0) := fun x => (HZ.out.later x).cell 0 rfl
      have g1 : ∀ x : Later wr, x.w.cell? ⟨w.heap.size, 1, none⟩ = some (.int .i64 0) := fun x => (HZ.out.later x).cell 1 rfl
      have g2 : ∀ x : Later wr, x.w.cell? ⟨w.heap.size, 2, none⟩ = some (.int .i64 0) := fun x => (HZ.out.later x).cell 2 rfl
      have g3 : ∀ x : Later wr, x.w.cell? ⟨w.heap.size, 3, none⟩ = some (.int .i64 0) := fun x => (HZ.out.later x).cell 3 rfl
      have fz : ∀ (x : Later wr) (i : Nat), x.w.frozen? ⟨w.heap.size, i, none⟩ = false := fun x i => (HZ.out.later x).thaw i
      go_wp2_with fail
      refine wp_region_later (W := wr) (Below.refl _ _) (by kernel_rfl) (by kernel_rfl) ?_
      repeat (go_big_quiet_step ((go_at_call 178; exact calls_later (KM _))))
      refine wpQuiet_nil ?_
      intro _ hw'
      obtain ⟨x4, rfl⟩ := hw'
      go_wp2_with fail
      obtain ⟨W5, e5⟩ : ∃ W5, W5 = ((((x4.w.setCell ⟨w.heap.size, 0, none⟩ (.int .i64 c)).setCell ⟨w.heap.size, 1, none⟩ (.int .i64 y)).setCell ⟨w.heap.size, 2, none⟩ (.int .i64 ((k : Int) + 1))).setCell ⟨w.heap.size, 3, none⟩ (.int .i64 (n - F + 1 - B))) := ⟨_, rfl⟩
      have Z5 : Blk W5 w.heap.size #[.int .i64 c, .int .i64 y, .int .i64 ((k : Int) + 1), .int .i64 (n - F + 1 - B)] 92 := by rw [e5]; exact ((((HZ.out.later x4).set 0 _).set 1 _).set 2 _).set 3 _
      have B5 : Below w.heap.size w W5 := by
        rw [e5]
        have hw := HB.out.trans (x4.below.mono HB.out.size)
        exact below_store (below_store (below_store (below_store hw _ (Nat.le_refl _)) _ (Nat.le_refl _)) _ (Nat.le_refl _)) _ (Nat.le_refl _)
      rw [← e5]
      clear e5
      have r0 : W5.cell? ⟨w.heap.size, 0, none⟩ = some (.int .i64 c) := Z5.cell 0 rfl
      have r1 : W5.cell? ⟨w.heap.size, 1, none⟩ = some (.int .i64 y) := Z5.cell 1 rfl
      have r2 : W5.cell? ⟨w.heap.size, 2, none⟩ = some (.int .i64 ((k : Int) + 1)) := Z5.cell 2 rfl
      have r3 : W5.cell? ⟨w.heap.size, 3, none⟩ = some (.int .i64 (n - F + 1 - B)) := Z5.cell 3 rfl
      refine bodyPost_ret (by simp [results, Tryz.results113, go_sem, r0, r1, r2, r3]; try rfl) rfl ?_
      exact ⟨by rw [HV.out], B5⟩
end Go.Proofs.YtilpencbbdpgfaaGreatDoor.ctr
namespace Go.Proofs.YtilpencbbdpgfaaGreatDoor.ctr
open Go.RowKit
noncomputable def bothB (n : Int) : Bool := (dateOf 0 n).2.2.2.2 && (dateOf 1 n).2.2.2.2
noncomputable def endsB (f t : Int) : Bool := bothB f && bothB t
noncomputable def rgnB (r : Rgn) : Bool := nameOk r.name && (decide (r.fr ≤ r.to) && endsB r.fr r.to)
theorem rgn_box (w : World) (s : ByteArray) (f t : Int) (T : TypeId) : ∃ W0, W0 = w.alloc (.cells #[.string s, .int .i64 f, .int .i64 t] T) ∧ (∀ x : Later W0, x.w.cell? ⟨w.heap.size, 0, none⟩ = some (.string s)) ∧ (∀ x : Later W0, x.w.cell? ⟨w.heap.size, 1, none⟩ = some (.int .i64 f)) ∧ (∀ x : Later W0, x.w.cell? ⟨w.heap.size, 2, none⟩ = some (.int .i64 t)) ∧ ∀ x : Later W0, Below w.heap.size w x.w :=
  ⟨_, rfl, Later.new rfl 0 rfl, Later.new rfl 1 rfl, Later.new rfl 2 rfl, fun x => below_alloc x.below⟩
set_option maxHeartbeats 1000000 in
theorem implBoth (n : Int) (w : World) (hT : Tab w) : Calls Tryz.prog 324 #[.int .i64 n] w fun e w' => e = .returned (.bool (bothB n)) ∧ Below w.heap.size w w' := by
  rcases h0 : dateOf 0 n with ⟨a0, y0, m0, d0, b0⟩
  rcases h1 : dateOf 1 n with ⟨a1, y1, m1, d1, b1⟩
  have K0 : ∀ W, Below w.heap.size w W → Calls Tryz.prog 113 #[.int .i64 0, .int .i64 n] W fun e w' => e = .returned (.tuple #[.agg #[.int .i64 a0, .int .i64 y0, .int .i64 m0, .int .i64 d0], .bool b0]) ∧ Below W.heap.size W w' := fun W hb => by
    have := implDateOf 0 n W (hT.later hb)
    unfold dateR at this
    rw [h0] at this
    exact this
  have K1 : ∀ W, Below w.heap.size w W → Calls Tryz.prog 113 #[.int .i64 1, .int .i64 n] W fun e w' => e = .returned (.tuple #[.agg #[.int .i64 a1, .int .i64 y1, .int .i64 m1, .int .i64 d1], .bool b1]) ∧ Below W.heap.size W w' := fun W hb => by
    have := implDateOf 1 n W (hT.later hb)
    unfold dateR at this
    rw [h1] at this
    exact this
  have HR : Hid (bothB n = (b0 && b1)) := by unfold Hid bothB; rw [h0, h1]
  clear h0 h1 hT
  go_enter Tryz.func324, Tryz.ntmps324
  go_wp2_with fail
  refine (K0 _ (Below.refl _ _)).mono ?_
  rintro e w1 ⟨rfl, hb⟩
  have B1 := hideP hb
  clear hb
  go_wp2_with fail
  refine (K1 _ (B1.out.alloc B1.out.size _)).mono ?_
  rintro e w2 ⟨rfl, hb⟩
  have B2 : Hid (Below w.heap.size w w2) := B1.out.trans ((below_alloc hb).mono B1.out.size)
  clear hb
  cases b0
  · go_wp2
    go_ret
    exact ⟨by rw [HR.out]; rfl, B2.out.alloc B2.out.size _⟩
  · go_wp2
    go_ret
    exact ⟨by rw [HR.out]; rfl, B2.out.alloc B2.out.size _⟩
set_option maxHeartbeats 1000000 in
theorem specDated (n : Int) (w : World) : Calls Tryz.prog 168 #[.int .i64 n] w fun e w' => e = .returned (.bool (bothB n)) ∧ Below w.heap.size w w' := by
  rcases h0 : dateOf 0 n with ⟨a0, y0, m0, d0, b0⟩
  rcases h1 : dateOf 1 n with ⟨a1, y1, m1, d1, b1⟩
  have K0 : ∀ W, Calls Tryz.prog 106 #[.int .i64 0, .int .i64 n] W fun e w' => e = .returned (.tuple #[.agg #[.int .i64 a0, .int .i64 y0, .int .i64 m0, .int .i64 d0], .bool b0]) ∧ Below W.heap.size W w' := fun W => by
    have := specDateOf 0 n W
    unfold dateR at this
    rw [h0] at this
    exact this
  have K1 : ∀ W, Calls Tryz.prog 106 #[.int .i64 1, .int .i64 n] W fun e w' => e = .returned (.tuple #[.agg #[.int .i64 a1, .int .i64 y1, .int .i64 m1, .int .i64 d1], .bool b1]) ∧ Below W.heap.size W w' := fun W => by
    have := specDateOf 1 n W
    unfold dateR at this
    rw [h1] at this
    exact this
  have HR : Hid (bothB n = (b0 && b1)) := by unfold Hid bothB; rw [h0, h1]
  clear h0 h1
  go_enter Tryz.func168, Tryz.ntmps168
  go_wp2_with fail
  refine (K0 _).mono ?_
  rintro e w1 ⟨rfl, hb⟩
  have B1 := hideP hb
  clear hb
  go_wp2_with fail
  refine (K1 _).mono ?_
  rintro e w2 ⟨rfl, hb⟩
  have B2 : Hid (Below w.heap.size w w2) := B1.out.trans ((below_alloc hb).mono B1.out.size)
  clear hb
  cases b0
  · go_wp2
    go_ret
    exact ⟨by rw [HR.out]; rfl, B2.out.alloc B2.out.size _⟩
  · go_wp2
    go_ret
    exact ⟨by rw [HR.out]; rfl, B2.out.alloc B2.out.size _⟩
set_option maxHeartbeats 1000000 in
theorem implEnds (s : ByteArray) (f t : Int) (w : World) (hT : Tab w) : Calls Tryz.prog 300 #[.agg #[.string s, .int .i64 f, .int .i64 t]] w fun e w' => e = .returned (.bool (endsB f t)) ∧ Below w.heap.size w w' := by
  obtain ⟨W0, hW0, c0, c1, c2, hBl⟩ := rgn_box w s f t 142
  have HW0 := hideP hW0
  have HBl := hideP hBl
  have K1 : ∀ x : Later W0, Calls Tryz.prog 324 #[.int .i64 f] x.w fun e w' => e = .returned (.bool (bothB f)) ∧ Below x.w.heap.size x.w w' := fun x => implBoth f x.w (hT.later (hBl x))
  have K2 : ∀ x : Later W0, Calls Tryz.prog 324 #[.int .i64 t] x.w fun e w' => e = .returned (.bool (bothB t)) ∧ Below x.w.heap.size x.w w' := fun x => implBoth t x.w (hT.later (hBl x))
  unfold endsB
  clear hW0 hBl hT
  generalize bothB f = b1 at *
  generalize bothB t = b2 at *
  cases b1
  · go_enter Tryz.func300, Tryz.ntmps300
    go_wp2_with fail
    rw [← HW0.out]
    refine (K1 ⟨W0, Below.refl _ _⟩).mono ?_
    rintro e w1 ⟨rfl, hb⟩
    obtain ⟨x1, rfl⟩ := Later.of hb
    clear hb
    go_wp2
    go_ret
    exact ⟨rfl, HBl.out x1⟩
  · go_enter Tryz.func300, Tryz.ntmps300
    go_wp2_with fail
    rw [← HW0.out]
    refine (K1 ⟨W0, Below.refl _ _⟩).mono ?_
    rintro e w1 ⟨rfl, hb⟩
    obtain ⟨x1, rfl⟩ := Later.of hb
    clear hb
    go_wp2_with fail
    refine (K2 x1).mono ?_
    rintro e w2 ⟨rfl, hb⟩
    obtain ⟨x2, rfl⟩ := x1.next hb
    clear hb
    go_wp2
    go_ret
    exact ⟨rfl, HBl.out x2⟩
theorem same_belowR {W w' : World} (h : w' = W) : Below W.heap.size W w' := by rw [h]; exact Below.refl _ _
set_option maxHeartbeats 1000000 in
theorem implReignOk (s : ByteArray) (f t : Int) (w : World) (hs : s.size ≤ maxLen) (hT : Tab w) : Calls Tryz.prog 248 #[.agg #[.string s, .int .i64 f, .int .i64 t]] w fun e w' => e = .returned (.bool (rgnB ⟨s, f, t⟩)) ∧ Below w.heap.size w w' := by
  obtain ⟨W0, hW0, c0, c1, c2, hBl⟩ := rgn_box w s f t 142
  have HW0 := hideP hW0
  have HBl := hideP hBl
  have KN : ∀ x : Later W0, Calls Tryz.prog 122 #[.string s] x.w fun e w' => e = .returned (.bool (nameOk s)) ∧ Below x.w.heap.size x.w w' := fun x => (implNameOk s x.w hs).mono fun _ _ h => ⟨h.1, same_belowR h.2⟩
  have KE : ∀ x : Later W0, Calls Tryz.prog 300 #[.agg #[.string s, .int .i64 f, .int .i64 t]] x.w fun e w' => e = .returned (.bool (endsB f t)) ∧ Below x.w.heap.size x.w w' := fun x => implEnds s f t x.w (hT.later (hBl x))
  unfold rgnB
  dsimp only
  clear hW0 hBl hT hs
  generalize nameOk s = b1 at *
  generalize endsB f t = b2 at *
  cases b1
  · go_enter Tryz.func248, Tryz.ntmps248
    go_wp2_with fail
    rw [← HW0.out]
    refine (KN ⟨W0, Below.refl _ _⟩).mono ?_
    rintro e w1 ⟨rfl, hb⟩
    obtain ⟨x1, rfl⟩ := Later.of hb
    clear hb
    go_wp2
    go_ret
    exact ⟨rfl, HBl.out x1⟩
  rw [Bool.true_and]
  by_cases hft : f ≤ t
  · have hd : decide (f ≤ t) = true := decide_eq_true hft
    go_enter Tryz.func248, Tryz.ntmps248
    go_wp2_with fail
    rw [← HW0.out]
    refine (KN ⟨W0, Below.refl _ _⟩).mono ?_
    rintro e w1 ⟨rfl, hb⟩
    obtain ⟨x1, rfl⟩ := Later.of hb
    clear hb
    go_wp2_with fail
    refine (KE x1).mono ?_
    rintro e w2 ⟨rfl, hb⟩
    obtain ⟨x2, rfl⟩ := x1.next hb
    clear hb
    go_wp2
    go_ret
    exact ⟨by simp [hft], HBl.out x2⟩
  · have hd : decide (f ≤ t) = false := decide_eq_false hft
    go_enter Tryz.func248, Tryz.ntmps248
    go_wp2_with fail
    rw [← HW0.out]
    refine (KN ⟨W0, Below.refl _ _⟩).mono ?_
    rintro e w1 ⟨rfl, hb⟩
    obtain ⟨x1, rfl⟩ := Later.of hb
    clear hb
    go_wp2
    go_ret
    exact ⟨by rw [decide_eq_false (show ¬ f ≤ t by omega)]; rfl, HBl.out x1⟩
end Go.Proofs.YtilpencbbdpgfaaGreatDoor.ctr
