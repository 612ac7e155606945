/- Contracts of the model's functions of Easter: each answers its plain function. Contracts of the program's calendars' own rules of Easter: yearOk, epact, fullMoon, closedSum of julian and gregorian. Contracts of the program's easterDate, lineEaster, Easter: each answers its plain function, where the table of months holds its numbers. -/
import Derived.Test.YtjojgfdfbkmlkaaGreatDoorJnMak
import Derived.Test.YtjojgfdfbkmlkaaGreatDoorJnMac
namespace Go.Proofs.YtjojgfdfbkmlkaaGreatDoor.ctr
open Go.RowKit
theorem specYearOk (c y : Int) (w : World) : Calls Tryz.prog 136 #[.int .i64 c, .int .i64 y] w fun e w' => e = .returned (.bool (yearB c y)) ∧ w' = w := by
  by_cases hc : c = 0 ∨ c = 1
  · have hC : calB c = true := calB_iff.2 hc
    rw [yearB_cal hc]
    clear hc
    cases hI : inB y 1 3000
    all_goals
      go_enter Tryz.func136, Tryz.ntmps136
      go_wp2_with fail
      refine (specCal _ _).mono ?_
      rintro e w1 ⟨rfl, rfl⟩
      rw [hC]
      go_wp2_with fail
      refine (l01In _ _ _ _).mono ?_
      rintro e w1 ⟨rfl, rfl⟩
      rw [hI]
      go_wp2
      go_ret
      exact ⟨rfl, rfl⟩
  · have hC : calB c = false := calB_no hc
    rw [yearB_no hc]
    clear hc
    go_enter Tryz.func136, Tryz.ntmps136
    go_wp2_with fail
    refine (specCal _ _).mono ?_
    rintro e w1 ⟨rfl, rfl⟩
    rw [hC]
    go_wp2
    go_ret
    exact ⟨rfl, rfl⟩
theorem specJulian (y : Int) (w : World) (h1 : 1 ≤ y) (h2 : y ≤ 4000) : Calls Tryz.prog 259 #[.int .i64 y] w fun e w' => e = .returned (.int .i64 (sumJ y)) ∧ w' = w := by
  obtain ⟨R, hR⟩ : ∃ R, R = sumJ y := ⟨_, rfl⟩
  rw [← hR]
  have HR := hideP hR
  clear hR
  have hd := dJ_b y
  unfold sumJ at HR
  go_enter Tryz.func259, Tryz.ntmps259
  go_wp2
  go_ret
  exact ⟨ret_int (by rw [HR.out]; unfold dJ; omega), rfl⟩
theorem specGregorian (y : Int) (w : World) (h1 : 1 ≤ y) (h2 : y ≤ 4000) : Calls Tryz.prog 258 #[.int .i64 y] w fun e w' => e = .returned (.int .i64 (sumG y)) ∧ w' = w := by
  obtain ⟨R, hR⟩ : ∃ R, R = sumG y := ⟨_, rfl⟩
  rw [← hR]
  have HR := hideP hR
  clear hR
  go_enter Tryz.func258, Tryz.ntmps258
  go_wp2
  go_ret
  exact ⟨ret_int (by rw [HR.out]; unfold sumG mG lG hG gG; rw [show y % 100 % 4 = y % 4 by omega]), rfl⟩
theorem easter_day {c y : Int} (h : yearP c y) : easter c y = first c y + before c y (sumE c y / 31 - 1).toNat + (sumE c y % 31 + 1) - 1 := by
  unfold easter dayOf
  rw [if_pos h, if_pos (sum_month h)]
set_option maxHeartbeats 1000000 in
theorem specL03 (c y : Int) (w : World) (hc : c = 0 ∨ c = 1) (hy1 : 1 ≤ y) (hy2 : y ≤ 4000) : Calls Tryz.prog 207 #[.int .i64 c, .int .i64 y] w fun e w' => e = .returned (.int .i64 (easL c y)) ∧ Below w.heap.size w w' := by
  have k := easter_fact_at hc hy1 hy2
  have KJ : ∀ W, Calls Tryz.prog 259 #[.int .i64 y] W fun e w' => e = .returned (.int .i64 (sumJ y)) ∧ w' = W := fun W => specJulian y W hy1 hy2
  have KG : ∀ W, Calls Tryz.prog 258 #[.int .i64 y] W fun e w' => e = .returned (.int .i64 (sumG y)) ∧ w' = W := fun W => specGregorian y W hy1 hy2
  have KD : ∀ W, Calls Tryz.prog 109 #[.int .i64 c, .int .i64 y, .int .i64 (sumE c y / 31), .int .i64 (sumE c y % 31 + 1)] W fun e w' => e = .returned (.int .i64 (easL c y)) ∧ Below W.heap.size W w' := fun W => by
    exact specDay c y _ _ W hc (by omega) (by omega) (by omega) (by omega) (by omega)
  have k1 := k.1
  have k2 := k.2.1
  clear k
  generalize easL c y = R at *
  rcases hc with rfl | rfl
  · rw [show sumE 0 y = sumJ y from by unfold sumE; rw [if_pos rfl]] at *
    generalize sumJ y = s at *
    generalize sumG y = s' at *
    go_enter Tryz.func207, Tryz.ntmps207
    go_wp2_with fail
    refine (KG _).mono ?_
    rintro e w1 ⟨rfl, rfl⟩
    go_wp2_with fail
    refine (KJ _).mono ?_
    rintro e w1 ⟨rfl, rfl⟩
    go_wp2_with fail
    refine (KD _).mono ?_
    rintro e w1 ⟨rfl, hb⟩
    go_wp2
    go_ret
    exact ⟨rfl, hb⟩
  · rw [show sumE 1 y = sumG y from by unfold sumE; rw [if_neg (by omega)]] at *
    generalize sumG y = s at *
    go_enter Tryz.func207, Tryz.ntmps207
    go_wp2_with fail
    refine (KG _).mono ?_
    rintro e w1 ⟨rfl, rfl⟩
    go_wp2_with fail
    refine (KD _).mono ?_
    rintro e w1 ⟨rfl, hb⟩
    go_wp2
    go_ret
    exact ⟨rfl, hb⟩
theorem specL03Easter (c y : Int) (w : World) (h : yearP c y) : Calls Tryz.prog 207 #[.int .i64 c, .int .i64 y] w fun e w' => e = .returned (.int .i64 (easter c y)) ∧ Below w.heap.size w w' := by
  rw [show easter c y = easL c y from easter_day h]
  exact specL03 c y w h.1 h.2.1 (by have := h.2.2; omega)
theorem specEaster (c y : Int) (w : World) : Calls Tryz.prog 262 #[.int .i64 c, .int .i64 y] w fun e w' => e = .returned (.int .i64 (easter c y)) ∧ Below w.heap.size w w' := by
  have KY : ∀ W, Calls Tryz.prog 136 #[.int .i64 c, .int .i64 y] W fun e w' => e = .returned (.bool (yearB c y)) ∧ w' = W := specYearOk c y
  by_cases h : yearP c y
  · rw [yearB_true h] at KY
    have KE : ∀ W, Calls Tryz.prog 207 #[.int .i64 c, .int .i64 y] W fun e w' => e = .returned (.int .i64 (easter c y)) ∧ Below W.heap.size W w' := fun W => specL03Easter c y W h
    clear h
    generalize easter c y = R at *
    go_enter Tryz.func262, Tryz.ntmps262
    go_wp2_with fail
    refine (KY _).mono ?_
    rintro e w1 ⟨rfl, rfl⟩
    go_wp2_with fail
    refine (KE _).mono ?_
    rintro e w1 ⟨rfl, hb⟩
    go_wp2
    go_ret
    exact ⟨rfl, hb⟩
  · rw [yearB_false h] at KY
    have HR : Hid (easter c y = 0) := by unfold Hid easter; rw [if_neg h]
    clear h
    go_enter Tryz.func262, Tryz.ntmps262
    go_wp2_with fail
    refine (KY _).mono ?_
    rintro e w1 ⟨rfl, rfl⟩
    go_wp2
    go_ret
    exact ⟨ret_int HR.out.symm, Below.refl _ _⟩
end Go.Proofs.YtjojgfdfbkmlkaaGreatDoor.ctr
namespace Go.Proofs.YtjojgfdfbkmlkaaGreatDoor.ctr
open Go.RowKit
theorem implYearOk (c y : Int) (w : World) (hT : Tab w) : Calls Tryz.prog 348 #[.int .i64 c, .int .i64 y] w fun e w' => e = .returned (.bool (yearB c y)) ∧ Below w.heap.size w w' := by
  have K : Calls Tryz.prog 185 #[.agg #[.int .i64 c, .int .i64 y, .int .i64 1, .int .i64 1]] w fun e w' => e = .returned (.bool (yearB c y)) ∧ Below w.heap.size w w' := by
    rw [← dateOk_year]
    exact implDateOk c y 1 1 w hT
  clear hT
  generalize yearB c y = b at *
  go_enter Tryz.func348, Tryz.ntmps348
  go_wp2_with fail
  refine K.mono ?_
  rintro e w1 ⟨rfl, hb⟩
  go_wp2
  go_ret
  exact ⟨rfl, hb⟩
theorem julSum (y : Int) (w : World) (h1 : 1 ≤ y) (h2 : y ≤ 4000) : Calls Tryz.prog 393 #[.agg #[], .int .i64 y] w fun e w' => e = .returned (.int .i64 (sumJ y)) ∧ Below w.heap.size w w' := by
  obtain ⟨R, hR⟩ : ∃ R, R = sumJ y := ⟨_, rfl⟩
  rw [← hR]
  have HR := hideP hR
  clear hR
  unfold sumJ at HR
  go_enter Tryz.func393, Tryz.ntmps393
  go_wp2
  go_ret
  exact ⟨ret_int (by rw [HR.out]; unfold dJ; omega), (Below.refl _ _).alloc (Nat.le_refl _) _⟩
theorem greSum (y : Int) (w : World) (h1 : 1 ≤ y) (h2 : y ≤ 4000) : Calls Tryz.prog 395 #[.agg #[], .int .i64 y] w fun e w' => e = .returned (.int .i64 (sumG y)) ∧ Below w.heap.size w w' := by
  obtain ⟨R, hR⟩ : ∃ R, R = sumG y := ⟨_, rfl⟩
  rw [← hR]
  have HR := hideP hR
  clear hR
  go_enter Tryz.func395, Tryz.ntmps395
  go_wp2
  go_ret
  exact ⟨ret_int (by rw [HR.out]; unfold sumG mG lG hG gG; rw [show y % 100 % 4 = y % 4 by omega]), (Below.refl _ _).alloc (Nat.le_refl _) _⟩
end Go.Proofs.YtjojgfdfbkmlkaaGreatDoor.ctr
namespace Go.Proofs.YtjojgfdfbkmlkaaGreatDoor.ctr
open Go.RowKit
set_option maxHeartbeats 1000000 in
theorem julDate (y : Int) (w : World) (h1 : 1 ≤ y) (h2 : y ≤ 4000) : Calls Tryz.prog 321 #[.agg #[], .int .i64 0, .int .i64 y] w fun e w' => e = .returned (.agg #[.int .i64 0, .int .i64 y, .int .i64 (sumE 0 y / 31), .int .i64 (sumE 0 y % 31 + 1)]) ∧ Below w.heap.size w w' := by
  have k := easter_fact_at (c := 0) (y := y) (by omega) h1 h2
  have KS : ∀ W, Calls Tryz.prog 393 #[.agg #[], .int .i64 y] W fun e w' => e = .returned (.int .i64 (sumE 0 y)) ∧ Below W.heap.size W w' := fun W => by
    rw [show sumE 0 y = sumJ y from by unfold sumE; first | rw [if_pos rfl] | rw [if_neg (by omega)]]
    exact julSum y W h1 h2
  have k1 := k.1
  have k2 := k.2.1
  clear k h1 h2
  generalize sumE 0 y = s at *
  obtain ⟨W0, hW0⟩ : ∃ W0, W0 = (w.alloc (.cells #[] 224)).alloc (.cells #[.int .i64 0, .int .i64 0, .int .i64 0, .int .i64 0] 88) := ⟨_, rfl⟩
  have hB0 : ∀ x : Later W0, Blk x.w (w.heap.size + 1) #[.int .i64 0, .int .i64 0, .int .i64 0, .int .i64 0] 88 := fun x => (by rw [hW0]; simpa using Blk.new (w.alloc (.cells #[] 224)) #[.int .i64 0, .int .i64 0, .int .i64 0, .int .i64 0] 88 : Blk W0 (w.heap.size + 1) #[.int .i64 0, .int .i64 0, .int .i64 0, .int .i64 0] 88).later x
  have hBw : Below w.heap.size w W0 := by rw [hW0]; exact ((Below.refl _ _).alloc (Nat.le_refl _) _).alloc (by simp) _
  have HB0 := hideP hB0
  have HBw := hideP hBw
  have HW0 := hideP hW0
  clear hB0 hBw hW0
  go_enter Tryz.func321, Tryz.ntmps321
  go_wp2_with fail
  rw [← HW0.out]
  refine (KS _).mono ?_
  rintro e w1 ⟨rfl, hb⟩
  obtain ⟨x1, rfl⟩ := Later.of hb
  clear hb
  have b0 : x1.w.cell? ⟨w.heap.size + 1, 0, none⟩ = some (.int .i64 0) := (HB0.out x1).cell 0 rfl
  have b1 : x1.w.cell? ⟨w.heap.size + 1, 1, none⟩ = some (.int .i64 0) := (HB0.out x1).cell 1 rfl
  have b2 : x1.w.cell? ⟨w.heap.size + 1, 2, none⟩ = some (.int .i64 0) := (HB0.out x1).cell 2 rfl
  have b3 : x1.w.cell? ⟨w.heap.size + 1, 3, none⟩ = some (.int .i64 0) := (HB0.out x1).cell 3 rfl
  have f0 := (HB0.out x1).thaw 0
  have f1 := (HB0.out x1).thaw 1
  have f2 := (HB0.out x1).thaw 2
  have f3 := (HB0.out x1).thaw 3
  go_wp2_with fail
  obtain ⟨W9, e9⟩ : ∃ W9, W9 = (((x1.w.setCell ⟨w.heap.size + 1, 0, none⟩ (.int .i64 0)).setCell ⟨w.heap.size + 1, 1, none⟩ (.int .i64 y)).setCell ⟨w.heap.size + 1, 2, none⟩ (.int .i64 (s / 31))).setCell ⟨w.heap.size + 1, 3, none⟩ (.int .i64 (s % 31 + 1)) := ⟨_, rfl⟩
  have Z9 : Blk W9 (w.heap.size + 1) #[.int .i64 0, .int .i64 y, .int .i64 (s / 31), .int .i64 (s % 31 + 1)] 88 := by rw [e9]; exact ((((HB0.out x1).set 0 _).set 1 _).set 2 _).set 3 _
  have B9 : Below w.heap.size w W9 := by rw [e9]; exact below_store (below_store (below_store (below_store (HBw.out.trans (x1.below.mono HBw.out.size)) _ (by omega)) _ (by omega)) _ (by omega)) _ (by omega)
  rw [← e9]
  clear e9
  have z0 : W9.cell? ⟨w.heap.size + 1, 0, none⟩ = some (.int .i64 0) := Z9.cell 0 rfl
  have z1 : W9.cell? ⟨w.heap.size + 1, 1, none⟩ = some (.int .i64 y) := Z9.cell 1 rfl
  have z2 : W9.cell? ⟨w.heap.size + 1, 2, none⟩ = some (.int .i64 (s / 31)) := Z9.cell 2 rfl
  have z3 : W9.cell? ⟨w.heap.size + 1, 3, none⟩ = some (.int .i64 (s % 31 + 1)) := Z9.cell 3 rfl
  exact bodyPost_ret (by simp [results, Tryz.results321, go_sem, z0, z1, z2, z3]; try rfl) rfl ⟨rfl, B9⟩
set_option maxHeartbeats 1000000 in
theorem greDate (y : Int) (w : World) (h1 : 1 ≤ y) (h2 : y ≤ 4000) : Calls Tryz.prog 322 #[.agg #[], .int .i64 1, .int .i64 y] w fun e w' => e = .returned (.agg #[.int .i64 1, .int .i64 y, .int .i64 (sumE 1 y / 31), .int .i64 (sumE 1 y % 31 + 1)]) ∧ Below w.heap.size w w' := by
  have k := easter_fact_at (c := 1) (y := y) (by omega) h1 h2
  have KS : ∀ W, Calls Tryz.prog 395 #[.agg #[], .int .i64 y] W fun e w' => e = .returned (.int .i64 (sumE 1 y)) ∧ Below W.heap.size W w' := fun W => by
    rw [show sumE 1 y = sumG y from by unfold sumE; first | rw [if_pos rfl] | rw [if_neg (by omega)]]
    exact greSum y W h1 h2
  have k1 := k.1
  have k2 := k.2.1
  clear k h1 h2
  generalize sumE 1 y = s at *
  obtain ⟨W0, hW0⟩ : ∃ W0, W0 = (w.alloc (.cells #[] 225)).alloc (.cells #[.int .i64 0, .int .i64 0, .int .i64 0, .int .i64 0] 88) := ⟨_, rfl⟩
  have hB0 : ∀ x : Later W0, Blk x.w (w.heap.size + 1) #[.int .i64 0, .int .i64 0, .int .i64 0, .int .i64 0] 88 := fun x => (by rw [hW0]; simpa using Blk.new (w.alloc (.cells #[] 225)) #[.int .i64 0, .int .i64 0, .int .i64 0, .int .i64 0] 88 : Blk W0 (w.heap.size + 1) #[.int .i64 0, .int .i64 0, .int .i64 0, .int .i64 0] 88).later x
  have hBw : Below w.heap.size w W0 := by rw [hW0]; exact ((Below.refl _ _).alloc (Nat.le_refl _) _).alloc (by simp) _
  have HB0 := hideP hB0
  have HBw := hideP hBw
  have HW0 := hideP hW0
  clear hB0 hBw hW0
  go_enter Tryz.func322, Tryz.ntmps322
  go_wp2_with fail
  rw [← HW0.out]
  refine (KS _).mono ?_
  rintro e w1 ⟨rfl, hb⟩
  obtain ⟨x1, rfl⟩ := Later.of hb
  clear hb
  have b0 : x1.w.cell? ⟨w.heap.size + 1, 0, none⟩ = some (.int .i64 0) := (HB0.out x1).cell 0 rfl
  have b1 : x1.w.cell? ⟨w.heap.size + 1, 1, none⟩ = some (.int .i64 0) := (HB0.out x1).cell 1 rfl
  have b2 : x1.w.cell? ⟨w.heap.size + 1, 2, none⟩ = some (.int .i64 0) := (HB0.out x1).cell 2 rfl
  have b3 : x1.w.cell? ⟨w.heap.size + 1, 3, none⟩ = some (.int .i64 0) := (HB0.out x1).cell 3 rfl
  have f0 := (HB0.out x1).thaw 0
  have f1 := (HB0.out x1).thaw 1
  have f2 := (HB0.out x1).thaw 2
  have f3 := (HB0.out x1).thaw 3
  go_wp2_with fail
  obtain ⟨W9, e9⟩ : ∃ W9, W9 = (((x1.w.setCell ⟨w.heap.size + 1, 0, none⟩ (.int .i64 1)).setCell ⟨w.heap.size + 1, 1, none⟩ (.int .i64 y)).setCell ⟨w.heap.size + 1, 2, none⟩ (.int .i64 (s / 31))).setCell ⟨w.heap.size + 1, 3, none⟩ (.int .i64 (s % 31 + 1)) := ⟨_, rfl⟩
  have Z9 : Blk W9 (w.heap.size + 1) #[.int .i64 1, .int .i64 y, .int .i64 (s / 31), .int .i64 (s % 31 + 1)] 88 := by rw [e9]; exact ((((HB0.out x1).set 0 _).set 1 _).set 2 _).set 3 _
  have B9 : Below w.heap.size w W9 := by rw [e9]; exact below_store (below_store (below_store (below_store (HBw.out.trans (x1.below.mono HBw.out.size)) _ (by omega)) _ (by omega)) _ (by omega)) _ (by omega)
  rw [← e9]
  clear e9
  have z0 : W9.cell? ⟨w.heap.size + 1, 0, none⟩ = some (.int .i64 1) := Z9.cell 0 rfl
  have z1 : W9.cell? ⟨w.heap.size + 1, 1, none⟩ = some (.int .i64 y) := Z9.cell 1 rfl
  have z2 : W9.cell? ⟨w.heap.size + 1, 2, none⟩ = some (.int .i64 (s / 31)) := Z9.cell 2 rfl
  have z3 : W9.cell? ⟨w.heap.size + 1, 3, none⟩ = some (.int .i64 (s % 31 + 1)) := Z9.cell 3 rfl
  exact bodyPost_ret (by simp [results, Tryz.results322, go_sem, z0, z1, z2, z3]; try rfl) rfl ⟨rfl, B9⟩
set_option maxHeartbeats 1000000 in
theorem implLineEaster (c y : Int) (w : World) (hT : Tab w) (hc : c = 0 ∨ c = 1) (hy1 : 1 ≤ y) (hy2 : y ≤ 4000) : Calls Tryz.prog 299 #[.int .i64 c, .int .i64 y] w fun e w' => e = .returned (.int .i64 (easL c y)) ∧ Below w.heap.size w w' := by
  have k := easter_fact_at hc hy1 hy2
  have KD : ∀ x : Later w, Calls Tryz.prog 186 #[.agg #[.int .i64 c, .int .i64 y, .int .i64 (sumE c y / 31), .int .i64 (sumE c y % 31 + 1)]] x.w fun e w' => e = .returned (.int .i64 (easL c y)) ∧ Below x.w.heap.size x.w w' := fun x =>
    implLine c y (sumE c y / 31) (sumE c y % 31 + 1) x.w (hT.later x.below) hc (by omega) (by omega) (by omega) (by omega) (by omega) (by omega)
  clear hT k
  rcases hc with rfl | rfl
  · have KE : ∀ W, Calls Tryz.prog 321 #[.agg #[], .int .i64 0, .int .i64 y] W fun e w' => e = .returned (.agg #[.int .i64 0, .int .i64 y, .int .i64 (sumE 0 y / 31), .int .i64 (sumE 0 y % 31 + 1)]) ∧ Below W.heap.size W w' := fun W => julDate y W hy1 hy2
    generalize sumE 0 y / 31 = m at *
    generalize sumE 0 y % 31 + 1 = d at *
    generalize easL 0 y = R at *
    go_enter Tryz.func299, Tryz.ntmps299
    go_wp2_with fail
    refine (KE _).mono ?_
    rintro e w2 ⟨rfl, hb⟩
    obtain ⟨x2, rfl⟩ := Later.of hb
    clear hb
    go_wp2_with fail
    refine (KD x2).mono ?_
    rintro e w3 ⟨rfl, hb⟩
    obtain ⟨x3, rfl⟩ := x2.next hb
    clear hb
    go_wp2
    go_ret
    exact ⟨rfl, x3.below⟩
  · have KE : ∀ W, Calls Tryz.prog 322 #[.agg #[], .int .i64 1, .int .i64 y] W fun e w' => e = .returned (.agg #[.int .i64 1, .int .i64 y, .int .i64 (sumE 1 y / 31), .int .i64 (sumE 1 y % 31 + 1)]) ∧ Below W.heap.size W w' := fun W => greDate y W hy1 hy2
    generalize sumE 1 y / 31 = m at *
    generalize sumE 1 y % 31 + 1 = d at *
    generalize easL 1 y = R at *
    go_enter Tryz.func299, Tryz.ntmps299
    go_wp2_with fail
    refine (KE _).mono ?_
    rintro e w2 ⟨rfl, hb⟩
    obtain ⟨x2, rfl⟩ := Later.of hb
    clear hb
    go_wp2_with fail
    refine (KD x2).mono ?_
    rintro e w3 ⟨rfl, hb⟩
    obtain ⟨x3, rfl⟩ := x2.next hb
    clear hb
    go_wp2
    go_ret
    exact ⟨rfl, x3.below⟩
theorem implEaster (c y : Int) (w : World) (hT : Tab w) : Calls Tryz.prog 364 #[.int .i64 c, .int .i64 y] w fun e w' => e = .returned (.int .i64 (easter c y)) ∧ Below w.heap.size w w' := by
  have KT : ∀ x : Later w, Tab x.w := fun x => hT.later x.below
  have KY := implYearOk c y w hT
  by_cases h : yearP c y
  · rw [yearB_true h] at KY
    have KE : ∀ x : Later w, Calls Tryz.prog 299 #[.int .i64 c, .int .i64 y] x.w fun e w' => e = .returned (.int .i64 (easter c y)) ∧ Below x.w.heap.size x.w w' := fun x => by
      rw [show easter c y = easL c y from easter_day h]
      exact implLineEaster c y x.w (KT x) h.1 h.2.1 (by have := h.2.2; omega)
    clear h hT KT
    generalize easter c y = R at *
    go_enter Tryz.func364, Tryz.ntmps364
    go_wp2_with fail
    refine KY.mono ?_
    rintro e w1 ⟨rfl, hb⟩
    obtain ⟨x1, rfl⟩ := Later.of hb
    clear hb
    go_wp2_with fail
    refine (KE x1).mono ?_
    rintro e w3 ⟨rfl, hb⟩
    obtain ⟨x3, rfl⟩ := x1.next hb
    clear hb
    go_wp2
    go_ret
    exact ⟨rfl, x3.below⟩
  · rw [yearB_false h] at KY
    have HR : Hid (easter c y = 0) := by unfold Hid easter; rw [if_neg h]
    clear h hT KT
    go_enter Tryz.func364, Tryz.ntmps364
    go_wp2_with fail
    refine KY.mono ?_
    rintro e w1 ⟨rfl, hb⟩
    go_wp2
    go_ret
    exact ⟨ret_int HR.out.symm, hb⟩
end Go.Proofs.YtjojgfdfbkmlkaaGreatDoor.ctr
