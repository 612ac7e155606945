/- Contracts of the program's calendars' own rules of Easter: yearOk, epact, fullMoon, closedSum of julian and gregorian. Contracts of the program's easterDate, lineEaster, Easter: each answers its plain function, where the table of months holds its numbers. Contracts of both FeastDay: each answers its plain function at every calendar, year and feast. Lists of structs whose fields are all ints: a plain list, and that a slice value holds just it ('IRow': anywhere; 'INew': in a block of its own that was not there in w; 'IIn': it came in). -/
import Derived.Test.YtjojgfdfbkmlkaaGreatDoorJnDap
import Derived.Test.YtjojgfdfbkmlkaaGreatDoorJnDac
import Derived.Test.YtjojgfdfbkmlkaaGreatDoorFeaOkCtrD
import Derived.Test.YtjojgfdfbkmlkaaGreatDoorJnDaj
import Derived.Deep.Slices
import Derived.Lib.SmallJoins
namespace Go.Proofs.YtjojgfdfbkmlkaaGreatDoor.ctr
open Go.RowKit
theorem implYearOk (c y : Int) (w : World) (hT : Tab w) : Calls Tryz.prog 348 #[.int .i64 c, .int .i64 y] w fun e w' => e = .returned (.bool (yearB c y)) ∧ Below w.heap.size w w' := by
  have K : Calls Tryz.prog 185 #[.agg #[.int .i64 c, .int .i64 y, .int .i64 1, .int .i64 1]] w fun e w' => e = .returned (.bool (yearB c y)) ∧ Below w.heap.size w w' := by
    rw [← dateOk_year]
    exact implDateOk c y 1 1 w hT
  clear hT
  generalize yearB c y = b at *
  go_enter Tryz.func348, Tryz.ntmps348
  go_wp2_with fail
  refine K.mono ?_
  rintro e w1 ⟨rfl, hb⟩
  go_wp2
  go_ret
  exact ⟨rfl, hb⟩
theorem julSum (y : Int) (w : World) (h1 : 1 ≤ y) (h2 : y ≤ 4000) : Calls Tryz.prog 393 #[.agg #[], .int .i64 y] w fun e w' => e = .returned (.int .i64 (sumJ y)) ∧ Below w.heap.size w w' := by
  obtain ⟨R, hR⟩ : ∃ R, R = sumJ y := ⟨_, rfl⟩
  rw [← hR]
  have HR := hideP hR
  clear hR
  unfold sumJ at HR
  go_enter Tryz.func393, Tryz.ntmps393
  go_wp2
  go_ret
  exact ⟨ret_int (by rw [HR.out]; unfold dJ; omega), (Below.refl _ _).alloc (Nat.le_refl _) _⟩
theorem greSum (y : Int) (w : World) (h1 : 1 ≤ y) (h2 : y ≤ 4000) : Calls Tryz.prog 395 #[.agg #[], .int .i64 y] w fun e w' => e = .returned (.int .i64 (sumG y)) ∧ Below w.heap.size w w' := by
  obtain ⟨R, hR⟩ : ∃ R, R = sumG y := ⟨_, rfl⟩
  rw [← hR]
  have HR := hideP hR
  clear hR
  go_enter Tryz.func395, Tryz.ntmps395
  go_wp2
  go_ret
  exact ⟨ret_int (by rw [HR.out]; unfold sumG mG lG hG gG; rw [show y % 100 % 4 = y % 4 by omega]), (Below.refl _ _).alloc (Nat.le_refl _) _⟩
end Go.Proofs.YtjojgfdfbkmlkaaGreatDoor.ctr
namespace Go.Proofs.YtjojgfdfbkmlkaaGreatDoor.ctr
open Go.RowKit
set_option maxHeartbeats 1000000 in
theorem julDate (y : Int) (w : World) (h1 : 1 ≤ y) (h2 : y ≤ 4000) : Calls Tryz.prog 321 #[.agg #[], .int .i64 0, .int .i64 y] w fun e w' => e = .returned (.agg #[.int .i64 0, .int .i64 y, .int .i64 (sumE 0 y / 31), .int .i64 (sumE 0 y % 31 + 1)]) ∧ Below w.heap.size w w' := by
  have k := easter_fact_at (c := 0) (y := y) (by omega) h1 h2
  have KS : ∀ W, Calls Tryz.prog 393 #[.agg #[], .int .i64 y] W fun e w' => e = .returned (.int .i64 (sumE 0 y)) ∧ Below W.heap.size W w' := fun W => by
    rw [show sumE 0 y = sumJ y from by unfold sumE; first | rw [if_pos rfl] | rw [if_neg (by omega)]]
    exact julSum y W h1 h2
  have k1 := k.1
  have k2 := k.2.1
  clear k h1 h2
  generalize sumE 0 y = s at *
  obtain ⟨W0, hW0⟩ : ∃ W0, W0 = (w.alloc (.cells #[] 224)).alloc (.cells #[.int .i64 0, .int .i64 0, .int .i64 0, .int .i64 0] 88) := ⟨_, rfl⟩
  have hB0 : ∀ x : Later W0, Blk x.w (w.heap.size + 1) #[.int .i64 0, .int .i64 0, .int .i64 0, .int .i64 0] 88 := fun x => (by rw [hW0]; simpa using Blk.new (w.alloc (.cells #[] 224)) #[.int .i64 0, .int .i64 0, .int .i64 0, .int .i64 0] 88 : Blk W0 (w.heap.size + 1) #[.int .i64 0, .int .i64 0, .int .i64 0, .int .i64 0] 88).later x
  have hBw : Below w.heap.size w W0 := by rw [hW0]; exact ((Below.refl _ _).alloc (Nat.le_refl _) _).alloc (by simp) _
  have HB0 := hideP hB0
  have HBw := hideP hBw
  have HW0 := hideP hW0
  clear hB0 hBw hW0
  go_enter Tryz.func321, Tryz.ntmps321
  go_wp2_with fail
  rw [← HW0.out]
  refine (KS _).mono ?_
  rintro e w1 ⟨rfl, hb⟩
  obtain ⟨x1, rfl⟩ := Later.of hb
  clear hb
  have b0 : x1.w.cell? ⟨w.heap.size + 1, 0, none⟩ = some (.int .i64 0) := (HB0.out x1).cell 0 rfl
  have b1 : x1.w.cell? ⟨w.heap.size + 1, 1, none⟩ = some (.int .i64 0) := (HB0.out x1).cell 1 rfl
  have b2 : x1.w.cell? ⟨w.heap.size + 1, 2, none⟩ = some (.int .i64 0) := (HB0.out x1).cell 2 rfl
  have b3 : x1.w.cell? ⟨w.heap.size + 1, 3, none⟩ = some (.int .i64 0) := (HB0.out x1).cell 3 rfl
  have f0 := (HB0.out x1).thaw 0
  have f1 := (HB0.out x1).thaw 1
  have f2 := (HB0.out x1).thaw 2
  have f3 := (HB0.out x1).thaw 3
  go_wp2_with fail
  obtain ⟨W9, e9⟩ : ∃ W9, W9 = (((x1.w.setCell ⟨w.heap.size + 1, 0, none⟩ (.int .i64 0)).setCell ⟨w.heap.size + 1, 1, none⟩ (.int .i64 y)).setCell ⟨w.heap.size + 1, 2, none⟩ (.int .i64 (s / 31))).setCell ⟨w.heap.size + 1, 3, none⟩ (.int .i64 (s % 31 + 1)) := ⟨_, rfl⟩
  have Z9 : Blk W9 (w.heap.size + 1) #[.int .i64 0, .int .i64 y, .int .i64 (s / 31), .int .i64 (s % 31 + 1)] 88 := by rw [e9]; exact ((((HB0.out x1).set 0 _).set 1 _).set 2 _).set 3 _
  have B9 : Below w.heap.size w W9 := by rw [e9]; exact below_store (below_store (below_store (below_store (HBw.out.trans (x1.below.mono HBw.out.size)) _ (by omega)) _ (by omega)) _ (by omega)) _ (by omega)
  rw [← e9]
  clear e9
  have z0 : W9.cell? ⟨w.heap.size + 1, 0, none⟩ = some (.int .i64 0) := Z9.cell 0 rfl
  have z1 : W9.cell? ⟨w.heap.size + 1, 1, none⟩ = some (.int .i64 y) := Z9.cell 1 rfl
  have z2 : W9.cell? ⟨w.heap.size + 1, 2, none⟩ = some (.int .i64 (s / 31)) := Z9.cell 2 rfl
  have z3 : W9.cell? ⟨w.heap.size + 1, 3, none⟩ = some (.int .i64 (s % 31 + 1)) := Z9.cell 3 rfl
  exact bodyPost_ret (by simp [results, Tryz.results321, go_sem, z0, z1, z2, z3]; try rfl) rfl ⟨rfl, B9⟩
set_option maxHeartbeats 1000000 in
theorem greDate (y : Int) (w : World) (h1 : 1 ≤ y) (h2 : y ≤ 4000) : Calls Tryz.prog 322 #[.agg #[], .int .i64 1, .int .i64 y] w fun e w' => e = .returned (.agg #[.int .i64 1, .int .i64 y, .int .i64 (sumE 1 y / 31), .int .i64 (sumE 1 y % 31 + 1)]) ∧ Below w.heap.size w w' := by
  have k := easter_fact_at (c := 1) (y := y) (by omega) h1 h2
  have KS : ∀ W, Calls Tryz.prog 395 #[.agg #[], .int .i64 y] W fun e w' => e = .returned (.int .i64 (sumE 1 y)) ∧ Below W.heap.size W w' := fun W => by
    rw [show sumE 1 y = sumG y from by unfold sumE; first | rw [if_pos rfl] | rw [if_neg (by omega)]]
    exact greSum y W h1 h2
  have k1 := k.1
  have k2 := k.2.1
  clear k h1 h2
  generalize sumE 1 y = s at *
  obtain ⟨W0, hW0⟩ : ∃ W0, W0 = (w.alloc (.cells #[] 225)).alloc (.cells #[.int .i64 0, .int .i64 0, .int .i64 0, .int .i64 0] 88) := ⟨_, rfl⟩
  have hB0 : ∀ x : Later W0, Blk x.w (w.heap.size + 1) #[.int .i64 0, .int .i64 0, .int .i64 0, .int .i64 0] 88 := fun x => (by rw [hW0]; simpa using Blk.new (w.alloc (.cells #[] 225)) #[.int .i64 0, .int .i64 0, .int .i64 0, .int .i64 0] 88 : Blk W0 (w.heap.size + 1) #[.int .i64 0, .int .i64 0, .int .i64 0, .int .i64 0] 88).later x
  have hBw : Below w.heap.size w W0 := by rw [hW0]; exact ((Below.refl _ _).alloc (Nat.le_refl _) _).alloc (by simp) _
  have HB0 := hideP hB0
  have HBw := hideP hBw
  have HW0 := hideP hW0
  clear hB0 hBw hW0
  go_enter Tryz.func322, Tryz.ntmps322
  go_wp2_with fail
  rw [← HW0.out]
  refine (KS _).mono ?_
  rintro e w1 ⟨rfl, hb⟩
  obtain ⟨x1, rfl⟩ := Later.of hb
  clear hb
  have b0 : x1.w.cell? ⟨w.heap.size + 1, 0, none⟩ = some (.int .i64 0) := (HB0.out x1).cell 0 rfl
  have b1 : x1.w.cell? ⟨w.heap.size + 1, 1, none⟩ = some (.int .i64 0) := (HB0.out x1).cell 1 rfl
  have b2 : x1.w.cell? ⟨w.heap.size + 1, 2, none⟩ = some (.int .i64 0) := (HB0.out x1).cell 2 rfl
  have b3 : x1.w.cell? ⟨w.heap.size + 1, 3, none⟩ = some (.int .i64 0) := (HB0.out x1).cell 3 rfl
  have f0 := (HB0.out x1).thaw 0
  have f1 := (HB0.out x1).thaw 1
  have f2 := (HB0.out x1).thaw 2
  have f3 := (HB0.out x1).thaw 3
  go_wp2_with fail
  obtain ⟨W9, e9⟩ : ∃ W9, W9 = (((x1.w.setCell ⟨w.heap.size + 1, 0, none⟩ (.int .i64 1)).setCell ⟨w.heap.size + 1, 1, none⟩ (.int .i64 y)).setCell ⟨w.heap.size + 1, 2, none⟩ (.int .i64 (s / 31))).setCell ⟨w.heap.size + 1, 3, none⟩ (.int .i64 (s % 31 + 1)) := ⟨_, rfl⟩
  have Z9 : Blk W9 (w.heap.size + 1) #[.int .i64 1, .int .i64 y, .int .i64 (s / 31), .int .i64 (s % 31 + 1)] 88 := by rw [e9]; exact ((((HB0.out x1).set 0 _).set 1 _).set 2 _).set 3 _
  have B9 : Below w.heap.size w W9 := by rw [e9]; exact below_store (below_store (below_store (below_store (HBw.out.trans (x1.below.mono HBw.out.size)) _ (by omega)) _ (by omega)) _ (by omega)) _ (by omega)
  rw [← e9]
  clear e9
  have z0 : W9.cell? ⟨w.heap.size + 1, 0, none⟩ = some (.int .i64 1) := Z9.cell 0 rfl
  have z1 : W9.cell? ⟨w.heap.size + 1, 1, none⟩ = some (.int .i64 y) := Z9.cell 1 rfl
  have z2 : W9.cell? ⟨w.heap.size + 1, 2, none⟩ = some (.int .i64 (s / 31)) := Z9.cell 2 rfl
  have z3 : W9.cell? ⟨w.heap.size + 1, 3, none⟩ = some (.int .i64 (s % 31 + 1)) := Z9.cell 3 rfl
  exact bodyPost_ret (by simp [results, Tryz.results322, go_sem, z0, z1, z2, z3]; try rfl) rfl ⟨rfl, B9⟩
set_option maxHeartbeats 1000000 in
theorem implLineEaster (c y : Int) (w : World) (hT : Tab w) (hc : c = 0 ∨ c = 1) (hy1 : 1 ≤ y) (hy2 : y ≤ 4000) : Calls Tryz.prog 299 #[.int .i64 c, .int .i64 y] w fun e w' => e = .returned (.int .i64 (easL c y)) ∧ Below w.heap.size w w' := by
  have k := easter_fact_at hc hy1 hy2
  have KD : ∀ x : Later w, Calls Tryz.prog 186 #[.agg #[.int .i64 c, .int .i64 y, .int .i64 (sumE c y / 31), .int .i64 (sumE c y % 31 + 1)]] x.w fun e w' => e = .returned (.int .i64 (easL c y)) ∧ Below x.w.heap.size x.w w' := fun x =>
    implLine c y (sumE c y / 31) (sumE c y % 31 + 1) x.w (hT.later x.below) hc (by omega) (by omega) (by omega) (by omega) (by omega) (by omega)
  clear hT k
  rcases hc with rfl | rfl
  · have KE : ∀ W, Calls Tryz.prog 321 #[.agg #[], .int .i64 0, .int .i64 y] W fun e w' => e = .returned (.agg #[.int .i64 0, .int .i64 y, .int .i64 (sumE 0 y / 31), .int .i64 (sumE 0 y % 31 + 1)]) ∧ Below W.heap.size W w' := fun W => julDate y W hy1 hy2
    generalize sumE 0 y / 31 = m at *
    generalize sumE 0 y % 31 + 1 = d at *
    generalize easL 0 y = R at *
    go_enter Tryz.func299, Tryz.ntmps299
    go_wp2_with fail
    refine (KE _).mono ?_
    rintro e w2 ⟨rfl, hb⟩
    obtain ⟨x2, rfl⟩ := Later.of hb
    clear hb
    go_wp2_with fail
    refine (KD x2).mono ?_
    rintro e w3 ⟨rfl, hb⟩
    obtain ⟨x3, rfl⟩ := x2.next hb
    clear hb
    go_wp2
    go_ret
    exact ⟨rfl, x3.below⟩
  · have KE : ∀ W, Calls Tryz.prog 322 #[.agg #[], .int .i64 1, .int .i64 y] W fun e w' => e = .returned (.agg #[.int .i64 1, .int .i64 y, .int .i64 (sumE 1 y / 31), .int .i64 (sumE 1 y % 31 + 1)]) ∧ Below W.heap.size W w' := fun W => greDate y W hy1 hy2
    generalize sumE 1 y / 31 = m at *
    generalize sumE 1 y % 31 + 1 = d at *
    generalize easL 1 y = R at *
    go_enter Tryz.func299, Tryz.ntmps299
    go_wp2_with fail
    refine (KE _).mono ?_
    rintro e w2 ⟨rfl, hb⟩
    obtain ⟨x2, rfl⟩ := Later.of hb
    clear hb
    go_wp2_with fail
    refine (KD x2).mono ?_
    rintro e w3 ⟨rfl, hb⟩
    obtain ⟨x3, rfl⟩ := x2.next hb
    clear hb
    go_wp2
    go_ret
    exact ⟨rfl, x3.below⟩
theorem implEaster (c y : Int) (w : World) (hT : Tab w) : Calls Tryz.prog 364 #[.int .i64 c, .int .i64 y] w fun e w' => e = .returned (.int .i64 (easter c y)) ∧ Below w.heap.size w w' := by
  have KT : ∀ x : Later w, Tab x.w := fun x => hT.later x.below
  have KY := implYearOk c y w hT
  by_cases h : yearP c y
  · rw [yearB_true h] at KY
    have KE : ∀ x : Later w, Calls Tryz.prog 299 #[.int .i64 c, .int .i64 y] x.w fun e w' => e = .returned (.int .i64 (easter c y)) ∧ Below x.w.heap.size x.w w' := fun x => by
      rw [show easter c y = easL c y from easter_day h]
      exact implLineEaster c y x.w (KT x) h.1 h.2.1 (by have := h.2.2; omega)
    clear h hT KT
    generalize easter c y = R at *
    go_enter Tryz.func364, Tryz.ntmps364
    go_wp2_with fail
    refine KY.mono ?_
    rintro e w1 ⟨rfl, hb⟩
    obtain ⟨x1, rfl⟩ := Later.of hb
    clear hb
    go_wp2_with fail
    refine (KE x1).mono ?_
    rintro e w3 ⟨rfl, hb⟩
    obtain ⟨x3, rfl⟩ := x1.next hb
    clear hb
    go_wp2
    go_ret
    exact ⟨rfl, x3.below⟩
  · rw [yearB_false h] at KY
    have HR : Hid (easter c y = 0) := by unfold Hid easter; rw [if_neg h]
    clear h hT KT
    go_enter Tryz.func364, Tryz.ntmps364
    go_wp2_with fail
    refine KY.mono ?_
    rintro e w1 ⟨rfl, hb⟩
    go_wp2
    go_ret
    exact ⟨ret_int HR.out.symm, hb⟩
end Go.Proofs.YtjojgfdfbkmlkaaGreatDoor.ctr
namespace Go.Proofs.YtjojgfdfbkmlkaaGreatDoor.ctr
open Go.RowKit
set_option maxHeartbeats 1000000 in
theorem specFeaDay (c y : Int) (s : ByteArray) (mv : Bool) (o m d : Int) (w : World) (hs : s.size ≤ maxLen) : Calls Tryz.prog 210 #[.int .i64 c, .int .i64 y, .agg #[.string s, .bool mv, .int .i64 o, .int .i64 m, .int .i64 d]] w fun e w' => e = .returned (.int .i64 (feaDay c y s mv o m d)) ∧ Below w.heap.size w w' := by
  have KO : ∀ W, Calls Tryz.prog 261 #[.agg #[.string s, .bool mv, .int .i64 o, .int .i64 m, .int .i64 d]] W fun e w' => e = .returned (.bool (feaOk s mv o m d)) ∧ Below W.heap.size W w' := fun W => specFeaOk s mv o m d W hs
  have KY : ∀ W, Calls Tryz.prog 136 #[.int .i64 c, .int .i64 y] W fun e w' => e = .returned (.bool (yearB c y)) ∧ w' = W := specYearOk c y
  obtain ⟨W0, hW0, c0, c1, c2, c3, c4, hBl⟩ := fea_box w s mv o m d 192
  have HW0 := hideP hW0
  have HBl := hideP hBl
  clear hs hW0 hBl
  cases hok : feaOk s mv o m d
  · have HR := hideP (feaDay_no (c := c) (y := y) hok)
    rw [hok] at KO
    clear hok
    go_enter Tryz.func210, Tryz.ntmps210
    go_wp2_with fail
    rw [← HW0.out]
    refine (KO _).mono ?_
    rintro e w1 ⟨rfl, hb⟩
    obtain ⟨x1, rfl⟩ := Later.of hb
    clear hb
    go_wp2
    go_ret
    exact ⟨ret_int HR.out.symm, HBl.out x1⟩
  by_cases hy : yearP c y
  case neg =>
    have HR := hideP (feaDay_noYear (s := s) (mv := mv) (o := o) (m := m) (d := d) hy)
    rw [hok] at KO
    simp only [yearB_false hy] at KY
    clear hok
    go_enter Tryz.func210, Tryz.ntmps210
    go_wp2_with fail
    rw [← HW0.out]
    refine (KO _).mono ?_
    rintro e w1 ⟨rfl, hb⟩
    obtain ⟨x1, rfl⟩ := Later.of hb
    clear hb
    go_wp2_with fail
    refine (KY _).mono ?_
    rintro e w2 ⟨rfl, rfl⟩
    go_wp2
    go_ret
    exact ⟨ret_int HR.out.symm, HBl.out x1⟩
  simp only [yearB_true hy] at KY
  cases mv
  · have HR : Hid (feaDay c y s false o m d = first c y + before c y (m - 1).toNat + d - 1) := (feaDay_fix hok hy).trans (fixed_day hy (ok_fix hok))
    have hdt := fixed_date hy (ok_fix hok)
    have hm := dateP_month hdt
    have hd := dateP_day hdt
    have KD : ∀ W, Calls Tryz.prog 109 #[.int .i64 c, .int .i64 y, .int .i64 m, .int .i64 d] W fun e w' => e = .returned (.int .i64 (first c y + before c y (m - 1).toNat + d - 1)) ∧ Below W.heap.size W w' := fun W => specDay c y m d W hy.1 (by have := hy.2.1; omega) (by have := hy.2.2; omega) (by omega) (by omega) (by omega)
    rw [hok] at KO
    rw [HR.out]
    clear hok hdt hm hd hy HR
    generalize first c y + before c y (m - 1).toNat + d - 1 = R at *
    go_enter Tryz.func210, Tryz.ntmps210
    go_wp2_with fail
    rw [← HW0.out]
    refine (KO _).mono ?_
    rintro e w1 ⟨rfl, hb⟩
    obtain ⟨x1, rfl⟩ := Later.of hb
    clear hb
    go_wp2_with fail
    refine (KY _).mono ?_
    rintro e w2 ⟨rfl, rfl⟩
    go_wp2_with fail
    refine (KD _).mono ?_
    rintro e w2 ⟨rfl, hb⟩
    obtain ⟨x2, rfl⟩ := x1.next hb
    clear hb
    go_wp2
    go_ret
    exact ⟨rfl, HBl.out x2⟩
  · have HR : Hid (feaDay c y s true o m d = easter c y + o) := feaDay_mv hok hy
    have hb1 := easter_near hy
    have hb2 := ok_mv hok
    have KE : ∀ W, Calls Tryz.prog 262 #[.int .i64 c, .int .i64 y] W fun e w' => e = .returned (.int .i64 (easter c y)) ∧ Below W.heap.size W w' := specEaster c y
    rw [hok] at KO
    rw [HR.out]
    clear hok hy HR
    generalize easter c y = E at *
    go_enter Tryz.func210, Tryz.ntmps210
    go_wp2_with fail
    rw [← HW0.out]
    refine (KO _).mono ?_
    rintro e w1 ⟨rfl, hb⟩
    obtain ⟨x1, rfl⟩ := Later.of hb
    clear hb
    go_wp2_with fail
    refine (KY _).mono ?_
    rintro e w2 ⟨rfl, rfl⟩
    go_wp2_with fail
    refine wp_region_later (W := W0) x1.below (by kernel_rfl) (by kernel_rfl) ?_
    repeat (go_big_quiet_step (first | (go_at_call 262; exact calls_later (KE _))))
    refine wpQuiet_nil ?_
    intro _ hw'
    obtain ⟨x, rfl⟩ := hw'
    go_wp2
    go_ret
    exact ⟨ret_int (by first | rfl | (unfold wrap64; omega)), HBl.out x⟩
set_option maxHeartbeats 1000000 in
theorem implMovDay (c y : Int) (s : ByteArray) (o m d : Int) (w : World) (hT : Tab w) (hy : yearP c y) (h1 : -63 ≤ o) (h2 : o ≤ 63) : Calls Tryz.prog 349 #[.agg #[.string s, .bool true, .int .i64 o, .int .i64 m, .int .i64 d], .int .i64 c, .int .i64 y] w fun e w' => e = .returned (.int .i64 (easter c y + o)) ∧ Below w.heap.size w w' := by
  obtain ⟨W0, hW0, c0, c1, c2, c3, c4, hBl⟩ := fea_box w s true o m d 279
  have HW0 := hideP hW0
  have HBl := hideP hBl
  have KE : ∀ x : Later W0, Calls Tryz.prog 364 #[.int .i64 c, .int .i64 y] x.w fun e w' => e = .returned (.int .i64 (easter c y)) ∧ Below x.w.heap.size x.w w' := fun x => implEaster c y x.w (hT.later (HBl.out x))
  have hb1 := easter_near hy
  clear hW0 hBl hT hy
  generalize easter c y = E at *
  go_enter Tryz.func349, Tryz.ntmps349
  go_wp2_with fail
  rw [← HW0.out]
  refine wp_region_later (W := W0) (Below.refl _ _) (by kernel_rfl) (by kernel_rfl) ?_
  repeat (go_big_quiet_step (first | (go_at_call 364; exact calls_later (KE _))))
  refine wpQuiet_nil ?_
  intro _ hw'
  obtain ⟨x, rfl⟩ := hw'
  go_wp2
  go_ret
  exact ⟨ret_int (by first | rfl | (unfold wrap64; omega)), HBl.out x⟩
set_option maxHeartbeats 1000000 in
theorem implFixDay (c y : Int) (s : ByteArray) (o m d : Int) (w : World) (hT : Tab w) : Calls Tryz.prog 350 #[.agg #[.string s, .bool false, .int .i64 o, .int .i64 m, .int .i64 d], .int .i64 c, .int .i64 y] w fun e w' => e = .returned (.int .i64 (dayOf c y m d)) ∧ Below w.heap.size w w' := by
  obtain ⟨W0, hW0, c0, c1, c2, c3, c4, hBl⟩ := fea_box w s false o m d 192
  have HW0 := hideP hW0
  have HBl := hideP hBl
  have KI : ∀ W, Calls Tryz.prog 365 #[.agg #[.string s, .bool false, .int .i64 o, .int .i64 m, .int .i64 d], .int .i64 c, .int .i64 y] W fun e w' => e = .returned (.agg #[.int .i64 c, .int .i64 y, .int .i64 m, .int .i64 d]) ∧ Below W.heap.size W w' := implDateIn s false o m d c y
  have KD : ∀ x : Later W0, Calls Tryz.prog 125 #[.agg #[.int .i64 c, .int .i64 y, .int .i64 m, .int .i64 d]] x.w fun e w' => e = .returned (.int .i64 (dayOf c y m d)) ∧ Below x.w.heap.size x.w w' := fun x => implDayOf c y m d x.w (hT.later (HBl.out x))
  clear hW0 hBl hT
  generalize dayOf c y m d = R at *
  go_enter Tryz.func350, Tryz.ntmps350
  go_wp2_with fail
  rw [← HW0.out]
  refine (KI _).mono ?_
  rintro e w1 ⟨rfl, hb⟩
  obtain ⟨x1, rfl⟩ := Later.of hb
  clear hb
  go_wp2_with fail
  refine (KD _).mono ?_
  rintro e w2 ⟨rfl, hb⟩
  obtain ⟨x2, rfl⟩ := x1.next hb
  clear hb
  go_wp2
  go_ret
  exact ⟨rfl, HBl.out x2⟩
set_option maxHeartbeats 1000000 in
theorem implFeaDay (c y : Int) (s : ByteArray) (mv : Bool) (o m d : Int) (w : World) (hs : s.size ≤ maxLen) (hT : Tab w) : Calls Tryz.prog 334 #[.int .i64 c, .int .i64 y, .agg #[.string s, .bool mv, .int .i64 o, .int .i64 m, .int .i64 d]] w fun e w' => e = .returned (.int .i64 (feaDay c y s mv o m d)) ∧ Below w.heap.size w w' := by
  obtain ⟨W0, hW0, c0, c1, c2, c3, c4, hBl⟩ := fea_box w s mv o m d 192
  have KT : ∀ x : Later W0, Tab x.w := fun x => hT.later (hBl x)
  obtain ⟨x0, hx0⟩ := Later.of (Below.refl W0.heap.size W0)
  have KO : Calls Tryz.prog 347 #[.agg #[.string s, .bool mv, .int .i64 o, .int .i64 m, .int .i64 d]] W0 fun e w' => e = .returned (.bool (feaOk s mv o m d)) ∧ Below W0.heap.size W0 w' := implFeaOk s mv o m d W0 hs (by rw [hx0]; exact KT x0)
  have KY : ∀ x : Later W0, Calls Tryz.prog 348 #[.int .i64 c, .int .i64 y] x.w fun e w' => e = .returned (.bool (yearB c y)) ∧ Below x.w.heap.size x.w w' := fun x => implYearOk c y x.w (KT x)
  have HW0 := hideP hW0
  have HBl := hideP hBl
  clear hs hW0 hBl hT hx0 x0
  cases hok : feaOk s mv o m d
  · have HR := hideP (feaDay_no (c := c) (y := y) hok)
    rw [hok] at KO
    clear hok KT
    go_enter Tryz.func334, Tryz.ntmps334
    go_wp2_with fail
    rw [← HW0.out]
    refine KO.mono ?_
    rintro e w1 ⟨rfl, hb⟩
    obtain ⟨x1, rfl⟩ := Later.of hb
    clear hb
    go_wp2
    go_ret
    exact ⟨ret_int HR.out.symm, HBl.out x1⟩
  by_cases hy : yearP c y
  case neg =>
    have HR := hideP (feaDay_noYear (s := s) (mv := mv) (o := o) (m := m) (d := d) hy)
    rw [hok] at KO
    simp only [yearB_false hy] at KY
    clear hok KT
    go_enter Tryz.func334, Tryz.ntmps334
    go_wp2_with fail
    rw [← HW0.out]
    refine KO.mono ?_
    rintro e w1 ⟨rfl, hb⟩
    obtain ⟨x1, rfl⟩ := Later.of hb
    clear hb
    go_wp2_with fail
    refine (KY x1).mono ?_
    rintro e w2 ⟨rfl, hb⟩
    obtain ⟨x2, rfl⟩ := x1.next hb
    clear hb
    go_wp2
    go_ret
    exact ⟨ret_int HR.out.symm, HBl.out x2⟩
  simp only [yearB_true hy] at KY
  cases mv
  · have HR : Hid (feaDay c y s false o m d = dayOf c y m d) := feaDay_fix hok hy
    have KD : ∀ x : Later W0, Calls Tryz.prog 350 #[.agg #[.string s, .bool false, .int .i64 o, .int .i64 m, .int .i64 d], .int .i64 c, .int .i64 y] x.w fun e w' => e = .returned (.int .i64 (dayOf c y m d)) ∧ Below x.w.heap.size x.w w' := fun x => implFixDay c y s o m d x.w (KT x)
    rw [hok] at KO
    rw [HR.out]
    clear hok hy HR KT
    generalize dayOf c y m d = R at *
    go_enter Tryz.func334, Tryz.ntmps334
    go_wp2_with fail
    rw [← HW0.out]
    refine KO.mono ?_
    rintro e w1 ⟨rfl, hb⟩
    obtain ⟨x1, rfl⟩ := Later.of hb
    clear hb
    go_wp2_with fail
    refine (KY x1).mono ?_
    rintro e w2 ⟨rfl, hb⟩
    obtain ⟨x2, rfl⟩ := x1.next hb
    clear hb
    go_wp2_with fail
    refine (KD x2).mono ?_
    rintro e w3 ⟨rfl, hb⟩
    obtain ⟨x3, rfl⟩ := x2.next hb
    clear hb
    go_wp2
    go_ret
    exact ⟨rfl, HBl.out x3⟩
  · have HR : Hid (feaDay c y s true o m d = easter c y + o) := feaDay_mv hok hy
    have hb2 := ok_mv hok
    have KD : ∀ x : Later W0, Calls Tryz.prog 349 #[.agg #[.string s, .bool true, .int .i64 o, .int .i64 m, .int .i64 d], .int .i64 c, .int .i64 y] x.w fun e w' => e = .returned (.int .i64 (easter c y + o)) ∧ Below x.w.heap.size x.w w' := fun x => implMovDay c y s o m d x.w (KT x) hy hb2.1 hb2.2
    rw [hok] at KO
    rw [HR.out]
    clear hok hy HR KT hb2
    generalize easter c y + o = R at *
    go_enter Tryz.func334, Tryz.ntmps334
    go_wp2_with fail
    rw [← HW0.out]
    refine KO.mono ?_
    rintro e w1 ⟨rfl, hb⟩
    obtain ⟨x1, rfl⟩ := Later.of hb
    clear hb
    go_wp2_with fail
    refine (KY x1).mono ?_
    rintro e w2 ⟨rfl, hb⟩
    obtain ⟨x2, rfl⟩ := x1.next hb
    clear hb
    go_wp2_with fail
    refine (KD x2).mono ?_
    rintro e w3 ⟨rfl, hb⟩
    obtain ⟨x3, rfl⟩ := x2.next hb
    clear hb
    go_wp2
    go_ret
    exact ⟨rfl, HBl.out x3⟩
end Go.Proofs.YtjojgfdfbkmlkaaGreatDoor.ctr
namespace Go.Proofs.YtjojgfdfbkmlkaaGreatDoor.ctr
open Go.RowKit
structure IK (α : Type) where
  m : Nat
  iv : α → List Int
  ofI : List Int → α
  d : α
  len : ∀ a, (iv a).length = m
  back : ∀ zs : List Int, zs.length = m → iv (ofI zs) = zs
def icell {α : Type} (K : IK α) (a : α) : List Value := (K.iv a).map (Value.int .i64)
def icells {α : Type} (K : IK α) : List α → List Value
  | [] => []
  | a :: l => icell K a ++ icells K l
def iA {α : Type} (K : IK α) (l : List α) : Array Value := (icells K l).toArray
def atK {α : Type} (K : IK α) (l : List α) (k : Nat) : α := l.getD k K.d
theorem atK_eq {α : Type} {K : IK α} {l : List α} {k : Nat} (h : k < l.length) : atK K l k = l[k] := by unfold atK; rw [List.getD, List.getElem?_eq_getElem h]; rfl
theorem icells_len {α : Type} {K : IK α} : ∀ l : List α, (icells K l).length = l.length * K.m
  | [] => by simp [icells]
  | a :: l => by rw [icells, List.length_append, icells_len l]; simp [icell, K.len, Nat.add_mul]; omega
theorem icells_at {α : Type} {K : IK α} : ∀ (l : List α) (k j : Nat) (z : Int), k < l.length → (K.iv (atK K l k))[j]? = some z → (icells K l)[k * K.m + j]? = some (.int .i64 z)
  | [], k, j, z, h, _ => by simp at h
  | a :: l, 0, j, z, _, e => by
    have e' : (K.iv a)[j]? = some z := by simpa [atK] using e
    have hj : j < (K.iv a).length := (List.getElem?_eq_some_iff.1 e').1
    rw [icells, Nat.zero_mul, Nat.zero_add, List.getElem?_append_left (by simpa [icell] using hj)]
    simp [icell, e']
  | a :: l, k + 1, j, z, h, e => by
    rw [icells, List.getElem?_append_right (by simp [icell, K.len, Nat.add_mul]; omega)]
    have := icells_at l k j z (by simpa using h) (by simpa [atK] using e)
    simp only [icell, List.length_map, K.len]
    rw [show (k + 1) * K.m + j - K.m = k * K.m + j by rw [Nat.add_mul]; omega]
    exact this
theorem iA_size {α : Type} {K : IK α} (l : List α) : (iA K l).size = l.length * K.m := by simp [iA, icells_len]
theorem iA_at {α : Type} {K : IK α} {l : List α} {k : Nat} (j : Nat) {z : Int} (h : k < l.length) (e : (K.iv (atK K l k))[j]? = some z) : (iA K l)[k * K.m + j]? = some (.int .i64 z) := by
  simpa [iA] using icells_at l k j z h e
def IAt {α : Type} (K : IK α) (w : World) (g k : Nat) (a : α) : Prop := ∀ (j : Nat) (z : Int), (K.iv a)[j]? = some z → w.cell? ⟨g, k * K.m + j, none⟩ = some (.int .i64 z)
theorem IAt.below {α : Type} {K : IK α} {w w' : World} {g k : Nat} {a : α} {B : Nat} (h : IAt K w g k a) (hb : Below B w w') (hg : g < B) : IAt K w' g k a := fun j z e => (hb.cell (p := ⟨g, k * K.m + j, none⟩) hg).trans (h j z e)
def IRow {α : Type} (K : IK α) (w : World) (v : Value) (l : List α) : Prop := ∃ ad cap, v = .slice ad l.length cap ∧ l.length ≤ cap ∧ cap ≤ maxLen ∧ ∀ k, k < l.length → ∃ g, ad = some ⟨g, 0, none⟩ ∧ g < w.heap.size ∧ IAt K w g k (atK K l k)
theorem IRow.below {α : Type} {K : IK α} {w w' : World} {v : Value} {l : List α} (h : IRow K w v l) (hb : Below w.heap.size w w') : IRow K w' v l := by
  obtain ⟨ad, cap, rfl, h1, h2, h⟩ := h
  exact ⟨ad, cap, rfl, h1, h2, fun k hk => by
    obtain ⟨g, e, hg, hc⟩ := h k hk
    exact ⟨g, e, Nat.lt_of_lt_of_le hg hb.size, hc.below hb hg⟩⟩
theorem IRow.later {α : Type} {K : IK α} {W : World} {v : Value} {l : List α} (h : IRow K W v l) (x : Later W) : IRow K x.w v l := h.below x.below
theorem IRow.drewN {α : Type} {K : IK α} {W : World} {v : Value} {l : List α} (h : IRow K W v l) (n : Nat) : IRow K (W.drewN n) v l := h
def INew {α : Type} (K : IK α) (w w' : World) (v : Value) (l : List α) : Prop := ∃ g t, v = .slice (some ⟨g, 0, none⟩) l.length l.length ∧ w.heap.size ≤ g ∧ Blk w' g (iA K l) t
theorem INew.row {α : Type} {K : IK α} {w w' : World} {v : Value} {l : List α} (h : INew K w w' v l) (hl : l.length ≤ maxLen) : IRow K w' v l := by
  obtain ⟨g, t, rfl, _, hb⟩ := h
  exact ⟨_, _, rfl, Nat.le_refl _, hl, fun k hk => ⟨g, rfl, hb.lt, fun j z e => hb.cell (k * K.m + j) (iA_at j hk e)⟩⟩
theorem INew.below {α : Type} {K : IK α} {w w' w'' : World} {v : Value} {l : List α} (h : INew K w w' v l) (hb : Below w'.heap.size w' w'') : INew K w w'' v l := by
  obtain ⟨g, t, rfl, hg, hB⟩ := h
  exact ⟨g, t, rfl, hg, hB.below hb hB.lt⟩
def IIn {α : Type} (K : IK α) (w : World) (a : Option Addr) (len cap : Nat) (l : List α) : Prop :=
  l.length = len ∧ len ≤ cap ∧ cap ≤ maxLen ∧
  ((a = none ∧ len = 0) ∨ ∃ x, a = some x ∧ ∀ k, k < len → ∀ (j : Nat) (z : Int), (K.iv (atK K l k))[j]? = some z → w.cell? (x.add (k * K.m + j)) = some (.int .i64 z))
theorem IIn.below {α : Type} {K : IK α} {w w' : World} {a : Option Addr} {len cap : Nat} {l : List α} (h : IIn K w a len cap l) (hb : Below w.heap.size w w') : IIn K w' a len cap l := by
  obtain ⟨h1, h2, h3, h4 | ⟨x, hx, h⟩⟩ := h
  · exact ⟨h1, h2, h3, .inl h4⟩
  · exact ⟨h1, h2, h3, .inr ⟨x, hx, fun k hk j z e => Later.at (h k hk j z e) ⟨w', hb⟩⟩⟩
theorem IIn.drewN {α : Type} {K : IK α} {W : World} {a : Option Addr} {len cap : Nat} {l : List α} (h : IIn K W a len cap l) (n : Nat) : IIn K (W.drewN n) a len cap l := h
def ifFrom {α : Type} (p : α → Bool) : List α → Nat → Int
  | [], _ => -1
  | r :: l, k => if p r = true then (k : Int) else ifFrom p l (k + 1)
def ifind {α : Type} (p : α → Bool) (l : List α) : Int := ifFrom p l 0
theorem if_hit {α : Type} {K : IK α} {p : α → Bool} {l : List α} {k : Nat} {R : Int} (h : k < l.length) (hp : p (atK K l k) = true) (H : ifFrom p (l.drop k) k = R) : R = (k : Int) := by
  rw [List.drop_eq_getElem_cons h, ifFrom, ← atK_eq (K := K) h, if_pos hp] at H
  exact H.symm
theorem if_miss {α : Type} {K : IK α} {p : α → Bool} {l : List α} {k : Nat} {R : Int} (h : k < l.length) (hp : p (atK K l k) = false) (H : ifFrom p (l.drop k) k = R) : ifFrom p (l.drop (k + 1)) (k + 1) = R := by
  rw [List.drop_eq_getElem_cons h, ifFrom, ← atK_eq (K := K) h, if_neg (by rw [hp]; simp)] at H
  exact H
theorem if_end {α : Type} {p : α → Bool} {l : List α} {k : Nat} {R : Int} (h : l.length ≤ k) (H : ifFrom p (l.drop k) k = R) : R = -1 := by
  rw [List.drop_of_length_le h] at H
  exact H.symm
def iPart {α : Type} (K : IK α) (l : List α) (k : Nat) (cs : Array Value) : Prop := cs.size = l.length * K.m ∧ ∀ j, j < k * K.m → cs[j]? = (iA K l)[j]?
theorem iPart_all {α : Type} {K : IK α} {l : List α} {cs : Array Value} (h : iPart K l l.length cs) : cs = iA K l := by
  apply Array.ext_getElem?
  intro j
  by_cases hj : j < l.length * K.m
  · exact h.2 j hj
  · rw [Array.getElem?_eq_none (by rw [h.1]; omega), Array.getElem?_eq_none (by rw [iA_size]; omega)]
def setI (cs : Array Value) (b : Nat) : Nat → List Int → Array Value
  | _, [] => cs
  | j, z :: zs => setI (cs.setIfInBounds (b + j) (.int .i64 z)) b (j + 1) zs
theorem setI_size : ∀ (zs : List Int) (cs : Array Value) (b j : Nat), (setI cs b j zs).size = cs.size
  | [], cs, b, j => rfl
  | z :: zs, cs, b, j => by rw [setI, setI_size zs]; simp
theorem setI_old : ∀ (zs : List Int) (cs : Array Value) (b j q : Nat), q < b + j ∨ b + j + zs.length ≤ q → (setI cs b j zs)[q]? = cs[q]?
  | [], cs, b, j, q, _ => rfl
  | z :: zs, cs, b, j, q, h => by
    rw [setI, setI_old zs _ b (j + 1) q (by simp at h; omega), Array.getElem?_setIfInBounds_ne (by simp at h; omega)]
theorem setI_new : ∀ (zs : List Int) (cs : Array Value) (b j i : Nat) (z : Int), b + j + zs.length ≤ cs.size → zs[i]? = some z → (setI cs b j zs)[b + j + i]? = some (.int .i64 z)
  | [], cs, b, j, i, z, _, e => by simp at e
  | y :: zs, cs, b, j, 0, z, h, e => by
    simp at e h
    subst e
    rw [setI, setI_old zs _ b (j + 1) _ (by omega), Nat.add_zero, Array.getElem?_setIfInBounds_self_of_lt (by omega)]
  | y :: zs, cs, b, j, i + 1, z, h, e => by
    simp at h
    have := setI_new zs (cs.setIfInBounds (b + j) (.int .i64 y)) b (j + 1) i z (by simp; omega) (by simpa using e)
    rw [setI, show b + j + (i + 1) = b + (j + 1) + i by omega]
    exact this
theorem iPart_next {α : Type} {K : IK α} {l : List α} {k : Nat} {cs : Array Value} (h : iPart K l k cs) (hk : k < l.length) : iPart K l (k + 1) (setI cs (k * K.m) 0 (K.iv (atK K l k))) := by
  obtain ⟨h1, h2⟩ := h
  have hl := K.len (atK K l k)
  have hmul : (k + 1) * K.m ≤ l.length * K.m := Nat.mul_le_mul_right _ hk
  have e1 : (k + 1) * K.m = k * K.m + K.m := by rw [Nat.add_mul]; omega
  refine ⟨by rw [setI_size, h1], fun j hj => ?_⟩
  by_cases hlt : j < k * K.m
  · rw [setI_old _ _ _ _ _ (by omega), h2 j hlt]
  · obtain ⟨i, rfl⟩ : ∃ i, j = k * K.m + i := ⟨j - k * K.m, by omega⟩
    have hi : i < (K.iv (atK K l k)).length := by omega
    have e : (K.iv (atK K l k))[i]? = some ((K.iv (atK K l k))[i]) := by simp [hi]
    have := setI_new (K.iv (atK K l k)) cs (k * K.m) 0 i _ (by omega) e
    rw [Nat.add_zero] at this
    rw [this, iA_at i hk e]
end Go.Proofs.YtjojgfdfbkmlkaaGreatDoor.ctr
namespace Go.Proofs.YtjojgfdfbkmlkaaGreatDoor.kit
open Go.RowKit Go.WideShapes Go.Deep Go.ChangeShapes
theorem open_irow {H : Type} {enc : TypeId × Value → H} {P : Program} {w : World} {base : Nat} {spare : Nat → Bool} {held : Bool} {t e : TypeId} {fs : Array Field} {a : Option Addr} {len cap : Nat} {x : DataW H} {p : List MemPlace} {α : Type} (K : ctr.IK α)
    (ht : P.underlying t = some (.slice e)) (he : P.underlying e = some (.struct fs)) (ce : P.cellsOf e = K.m) (hsz : fs.size = K.m)
    (hf0 : ∀ (j : Nat) (f : Field), fs[j]? = some f → f.offset = j ∧ P.cellsOf f.type = 1 ∧ P.underlying f.type = some (.int .i64))
    (h : DataW.Trod enc P w base spare held t (.slice a len cap) x p) : ∃ l : List α, ctr.IIn K w a len cap l := by
  obtain ⟨fuel, h⟩ := h
  simp only [Value.cells] at h
  rcases open_slice ht h with ⟨h0, _⟩ | ⟨a', len', cap', m, n, D, Pl, e', hb, hl, hm, hmm, hxp, hx⟩
  · simp at h0
    obtain ⟨rfl, rfl, rfl⟩ := h0
    exact ⟨[], rfl, Nat.le_refl _, by unfold maxLen; omega, .inl ⟨rfl, rfl⟩⟩
  · simp at e'
    obtain ⟨rfl, rfl, rfl⟩ := e'
    have hlm : len ≤ m := by rw [hmm]; split <;> omega
    have each : ∀ i, i < len → ∃ r : α, ∀ (j : Nat) (z : Int), (K.iv r)[j]? = some z → w.cell? (a'.add (i * K.m + j)) = some (.int .i64 z) := by
      intro i hi
      obtain ⟨cs', h1, h2⟩ := hx i (by omega)
      rw [ce] at h1
      obtain ⟨_, hlen, hcell⟩ := World.cells?_some h1
      obtain ⟨xs, k, hk, hxy, _, hxl, hf⟩ := DataW.trod_struct he h2
      have cell : ∀ j, j < K.m → ∃ z : Int, cs'[j]? = some (.int .i64 z) := by
        intro j hj
        obtain ⟨f, hfe⟩ : ∃ f, fs[j]? = some f := ⟨fs[j]'(by omega), by simp [hsz, hj]⟩
        obtain ⟨o, c, u⟩ := hf0 j f hfe
        have g := hf j f (by simpa using hfe)
        rw [o, c] at g
        have hjl : j < cs'.length := by omega
        have e1 : (cs'.drop j).take 1 = [cs'[j]] := by rw [List.drop_eq_getElem_cons hjl]; rfl
        have hxj : j < xs.length := by have := hxl; omega
        rw [e1, List.getElem?_eq_getElem hxj] at g
        obtain ⟨z, q, _, _⟩ := DataW.trod_int u g
        exact ⟨z, by rw [List.getElem?_eq_getElem hjl]; simpa using q⟩
      obtain ⟨Z, hZ⟩ : ∃ Z : Nat → Int, ∀ j, j < K.m → cs'[j]? = some (.int .i64 (Z j)) := by
        classical
        refine ⟨fun j => if h : j < K.m then (cell j h).choose else 0, fun j hj => ?_⟩
        simp only [dif_pos hj]
        exact (cell j hj).choose_spec
      refine ⟨K.ofI ((List.range K.m).map Z), fun j z e => ?_⟩
      rw [K.back _ (by simp)] at e
      have hj : j < K.m := by have := (List.getElem?_eq_some_iff.1 e).1; simpa using this
      have ez : z = Z j := by simpa [hj] using e.symm
      have e0 := hcell j (by omega)
      rw [add_add] at e0
      rw [e0, ez]
      exact hZ j hj
    obtain ⟨R, hR⟩ : ∃ R : Nat → α, ∀ i, i < len → ∀ (j : Nat) (z : Int), (K.iv (R i))[j]? = some z → w.cell? (a'.add (i * K.m + j)) = some (.int .i64 z) := by
      classical
      refine ⟨fun i => if h : i < len then (each i h).choose else K.d, fun i hi => ?_⟩
      simp only [dif_pos hi]
      exact (each i hi).choose_spec
    have hat : ∀ k, k < len → ctr.atK K ((List.range len).map R) k = R k := fun k hk => by simp [ctr.atK, List.getD, hk]
    exact ⟨(List.range len).map R, by simp, hl, hm, .inr ⟨a', rfl, fun k hk => by rw [hat k hk]; exact hR k hk⟩⟩
end Go.Proofs.YtjojgfdfbkmlkaaGreatDoor.kit
