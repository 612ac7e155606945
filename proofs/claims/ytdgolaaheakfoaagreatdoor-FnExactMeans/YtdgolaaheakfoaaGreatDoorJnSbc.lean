/- Contracts of the program's easterDate, lineEaster, Easter: each answers its plain function, where the table of months holds its numbers. A whole array by value, of no program: loaded out of its block, stored into a block of its own, handed back. Contracts of the program's beginnings of years: the methods of solarYear, beginning. Each answers its plain function where the table of months holds its numbers. -/
import Derived.Test.YtdgolaaheakfoaaGreatDoorJnSbb
import Derived.Test.YtdgolaaheakfoaaGreatDoorJnSba
import Derived.Test.YtdgolaaheakfoaaGreatDoorJnSaa
import Derived.Deep.WholeRow
import Derived.Test.YtdgolaaheakfoaaGreatDoorJnSal
import Derived.Test.YtdgolaaheakfoaaGreatDoorJnSaz
namespace Go.Proofs.YtdgolaaheakfoaaGreatDoor.ctr
open Go.RowKit
set_option maxHeartbeats 1000000 in
theorem julDate (y : Int) (w : World) (h1 : 1 ≤ y) (h2 : y ≤ 4000) : Calls Tryz.prog 193 #[.agg #[], .int .i64 0, .int .i64 y] w fun e w' => e = .returned (.agg #[.int .i64 0, .int .i64 y, .int .i64 (sumE 0 y / 31), .int .i64 (sumE 0 y % 31 + 1)]) ∧ Below w.heap.size w w' := by
  have k := easter_fact_at (c := 0) (y := y) (by omega) h1 h2
  have KS : ∀ W, Calls Tryz.prog 225 #[.agg #[], .int .i64 y] W fun e w' => e = .returned (.int .i64 (sumE 0 y)) ∧ Below W.heap.size W w' := fun W => by
    rw [show sumE 0 y = sumJ y from by unfold sumE; first | rw [if_pos rfl] | rw [if_neg (by omega)]]
    exact julSum y W h1 h2
  have k1 := k.1
  have k2 := k.2.1
  clear k h1 h2
  generalize sumE 0 y = s at *
  obtain ⟨W0, hW0⟩ : ∃ W0, W0 = (w.alloc (.cells #[] 164)).alloc (.cells #[.int .i64 0, .int .i64 0, .int .i64 0, .int .i64 0] 92) := ⟨_, rfl⟩
  have hB0 : ∀ x : Later W0, Blk x.w (w.heap.size + 1) #[.int .i64 0, .int .i64 0, .int .i64 0, .int .i64 0] 92 := fun x => (by rw [hW0]; simpa using Blk.new (w.alloc (.cells #[] 164)) #[.int .i64 0, .int .i64 0, .int .i64 0, .int .i64 0] 92 : Blk W0 (w.heap.size + 1) #[.int .i64 0, .int .i64 0, .int .i64 0, .int .i64 0] 92).later x
  have hBw : Below w.heap.size w W0 := by rw [hW0]; exact ((Below.refl _ _).alloc (Nat.le_refl _) _).alloc (by simp) _
  have HB0 := hideP hB0
  have HBw := hideP hBw
  have HW0 := hideP hW0
  clear hB0 hBw hW0
  go_enter Tryz.func193, Tryz.ntmps193
  go_wp2_with fail
  rw [← HW0.out]
  refine (KS _).mono ?_
  rintro e w1 ⟨rfl, hb⟩
  obtain ⟨x1, rfl⟩ := Later.of hb
  clear hb
  have b0 : x1.w.cell? ⟨w.heap.size + 1, 0, none⟩ = some (.int .i64 0) := (HB0.out x1).cell 0 rfl
  have b1 : x1.w.cell? ⟨w.heap.size + 1, 1, none⟩ = some (.int .i64 0) := (HB0.out x1).cell 1 rfl
  have b2 : x1.w.cell? ⟨w.heap.size + 1, 2, none⟩ = some (.int .i64 0) := (HB0.out x1).cell 2 rfl
  have b3 : x1.w.cell? ⟨w.heap.size + 1, 3, none⟩ = some (.int .i64 0) := (HB0.out x1).cell 3 rfl
  have f0 := (HB0.out x1).thaw 0
  have f1 := (HB0.out x1).thaw 1
  have f2 := (HB0.out x1).thaw 2
  have f3 := (HB0.out x1).thaw 3
  go_wp2_with fail
  obtain ⟨W9, e9⟩ : ∃ W9, W9 = (((x1.w.setCell ⟨w.heap.size + 1, 0, none⟩ (.int .i64 0)).setCell ⟨w.heap.size + 1, 1, none⟩ (.int .i64 y)).setCell ⟨w.heap.size + 1, 2, none⟩ (.int .i64 (s / 31))).setCell ⟨w.heap.size + 1, 3, none⟩ (.int .i64 (s % 31 + 1)) := ⟨_, rfl⟩
  have Z9 : Blk W9 (w.heap.size + 1) #[.int .i64 0, .int .i64 y, .int .i64 (s / 31), .int .i64 (s % 31 + 1)] 92 := by rw [e9]; exact ((((HB0.out x1).set 0 _).set 1 _).set 2 _).set 3 _
  have B9 : Below w.heap.size w W9 := by rw [e9]; exact below_store (below_store (below_store (below_store (HBw.out.trans (x1.below.mono HBw.out.size)) _ (by omega)) _ (by omega)) _ (by omega)) _ (by omega)
  rw [← e9]
  clear e9
  have z0 : W9.cell? ⟨w.heap.size + 1, 0, none⟩ = some (.int .i64 0) := Z9.cell 0 rfl
  have z1 : W9.cell? ⟨w.heap.size + 1, 1, none⟩ = some (.int .i64 y) := Z9.cell 1 rfl
  have z2 : W9.cell? ⟨w.heap.size + 1, 2, none⟩ = some (.int .i64 (s / 31)) := Z9.cell 2 rfl
  have z3 : W9.cell? ⟨w.heap.size + 1, 3, none⟩ = some (.int .i64 (s % 31 + 1)) := Z9.cell 3 rfl
  exact bodyPost_ret (by simp [results, Tryz.results193, go_sem, z0, z1, z2, z3]; try rfl) rfl ⟨rfl, B9⟩
set_option maxHeartbeats 1000000 in
theorem greDate (y : Int) (w : World) (h1 : 1 ≤ y) (h2 : y ≤ 4000) : Calls Tryz.prog 194 #[.agg #[], .int .i64 1, .int .i64 y] w fun e w' => e = .returned (.agg #[.int .i64 1, .int .i64 y, .int .i64 (sumE 1 y / 31), .int .i64 (sumE 1 y % 31 + 1)]) ∧ Below w.heap.size w w' := by
  have k := easter_fact_at (c := 1) (y := y) (by omega) h1 h2
  have KS : ∀ W, Calls Tryz.prog 227 #[.agg #[], .int .i64 y] W fun e w' => e = .returned (.int .i64 (sumE 1 y)) ∧ Below W.heap.size W w' := fun W => by
    rw [show sumE 1 y = sumG y from by unfold sumE; first | rw [if_pos rfl] | rw [if_neg (by omega)]]
    exact greSum y W h1 h2
  have k1 := k.1
  have k2 := k.2.1
  clear k h1 h2
  generalize sumE 1 y = s at *
  obtain ⟨W0, hW0⟩ : ∃ W0, W0 = (w.alloc (.cells #[] 165)).alloc (.cells #[.int .i64 0, .int .i64 0, .int .i64 0, .int .i64 0] 92) := ⟨_, rfl⟩
  have hB0 : ∀ x : Later W0, Blk x.w (w.heap.size + 1) #[.int .i64 0, .int .i64 0, .int .i64 0, .int .i64 0] 92 := fun x => (by rw [hW0]; simpa using Blk.new (w.alloc (.cells #[] 165)) #[.int .i64 0, .int .i64 0, .int .i64 0, .int .i64 0] 92 : Blk W0 (w.heap.size + 1) #[.int .i64 0, .int .i64 0, .int .i64 0, .int .i64 0] 92).later x
  have hBw : Below w.heap.size w W0 := by rw [hW0]; exact ((Below.refl _ _).alloc (Nat.le_refl _) _).alloc (by simp) _
  have HB0 := hideP hB0
  have HBw := hideP hBw
  have HW0 := hideP hW0
  clear hB0 hBw hW0
  go_enter Tryz.func194, Tryz.ntmps194
  go_wp2_with fail
  rw [← HW0.out]
  refine (KS _).mono ?_
  rintro e w1 ⟨rfl, hb⟩
  obtain ⟨x1, rfl⟩ := Later.of hb
  clear hb
  have b0 : x1.w.cell? ⟨w.heap.size + 1, 0, none⟩ = some (.int .i64 0) := (HB0.out x1).cell 0 rfl
  have b1 : x1.w.cell? ⟨w.heap.size + 1, 1, none⟩ = some (.int .i64 0) := (HB0.out x1).cell 1 rfl
  have b2 : x1.w.cell? ⟨w.heap.size + 1, 2, none⟩ = some (.int .i64 0) := (HB0.out x1).cell 2 rfl
  have b3 : x1.w.cell? ⟨w.heap.size + 1, 3, none⟩ = some (.int .i64 0) := (HB0.out x1).cell 3 rfl
  have f0 := (HB0.out x1).thaw 0
  have f1 := (HB0.out x1).thaw 1
  have f2 := (HB0.out x1).thaw 2
  have f3 := (HB0.out x1).thaw 3
  go_wp2_with fail
  obtain ⟨W9, e9⟩ : ∃ W9, W9 = (((x1.w.setCell ⟨w.heap.size + 1, 0, none⟩ (.int .i64 1)).setCell ⟨w.heap.size + 1, 1, none⟩ (.int .i64 y)).setCell ⟨w.heap.size + 1, 2, none⟩ (.int .i64 (s / 31))).setCell ⟨w.heap.size + 1, 3, none⟩ (.int .i64 (s % 31 + 1)) := ⟨_, rfl⟩
  have Z9 : Blk W9 (w.heap.size + 1) #[.int .i64 1, .int .i64 y, .int .i64 (s / 31), .int .i64 (s % 31 + 1)] 92 := by rw [e9]; exact ((((HB0.out x1).set 0 _).set 1 _).set 2 _).set 3 _
  have B9 : Below w.heap.size w W9 := by rw [e9]; exact below_store (below_store (below_store (below_store (HBw.out.trans (x1.below.mono HBw.out.size)) _ (by omega)) _ (by omega)) _ (by omega)) _ (by omega)
  rw [← e9]
  clear e9
  have z0 : W9.cell? ⟨w.heap.size + 1, 0, none⟩ = some (.int .i64 1) := Z9.cell 0 rfl
  have z1 : W9.cell? ⟨w.heap.size + 1, 1, none⟩ = some (.int .i64 y) := Z9.cell 1 rfl
  have z2 : W9.cell? ⟨w.heap.size + 1, 2, none⟩ = some (.int .i64 (s / 31)) := Z9.cell 2 rfl
  have z3 : W9.cell? ⟨w.heap.size + 1, 3, none⟩ = some (.int .i64 (s % 31 + 1)) := Z9.cell 3 rfl
  exact bodyPost_ret (by simp [results, Tryz.results194, go_sem, z0, z1, z2, z3]; try rfl) rfl ⟨rfl, B9⟩
set_option maxHeartbeats 1000000 in
theorem implLineEaster (c y : Int) (w : World) (hT : Tab w) (hc : c = 0 ∨ c = 1) (hy1 : 1 ≤ y) (hy2 : y ≤ 4000) : Calls Tryz.prog 181 #[.int .i64 c, .int .i64 y] w fun e w' => e = .returned (.int .i64 (easL c y)) ∧ Below w.heap.size w w' := by
  have k := easter_fact_at hc hy1 hy2
  have KD : ∀ x : Later w, Calls Tryz.prog 141 #[.agg #[.int .i64 c, .int .i64 y, .int .i64 (sumE c y / 31), .int .i64 (sumE c y % 31 + 1)]] x.w fun e w' => e = .returned (.int .i64 (easL c y)) ∧ Below x.w.heap.size x.w w' := fun x =>
    implLine c y (sumE c y / 31) (sumE c y % 31 + 1) x.w (hT.later x.below) hc (by omega) (by omega) (by omega) (by omega) (by omega) (by omega)
  clear hT k
  rcases hc with rfl | rfl
  · have KE : ∀ W, Calls Tryz.prog 193 #[.agg #[], .int .i64 0, .int .i64 y] W fun e w' => e = .returned (.agg #[.int .i64 0, .int .i64 y, .int .i64 (sumE 0 y / 31), .int .i64 (sumE 0 y % 31 + 1)]) ∧ Below W.heap.size W w' := fun W => julDate y W hy1 hy2
    generalize sumE 0 y / 31 = m at *
    generalize sumE 0 y % 31 + 1 = d at *
    generalize easL 0 y = R at *
    go_enter Tryz.func181, Tryz.ntmps181
    go_wp2_with fail
    refine (KE _).mono ?_
    rintro e w2 ⟨rfl, hb⟩
    obtain ⟨x2, rfl⟩ := Later.of hb
    clear hb
    go_wp2_with fail
    refine (KD x2).mono ?_
    rintro e w3 ⟨rfl, hb⟩
    obtain ⟨x3, rfl⟩ := x2.next hb
    clear hb
    go_wp2
    go_ret
    exact ⟨rfl, x3.below⟩
  · have KE : ∀ W, Calls Tryz.prog 194 #[.agg #[], .int .i64 1, .int .i64 y] W fun e w' => e = .returned (.agg #[.int .i64 1, .int .i64 y, .int .i64 (sumE 1 y / 31), .int .i64 (sumE 1 y % 31 + 1)]) ∧ Below W.heap.size W w' := fun W => greDate y W hy1 hy2
    generalize sumE 1 y / 31 = m at *
    generalize sumE 1 y % 31 + 1 = d at *
    generalize easL 1 y = R at *
    go_enter Tryz.func181, Tryz.ntmps181
    go_wp2_with fail
    refine (KE _).mono ?_
    rintro e w2 ⟨rfl, hb⟩
    obtain ⟨x2, rfl⟩ := Later.of hb
    clear hb
    go_wp2_with fail
    refine (KD x2).mono ?_
    rintro e w3 ⟨rfl, hb⟩
    obtain ⟨x3, rfl⟩ := x2.next hb
    clear hb
    go_wp2
    go_ret
    exact ⟨rfl, x3.below⟩
theorem implEaster (c y : Int) (w : World) (hT : Tab w) : Calls Tryz.prog 255 #[.int .i64 c, .int .i64 y] w fun e w' => e = .returned (.int .i64 (easter c y)) ∧ Below w.heap.size w w' := by
  have KT : ∀ x : Later w, Tab x.w := fun x => hT.later x.below
  have KY := implYearOk c y w hT
  by_cases h : yearP c y
  · rw [yearB_true h] at KY
    have KE : ∀ x : Later w, Calls Tryz.prog 181 #[.int .i64 c, .int .i64 y] x.w fun e w' => e = .returned (.int .i64 (easter c y)) ∧ Below x.w.heap.size x.w w' := fun x => by
      rw [show easter c y = easL c y from easter_day h]
      exact implLineEaster c y x.w (KT x) h.1 h.2.1 (by have := h.2.2; omega)
    clear h hT KT
    generalize easter c y = R at *
    go_enter Tryz.func255, Tryz.ntmps255
    go_wp2_with fail
    refine KY.mono ?_
    rintro e w1 ⟨rfl, hb⟩
    obtain ⟨x1, rfl⟩ := Later.of hb
    clear hb
    go_wp2_with fail
    refine (KE x1).mono ?_
    rintro e w3 ⟨rfl, hb⟩
    obtain ⟨x3, rfl⟩ := x1.next hb
    clear hb
    go_wp2
    go_ret
    exact ⟨rfl, x3.below⟩
  · rw [yearB_false h] at KY
    have HR : Hid (easter c y = 0) := by unfold Hid easter; rw [if_neg h]
    clear h hT KT
    go_enter Tryz.func255, Tryz.ntmps255
    go_wp2_with fail
    refine KY.mono ?_
    rintro e w1 ⟨rfl, hb⟩
    go_wp2
    go_ret
    exact ⟨ret_int HR.out.symm, hb⟩
end Go.Proofs.YtdgolaaheakfoaaGreatDoor.ctr
namespace Go.Proofs.YtdgolaaheakfoaaGreatDoor.ctr
open Go.RowKit
theorem wpList_store_row {P : Program} (w : World) {ops : Array Oper} {rest : List Oper} {o : Oper} {a : Act} {Q : Exit → Act → World → Prop}
    (hg : o.guard = none) (t : TypeId) (p v : Operand) (hop : o.op = .store t p v) (g : Nat) (old cs : Array Value) (hp : a.eval p = .pointer (some ⟨g, 0, none⟩)) (hv : a.eval v = .agg cs) (hb : Blk w g old t)
    (hi : (P.info? t).map (·.size) = some cs.size) (ho : old.size = cs.size) (h1 : cs.all (·.oneCell') = true)
    (h : wpList P ops Q rest (a.put o.dst undef) (w.setRow g cs)) : wpList P ops Q (o :: rest) a w := by
  have hrun := run_storeVar_row (P := P) w g t t old cs hb hi ho h1
  refine wpList_plain hg fun K hK' => ?_
  unfold Oper.wp
  simp [execOp, hop, hp, hv, Instr.storeAt, Instr.sureAddr, hrun, Result.andThen]
  exact hK' _ _ h
theorem Blk.setRow {w : World} {g : Nat} {old : Array Value} {t : TypeId} (h : Blk w g old t) (cs : Array Value) : Blk (w.setRow g cs) g cs t := setRow_heap w g old cs t (0, 0) h
theorem below_setRow {V W : World} (h : Below V.heap.size V W) {g : Nat} (cs : Array Value) (hb : V.heap.size ≤ g) : Below V.heap.size V (W.setRow g cs) :=
  ⟨h.os, h.tape, h.output, by rw [setRow_size]; exact h.size, fun k hk => by rw [setRow_other W g k cs (by omega)]; exact h.block k hk⟩
end Go.Proofs.YtdgolaaheakfoaaGreatDoor.ctr
namespace Go.Proofs.YtdgolaaheakfoaaGreatDoor.ctr
open Go.RowKit
theorem implDayOn (c y m d : Int) (w : World) (hT : Tab w) (hc : c = 0 ∨ c = 1) (hy1 : -5 ≤ y) (hy2 : y ≤ 4000) (hm1 : 1 ≤ m) (hm2 : m ≤ 13) (hd1 : -100 ≤ d) (hd2 : d ≤ 1000) : Calls Tryz.prog 179 #[.agg #[.int .i64 c, .int .i64 y], .int .i64 m, .int .i64 d] w fun e w' => e = .returned (.int .i64 (lineD c y m d)) ∧ Below w.heap.size w w' := by
  obtain ⟨W0, hW0⟩ : ∃ W0, W0 = w.alloc (.cells #[.int .i64 c, .int .i64 y] 196) := ⟨_, rfl⟩
  have HW0 := hideP hW0
  have KT : ∀ x : Later W0, Tab x.w := fun x => hT.later (below_of_alloc hW0 x.below)
  clear hW0 hT
  have KL : Calls Tryz.prog 141 #[.agg #[.int .i64 c, .int .i64 y, .int .i64 m, .int .i64 d]] W0 fun e w' => e = .returned (.int .i64 (lineD c y m d)) ∧ Below W0.heap.size W0 w' := implLine c y m d W0 (KT ⟨W0, Below.refl _ _⟩) hc hy1 hy2 hm1 hm2 hd1 hd2
  clear hc KT
  generalize lineD c y m d = R at *
  go_enter Tryz.func179, Tryz.ntmps179
  go_wp2_with fail
  rw [← HW0.out]
  refine KL.mono ?_
  rintro e w1 ⟨rfl, hb⟩
  go_wp2
  go_ret
  exact ⟨rfl, below_of_alloc HW0.out hb⟩
theorem implAhead (c y : Int) (w : World) (hy1 : -4 ≤ y) (hy2 : y ≤ 4000) : Calls Tryz.prog 180 #[.agg #[.int .i64 c, .int .i64 y]] w fun e w' => e = .returned (.agg #[.int .i64 c, .int .i64 (y - 1)]) ∧ Below w.heap.size w w' := by
  go_enter Tryz.func180, Tryz.ntmps180
  go_wp2
  go_returns
  refine ⟨rfl, ?_⟩
  go_grown
theorem impl_january (c y : Int) (w : World) (hT : Tab w) (hc : c = 0 ∨ c = 1) (hy1 : -5 ≤ y) (hy2 : y ≤ 4000) : Calls Tryz.prog 157 #[.agg #[.int .i64 c, .int .i64 y]] w fun e w' => e = .returned (.int .i64 (lineD c y 1 1)) ∧ Below w.heap.size w w' := by
  obtain ⟨W0, hW0⟩ : ∃ W0, W0 = w.alloc (.cells #[.int .i64 c, .int .i64 y] 196) := ⟨_, rfl⟩
  have HW0 := hideP hW0
  have KT : ∀ x : Later W0, Tab x.w := fun x => hT.later (below_of_alloc hW0 x.below)
  clear hW0 hT
  have KL : Calls Tryz.prog 179 #[.agg #[.int .i64 c, .int .i64 y], .int .i64 1, .int .i64 1] W0 fun e w' => e = .returned (.int .i64 (lineD c y 1 1)) ∧ Below W0.heap.size W0 w' := implDayOn c y 1 1 W0 (KT ⟨W0, Below.refl _ _⟩) hc hy1 hy2 (by omega) (by omega) (by omega) (by omega)
  clear hc KT
  generalize lineD c y 1 1 = R at *
  go_enter Tryz.func157, Tryz.ntmps157
  go_wp2_with fail
  rw [← HW0.out]
  refine KL.mono ?_
  rintro e w1 ⟨rfl, hb⟩
  go_wp2
  go_ret
  exact ⟨rfl, below_of_alloc HW0.out hb⟩
theorem impl_march (c y : Int) (w : World) (hT : Tab w) (hc : c = 0 ∨ c = 1) (hy1 : -5 ≤ y) (hy2 : y ≤ 4000) : Calls Tryz.prog 158 #[.agg #[.int .i64 c, .int .i64 y]] w fun e w' => e = .returned (.int .i64 (lineD c y 3 1)) ∧ Below w.heap.size w w' := by
  obtain ⟨W0, hW0⟩ : ∃ W0, W0 = w.alloc (.cells #[.int .i64 c, .int .i64 y] 196) := ⟨_, rfl⟩
  have HW0 := hideP hW0
  have KT : ∀ x : Later W0, Tab x.w := fun x => hT.later (below_of_alloc hW0 x.below)
  clear hW0 hT
  have KL : Calls Tryz.prog 179 #[.agg #[.int .i64 c, .int .i64 y], .int .i64 3, .int .i64 1] W0 fun e w' => e = .returned (.int .i64 (lineD c y 3 1)) ∧ Below W0.heap.size W0 w' := implDayOn c y 3 1 W0 (KT ⟨W0, Below.refl _ _⟩) hc hy1 hy2 (by omega) (by omega) (by omega) (by omega)
  clear hc KT
  generalize lineD c y 3 1 = R at *
  go_enter Tryz.func158, Tryz.ntmps158
  go_wp2_with fail
  rw [← HW0.out]
  refine KL.mono ?_
  rintro e w1 ⟨rfl, hb⟩
  go_wp2
  go_ret
  exact ⟨rfl, below_of_alloc HW0.out hb⟩
theorem impl_lady (c y : Int) (w : World) (hT : Tab w) (hc : c = 0 ∨ c = 1) (hy1 : -5 ≤ y) (hy2 : y ≤ 4000) : Calls Tryz.prog 159 #[.agg #[.int .i64 c, .int .i64 y]] w fun e w' => e = .returned (.int .i64 (lineD c y 3 25)) ∧ Below w.heap.size w w' := by
  obtain ⟨W0, hW0⟩ : ∃ W0, W0 = w.alloc (.cells #[.int .i64 c, .int .i64 y] 196) := ⟨_, rfl⟩
  have HW0 := hideP hW0
  have KT : ∀ x : Later W0, Tab x.w := fun x => hT.later (below_of_alloc hW0 x.below)
  clear hW0 hT
  have KL : Calls Tryz.prog 179 #[.agg #[.int .i64 c, .int .i64 y], .int .i64 3, .int .i64 25] W0 fun e w' => e = .returned (.int .i64 (lineD c y 3 25)) ∧ Below W0.heap.size W0 w' := implDayOn c y 3 25 W0 (KT ⟨W0, Below.refl _ _⟩) hc hy1 hy2 (by omega) (by omega) (by omega) (by omega)
  clear hc KT
  generalize lineD c y 3 25 = R at *
  go_enter Tryz.func159, Tryz.ntmps159
  go_wp2_with fail
  rw [← HW0.out]
  refine KL.mono ?_
  rintro e w1 ⟨rfl, hb⟩
  go_wp2
  go_ret
  exact ⟨rfl, below_of_alloc HW0.out hb⟩
theorem impl_pisa (c y : Int) (w : World) (hT : Tab w) (hc : c = 0 ∨ c = 1) (hy1 : -4 ≤ y) (hy2 : y ≤ 4000) : Calls Tryz.prog 160 #[.agg #[.int .i64 c, .int .i64 y]] w fun e w' => e = .returned (.int .i64 (lineD c (y - 1) 3 25)) ∧ Below w.heap.size w w' := by
  obtain ⟨W0, hW0⟩ : ∃ W0, W0 = w.alloc (.cells #[.int .i64 c, .int .i64 y] 196) := ⟨_, rfl⟩
  have HW0 := hideP hW0
  have KT : ∀ x : Later W0, Tab x.w := fun x => hT.later (below_of_alloc hW0 x.below)
  clear hW0 hT
  have KA : Calls Tryz.prog 180 #[.agg #[.int .i64 c, .int .i64 y]] W0 fun e w' => e = .returned (.agg #[.int .i64 c, .int .i64 (y - 1)]) ∧ Below W0.heap.size W0 w' := implAhead c y W0 hy1 hy2
  have KL : ∀ x : Later W0, Calls Tryz.prog 159 #[.agg #[.int .i64 c, .int .i64 (y - 1)]] x.w fun e w' => e = .returned (.int .i64 (lineD c (y - 1) 3 25)) ∧ Below x.w.heap.size x.w w' := fun x => impl_lady c (y - 1) x.w (KT x) hc (by omega) (by omega)
  clear hc KT
  generalize lineD c (y - 1) 3 25 = R at *
  go_enter Tryz.func160, Tryz.ntmps160
  go_wp2_with fail
  rw [← HW0.out]
  refine KA.mono ?_
  rintro e w1 ⟨rfl, hb⟩
  obtain ⟨x1, rfl⟩ := Later.of hb
  clear hb
  go_wp2_with fail
  refine (KL x1).mono ?_
  rintro e w2 ⟨rfl, hb⟩
  go_wp2
  go_ret
  exact ⟨rfl, below_of_alloc HW0.out (x1.on hb)⟩
theorem impl_september (c y : Int) (w : World) (hT : Tab w) (hc : c = 0 ∨ c = 1) (hy1 : -4 ≤ y) (hy2 : y ≤ 4000) : Calls Tryz.prog 162 #[.agg #[.int .i64 c, .int .i64 y]] w fun e w' => e = .returned (.int .i64 (lineD c (y - 1) 9 1)) ∧ Below w.heap.size w w' := by
  obtain ⟨W0, hW0⟩ : ∃ W0, W0 = w.alloc (.cells #[.int .i64 c, .int .i64 y] 196) := ⟨_, rfl⟩
  have HW0 := hideP hW0
  have KT : ∀ x : Later W0, Tab x.w := fun x => hT.later (below_of_alloc hW0 x.below)
  clear hW0 hT
  have KA : Calls Tryz.prog 180 #[.agg #[.int .i64 c, .int .i64 y]] W0 fun e w' => e = .returned (.agg #[.int .i64 c, .int .i64 (y - 1)]) ∧ Below W0.heap.size W0 w' := implAhead c y W0 hy1 hy2
  have KL : ∀ x : Later W0, Calls Tryz.prog 179 #[.agg #[.int .i64 c, .int .i64 (y - 1)], .int .i64 9, .int .i64 1] x.w fun e w' => e = .returned (.int .i64 (lineD c (y - 1) 9 1)) ∧ Below x.w.heap.size x.w w' := fun x => implDayOn c (y - 1) 9 1 x.w (KT x) hc (by omega) (by omega) (by omega) (by omega) (by omega) (by omega)
  clear hc KT
  generalize lineD c (y - 1) 9 1 = R at *
  go_enter Tryz.func162, Tryz.ntmps162
  go_wp2_with fail
  rw [← HW0.out]
  refine KA.mono ?_
  rintro e w1 ⟨rfl, hb⟩
  obtain ⟨x1, rfl⟩ := Later.of hb
  clear hb
  go_wp2_with fail
  refine (KL x1).mono ?_
  rintro e w2 ⟨rfl, hb⟩
  go_wp2
  go_ret
  exact ⟨rfl, below_of_alloc HW0.out (x1.on hb)⟩
theorem impl_yule (c y : Int) (w : World) (hT : Tab w) (hc : c = 0 ∨ c = 1) (hy1 : -4 ≤ y) (hy2 : y ≤ 4000) : Calls Tryz.prog 163 #[.agg #[.int .i64 c, .int .i64 y]] w fun e w' => e = .returned (.int .i64 (lineD c (y - 1) 12 25)) ∧ Below w.heap.size w w' := by
  obtain ⟨W0, hW0⟩ : ∃ W0, W0 = w.alloc (.cells #[.int .i64 c, .int .i64 y] 196) := ⟨_, rfl⟩
  have HW0 := hideP hW0
  have KT : ∀ x : Later W0, Tab x.w := fun x => hT.later (below_of_alloc hW0 x.below)
  clear hW0 hT
  have KA : Calls Tryz.prog 180 #[.agg #[.int .i64 c, .int .i64 y]] W0 fun e w' => e = .returned (.agg #[.int .i64 c, .int .i64 (y - 1)]) ∧ Below W0.heap.size W0 w' := implAhead c y W0 hy1 hy2
  have KL : ∀ x : Later W0, Calls Tryz.prog 179 #[.agg #[.int .i64 c, .int .i64 (y - 1)], .int .i64 12, .int .i64 25] x.w fun e w' => e = .returned (.int .i64 (lineD c (y - 1) 12 25)) ∧ Below x.w.heap.size x.w w' := fun x => implDayOn c (y - 1) 12 25 x.w (KT x) hc (by omega) (by omega) (by omega) (by omega) (by omega) (by omega)
  clear hc KT
  generalize lineD c (y - 1) 12 25 = R at *
  go_enter Tryz.func163, Tryz.ntmps163
  go_wp2_with fail
  rw [← HW0.out]
  refine KA.mono ?_
  rintro e w1 ⟨rfl, hb⟩
  obtain ⟨x1, rfl⟩ := Later.of hb
  clear hb
  go_wp2_with fail
  refine (KL x1).mono ?_
  rintro e w2 ⟨rfl, hb⟩
  go_wp2
  go_ret
  exact ⟨rfl, below_of_alloc HW0.out (x1.on hb)⟩
theorem impl_easter (c y : Int) (w : World) (hT : Tab w) (hc : c = 0 ∨ c = 1) (hy1 : 1 ≤ y) (hy2 : y ≤ 4000) : Calls Tryz.prog 161 #[.agg #[.int .i64 c, .int .i64 y]] w fun e w' => e = .returned (.int .i64 (easL c y)) ∧ Below w.heap.size w w' := by
  obtain ⟨W0, hW0⟩ : ∃ W0, W0 = w.alloc (.cells #[.int .i64 c, .int .i64 y] 196) := ⟨_, rfl⟩
  have HW0 := hideP hW0
  have KT : ∀ x : Later W0, Tab x.w := fun x => hT.later (below_of_alloc hW0 x.below)
  clear hW0 hT
  have KL : Calls Tryz.prog 181 #[.int .i64 c, .int .i64 y] W0 fun e w' => e = .returned (.int .i64 (easL c y)) ∧ Below W0.heap.size W0 w' := implLineEaster c y W0 (KT ⟨W0, Below.refl _ _⟩) hc hy1 hy2
  clear hc KT
  generalize easL c y = R at *
  go_enter Tryz.func161, Tryz.ntmps161
  go_wp2_with fail
  rw [← HW0.out]
  refine KL.mono ?_
  rintro e w1 ⟨rfl, hb⟩
  go_wp2
  go_ret
  exact ⟨rfl, below_of_alloc HW0.out hb⟩
end Go.Proofs.YtdgolaaheakfoaaGreatDoor.ctr
