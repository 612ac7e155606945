/- The law of Concord holds: at every two regimes and every two days the program answers as the model, whatever order of evaluation Go leaves open; it writes into neither regime, and its answer owns its memory. -/
import Derived.Test.YtdgolaaheakfoaaGreatDoorCards
import Derived.Test.YtdgolaaheakfoaaGreatDoorTie
import Derived.Test.YtdgolaaheakfoaaGreatDoorJnRaj
import Derived.Test.YtdgolaaheakfoaaGreatDoorJnRbm
import Derived.Test.YtdgolaaheakfoaaGreatDoorJnRbn
import Derived.Test.YtdgolaaheakfoaaGreatDoorJnRbl
import Derived.Test.YtdgolaaheakfoaaGreatDoorJnRak
import Derived.Test.YtdgolaaheakfoaaGreatDoorRgmOpenR
import Derived.WalkKit
import Derived.ProofKit
import Derived.OpenShut
import Derived.ShutString
import Derived.ChangeOld
import Derived.Below
import Derived.Deep.DeepHandedRow
import Derived.Lib.LaidTab
import Derived.Lib.SmallJoins
import Derived.Deep.CutRange
import Derived.LaidHandle
import Derived.LaidLaws
namespace Go.Proofs.YtdgolaaheakfoaaGreatDoor.fnExactConcord
open Go.ChangeShapes Go.WideShapes Go.ChangeAt Go.RowKit
open Go.ChangeMaps (open_string shut_string)
set_option linter.unusedVariables false
theorem own : ownKnob Tryz.prog.godebug = none := by kernel_rfl
theorem laidOut : laidOutB Tryz.prog = true := by kernel_rfl
theorem tab0 {W : World} (h : laidMetH Tryz.prog Rows.fnExactConcordRow.laid W) : ctr.ErrT W := by
  have h0 : laidMet Tryz.prog [("loop.example/g00638/impl.errNoTable", Rows.laid_loop_example_g00638_impl_errNoTable), ("loop.example/g00638/impl.monthLengths", Rows.laid_loop_example_g00638_impl_monthLengths)] W ∧ handlesMet Tryz.prog [("errors.errorType", Rows.laid_errors_errorType)] W := h
  exact kit.err_of h0.2
theorem g1 : Tryz.prog.globalNamed "loop.example/g00638/impl.errNoTable" = some 0 := by kernel_rfl
theorem gt1 : (Tryz.prog.globals[0]?).map (·.type) = some 181 := by kernel_rfl
theorem tab1 {W : World} (h : laidMetH Tryz.prog Rows.fnExactConcordRow.laid W) : ∃ a, ctr.Sent W a := by
  have h0 : laidMet Tryz.prog [("loop.example/g00638/impl.errNoTable", Rows.laid_loop_example_g00638_impl_errNoTable), ("loop.example/g00638/impl.monthLengths", Rows.laid_loop_example_g00638_impl_monthLengths)] W := h.1
  exact kit.sent_of h0
theorem g2 : Tryz.prog.globalNamed "loop.example/g00638/impl.monthLengths" = some 1 := by kernel_rfl
theorem gt2 : (Tryz.prog.globals[1]?).map (·.type) = some 192 := by kernel_rfl
theorem ce2 : Tryz.prog.cellsOf 3 = 1 := by kernel_rfl
theorem ct2 : Tryz.prog.cellsOf 192 = 12 := by kernel_rfl
theorem tab2 {W : World} (h : laidMetH Tryz.prog Rows.fnExactConcordRow.laid W) : Lib.TabIs Tryz.prog W "loop.example/g00638/impl.monthLengths" .i64 [31, 28, 31, 30, 31, 30, 31, 31, 30, 31, 30, 31] := by
  have h0 : laidMet Tryz.prog [("loop.example/g00638/impl.errNoTable", Rows.laid_loop_example_g00638_impl_errNoTable), ("loop.example/g00638/impl.monthLengths", Rows.laid_loop_example_g00638_impl_monthLengths)] W := h.1
  have h1 := laidMet.tail h0
  exact Lib.tabIs_of_head (rest := []) g2 gt2 Tryz.underlying192 Tryz.underlying3 ce2 ct2 h1
set_option maxHeartbeats 8000000 in
theorem walk (va : Value) (a : ctr.Rgm) (vb : Value) (b : ctr.Rgm) (f : Int) (_wf : (Lit.int .i64 f).wf = true) (t : Int) (_wt : (Lit.int .i64 t).wf = true) (w : World) (ha : ctr.GIn w va a) (wa1 : (Lit.int .i64 a.fr).wf = true) (wa2 : (Lit.int .i64 a.to).wf = true) (hb : ctr.GIn w vb b) (wb1 : (Lit.int .i64 b.fr).wf = true) (wb2 : (Lit.int .i64 b.to).wf = true) (t0 : ctr.ErrT w) (t2 : ∃ q, ctr.Sent w q) (t1 : ctr.Tab w) :
    Calls Tryz.prog 6 #[va, vb, .int .i64 f, .int .i64 t] w fun e w' => e = .returned (.bool true) ∧ Below w.heap.size w w' := by
  obtain ⟨q, t3⟩ := t2
  have HA := ctr.hideP ha
  have HB := ctr.hideP hb
  obtain ⟨a11, n11, c11, a12, n12, c12, a13, n13, c13, ea, _⟩ := ha
  obtain ⟨a21, n21, c21, a22, n22, c22, a23, n23, c23, eb, _⟩ := hb
  obtain ⟨W0, hW0⟩ : ∃ W0, W0 = (w.alloc (.cells #[.string a.name, .int .i64 a.fr, .int .i64 a.to, .slice a11 n11 c11, .slice a12 n12 c12, .slice a13 n13 c13, .int .i64 a.rule] 26)).alloc (.cells #[.string b.name, .int .i64 b.fr, .int .i64 b.to, .slice a21 n21 c21, .slice a22 n22 c22, .slice a23 n23 c23, .int .i64 b.rule] 26) := ⟨_, rfl⟩
  have hX1 : ctr.Blk W0 w.heap.size #[.string a.name, .int .i64 a.fr, .int .i64 a.to, .slice a11 n11 c11, .slice a12 n12 c12, .slice a13 n13 c13, .int .i64 a.rule] 26 := by rw [hW0]; exact (ctr.Blk.new w _ _).alloc _
  have hX2 : ctr.Blk W0 (w.heap.size + 1) #[.string b.name, .int .i64 b.fr, .int .i64 b.to, .slice a21 n21 c21, .slice a22 n22 c22, .slice a23 n23 c23, .int .i64 b.rule] 26 := by rw [hW0]; have := ctr.Blk.new (w.alloc (.cells #[.string a.name, .int .i64 a.fr, .int .i64 a.to, .slice a11 n11 c11, .slice a12 n12 c12, .slice a13 n13 c13, .int .i64 a.rule] 26)) #[.string b.name, .int .i64 b.fr, .int .i64 b.to, .slice a21 n21 c21, .slice a22 n22 c22, .slice a23 n23 c23, .int .i64 b.rule] 26; rw [World.size_alloc] at this; exact this
  have hW : Below w.heap.size w W0 := by rw [hW0]; exact ((Below.refl _ _).alloc (Nat.le_refl _) _).alloc (by rw [World.size_alloc]; omega) _
  have HX1 := ctr.hideP hX1
  have HX2 := ctr.hideP hX2
  have HW0 := ctr.hideP hW0
  have HW := ctr.hideP hW
  clear hX1 hX2 hW0 hW
  have KZA : Hid (∀ z W, Below W0.heap.size W0 W → 0 ≤ z → z ≤ 1048576 → Calls Tryz.prog 7 #[va, .int .i64 z] W fun e w' => ∃ y : Int, e = .returned (.int .i64 y) ∧ (y = -1 ∨ (0 ≤ y ∧ y ≤ 1048576 ∧ ctr.GOk a)) ∧ Below W.heap.size W w') := fun z W h z1 z2 => ctr.szRegime va a z W (HA.out.below (HW.out.trans (h.mono HW.out.size))) z1 z2
  have KZB : Hid (∀ z W, Below W0.heap.size W0 W → 0 ≤ z → z ≤ 1048576 → Calls Tryz.prog 7 #[vb, .int .i64 z] W fun e w' => ∃ y : Int, e = .returned (.int .i64 y) ∧ (y = -1 ∨ (0 ≤ y ∧ y ≤ 1048576 ∧ ctr.GOk b)) ∧ Below W.heap.size W w') := fun z W h z1 z2 => ctr.szRegime vb b z W (HB.out.below (HW.out.trans (h.mono HW.out.size))) z1 z2
  have KTA : Hid (ctr.GOk a → ∀ v W, v = va → Below W0.heap.size W0 W → Calls Tryz.prog 10 #[v] W fun e w' => ∃ o, e = .returned o ∧ ctr.GNew W w' o a ∧ Below W.heap.size W w') := fun ho v W e h => by rw [e]; exact ctr.toRegime va a W (HA.out.below (HW.out.trans (h.mono HW.out.size))) ho
  have KTB : Hid (ctr.GOk b → ∀ v W, v = vb → Below W0.heap.size W0 W → Calls Tryz.prog 10 #[v] W fun e w' => ∃ o, e = .returned o ∧ ctr.GNew W w' o b ∧ Below W.heap.size W w') := fun ho v W e h => by rw [e]; exact ctr.toRegime vb b W (HB.out.below (HW.out.trans (h.mono HW.out.size))) ho
  have KEA : Hid (∀ v1 v2 W, ctr.GRow W v1 a → ctr.GRow W v2 a → Calls Tryz.prog 13 #[v1, v2] W fun e w' => e = .returned (.bool true) ∧ Below W.heap.size W w') := fun v1 v2 W g1 g2 => ctr.eqRegime v1 v2 a W g1 g2
  have KEB : Hid (∀ v1 v2 W, ctr.GRow W v1 b → ctr.GRow W v2 b → Calls Tryz.prog 13 #[v1, v2] W fun e w' => e = .returned (.bool true) ∧ Below W.heap.size W w') := fun v1 v2 W g1 g2 => ctr.eqRegime v1 v2 b W g1 g2
  have KS : Hid (∀ v1 v2 W, ctr.GRow W v1 a → ctr.GRow W v2 b → Calls Tryz.prog 25 #[v1, v2, .int .i64 f, .int .i64 t] W fun e w' => ∃ o, e = .returned o ∧ ctr.QMov W w' o (ctr.runsL a b f t) ∧ Below W.heap.size W w') := fun v1 v2 W g1 g2 => ctr.specConcord v1 v2 a b f t W g1 g2 (kit.wf_bounds wa1).1 (kit.wf_bounds wa2).2 (kit.wf_bounds wb1).1 (kit.wf_bounds wb2).2
  have KI : Hid (∀ v1 v2 W, Below w.heap.size w W → ctr.GRow W v1 a → ctr.GRow W v2 b → Calls Tryz.prog 26 #[v1, v2, .int .i64 f, .int .i64 t] W fun e w' => ∃ o, e = .returned o ∧ ctr.QMov W w' o (ctr.runsL a b f t) ∧ Below W.heap.size W w') := fun v1 v2 W hw g1 g2 => ctr.implConcord v1 v2 a b f t q W g1 g2 (kit.wf_bounds wa2).2 (kit.wf_bounds wb2).2 (t0.below hw) (t1.later hw) (t3.later hw)
  have hcl : (ctr.runsL a b f t).length ≤ 1000 := ctr.runs_len a b f t
  have KQ : Hid (∀ v1 v2 W, ctr.QRow W v1 (ctr.runsL a b f t) → ctr.QRow W v2 (ctr.runsL a b f t) → Calls Tryz.prog 27 #[v1, v2] W fun e w' => e = .returned (.bool true) ∧ Below W.heap.size W w') := fun v1 v2 W g1 g2 => ctr.eqRunS v1 v2 _ W (by omega) g1 g2
  have KM : Hid (∀ V W o, ctr.QMov V W o (ctr.runsL a b f t) → Below V.heap.size V W → Calls Tryz.prog 28 #[o, .int .i64 1] W fun e w' => e = .returned (.int .i64 (((ctr.runsL a b f t).length : Int) * 4 + 1)) ∧ Below V.heap.size V w' ∧ ctr.QMark w' o (ctr.runsL a b f t).length) := fun V W o g hb => ctr.markRunRow V W o _ (by omega) g hb
  have KH : Hid (∀ o W, ctr.QMark W o (ctr.runsL a b f t).length → Calls Tryz.prog 29 #[o, .int .i64 1] W fun e w' => e = .returned (.int .i64 (((ctr.runsL a b f t).length : Int) * 4 + 1)) ∧ Below W.heap.size W w') := fun o W g => (ctr.heldRuns o _ W (by omega) g).mono fun _ _ k => ⟨k.1, by rw [k.2]; exact Below.refl _ _⟩
  have hm0 : 0 ≤ (((ctr.runsL a b f t).length : Int) * 4 + 1) := by omega
  generalize (ctr.runsL a b f t).length = mks at *
  generalize (mks : Int) * 4 + 1 = mz at *
  generalize ctr.runsL a b f t = ch at *
  have hmd : decide (mz < 0) = false := decide_eq_false (by omega)
  clear wa1 wa2 wb1 wb2 t0 t1 t3
  subst ea eb
  clear HA HB
  have d0 : ∀ x : ctr.Later W0, x.w.cell? ⟨w.heap.size, 0, none⟩ = some (.string a.name) := fun x => (HX1.out.later x).cell 0 rfl
  have d1 : ∀ x : ctr.Later W0, x.w.cell? ⟨w.heap.size, 1, none⟩ = some (.int .i64 a.fr) := fun x => (HX1.out.later x).cell 1 rfl
  have d2 : ∀ x : ctr.Later W0, x.w.cell? ⟨w.heap.size, 2, none⟩ = some (.int .i64 a.to) := fun x => (HX1.out.later x).cell 2 rfl
  have d3 : ∀ x : ctr.Later W0, x.w.cell? ⟨w.heap.size, 3, none⟩ = some (.slice a11 n11 c11) := fun x => (HX1.out.later x).cell 3 rfl
  have d4 : ∀ x : ctr.Later W0, x.w.cell? ⟨w.heap.size, 4, none⟩ = some (.slice a12 n12 c12) := fun x => (HX1.out.later x).cell 4 rfl
  have d5 : ∀ x : ctr.Later W0, x.w.cell? ⟨w.heap.size, 5, none⟩ = some (.slice a13 n13 c13) := fun x => (HX1.out.later x).cell 5 rfl
  have d6 : ∀ x : ctr.Later W0, x.w.cell? ⟨w.heap.size, 6, none⟩ = some (.int .i64 a.rule) := fun x => (HX1.out.later x).cell 6 rfl
  have f0 : ∀ x : ctr.Later W0, x.w.cell? ⟨w.heap.size + 1, 0, none⟩ = some (.string b.name) := fun x => (HX2.out.later x).cell 0 rfl
  have f1 : ∀ x : ctr.Later W0, x.w.cell? ⟨w.heap.size + 1, 1, none⟩ = some (.int .i64 b.fr) := fun x => (HX2.out.later x).cell 1 rfl
  have f2 : ∀ x : ctr.Later W0, x.w.cell? ⟨w.heap.size + 1, 2, none⟩ = some (.int .i64 b.to) := fun x => (HX2.out.later x).cell 2 rfl
  have f3 : ∀ x : ctr.Later W0, x.w.cell? ⟨w.heap.size + 1, 3, none⟩ = some (.slice a21 n21 c21) := fun x => (HX2.out.later x).cell 3 rfl
  have f4 : ∀ x : ctr.Later W0, x.w.cell? ⟨w.heap.size + 1, 4, none⟩ = some (.slice a22 n22 c22) := fun x => (HX2.out.later x).cell 4 rfl
  have f5 : ∀ x : ctr.Later W0, x.w.cell? ⟨w.heap.size + 1, 5, none⟩ = some (.slice a23 n23 c23) := fun x => (HX2.out.later x).cell 5 rfl
  have f6 : ∀ x : ctr.Later W0, x.w.cell? ⟨w.heap.size + 1, 6, none⟩ = some (.int .i64 b.rule) := fun x => (HX2.out.later x).cell 6 rfl
  go_enter Tryz.func6, Tryz.ntmps6
  go_wp2_with fail
  rw [← HW0.out]
  refine (KZA.out 1048576 _ (Below.refl _ _) (by omega) (by omega)).mono ?_
  rintro e w1 ⟨z, rfl, hz, hb⟩
  obtain ⟨x1, rfl⟩ := ctr.Later.of hb
  have HZ := ctr.hideP hz
  clear hb hz
  rcases HZ.out with rfl | ⟨z1, z2, ho⟩
  · go_wp2_with fail
    go_ret
    exact ⟨rfl, HW.out.trans (x1.below.mono HW.out.size)⟩
  have OA := ctr.hideP ho
  clear ho
  go_wp2_with fail
  refine (KZB.out z _ x1.below z1 z2).mono ?_
  rintro e w2 ⟨z', rfl, hz, hb⟩
  obtain ⟨x2, rfl⟩ := x1.next hb
  have HZ' := ctr.hideP hz
  clear hb hz
  rcases HZ'.out with rfl | ⟨z1', z2', ho⟩
  · go_wp2_with fail
    go_ret
    exact ⟨rfl, HW.out.trans (x2.below.mono HW.out.size)⟩
  have OB := ctr.hideP ho
  have hx2 : Below W0.heap.size W0 x2.w.drew := x2.below.drew
  clear ho KZA KZB
  go_upto_region 8 with fail
  go_cut [10] from 28 to 34 (fun s10 wx => ∃ ad cap, s10 = .slice ad ch.length cap ∧ ctr.QRow wx (.slice ad ch.length cap) ch ∧ Below W0.heap.size W0 wx)
  case first =>
    go_region_with (first | (go_at_call 10; refine (KTA.out OA.out _ _ (by rfl) (by first | exact hx2 | exact hBb)).mono ?_; rintro e wa ⟨oa, rfl, hna, hba⟩; have RA : Hid (∀ y, Below wa.heap.size wa y → ctr.GRow y oa a) := fun y h => (hna.row OA.out).below h; have hBa : Below W0.heap.size W0 wa := (by first | exact hx2.trans (hba.mono hx2.size) | exact hBb.trans (hba.mono hBb.size)); obtain ⟨p1, p2, p3, rfl, _⟩ := hna; have dA : ∀ i v, (#[.string a.name, .int .i64 a.fr, .int .i64 a.to, .slice a11 n11 c11, .slice a12 n12 c12, .slice a13 n13 c13, .int .i64 a.rule] : Array Value)[i]? = some v → wa.cell? ⟨w.heap.size, i, none⟩ = some v := fun i v h => (HX1.out.later ⟨wa, hBa⟩).cell i h; have g0 := dA 0 _ rfl; have g1 := dA 1 _ rfl; have g2 := dA 2 _ rfl; have g3 := dA 3 _ rfl; have g4 := dA 4 _ rfl; have g5 := dA 5 _ rfl; have g6 := dA 6 _ rfl; have dB : ∀ i v, (#[.string b.name, .int .i64 b.fr, .int .i64 b.to, .slice a21 n21 c21, .slice a22 n22 c22, .slice a23 n23 c23, .int .i64 b.rule] : Array Value)[i]? = some v → wa.cell? ⟨w.heap.size + 1, i, none⟩ = some v := fun i v h => (HX2.out.later ⟨wa, hBa⟩).cell i h; have k0 := dB 0 _ rfl; have k1 := dB 1 _ rfl; have k2 := dB 2 _ rfl; have k3 := dB 3 _ rfl; have k4 := dB 4 _ rfl; have k5 := dB 5 _ rfl; have k6 := dB 6 _ rfl; clear dA dB) | (go_at_call 10; refine (KTB.out OB.out _ _ (by rfl) (by first | exact hx2 | exact hBa)).mono ?_; rintro e wb ⟨ob, rfl, hnb, hbb⟩; have RB : Hid (∀ y, Below wb.heap.size wb y → ctr.GRow y ob b) := fun y h => (hnb.row OB.out).below h; have hBb : Below W0.heap.size W0 wb := (by first | exact hx2.trans (hbb.mono hx2.size) | exact hBa.trans (hbb.mono hBa.size)); obtain ⟨q1, q2, q3, rfl, _⟩ := hnb; have dA : ∀ i v, (#[.string a.name, .int .i64 a.fr, .int .i64 a.to, .slice a11 n11 c11, .slice a12 n12 c12, .slice a13 n13 c13, .int .i64 a.rule] : Array Value)[i]? = some v → wb.cell? ⟨w.heap.size, i, none⟩ = some v := fun i v h => (HX1.out.later ⟨wb, hBb⟩).cell i h; have g0 := dA 0 _ rfl; have g1 := dA 1 _ rfl; have g2 := dA 2 _ rfl; have g3 := dA 3 _ rfl; have g4 := dA 4 _ rfl; have g5 := dA 5 _ rfl; have g6 := dA 6 _ rfl; have dB : ∀ i v, (#[.string b.name, .int .i64 b.fr, .int .i64 b.to, .slice a21 n21 c21, .slice a22 n22 c22, .slice a23 n23 c23, .int .i64 b.rule] : Array Value)[i]? = some v → wb.cell? ⟨w.heap.size + 1, i, none⟩ = some v := fun i v h => (HX2.out.later ⟨wb, hBb⟩).cell i h; have k0 := dB 0 _ rfl; have k1 := dB 1 _ rfl; have k2 := dB 2 _ rfl; have k3 := dB 3 _ rfl; have k4 := dB 4 _ rfl; have k5 := dB 5 _ rfl; have k6 := dB 6 _ rfl; clear dA dB) | (go_at_call 25; refine (KS.out _ _ _ (by first | exact RA.out _ (Below.refl _ _) | exact RA.out _ hbb) (by first | exact RB.out _ (Below.refl _ _) | exact RB.out _ hba)).mono ?_; rintro e w5 ⟨o5, rfl, m5, h5⟩; have M5 := ctr.hideP m5.row; obtain ⟨ad5, cap5, rfl, _⟩ := m5; have hB5 : Hid (Below W0.heap.size W0 w5) := (by first | exact hBb.trans (h5.mono hBb.size) | exact hBa.trans (h5.mono hBa.size)); clear h5))
    all_goals (go_wp2_with fail; go_meet; exact ⟨_, _, rfl, M5.out, hB5.out⟩)
  case rest =>
    obtain ⟨ad4, cap4, rfl, hm5, hb5⟩ := hcut
    obtain ⟨x5, rfl⟩ : ∃ x5 : ctr.Later W0, wc = x5.w := ⟨⟨wc, hb5⟩, rfl⟩
    have J5 : Hid (∀ W, Below x5.w.heap.size x5.w W → ctr.QRow W (.slice ad4 ch.length cap4) ch) := fun W h => hm5.below h
    clear hb5 hx2 hm5
    go_wp2_with fail
    refine (KTA.out OA.out _ _ rfl x5.below).mono ?_
    rintro e w6 ⟨o1, rfl, hn, hb⟩
    have RA := ctr.hideP (hn.row OA.out)
    obtain ⟨p1, p2, p3, rfl, ⟨s1, s2, rfl, ga1, ka1⟩, ⟨s3, s4, rfl, ga3, ka3⟩, ⟨s5, s6, rfl, ga5, ka5⟩⟩ := hn
    have A1 := ctr.hideP ka1
    have A3 := ctr.hideP ka3
    have A5 := ctr.hideP ka5
    have GA : Hid (∀ k, k = s1 ∨ k = s3 ∨ k = s5 → x5.w.heap.size ≤ k ∧ k < w6.heap.size) := fun k h => by
      rcases h with rfl | rfl | rfl
      · exact ⟨ga1, ka1.lt⟩
      · exact ⟨ga3, ka3.lt⟩
      · exact ⟨ga5, ka5.lt⟩
    have X56 := ctr.hideP hb
    clear ga1 ga3 ga5 ka1 ka3 ka5
    obtain ⟨x6, rfl⟩ := x5.next hb
    clear hb
    obtain ⟨W7, hW7, u0, u1, u2, u3, u4, u5, u6, hBl7⟩ := ctr.seven_box x6.w (.string a.name) (.int .i64 a.fr) (.int .i64 a.to) (.slice (some ⟨s1, 0, none⟩) a.segs.length a.segs.length) (.slice (some ⟨s3, 0, none⟩) a.pats.length a.pats.length) (.slice (some ⟨s5, 0, none⟩) a.rgns.length a.rgns.length) (.int .i64 a.rule) 40
    have HU : Hid (ctr.Blk W7 x6.w.heap.size #[.string a.name, .int .i64 a.fr, .int .i64 a.to, .slice (some ⟨s1, 0, none⟩) a.segs.length a.segs.length, .slice (some ⟨s3, 0, none⟩) a.pats.length a.pats.length, .slice (some ⟨s5, 0, none⟩) a.rgns.length a.rgns.length, .int .i64 a.rule] 40) := by unfold Hid; rw [hW7]; exact ctr.Blk.new _ _ _
    have B7 : Hid (Below W0.heap.size W0 W7) := x6.on (hBl7 ⟨W7, Below.refl _ _⟩)
    have RA7 : Hid (∀ y, Below W7.heap.size W7 y → ctr.GRow y (.agg #[.string a.name, .int .i64 a.fr, .int .i64 a.to, .slice (some ⟨s1, 0, none⟩) a.segs.length a.segs.length, .slice (some ⟨s3, 0, none⟩) a.pats.length a.pats.length, .slice (some ⟨s5, 0, none⟩) a.rgns.length a.rgns.length, .int .i64 a.rule]) a) := fun y h => RA.out.below (hBl7 ⟨y, h⟩)
    have X67 : Hid (Below x6.w.heap.size x6.w W7) := hBl7 ⟨W7, Below.refl _ _⟩
    have HW7 := ctr.hideP hW7
    clear hW7 hBl7 RA u0 u1 u2 u3 u4 u5 u6
    have f0' := (HX2.out.later ⟨W7, B7.out⟩).cell 0 rfl
    have f1' := (HX2.out.later ⟨W7, B7.out⟩).cell 1 rfl
    have f2' := (HX2.out.later ⟨W7, B7.out⟩).cell 2 rfl
    have f3' := (HX2.out.later ⟨W7, B7.out⟩).cell 3 rfl
    have f4' := (HX2.out.later ⟨W7, B7.out⟩).cell 4 rfl
    have f5' := (HX2.out.later ⟨W7, B7.out⟩).cell 5 rfl
    have f6' := (HX2.out.later ⟨W7, B7.out⟩).cell 6 rfl
    dsimp only at f0' f1' f2' f3' f4' f5' f6'
    rw [HW7.out] at f0' f1' f2' f3' f4' f5' f6'
    go_wp2_with fail
    rw [← HW7.out]
    refine (KTB.out OB.out _ _ rfl B7.out).mono ?_
    rintro e w8 ⟨o2, rfl, hn, hb⟩
    have RB := ctr.hideP (hn.row OB.out)
    obtain ⟨q1, q2, q3, rfl, ⟨t1, t2, rfl, gb1, kb1⟩, ⟨t3, t4, rfl, gb3, kb3⟩, ⟨t5, t6, rfl, gb5, kb5⟩⟩ := hn
    have B1 := ctr.hideP kb1
    have B3 := ctr.hideP kb3
    have B5 := ctr.hideP kb5
    have GB : Hid (∀ k, k = t1 ∨ k = t3 ∨ k = t5 → W7.heap.size ≤ k ∧ k < w8.heap.size) := fun k h => by
      rcases h with rfl | rfl | rfl
      · exact ⟨gb1, kb1.lt⟩
      · exact ⟨gb3, kb3.lt⟩
      · exact ⟨gb5, kb5.lt⟩
    have X78 := ctr.hideP hb
    clear gb1 gb3 gb5 kb1 kb3 kb5
    obtain ⟨x8, rfl⟩ : ∃ x8 : ctr.Later W7, w8 = x8.w := ⟨⟨w8, hb⟩, rfl⟩
    clear hb f0' f1' f2' f3' f4' f5' f6'
    obtain ⟨W9, hW9, v0, v1, v2, v3, v4, v5, v6, hBl9⟩ := ctr.seven_box x8.w (.string b.name) (.int .i64 b.fr) (.int .i64 b.to) (.slice (some ⟨t1, 0, none⟩) b.segs.length b.segs.length) (.slice (some ⟨t3, 0, none⟩) b.pats.length b.pats.length) (.slice (some ⟨t5, 0, none⟩) b.rgns.length b.rgns.length) (.int .i64 b.rule) 40
    have B79 : Hid (Below W7.heap.size W7 W9) := x8.on (hBl9 ⟨W9, Below.refl _ _⟩)
    have B9 : Hid (Below W0.heap.size W0 W9) := B7.out.trans (B79.out.mono B7.out.size)
    have RA9 : Hid (∀ y, Below W9.heap.size W9 y → ctr.GRow y (.agg #[.string a.name, .int .i64 a.fr, .int .i64 a.to, .slice (some ⟨s1, 0, none⟩) a.segs.length a.segs.length, .slice (some ⟨s3, 0, none⟩) a.pats.length a.pats.length, .slice (some ⟨s5, 0, none⟩) a.rgns.length a.rgns.length, .int .i64 a.rule]) a) := fun y h => RA7.out y (B79.out.trans (h.mono B79.out.size))
    have RB9 : Hid (∀ y, Below W9.heap.size W9 y → ctr.GRow y (.agg #[.string b.name, .int .i64 b.fr, .int .i64 b.to, .slice (some ⟨t1, 0, none⟩) b.segs.length b.segs.length, .slice (some ⟨t3, 0, none⟩) b.pats.length b.pats.length, .slice (some ⟨t5, 0, none⟩) b.rgns.length b.rgns.length, .int .i64 b.rule]) b) := fun y h => RB.out.below (hBl9 ⟨y, h⟩)
    have X89 : Hid (Below x8.w.heap.size x8.w W9) := hBl9 ⟨W9, Below.refl _ _⟩
    have HV : Hid (ctr.Blk W9 x8.w.heap.size #[.string b.name, .int .i64 b.fr, .int .i64 b.to, .slice (some ⟨t1, 0, none⟩) b.segs.length b.segs.length, .slice (some ⟨t3, 0, none⟩) b.pats.length b.pats.length, .slice (some ⟨t5, 0, none⟩) b.rgns.length b.rgns.length, .int .i64 b.rule] 40) := by rw [hW9]; exact ctr.Blk.new _ _ _
    have HW9 := ctr.hideP hW9
    clear d0 d1 d2 d3 d4 d5 d6 f0 f1 f2 f3 f4 f5 f6
    have u0 : ∀ x : ctr.Later W9, x.w.cell? ⟨x6.w.heap.size, 0, none⟩ = some (.string a.name) := fun x => (HU.out.below (B79.out.trans (x.below.mono B79.out.size)) HU.out.lt).cell 0 rfl
    have u1 : ∀ x : ctr.Later W9, x.w.cell? ⟨x6.w.heap.size, 1, none⟩ = some (.int .i64 a.fr) := fun x => (HU.out.below (B79.out.trans (x.below.mono B79.out.size)) HU.out.lt).cell 1 rfl
    have u2 : ∀ x : ctr.Later W9, x.w.cell? ⟨x6.w.heap.size, 2, none⟩ = some (.int .i64 a.to) := fun x => (HU.out.below (B79.out.trans (x.below.mono B79.out.size)) HU.out.lt).cell 2 rfl
    have u3 : ∀ x : ctr.Later W9, x.w.cell? ⟨x6.w.heap.size, 3, none⟩ = some (.slice (some ⟨s1, 0, none⟩) a.segs.length a.segs.length) := fun x => (HU.out.below (B79.out.trans (x.below.mono B79.out.size)) HU.out.lt).cell 3 rfl
    have u4 : ∀ x : ctr.Later W9, x.w.cell? ⟨x6.w.heap.size, 4, none⟩ = some (.slice (some ⟨s3, 0, none⟩) a.pats.length a.pats.length) := fun x => (HU.out.below (B79.out.trans (x.below.mono B79.out.size)) HU.out.lt).cell 4 rfl
    have u5 : ∀ x : ctr.Later W9, x.w.cell? ⟨x6.w.heap.size, 5, none⟩ = some (.slice (some ⟨s5, 0, none⟩) a.rgns.length a.rgns.length) := fun x => (HU.out.below (B79.out.trans (x.below.mono B79.out.size)) HU.out.lt).cell 5 rfl
    have u6 : ∀ x : ctr.Later W9, x.w.cell? ⟨x6.w.heap.size, 6, none⟩ = some (.int .i64 a.rule) := fun x => (HU.out.below (B79.out.trans (x.below.mono B79.out.size)) HU.out.lt).cell 6 rfl
    have d0 : ∀ x : ctr.Later W9, x.w.cell? ⟨w.heap.size, 0, none⟩ = some (.string a.name) := fun x => (HX1.out.later ⟨x.w, B9.out.trans (x.below.mono B9.out.size)⟩).cell 0 rfl
    have d1 : ∀ x : ctr.Later W9, x.w.cell? ⟨w.heap.size, 1, none⟩ = some (.int .i64 a.fr) := fun x => (HX1.out.later ⟨x.w, B9.out.trans (x.below.mono B9.out.size)⟩).cell 1 rfl
    have d2 : ∀ x : ctr.Later W9, x.w.cell? ⟨w.heap.size, 2, none⟩ = some (.int .i64 a.to) := fun x => (HX1.out.later ⟨x.w, B9.out.trans (x.below.mono B9.out.size)⟩).cell 2 rfl
    have d3 : ∀ x : ctr.Later W9, x.w.cell? ⟨w.heap.size, 3, none⟩ = some (.slice a11 n11 c11) := fun x => (HX1.out.later ⟨x.w, B9.out.trans (x.below.mono B9.out.size)⟩).cell 3 rfl
    have d4 : ∀ x : ctr.Later W9, x.w.cell? ⟨w.heap.size, 4, none⟩ = some (.slice a12 n12 c12) := fun x => (HX1.out.later ⟨x.w, B9.out.trans (x.below.mono B9.out.size)⟩).cell 4 rfl
    have d5 : ∀ x : ctr.Later W9, x.w.cell? ⟨w.heap.size, 5, none⟩ = some (.slice a13 n13 c13) := fun x => (HX1.out.later ⟨x.w, B9.out.trans (x.below.mono B9.out.size)⟩).cell 5 rfl
    have d6 : ∀ x : ctr.Later W9, x.w.cell? ⟨w.heap.size, 6, none⟩ = some (.int .i64 a.rule) := fun x => (HX1.out.later ⟨x.w, B9.out.trans (x.below.mono B9.out.size)⟩).cell 6 rfl
    have f0 : ∀ x : ctr.Later W9, x.w.cell? ⟨w.heap.size + 1, 0, none⟩ = some (.string b.name) := fun x => (HX2.out.later ⟨x.w, B9.out.trans (x.below.mono B9.out.size)⟩).cell 0 rfl
    have f1 : ∀ x : ctr.Later W9, x.w.cell? ⟨w.heap.size + 1, 1, none⟩ = some (.int .i64 b.fr) := fun x => (HX2.out.later ⟨x.w, B9.out.trans (x.below.mono B9.out.size)⟩).cell 1 rfl
    have f2 : ∀ x : ctr.Later W9, x.w.cell? ⟨w.heap.size + 1, 2, none⟩ = some (.int .i64 b.to) := fun x => (HX2.out.later ⟨x.w, B9.out.trans (x.below.mono B9.out.size)⟩).cell 2 rfl
    have f3 : ∀ x : ctr.Later W9, x.w.cell? ⟨w.heap.size + 1, 3, none⟩ = some (.slice a21 n21 c21) := fun x => (HX2.out.later ⟨x.w, B9.out.trans (x.below.mono B9.out.size)⟩).cell 3 rfl
    have f4 : ∀ x : ctr.Later W9, x.w.cell? ⟨w.heap.size + 1, 4, none⟩ = some (.slice a22 n22 c22) := fun x => (HX2.out.later ⟨x.w, B9.out.trans (x.below.mono B9.out.size)⟩).cell 4 rfl
    have f5 : ∀ x : ctr.Later W9, x.w.cell? ⟨w.heap.size + 1, 5, none⟩ = some (.slice a23 n23 c23) := fun x => (HX2.out.later ⟨x.w, B9.out.trans (x.below.mono B9.out.size)⟩).cell 5 rfl
    have f6 : ∀ x : ctr.Later W9, x.w.cell? ⟨w.heap.size + 1, 6, none⟩ = some (.int .i64 b.rule) := fun x => (HX2.out.later ⟨x.w, B9.out.trans (x.below.mono B9.out.size)⟩).cell 6 rfl
    have u0' := u0 ⟨W9, Below.refl _ _⟩
    have u1' := u1 ⟨W9, Below.refl _ _⟩
    have u2' := u2 ⟨W9, Below.refl _ _⟩
    have u3' := u3 ⟨W9, Below.refl _ _⟩
    have u4' := u4 ⟨W9, Below.refl _ _⟩
    have u5' := u5 ⟨W9, Below.refl _ _⟩
    have u6' := u6 ⟨W9, Below.refl _ _⟩
    dsimp only at u0' u1' u2' u3' u4' u5' u6'
    rw [HW9.out] at u0' u1' u2' u3' u4' u5' u6'
    clear hW9 hBl9 RB RA7
    go_wp2_with fail
    rw [← HW9.out]
    clear u0' u1' u2' u3' u4' u5' u6'
    refine (KI.out _ _ _ (HW.out.trans (B9.out.mono HW.out.size)) (RA9.out _ (Below.refl _ _)) (RB9.out _ (Below.refl _ _))).mono ?_
    rintro e w10 ⟨o6, rfl, m6, hb⟩
    obtain ⟨x10, rfl⟩ := ctr.Later.of hb
    have M10 := ctr.hideP m6
    obtain ⟨ad6, cap6, rfl, _⟩ := m6
    have X59 : Hid (Below x5.w.heap.size x5.w W9) := X56.out.trans ((X67.out.trans (B79.out.mono X67.out.size)).mono X56.out.size)
    clear hb KS
    go_wp2_with fail
    refine (KQ.out _ _ _ M10.out.row (J5.out _ (X59.out.trans (x10.below.mono X59.out.size)))).mono ?_
    rintro e wq ⟨rfl, hb⟩
    obtain ⟨xq, rfl⟩ := x10.next hb
    have Mq := ctr.hideP (M10.out.below hb)
    clear hb M10
    go_upto_region 14 with fail
    go_cut [52] from 48 to 51 (fun s52 wx => s52 = .bool false ∧ Below xq.w.heap.size xq.w wx)
    case first =>
      have hN : Below W9.heap.size W9 xq.w.drew := xq.below.drew
      have hq : Below xq.w.heap.size xq.w xq.w.drew := (Below.refl _ _).drew
      go_region_with (first | (go_at_call 10; refine (KTA.out OA.out _ _ rfl (B9.out.trans (hN.mono B9.out.size))).mono ?_; rintro e w11 ⟨o3, rfl, hn, hb⟩; obtain ⟨x11, e11⟩ : ∃ x11 : ctr.Later W9, x11.w = w11 := ⟨⟨w11, hN.trans (hb.mono hN.size)⟩, rfl⟩; have hq11 : Hid (Below xq.w.heap.size xq.w x11.w) := (by rw [e11]; exact hq.trans (hb.mono hq.size)); subst e11; have R11 := ctr.hideP (hn.row OA.out); obtain ⟨p1, p2, p3, rfl, _⟩ := hn; clear hb) | (go_at_call 13; refine (KEA.out _ _ _ (RA9.out _ x11.below) R11.out).mono ?_; rintro e w12 ⟨rfl, hb⟩; have hq12 : Hid (Below xq.w.heap.size xq.w w12) := hq11.out.trans (hb.mono hq11.out.size); clear hb R11))
      all_goals (go_wp2_with fail; go_meet; exact ⟨rfl, hq12.out⟩)
    case rest =>
      obtain ⟨rfl, hb12⟩ := hcut
      obtain ⟨x12, rfl⟩ := xq.next hb12
      have M12 := ctr.hideP (Mq.out.below hb12)
      clear hb12 Mq
      go_upto_region 16 with fail
      go_cut [57] from 53 to 56 (fun s57 wx => s57 = .bool false ∧ Below x12.w.heap.size x12.w wx)
      case first =>
        have hN : Below W9.heap.size W9 x12.w.drew := x12.below.drew
        have hq : Below x12.w.heap.size x12.w x12.w.drew := (Below.refl _ _).drew
        go_region_with (first | (go_at_call 10; refine (KTB.out OB.out _ _ rfl (B9.out.trans (hN.mono B9.out.size))).mono ?_; rintro e w13 ⟨o4, rfl, hn, hb⟩; obtain ⟨x13, e13⟩ : ∃ x13 : ctr.Later W9, x13.w = w13 := ⟨⟨w13, hN.trans (hb.mono hN.size)⟩, rfl⟩; have hq13 : Hid (Below x12.w.heap.size x12.w x13.w) := (by rw [e13]; exact hq.trans (hb.mono hq.size)); subst e13; have R13 := ctr.hideP (hn.row OB.out); obtain ⟨q1, q2, q3, rfl, _⟩ := hn; clear hb) | (go_at_call 13; refine (KEB.out _ _ _ (RB9.out _ x13.below) R13.out).mono ?_; rintro e w14 ⟨rfl, hb⟩; have hq14 : Hid (Below x12.w.heap.size x12.w w14) := hq13.out.trans (hb.mono hq13.out.size); clear hb R13))
        all_goals (go_wp2_with fail; go_meet; exact ⟨rfl, hq14.out⟩)
      case rest =>
        obtain ⟨rfl, hb14⟩ := hcut
        obtain ⟨x14, rfl⟩ := x12.next hb14
        have M14 := ctr.hideP (M12.out.below hb14)
        have X614 : Hid (Below x6.w.heap.size x6.w x14.w) := X67.out.trans ((B79.out.trans (x14.below.mono B79.out.size)).mono X67.out.size)
        have X814 : Hid (Below x8.w.heap.size x8.w x14.w) := X89.out.trans (x14.below.mono X89.out.size)
        have X514 : Hid (Below x5.w.heap.size x5.w x14.w) := X59.out.trans (x14.below.mono X59.out.size)
        have KGA := ctr.hideP (ctr.markRegimeZ 1 (by omega) (by omega) a s1 s3 s5 s2 s4 s6 x14.w OA.out (A1.out.below X614.out A1.out.lt) (A3.out.below X614.out A3.out.lt) (A5.out.below X614.out A5.out.lt))
        clear hb14 M12 KEA KEB
        go_wp2_with fail
        refine KGA.out.mono ?_
        rintro e w15 ⟨z1, rfl, hzb, hkp⟩
        have HZB := ctr.hideP hzb
        have KP := ctr.hideP hkp
        have hS6 : x6.w.heap.size ≤ W7.heap.size := X67.out.size
        have hS7 : W7.heap.size ≤ x8.w.heap.size := X78.out.size
        have hS8 : x8.w.heap.size ≤ W9.heap.size := X89.out.size
        have hS9 : W9.heap.size ≤ x14.w.heap.size := x14.below.size
        have hv9 : x8.w.heap.size < W9.heap.size := HV.out.lt
        have NA : ∀ k, k = s1 ∨ k = s3 ∨ k = s5 → k < x6.w.heap.size := fun k h => (GA.out k h).2
        have NB : ∀ k, k = t1 ∨ k = t3 ∨ k = t5 → W7.heap.size ≤ k ∧ k < x8.w.heap.size := fun k h => GB.out k h
        have V15 : ctr.Blk w15 x8.w.heap.size #[.string b.name, .int .i64 b.fr, .int .i64 b.to, .slice (some ⟨t1, 0, none⟩) b.segs.length b.segs.length, .slice (some ⟨t3, 0, none⟩) b.pats.length b.pats.length, .slice (some ⟨t5, 0, none⟩) b.rgns.length b.rgns.length, .int .i64 b.rule] 40 := hkp.blk (HV.out.below x14.below HV.out.lt) (fun h => by have := NA _ h; omega)
        have y0 := V15.cell 0 rfl
        have y1 := V15.cell 1 rfl
        have y2 := V15.cell 2 rfl
        have y3 := V15.cell 3 rfl
        have y4 := V15.cell 4 rfl
        have y5 := V15.cell 5 rfl
        have y6 := V15.cell 6 rfl
        have KGB := ctr.hideP (ctr.markRegimeZ z1 hzb.1 (by omega) b t1 t3 t5 t2 t4 t6 w15 OB.out (hkp.blk (B1.out.below X814.out B1.out.lt) (fun h => by have := NA _ h; have := NB _ (Or.inl rfl); omega)) (hkp.blk (B3.out.below X814.out B3.out.lt) (fun h => by have := NA _ h; have := NB _ (Or.inr (Or.inl rfl)); omega)) (hkp.blk (B5.out.below X814.out B5.out.lt) (fun h => by have := NA _ h; have := NB _ (Or.inr (Or.inr rfl)); omega)))
        have hs56 : x5.w.heap.size ≤ x6.w.heap.size := X56.out.size
        have X515 : Hid (Below x5.w.heap.size x5.w w15) := hkp.below X514.out X514.out.size (fun k h => (GA.out k h).1)
        have M15 := ctr.hideP (hkp.qmov M14.out (fun k h => by have := NA k h; omega))
        clear V15 hkp hzb u0 u1 u2 u3 u4 u5 u6 v0 v1 v2 v3 v4 v5 v6 M14 KGA
        go_wp2_with fail
        refine KGB.out.mono ?_
        rintro e w16 ⟨z2, rfl, _, hkp⟩
        have hz0 : decide ((z2 : Int) < 0) = false := decide_eq_false (by omega)
        have X516 : Hid (Below x5.w.heap.size x5.w w16) := hkp.below X515.out X515.out.size (fun k h => by have := (NB k h).1; omega)
        have M16 := ctr.hideP (hkp.qmov M15.out (fun k h => by have := NB k h; omega))
        have M3 := ctr.hideP (M16.out.mono (show x5.w.heap.size ≤ W9.heap.size by omega))
        clear hkp y0 y1 y2 y3 y4 y5 y6 KGB M15 M16 d0 d1 d2 d3 d4 d5 d6 f0 f1 f2 f3 f4 f5 f6 hS6 hS7 hS8 hS9 hv9 NA NB hs56
        go_wp2_with fail
        refine (KQ.out _ _ _ M3.out.row (J5.out _ X516.out)).mono ?_
        rintro e w17 ⟨rfl, hb⟩
        have B17 : Hid (Below x5.w.heap.size x5.w w17) := X516.out.trans (hb.mono X516.out.size)
        have M17 := ctr.hideP (M3.out.below hb)
        clear hb M3 hz0
        go_wp2_with fail
        refine (KM.out _ _ _ M17.out B17.out).mono ?_
        rintro e w18 ⟨rfl, b18, i18⟩
        have B18 := ctr.hideP b18
        have I18 := ctr.hideP i18
        clear b18 i18 M17 B17 KM
        go_wp2_with fail
        refine (KH.out _ _ I18.out).mono ?_
        rintro e w19 ⟨rfl, hb⟩
        have B19 : Hid (Below x5.w.heap.size x5.w w19) := B18.out.trans (hb.mono B18.out.size)
        have I19 := ctr.hideP (I18.out.below hb)
        clear hb I18 B18
        obtain ⟨x19, rfl⟩ : ∃ x19 : ctr.Later W0, w19 = x19.w := ⟨⟨w19, x5.on B19.out⟩, rfl⟩
        have hy : Below x19.w.heap.size x19.w x19.w.drew := (Below.refl _ _).drew
        have h0 := (HX1.out.later x19).cell 0 rfl
        have h1 := (HX1.out.later x19).cell 1 rfl
        have h2 := (HX1.out.later x19).cell 2 rfl
        have h3 := (HX1.out.later x19).cell 3 rfl
        have h4 := (HX1.out.later x19).cell 4 rfl
        have h5 := (HX1.out.later x19).cell 5 rfl
        have h6 := (HX1.out.later x19).cell 6 rfl
        have l0 := (HX2.out.later x19).cell 0 rfl
        have l1 := (HX2.out.later x19).cell 1 rfl
        have l2 := (HX2.out.later x19).cell 2 rfl
        have l3 := (HX2.out.later x19).cell 3 rfl
        have l4 := (HX2.out.later x19).cell 4 rfl
        have l5 := (HX2.out.later x19).cell 5 rfl
        have l6 := (HX2.out.later x19).cell 6 rfl
        go_upto_region 31 with fail
        go_cut [17] from 83 to 89 (fun s17 wx => ∃ ad cap, s17 = .slice ad ch.length cap ∧ ctr.QRow wx (.slice ad ch.length cap) ch ∧ Below x19.w.heap.size x19.w wx)
        case first =>
          go_region_with (first | (go_at_call 10; refine (KTA.out OA.out _ _ (by rfl) (x19.on (by first | exact hy | exact hBb))).mono ?_; rintro e wa ⟨oa, rfl, hna, hba⟩; have RA : Hid (∀ y, Below wa.heap.size wa y → ctr.GRow y oa a) := fun y h => (hna.row OA.out).below h; have hBa : Below x19.w.heap.size x19.w wa := (by first | exact hy.trans (hba.mono hy.size) | exact hBb.trans (hba.mono hBb.size)); obtain ⟨p1, p2, p3, rfl, _⟩ := hna; have dA : ∀ i v, (#[.string a.name, .int .i64 a.fr, .int .i64 a.to, .slice a11 n11 c11, .slice a12 n12 c12, .slice a13 n13 c13, .int .i64 a.rule] : Array Value)[i]? = some v → wa.cell? ⟨w.heap.size, i, none⟩ = some v := fun i v h => (HX1.out.later ⟨wa, x19.on hBa⟩).cell i h; have g0 := dA 0 _ rfl; have g1 := dA 1 _ rfl; have g2 := dA 2 _ rfl; have g3 := dA 3 _ rfl; have g4 := dA 4 _ rfl; have g5 := dA 5 _ rfl; have g6 := dA 6 _ rfl; have dB : ∀ i v, (#[.string b.name, .int .i64 b.fr, .int .i64 b.to, .slice a21 n21 c21, .slice a22 n22 c22, .slice a23 n23 c23, .int .i64 b.rule] : Array Value)[i]? = some v → wa.cell? ⟨w.heap.size + 1, i, none⟩ = some v := fun i v h => (HX2.out.later ⟨wa, x19.on hBa⟩).cell i h; have k0 := dB 0 _ rfl; have k1 := dB 1 _ rfl; have k2 := dB 2 _ rfl; have k3 := dB 3 _ rfl; have k4 := dB 4 _ rfl; have k5 := dB 5 _ rfl; have k6 := dB 6 _ rfl; clear dA dB) | (go_at_call 10; refine (KTB.out OB.out _ _ (by rfl) (x19.on (by first | exact hy | exact hBa))).mono ?_; rintro e wb ⟨ob, rfl, hnb, hbb⟩; have RB : Hid (∀ y, Below wb.heap.size wb y → ctr.GRow y ob b) := fun y h => (hnb.row OB.out).below h; have hBb : Below x19.w.heap.size x19.w wb := (by first | exact hy.trans (hbb.mono hy.size) | exact hBa.trans (hbb.mono hBa.size)); obtain ⟨q1, q2, q3, rfl, _⟩ := hnb; have dA : ∀ i v, (#[.string a.name, .int .i64 a.fr, .int .i64 a.to, .slice a11 n11 c11, .slice a12 n12 c12, .slice a13 n13 c13, .int .i64 a.rule] : Array Value)[i]? = some v → wb.cell? ⟨w.heap.size, i, none⟩ = some v := fun i v h => (HX1.out.later ⟨wb, x19.on hBb⟩).cell i h; have g0 := dA 0 _ rfl; have g1 := dA 1 _ rfl; have g2 := dA 2 _ rfl; have g3 := dA 3 _ rfl; have g4 := dA 4 _ rfl; have g5 := dA 5 _ rfl; have g6 := dA 6 _ rfl; have dB : ∀ i v, (#[.string b.name, .int .i64 b.fr, .int .i64 b.to, .slice a21 n21 c21, .slice a22 n22 c22, .slice a23 n23 c23, .int .i64 b.rule] : Array Value)[i]? = some v → wb.cell? ⟨w.heap.size + 1, i, none⟩ = some v := fun i v h => (HX2.out.later ⟨wb, x19.on hBb⟩).cell i h; have k0 := dB 0 _ rfl; have k1 := dB 1 _ rfl; have k2 := dB 2 _ rfl; have k3 := dB 3 _ rfl; have k4 := dB 4 _ rfl; have k5 := dB 5 _ rfl; have k6 := dB 6 _ rfl; clear dA dB) | (go_at_call 26; refine (KI.out _ _ _ (HW.out.trans (Below.mono (by first | exact x19.on hBb | exact x19.on hBa) HW.out.size)) (by first | exact RA.out _ (Below.refl _ _) | exact RA.out _ hbb) (by first | exact RB.out _ (Below.refl _ _) | exact RB.out _ hba)).mono ?_; rintro e w5 ⟨o5, rfl, m5, h5⟩; have M5 := ctr.hideP m5.row; obtain ⟨ad5, cap5, rfl, _⟩ := m5; have hB5 : Hid (Below x19.w.heap.size x19.w w5) := (by first | exact hBb.trans (h5.mono hBb.size) | exact hBa.trans (h5.mono hBa.size)); clear h5))
          all_goals (go_wp2_with fail; go_meet; exact ⟨_, _, rfl, M5.out, hB5.out⟩)
        case rest =>
          obtain ⟨ad7, cap7, rfl, r25, hb⟩ := hcut
          have R25 := ctr.hideP r25
          have B25 : Hid (Below x5.w.heap.size x5.w wc) := B19.out.trans (hb.mono B19.out.size)
          have I25 := ctr.hideP (I19.out.below hb)
          clear hb r25 I19 B19 h0 h1 h2 h3 h4 h5 h6 l0 l1 l2 l3 l4 l5 l6 hy
          go_wp2_with fail
          refine (KQ.out _ _ _ R25.out (J5.out _ B25.out)).mono ?_
          rintro e w26 ⟨rfl, hb⟩
          have B26 : Hid (Below x5.w.heap.size x5.w w26) := B25.out.trans (hb.mono B25.out.size)
          have I26 := ctr.hideP (I25.out.below hb)
          clear hb I25 R25 B25
          go_wp2_with fail
          refine (KH.out _ _ I26.out).mono ?_
          rintro e w28 ⟨rfl, hb⟩
          have B28 : Hid (Below x5.w.heap.size x5.w w28) := B26.out.trans (hb.mono B26.out.size)
          clear hb
          go_wp2_with fail
          go_ret
          exact ⟨rfl, HW.out.trans ((x5.on B28.out).mono HW.out.size)⟩
theorem readable : ∀ m ∈ Rows.fnExactConcordSpec.vars, ∀ g t, Tryz.prog.globalNamed m = some g → (Tryz.prog.globals[g]?).map (·.type) = some t → Tryz.prog.readableRec t = true ∧ t < Tryz.prog.types.size := by
  intro m hm g t h1 h2
  have hm' : m = "loop.example/g00638/impl.errNoTable" ∨ m = "loop.example/g00638/impl.monthLengths" := by simpa [Rows.fnExactConcordSpec] using hm
  rcases hm' with rfl | rfl
  · obtain rfl := Option.some.inj (g1.symm.trans h1)
    obtain rfl := Option.some.inj (gt1.symm.trans h2)
    exact ⟨by kernel_rfl, of_decide_eq_true (by kernel_rfl)⟩
  · obtain rfl := Option.some.inj (g2.symm.trans h1)
    obtain rfl := Option.some.inj (gt2.symm.trans h2)
    exact ⟨by kernel_rfl, of_decide_eq_true (by kernel_rfl)⟩
set_option maxRecDepth 100000 in
theorem contract (H : Type) (enc : TypeId × Value → H) (W : World) (base : Nat) (args : Array Value) (ds gs : List (DataW H)) (before : List MemPlace)
    (hval : ∀ (j : Nat) t v, Tryz.f6.params[j]? = some t → args[j]? = some v → Value.okWide Tryz.prog W .any base t v)
    (hW : DataW.Whole enc Tryz.prog Tryz.f6.params.toList Rows.fnExactConcordSpec.vars false W args.toList ds gs before) (hL : laidMetH Tryz.prog Rows.fnExactConcordRow.laid W) :
    Calls Tryz.prog 6 args W fun e W' => ∃ v, e = .returned v ∧ Rows.fnExactConcordSpec.post enc Tryz.prog Tryz.f6 false true false false W args v W' := by
  have hW' := hW
  obtain ⟨p, q, hA0, hV, rfl, hfz, hnd⟩ := hW
  have hA : DataW.TrodAll enc Tryz.prog W 0 (fun _ => true) true Tryz.f6.params.toList args.toList ds p := hA0
  rw [Tryz.params6] at hA hval
  obtain ⟨v0, vs0, d0, ds0, p0, q0, hargs, rfl, rfl, h0, r0⟩ := trodAll_cons hA
  obtain ⟨v1, vs1, d1, ds1, p1, q1, rfl, rfl, rfl, h1, r1⟩ := trodAll_cons r0
  obtain ⟨v2, vs2, d2, ds2, p2, q2, rfl, rfl, rfl, h2, r2⟩ := trodAll_cons r1
  obtain ⟨v3, vs3, d3, ds3, p3, q3, rfl, rfl, rfl, h3, r3⟩ := trodAll_cons r2
  obtain ⟨rfl, rfl, rfl⟩ := trodAll_nil r3
  obtain rfl : args = #[v0, v1, v2, v3] := by cases args; simp_all
  have hk : ∀ W', Below W.heap.size W W' → DataW.TrodVars enc Tryz.prog W' (fun b => decide (b < W.heap.size)) Rows.fnExactConcordSpec.vars gs q := fun W' hb => kit.trodVars_kept laidOut hb readable hV (DataW.TrodVars.lt hV)
  obtain ⟨g1, g2, rfl⟩ : ∃ g1 g2, gs = [g1, g2] := kit.gs_two hV
  have k0 := h0
  have lt0 : ∀ x ∈ p0, x.block < W.heap.size := by obtain ⟨m, hm⟩ := k0; exact DataW.trod_lt m _ _ _ hm
  obtain ⟨rg0, hr0, wf0, wt0⟩ := kit.open_rgm Tryz.underlying26 (by kernel_rfl) (show Tryz.prog.cellsOf 26 = 7 by kernel_rfl) Tryz.underlying9 Tryz.underlying3 Tryz.underlying3 Tryz.underlying22 Tryz.underlying23 Tryz.underlying24 Tryz.underlying3 Tryz.underlying118 (show Tryz.prog.cellsOf 118 = 5 by kernel_rfl) rfl (fun j f h => by
      rcases j with _ | _ | _ | _ | _ | j <;> simp at h <;> (try subst h) <;> exact ⟨rfl, by kernel_rfl, Tryz.underlying3⟩) Tryz.underlying122 (show Tryz.prog.cellsOf 122 = 3 by kernel_rfl) rfl (fun j f h => by
      rcases j with _ | _ | _ | j <;> simp at h <;> (try subst h) <;> exact ⟨rfl, by kernel_rfl, Tryz.underlying3⟩) Tryz.underlying111 (show Tryz.prog.cellsOf 111 = 3 by kernel_rfl) rfl rfl rfl (by kernel_rfl) (by kernel_rfl) (by kernel_rfl) Tryz.underlying9 Tryz.underlying3 Tryz.underlying3 (hval 0 26 v0 rfl rfl) h0
  have k1 := h1
  have lt1 : ∀ x ∈ p1, x.block < W.heap.size := by obtain ⟨m, hm⟩ := k1; exact DataW.trod_lt m _ _ _ hm
  obtain ⟨rg1, hr1, wf1, wt1⟩ := kit.open_rgm Tryz.underlying26 (by kernel_rfl) (show Tryz.prog.cellsOf 26 = 7 by kernel_rfl) Tryz.underlying9 Tryz.underlying3 Tryz.underlying3 Tryz.underlying22 Tryz.underlying23 Tryz.underlying24 Tryz.underlying3 Tryz.underlying118 (show Tryz.prog.cellsOf 118 = 5 by kernel_rfl) rfl (fun j f h => by
      rcases j with _ | _ | _ | _ | _ | j <;> simp at h <;> (try subst h) <;> exact ⟨rfl, by kernel_rfl, Tryz.underlying3⟩) Tryz.underlying122 (show Tryz.prog.cellsOf 122 = 3 by kernel_rfl) rfl (fun j f h => by
      rcases j with _ | _ | _ | j <;> simp at h <;> (try subst h) <;> exact ⟨rfl, by kernel_rfl, Tryz.underlying3⟩) Tryz.underlying111 (show Tryz.prog.cellsOf 111 = 3 by kernel_rfl) rfl rfl rfl (by kernel_rfl) (by kernel_rfl) (by kernel_rfl) Tryz.underlying9 Tryz.underlying3 Tryz.underlying3 (hval 1 26 v1 rfl rfl) h1
  obtain ⟨a2, rfl, rfl, rfl, w2⟩ := open_int Tryz.underlying3 (hval 2 3 v2 rfl rfl) h2
  obtain ⟨a3, rfl, rfl, rfl, w3⟩ := open_int Tryz.underlying3 (hval 3 3 v3 rfl rfl) h3
  clear hA0
  refine (walk v0 rg0 v1 rg1 a2 w2 a3 w3 W hr0 wf0 wt0 hr1 wf1 wt1 (tab0 hL) (tab1 hL) (tab2 hL)).mono fun e W' ⟨he, bel⟩ => ?_
  subst he
  exact ⟨_, rfl, _, _, _, [], _, _, hW', trodAll_mk1 (shut_bool Tryz.underlying4 _), trodAll_cons_mk (Below.trod laidOut (by kernel_rfl) (of_decide_eq_true (by kernel_rfl)) k0 bel lt0) (trodAll_cons_mk (Below.trod laidOut (by kernel_rfl) (of_decide_eq_true (by kernel_rfl)) k1 bel lt1) (trodAll_cons_mk (shut_int Tryz.underlying3 w2) (trodAll_cons_mk (shut_int Tryz.underlying3 w3) (trodAll_mk0)))), hk W' bel, bel.frame _, fun h => by cases h⟩
noncomputable def low : Nat := (World.holding Tryz.prog default ⟨#[], #[], []⟩).heap.size
noncomputable def laidWorld (os : Os) : World :=
  { World.holding Tryz.prog os ⟨#[.cells #[.string ⟨#[110, 111, 32, 116, 97, 98, 108, 101, 32, 111, 102, 32, 114, 101, 105, 103, 110, 115]⟩] 292], #[], []⟩ with heap := ((((World.holding Tryz.prog os ⟨#[.cells #[.string ⟨#[110, 111, 32, 116, 97, 98, 108, 101, 32, 111, 102, 32, 114, 101, 105, 103, 110, 115]⟩] 292], #[], []⟩).heap.modify 2 fun
      | .cells _ t frozen => .cells #[.iface 232 (.agg #[.pointer (some ⟨3, 181, none⟩)])] t frozen
      | o => o).modify 0 fun
      | .cells _ t frozen => .cells #[.iface 269 (.pointer (some ⟨low, 0, none⟩))] t frozen
      | o => o).modify 1 fun
      | .cells _ t frozen => .cells #[.int .i64 31, .int .i64 28, .int .i64 31, .int .i64 30, .int .i64 31, .int .i64 30, .int .i64 31, .int .i64 31, .int .i64 30, .int .i64 31, .int .i64 30, .int .i64 31] t frozen
      | o => o) }
theorem laid_met (os : Os) : laidMetH Tryz.prog Rows.fnExactConcordRow.laid ((laidWorld os).forCall (fun _ _ => 0) ⟨#[], #[.agg #[.string ByteArray.empty, .int .i64 0, .int .i64 0, .slice none 0 0, .slice none 0 0, .slice none 0 0, .int .i64 0], .agg #[.string ByteArray.empty, .int .i64 0, .int .i64 0, .slice none 0 0, .slice none 0 0, .slice none 0 0, .int .i64 0], .int .i64 0, .int .i64 0], []⟩).memory :=
  laidMetH_of_parts (laidMet_of_run' 8 (by kernel_rfl) (by kernel_rfl)) (by kernel_rfl)
theorem reads (os : Os) {H : Type} (enc : TypeId × Value → H) : ∃ places, DataW.whole enc Tryz.prog ((laidWorld os).forCall (fun _ _ => 0) ⟨#[], #[.agg #[.string ByteArray.empty, .int .i64 0, .int .i64 0, .slice none 0 0, .slice none 0 0, .slice none 0 0, .int .i64 0], .agg #[.string ByteArray.empty, .int .i64 0, .int .i64 0, .slice none 0 0, .slice none 0 0, .slice none 0 0, .int .i64 0], .int .i64 0, .int .i64 0], []⟩).memory Tryz.f6.params.toList Rows.fnExactConcordSpec.vars false (#[.agg #[.string ByteArray.empty, .int .i64 0, .int .i64 0, .slice none 0 0, .slice none 0 0, .slice none 0 0, .int .i64 0], .agg #[.string ByteArray.empty, .int .i64 0, .int .i64 0, .slice none 0 0, .slice none 0 0, .slice none 0 0, .int .i64 0], .int .i64 0, .int .i64 0] : Array Value).toList 8 = some ([.agg [.lit (.string []), .lit (.int .i64 0), .lit (.int .i64 0), .nil, .nil, .nil, .lit (.int .i64 0)], .agg [.lit (.string []), .lit (.int .i64 0), .lit (.int .i64 0), .nil, .nil, .nil, .lit (.int .i64 0)], .lit (.int .i64 0), .lit (.int .i64 0)], [.held (enc (269, .pointer (some ⟨low, 0, none⟩))), Rows.laid_loop_example_g00638_impl_monthLengths], places) :=
  ⟨MemPlace.row ⟨0, 0, none⟩ 1 ++ [] ++ MemPlace.row ⟨1, 0, none⟩ 12 ++ [] ++ [], by kernel_rfl⟩
set_option maxRecDepth 100000 in
theorem lifted (os : Os) (started : os.Started) (H : Type) (enc : TypeId × Value → H) (F : Stop.Interp) :
    ReturnsInHanded {} Tryz.checked os 6 .any ((OpenSpec.ofChange Rows.fnExactConcordSpec).preRow enc Tryz.prog Tryz.f6 Rows.fnExactConcordRow.domain false Rows.fnExactConcordRow.laid) (((OpenSpec.ofChange Rows.fnExactConcordSpec).at F).post enc Tryz.prog Tryz.f6 false true false false) := by
  obtain ⟨places, hx⟩ := reads os enc
  refine returnsInHanded_of_row (C := Tryz.checked) (s := OpenSpec.ofChange Rows.fnExactConcordSpec) own started (by kernel_rfl) Tryz.func6
    (witness_row_at (enc := enc) (C := Tryz.checked) false (laidWorld os) #[.agg #[.string ByteArray.empty, .int .i64 0, .int .i64 0, .slice none 0 0, .slice none 0 0, .slice none 0 0, .int .i64 0], .agg #[.string ByteArray.empty, .int .i64 0, .int .i64 0, .slice none 0 0, .slice none 0 0, .slice none 0 0, .int .i64 0], .int .i64 0, .int .i64 0] rfl (by kernel_rfl) (by kernel_rfl) (by kernel_rfl)
      (OpenSpec.preRow_of_cond 8 hx (by kernel_rfl) (fun k hk => by cases hk) (by kernel_rfl) (laid_met os))) ?_
  intro W base args ds gs before hval hW _ _ _ hL _ _
  exact contract H enc W base args ds gs before hval hW hL
theorem said : Rows.FnExactConcordSaid :=
  OpenClaim.holds_of_cond 6 Tryz.f6 rfl rfl rfl rfl rfl rfl rfl ⟨rfl, rfl, rfl, rfl, rfl⟩ rfl rfl rfl rfl rfl (by kernel_rfl) Tryz.func6 (by kernel_rfl)
    (of_decide_eq_true (by kernel_rfl)) (by unfold Func.isWrapper; first | (rw [if_pos (by decide +kernel)]; kernel_rfl) | (rw [if_neg (by decide +kernel)]; exact ⟨rfl, rfl⟩))
    (fun os started H enc _ F => by rw [OpenClaim.pre_eq_preRow]; exact lifted os started H enc F)
theorem plain (f : FuncId) (fn : Func) (hf : Tryz.pinned.checked.prog.funcNamed "loop.example/g00638/laws.FnExactConcord" = some f) (hfn : Tryz.pinned.checked.prog.funcs[f]? = some fn) :
    true = Tryz.pinned.checked.prog.looks [] ∧ ∀ (j : Nat) t, fn.params[j]? = some t → Tryz.pinned.checked.prog.wantsStandIn t = false := by
  obtain rfl : f = 6 := Option.some.inj ((show Tryz.prog.funcNamed "loop.example/g00638/laws.FnExactConcord" = some 6 by kernel_rfl).symm.trans hf) |>.symm
  obtain rfl : fn = Tryz.f6 := (Option.some.inj (Tryz.func6.symm.trans hfn)).symm
  refine ⟨by kernel_rfl, fun j t ht => ?_⟩
  rw [Tryz.params6] at ht
  have ht : t = 26 ∨ t = 26 ∨ t = 3 ∨ t = 3 := by simpa using Array.mem_of_getElem? ht
  rcases ht with rfl | rfl | rfl | rfl
  · exact (show Tryz.prog.wantsStandIn 26 = false by kernel_rfl)
  · exact (show Tryz.prog.wantsStandIn 26 = false by kernel_rfl)
  · exact (show Tryz.prog.wantsStandIn 3 = false by kernel_rfl)
  · exact (show Tryz.prog.wantsStandIn 3 = false by kernel_rfl)
theorem card : Rows.FnExactConcordCardSaid :=
  Claim7.holds_tied_plain_at .later [] _ _ _ _ said (fun _ h => by cases h) (by kernel_rfl) (fun _ h => by cases h) fnExactConcord_row_tie rfl ⟨rfl, rfl⟩ (by kernel_rfl) rfl plain (by kernel_rfl)
end Go.Proofs.YtdgolaaheakfoaaGreatDoor.fnExactConcord
namespace Go.Proofs.YtdgolaaheakfoaaGreatDoor
theorem fnExactConcord_holds : Rows.FnExactConcordCardSaid := fnExactConcord.card
#print axioms fnExactConcord_holds
end Go.Proofs.YtdgolaaheakfoaaGreatDoor
