/- The law of Lost holds: at every regime and every number the program answers as the model, whatever order of evaluation Go leaves open; it writes into no argument, and its answer owns its memory. -/
import Derived.Test.YtdgolaaheakfoaaGreatDoorCards
import Derived.Test.YtdgolaaheakfoaaGreatDoorTie
import Derived.Test.YtdgolaaheakfoaaGreatDoorJnRaj
import Derived.Test.YtdgolaaheakfoaaGreatDoorJnRbi
import Derived.Test.YtdgolaaheakfoaaGreatDoorJnRbj
import Derived.Test.YtdgolaaheakfoaaGreatDoorJnRbh
import Derived.Test.YtdgolaaheakfoaaGreatDoorJnRak
import Derived.Test.YtdgolaaheakfoaaGreatDoorRgmOpenR
import Derived.WalkKit
import Derived.ProofKit
import Derived.OpenShut
import Derived.ShutString
import Derived.ChangeOld
import Derived.Below
import Derived.Deep.DeepHandedRow
import Derived.Lib.LaidTab
import Derived.Lib.SmallJoins
import Derived.Deep.CutRange
import Derived.LaidHandle
import Derived.LaidLaws
namespace Go.Proofs.YtdgolaaheakfoaaGreatDoor.fnExactLost
open Go.ChangeShapes Go.WideShapes Go.ChangeAt Go.RowKit
open Go.ChangeMaps (open_string shut_string)
set_option linter.unusedVariables false
theorem own : ownKnob Tryz.prog.godebug = none := by kernel_rfl
theorem laidOut : laidOutB Tryz.prog = true := by kernel_rfl
theorem tab0 {W : World} (h : laidMetH Tryz.prog Rows.fnExactLostRow.laid W) : ctr.ErrT W := by
  have h0 : laidMet Tryz.prog [("loop.example/g00638/impl.errNoTable", Rows.laid_loop_example_g00638_impl_errNoTable), ("loop.example/g00638/impl.monthLengths", Rows.laid_loop_example_g00638_impl_monthLengths)] W ∧ handlesMet Tryz.prog [("errors.errorType", Rows.laid_errors_errorType)] W := h
  exact kit.err_of h0.2
theorem g1 : Tryz.prog.globalNamed "loop.example/g00638/impl.errNoTable" = some 0 := by kernel_rfl
theorem gt1 : (Tryz.prog.globals[0]?).map (·.type) = some 181 := by kernel_rfl
theorem tab1 {W : World} (h : laidMetH Tryz.prog Rows.fnExactLostRow.laid W) : ∃ a, ctr.Sent W a := by
  have h0 : laidMet Tryz.prog [("loop.example/g00638/impl.errNoTable", Rows.laid_loop_example_g00638_impl_errNoTable), ("loop.example/g00638/impl.monthLengths", Rows.laid_loop_example_g00638_impl_monthLengths)] W := h.1
  exact kit.sent_of h0
theorem g2 : Tryz.prog.globalNamed "loop.example/g00638/impl.monthLengths" = some 1 := by kernel_rfl
theorem gt2 : (Tryz.prog.globals[1]?).map (·.type) = some 192 := by kernel_rfl
theorem ce2 : Tryz.prog.cellsOf 3 = 1 := by kernel_rfl
theorem ct2 : Tryz.prog.cellsOf 192 = 12 := by kernel_rfl
theorem tab2 {W : World} (h : laidMetH Tryz.prog Rows.fnExactLostRow.laid W) : Lib.TabIs Tryz.prog W "loop.example/g00638/impl.monthLengths" .i64 [31, 28, 31, 30, 31, 30, 31, 31, 30, 31, 30, 31] := by
  have h0 : laidMet Tryz.prog [("loop.example/g00638/impl.errNoTable", Rows.laid_loop_example_g00638_impl_errNoTable), ("loop.example/g00638/impl.monthLengths", Rows.laid_loop_example_g00638_impl_monthLengths)] W := h.1
  have h1 := laidMet.tail h0
  exact Lib.tabIs_of_head (rest := []) g2 gt2 Tryz.underlying192 Tryz.underlying3 ce2 ct2 h1
set_option maxHeartbeats 8000000 in
theorem walk (v : Value) (r : ctr.Rgm) (i : Int) (_wi : (Lit.int .i64 i).wf = true) (w : World) (h : ctr.GIn w v r) (wf : (Lit.int .i64 r.fr).wf = true) (wt : (Lit.int .i64 r.to).wf = true) (t0 : ctr.ErrT w) (t2 : ∃ q, ctr.Sent w q) (t1 : ctr.Tab w) :
    Calls Tryz.prog 5 #[v, .int .i64 i] w fun e w' => e = .returned (.bool true) ∧ Below w.heap.size w w' := by
  have H := ctr.hideP h
  obtain ⟨a1, n1, c1, a2, n2, c2, a3, n3, c3, ev, _⟩ := h
  obtain ⟨W0, hW0, d0, d1, d2, d3, d4, d5, d6, hBl⟩ := ctr.seven_box w (.string r.name) (.int .i64 r.fr) (.int .i64 r.to) (.slice a1 n1 c1) (.slice a2 n2 c2) (.slice a3 n3 c3) (.int .i64 r.rule) 26
  have HW0 := ctr.hideP hW0
  have HBl := ctr.hideP hBl
  have KZ : Hid (∀ x : ctr.Later W0, Calls Tryz.prog 7 #[v, .int .i64 1048576] x.w fun e w' => ∃ z : Int, e = .returned (.int .i64 z) ∧ (z = -1 ∨ (0 ≤ z ∧ z ≤ 1048576 ∧ ctr.GOk r)) ∧ Below x.w.heap.size x.w w') := fun x => ctr.szRegime v r 1048576 x.w (H.out.below (HBl.out x)) (by omega) (by omega)
  have KT : Hid (ctr.GOk r → ∀ x : ctr.Later W0, Calls Tryz.prog 10 #[v] x.w fun e w' => ∃ o, e = .returned o ∧ ctr.GNew x.w w' o r ∧ Below x.w.heap.size x.w w') := fun ho x => ctr.toRegime v r x.w (H.out.below (HBl.out x)) ho
  have KE : Hid (∀ v1 v2 W, ctr.GRow W v1 r → ctr.GRow W v2 r → Calls Tryz.prog 13 #[v1, v2] W fun e w' => e = .returned (.bool true) ∧ Below W.heap.size W w') := fun v1 v2 W g1 g2 => ctr.eqRegime v1 v2 r W g1 g2
  have bf := (kit.wf_bounds wf).1
  have bt := (kit.wf_bounds wt).2
  obtain ⟨q, t3⟩ := t2
  have KS : Hid (∀ v W, ctr.GRow W v r → Calls Tryz.prog 20 #[v, .int .i64 i] W fun e w' => ∃ o, e = .returned o ∧ ctr.QMov W w' o (ctr.lostL r i) ∧ Below W.heap.size W w') := fun v W g => ctr.specLost v r i W g bf bt
  have KI : Hid (∀ v W, Below w.heap.size w W → ctr.GRow W v r → Calls Tryz.prog 21 #[v, .int .i64 i] W fun e w' => ∃ o, e = .returned o ∧ ctr.QMov W w' o (ctr.lostL r i) ∧ Below W.heap.size W w') := fun v W hb g => ctr.implLost v r i q W g bt (t0.below hb) (t1.later hb) (t3.later hb)
  have hcl := ctr.lost_len r i
  have KQ : Hid (∀ v1 v2 W, ctr.QRow W v1 (ctr.lostL r i) → ctr.QRow W v2 (ctr.lostL r i) → Calls Tryz.prog 22 #[v1, v2] W fun e w' => e = .returned (.bool true) ∧ Below W.heap.size W w') := fun v1 v2 W g1 g2 => ctr.eqDateS v1 v2 _ W (by omega) g1 g2
  have KM : Hid (∀ V W o, ctr.QMov V W o (ctr.lostL r i) → Below V.heap.size V W → Calls Tryz.prog 23 #[o, .int .i64 1] W fun e w' => e = .returned (.int .i64 (((ctr.lostL r i).length : Int) * 4 + 1)) ∧ Below V.heap.size V w' ∧ ctr.QMark w' o (ctr.lostL r i).length) := fun V W o g hb => ctr.markDateRow V W o _ (by omega) g hb
  have KH : Hid (∀ o W, ctr.QMark W o (ctr.lostL r i).length → Calls Tryz.prog 24 #[o, .int .i64 1] W fun e w' => e = .returned (.int .i64 (((ctr.lostL r i).length : Int) * 4 + 1)) ∧ Below W.heap.size W w') := fun o W g => (ctr.heldDates o _ W (by omega) g).mono fun _ _ k => ⟨k.1, by rw [k.2]; exact Below.refl _ _⟩
  have hm0 : 0 ≤ ((ctr.lostL r i).length : Int) * 4 + 1 := by omega
  generalize (ctr.lostL r i).length = mks at *
  generalize (mks : Int) * 4 + 1 = mz at *
  generalize ctr.lostL r i = ch at *
  have hmd : decide (mz < 0) = false := decide_eq_false (by omega)
  clear bf bt t0 t1 t3 hcl
  have HD0 := ctr.hideP d0
  have HD1 := ctr.hideP d1
  have HD2 := ctr.hideP d2
  have HD3 := ctr.hideP d3
  have HD4 := ctr.hideP d4
  have HD5 := ctr.hideP d5
  have HD6 := ctr.hideP d6
  subst ev
  clear hW0 hBl H
  go_enter Tryz.func5, Tryz.ntmps5
  go_wp2_with fail
  rw [← HW0.out]
  refine (KZ.out ⟨W0, Below.refl _ _⟩).mono ?_
  rintro e w1 ⟨z, rfl, hz, hb⟩
  obtain ⟨x1, rfl⟩ := ctr.Later.of hb
  have HZ := ctr.hideP hz
  clear hb hz
  rcases HZ.out with rfl | ⟨z1, z2, ho⟩
  · go_wp2_with fail
    go_ret
    exact ⟨rfl, HBl.out x1⟩
  have HO := ctr.hideP ho
  clear ho
  go_wp2_with fail
  refine (KT.out HO.out x1).mono ?_
  rintro e w2 ⟨o1, rfl, hn, hb⟩
  obtain ⟨x2, rfl⟩ := x1.next hb
  have R1 := ctr.hideP (hn.row HO.out)
  obtain ⟨p1, p2, p3, rfl, _⟩ := hn
  clear hb
  go_wp2_with fail
  refine (KS.out _ _ R1.out).mono ?_
  rintro e w3 ⟨o4, rfl, m4, hb⟩
  obtain ⟨x3, rfl⟩ := x2.next hb
  have I4 := ctr.hideP m4.row
  obtain ⟨ad4, cap4, rfl, _⟩ := m4
  clear hb R1
  go_wp2_with fail
  refine (KT.out HO.out x3).mono ?_
  rintro e w4 ⟨o2, rfl, hn, hb⟩
  obtain ⟨x4, rfl⟩ := x3.next hb
  have R2 := ctr.hideP (hn.row HO.out)
  obtain ⟨p1, p2, p3, rfl, ⟨s1, s2, rfl, ge1, k1⟩, ⟨s3, s4, rfl, ge3, k3⟩, ⟨s5, s6, rfl, ge5, k5⟩⟩ := hn
  have HG1 := ctr.hideP ge1
  have HG3 := ctr.hideP ge3
  have HG5 := ctr.hideP ge5
  have X34 := ctr.hideP hb
  have HL1 := ctr.hideP k1.lt
  have HL3 := ctr.hideP k3.lt
  have HL5 := ctr.hideP k5.lt
  have HK1 := ctr.hideP k1
  have HK3 := ctr.hideP k3
  have HK5 := ctr.hideP k5
  clear hb ge1 ge3 ge5 k1 k3 k5
  obtain ⟨W5, hW5, f0, f1, f2, f3, f4, f5, f6, hBl5⟩ := ctr.seven_box x4.w (.string r.name) (.int .i64 r.fr) (.int .i64 r.to) (.slice (some ⟨s1, 0, none⟩) r.segs.length r.segs.length) (.slice (some ⟨s3, 0, none⟩) r.pats.length r.pats.length) (.slice (some ⟨s5, 0, none⟩) r.rgns.length r.rgns.length) (.int .i64 r.rule) 40
  have B5 : Below W0.heap.size W0 W5 := x4.on (hBl5 ⟨W5, Below.refl _ _⟩)
  have e0 : ∀ x : ctr.Later W5, x.w.cell? ⟨w.heap.size, 0, none⟩ = some (.string r.name) := fun x => d0 ⟨x.w, B5.trans (x.below.mono B5.size)⟩
  have e1 : ∀ x : ctr.Later W5, x.w.cell? ⟨w.heap.size, 1, none⟩ = some (.int .i64 r.fr) := fun x => d1 ⟨x.w, B5.trans (x.below.mono B5.size)⟩
  have e2 : ∀ x : ctr.Later W5, x.w.cell? ⟨w.heap.size, 2, none⟩ = some (.int .i64 r.to) := fun x => d2 ⟨x.w, B5.trans (x.below.mono B5.size)⟩
  have e3 : ∀ x : ctr.Later W5, x.w.cell? ⟨w.heap.size, 3, none⟩ = some (.slice a1 n1 c1) := fun x => d3 ⟨x.w, B5.trans (x.below.mono B5.size)⟩
  have e4 : ∀ x : ctr.Later W5, x.w.cell? ⟨w.heap.size, 4, none⟩ = some (.slice a2 n2 c2) := fun x => d4 ⟨x.w, B5.trans (x.below.mono B5.size)⟩
  have e5 : ∀ x : ctr.Later W5, x.w.cell? ⟨w.heap.size, 5, none⟩ = some (.slice a3 n3 c3) := fun x => d5 ⟨x.w, B5.trans (x.below.mono B5.size)⟩
  have e6 : ∀ x : ctr.Later W5, x.w.cell? ⟨w.heap.size, 6, none⟩ = some (.int .i64 r.rule) := fun x => d6 ⟨x.w, B5.trans (x.below.mono B5.size)⟩
  have HE : Hid (∀ x : ctr.Later W5, ∃ y : ctr.Later W0, y.w = x.w) := fun x => ⟨⟨x.w, B5.trans (x.below.mono B5.size)⟩, rfl⟩
  have R5 : Hid (∀ x : ctr.Later W5, ctr.GRow x.w (.agg #[.string r.name, .int .i64 r.fr, .int .i64 r.to, .slice (some ⟨s1, 0, none⟩) r.segs.length r.segs.length, .slice (some ⟨s3, 0, none⟩) r.pats.length r.pats.length, .slice (some ⟨s5, 0, none⟩) r.rgns.length r.rgns.length, .int .i64 r.rule]) r) := fun x => R2.out.below (hBl5 x)
  have KT5 : Hid (∀ W, Below W5.heap.size W5 W → Calls Tryz.prog 10 #[.agg #[.string r.name, .int .i64 r.fr, .int .i64 r.to, .slice a1 n1 c1, .slice a2 n2 c2, .slice a3 n3 c3, .int .i64 r.rule]] W fun e w' => ∃ o, e = .returned o ∧ ctr.GNew W w' o r ∧ Below W.heap.size W w') := fun W hb => KT.out HO.out ⟨W, B5.trans (hb.mono B5.size)⟩
  have HW5 := ctr.hideP hW5
  have X45 := ctr.hideP (hBl5 ⟨W5, Below.refl _ _⟩)
  have HB5 : Hid (Below w.heap.size w W5) := HBl.out ⟨W5, B5⟩
  have HB05 := ctr.hideP B5
  clear hW5 hBl5 B5 R2 d0 d1 d2 d3 d4 d5 d6 KZ KS
  go_wp2_with fail
  rw [← HW5.out]
  refine (KI.out _ _ HB5.out (R5.out ⟨W5, Below.refl _ _⟩)).mono ?_
  rintro e w6 ⟨o6, rfl, m6, hb⟩
  obtain ⟨x6, rfl⟩ := ctr.Later.of hb
  have M6 := ctr.hideP m6
  obtain ⟨ad6, cap6, rfl, _⟩ := m6
  have J4 : Hid (∀ W, Below W5.heap.size W5 W → ctr.QRow W (.slice ad4 ch.length cap4) ch) := fun W hb => by
    have h1 := X34.out.trans (X45.out.mono X34.out.size)
    exact I4.out.below (h1.trans (hb.mono h1.size))
  clear hb
  go_wp2_with fail
  refine (KQ.out _ _ _ M6.out.row (J4.out _ x6.below)).mono ?_
  rintro e w7 ⟨rfl, hb⟩
  obtain ⟨x7, rfl⟩ := x6.next hb
  have M7 := ctr.hideP (M6.out.below hb)
  clear hb M6
  go_upto_region 10 with fail
  go_cut [35] from 31 to 34 (fun s31 wx => s31 = .bool false ∧ Below x7.w.heap.size x7.w wx)
  case first =>
    have HN7 : Hid (Below W5.heap.size W5 x7.w.drew) := x7.below.drew
    go_region_with (first | (go_at_call 10; refine (KT5.out _ HN7.out).mono ?_; rintro e w8 ⟨o3, rfl, hn, hb⟩; obtain ⟨x8, rfl⟩ : ∃ x8 : ctr.Later W5, w8 = x8.w := ⟨⟨w8, HN7.out.trans (hb.mono HN7.out.size)⟩, rfl⟩; have R8 := ctr.hideP (hn.row HO.out); obtain ⟨p1, p2, p3, rfl, _⟩ := hn; have HB8 : Hid (Below x7.w.heap.size x7.w x8.w) := (Below.refl _ _).drew.trans hb; clear hb) | (go_at_call 13; refine (KE.out _ _ _ (R5.out x8) R8.out).mono ?_; rintro e w9 ⟨rfl, hb⟩; have HB9 : Hid (Below x7.w.heap.size x7.w w9) := HB8.out.trans (hb.mono HB8.out.size); obtain ⟨x9, rfl⟩ := x8.next hb; clear hb))
    all_goals (go_wp2_with fail; go_meet; exact ⟨rfl, HB9.out⟩)
  case rest =>
    obtain ⟨rfl, hb9⟩ := hcut
    obtain ⟨x9, rfl⟩ := x7.next hb9
    have M9 := ctr.hideP (M7.out.below hb9)
    clear hb9 M7 KE
    have B59 : Hid (Below x4.w.heap.size x4.w x9.w) := X45.out.trans (x9.below.mono X45.out.size)
    have KG := ctr.hideP (ctr.markRegime r s1 s3 s5 s2 s4 s6 x9.w HO.out (HK1.out.below B59.out HL1.out) (HK3.out.below B59.out HL3.out) (HK5.out.below B59.out HL5.out))
    go_wp2_with fail
    refine KG.out.mono ?_
    rintro e w13 ⟨z, rfl, hkp⟩
    have hz0 : decide ((z : Int) < 0) = false := decide_eq_false (by omega)
    have B39 : Hid (Below x3.w.heap.size x3.w x9.w) := X34.out.trans (B59.out.mono X34.out.size)
    have B3 : Hid (Below x3.w.heap.size x3.w w13) := hkp.below B39.out B39.out.size (by
      intro k hk
      rcases hk with rfl | rfl | rfl
      · exact HG1.out
      · exact HG3.out
      · exact HG5.out)
    have M13 := ctr.hideP (hkp.qmov M9.out (by
      intro k hk
      rcases hk with rfl | rfl | rfl
      · exact Nat.lt_of_lt_of_le HL1.out X45.out.size
      · exact Nat.lt_of_lt_of_le HL3.out X45.out.size
      · exact Nat.lt_of_lt_of_le HL5.out X45.out.size))
    have S35 : Hid (x3.w.heap.size ≤ W5.heap.size) := Nat.le_trans X34.out.size X45.out.size
    have M3 := ctr.hideP (M13.out.mono S35.out)
    have Q4 : Hid (∀ W, Below x3.w.heap.size x3.w W → ctr.QRow W (.slice ad4 ch.length cap4) ch) := fun W hb => I4.out.below hb
    clear hkp M13 M9 KG B59 B39 HK1 HK3 HK5 J4 e0 e1 e2 e3 e4 e5 e6 f0 f1 f2 f3 f4 f5 f6 R5 KT5 HE
    go_wp2_with fail
    refine (KQ.out _ _ _ M3.out.row (Q4.out _ B3.out)).mono ?_
    rintro e w14 ⟨rfl, hb⟩
    have B14 : Hid (Below x3.w.heap.size x3.w w14) := B3.out.trans (hb.mono B3.out.size)
    have M14 := ctr.hideP (M3.out.below hb)
    clear hb M3 B3 hz0
    go_wp2_with fail
    refine (KM.out _ _ _ M14.out B14.out).mono ?_
    rintro e w17 ⟨rfl, b17, i17⟩
    have B17 := ctr.hideP b17
    have I17 := ctr.hideP i17
    clear b17 i17 M14 B14 KM
    go_wp2_with fail
    refine (KH.out _ _ I17.out).mono ?_
    rintro e w19 ⟨rfl, hb⟩
    have B19 : Hid (Below x3.w.heap.size x3.w w19) := B17.out.trans (hb.mono B17.out.size)
    have I19 := ctr.hideP (I17.out.below hb)
    clear hb I17 B17
    obtain ⟨x19, rfl⟩ := x3.next B19.out
    have g0 := HD0.out x19
    have g1 := HD1.out x19
    have g2 := HD2.out x19
    have g3 := HD3.out x19
    have g4 := HD4.out x19
    have g5 := HD5.out x19
    have g6 := HD6.out x19
    go_wp2_with fail
    refine (KT.out HO.out x19).mono ?_
    rintro e w24 ⟨o5, rfl, hn, hb⟩
    have R24 := ctr.hideP (hn.row HO.out)
    obtain ⟨x24, rfl⟩ := x19.next hb
    have B24 : Hid (Below x3.w.heap.size x3.w x24.w) := B19.out.trans (hb.mono B19.out.size)
    have I24 := ctr.hideP (I19.out.below hb)
    obtain ⟨p1, p2, p3, rfl, _⟩ := hn
    clear hb I19 B19 g0 g1 g2 g3 g4 g5 g6
    go_wp2_with fail
    refine (KI.out _ _ (HBl.out x24) R24.out).mono ?_
    rintro e w25 ⟨o10, rfl, m10, hb⟩
    have R10 := ctr.hideP m10.row
    obtain ⟨ad10, cap10, rfl, _⟩ := m10
    obtain ⟨x25, rfl⟩ := x24.next hb
    have B25 : Hid (Below x3.w.heap.size x3.w x25.w) := B24.out.trans (hb.mono B24.out.size)
    have I25 := ctr.hideP (I24.out.below hb)
    clear hb I24 B24 R24
    go_wp2_with fail
    refine (KQ.out _ _ _ R10.out (Q4.out _ B25.out)).mono ?_
    rintro e w26 ⟨rfl, hb⟩
    obtain ⟨x26, rfl⟩ := x25.next hb
    have I26 := ctr.hideP (I25.out.below hb)
    clear hb I25 R10 B25
    go_wp2_with fail
    refine (KH.out _ _ I26.out).mono ?_
    rintro e w28 ⟨rfl, hb⟩
    obtain ⟨x28, rfl⟩ := x26.next hb
    clear hb
    go_wp2_with fail
    go_ret
    exact ⟨rfl, HBl.out x28⟩
theorem readable : ∀ m ∈ Rows.fnExactLostSpec.vars, ∀ g t, Tryz.prog.globalNamed m = some g → (Tryz.prog.globals[g]?).map (·.type) = some t → Tryz.prog.readableRec t = true ∧ t < Tryz.prog.types.size := by
  intro m hm g t h1 h2
  have hm' : m = "loop.example/g00638/impl.errNoTable" ∨ m = "loop.example/g00638/impl.monthLengths" := by simpa [Rows.fnExactLostSpec] using hm
  rcases hm' with rfl | rfl
  · obtain rfl := Option.some.inj (g1.symm.trans h1)
    obtain rfl := Option.some.inj (gt1.symm.trans h2)
    exact ⟨by kernel_rfl, of_decide_eq_true (by kernel_rfl)⟩
  · obtain rfl := Option.some.inj (g2.symm.trans h1)
    obtain rfl := Option.some.inj (gt2.symm.trans h2)
    exact ⟨by kernel_rfl, of_decide_eq_true (by kernel_rfl)⟩
set_option maxRecDepth 100000 in
theorem contract (H : Type) (enc : TypeId × Value → H) (W : World) (base : Nat) (args : Array Value) (ds gs : List (DataW H)) (before : List MemPlace)
    (hval : ∀ (j : Nat) t v, Tryz.f5.params[j]? = some t → args[j]? = some v → Value.okWide Tryz.prog W .any base t v)
    (hW : DataW.Whole enc Tryz.prog Tryz.f5.params.toList Rows.fnExactLostSpec.vars false W args.toList ds gs before) (hL : laidMetH Tryz.prog Rows.fnExactLostRow.laid W) :
    Calls Tryz.prog 5 args W fun e W' => ∃ v, e = .returned v ∧ Rows.fnExactLostSpec.post enc Tryz.prog Tryz.f5 false true false false W args v W' := by
  have hW' := hW
  obtain ⟨p, q, hA0, hV, rfl, hfz, hnd⟩ := hW
  have hA : DataW.TrodAll enc Tryz.prog W 0 (fun _ => true) true Tryz.f5.params.toList args.toList ds p := hA0
  rw [Tryz.params5] at hA hval
  obtain ⟨v0, vs0, d0, ds0, p0, q0, hargs, rfl, rfl, h0, r0⟩ := trodAll_cons hA
  obtain ⟨v1, vs1, d1, ds1, p1, q1, rfl, rfl, rfl, h1, r1⟩ := trodAll_cons r0
  obtain ⟨rfl, rfl, rfl⟩ := trodAll_nil r1
  obtain rfl : args = #[v0, v1] := by cases args; simp_all
  have hk : ∀ W', Below W.heap.size W W' → DataW.TrodVars enc Tryz.prog W' (fun b => decide (b < W.heap.size)) Rows.fnExactLostSpec.vars gs q := fun W' hb => kit.trodVars_kept laidOut hb readable hV (DataW.TrodVars.lt hV)
  obtain ⟨g1, g2, rfl⟩ : ∃ g1 g2, gs = [g1, g2] := kit.gs_two hV
  have k0 := h0
  have lt0 : ∀ x ∈ p0, x.block < W.heap.size := by obtain ⟨m, hm⟩ := k0; exact DataW.trod_lt m _ _ _ hm
  obtain ⟨rg0, hr0, wf0, wt0⟩ := kit.open_rgm Tryz.underlying26 (by kernel_rfl) (show Tryz.prog.cellsOf 26 = 7 by kernel_rfl) Tryz.underlying9 Tryz.underlying3 Tryz.underlying3 Tryz.underlying22 Tryz.underlying23 Tryz.underlying24 Tryz.underlying3 Tryz.underlying118 (show Tryz.prog.cellsOf 118 = 5 by kernel_rfl) rfl (fun j f h => by
      rcases j with _ | _ | _ | _ | _ | j <;> simp at h <;> (try subst h) <;> exact ⟨rfl, by kernel_rfl, Tryz.underlying3⟩) Tryz.underlying122 (show Tryz.prog.cellsOf 122 = 3 by kernel_rfl) rfl (fun j f h => by
      rcases j with _ | _ | _ | j <;> simp at h <;> (try subst h) <;> exact ⟨rfl, by kernel_rfl, Tryz.underlying3⟩) Tryz.underlying111 (show Tryz.prog.cellsOf 111 = 3 by kernel_rfl) rfl rfl rfl (by kernel_rfl) (by kernel_rfl) (by kernel_rfl) Tryz.underlying9 Tryz.underlying3 Tryz.underlying3 (hval 0 26 v0 rfl rfl) h0
  obtain ⟨a1, rfl, rfl, rfl, w1⟩ := open_int Tryz.underlying3 (hval 1 3 v1 rfl rfl) h1
  clear hA0
  refine (walk v0 rg0 a1 w1 W hr0 wf0 wt0 (tab0 hL) (tab1 hL) (tab2 hL)).mono fun e W' ⟨he, bel⟩ => ?_
  subst he
  exact ⟨_, rfl, _, _, _, [], _, _, hW', trodAll_mk1 (shut_bool Tryz.underlying4 _), trodAll_cons_mk (Below.trod laidOut (by kernel_rfl) (of_decide_eq_true (by kernel_rfl)) k0 bel lt0) (trodAll_cons_mk (shut_int Tryz.underlying3 w1) (trodAll_mk0)), hk W' bel, bel.frame _, fun h => by cases h⟩
noncomputable def low : Nat := (World.holding Tryz.prog default ⟨#[], #[], []⟩).heap.size
noncomputable def laidWorld (os : Os) : World :=
  { World.holding Tryz.prog os ⟨#[.cells #[.string ⟨#[110, 111, 32, 116, 97, 98, 108, 101, 32, 111, 102, 32, 114, 101, 105, 103, 110, 115]⟩] 292], #[], []⟩ with heap := ((((World.holding Tryz.prog os ⟨#[.cells #[.string ⟨#[110, 111, 32, 116, 97, 98, 108, 101, 32, 111, 102, 32, 114, 101, 105, 103, 110, 115]⟩] 292], #[], []⟩).heap.modify 2 fun
      | .cells _ t frozen => .cells #[.iface 232 (.agg #[.pointer (some ⟨3, 181, none⟩)])] t frozen
      | o => o).modify 0 fun
      | .cells _ t frozen => .cells #[.iface 269 (.pointer (some ⟨low, 0, none⟩))] t frozen
      | o => o).modify 1 fun
      | .cells _ t frozen => .cells #[.int .i64 31, .int .i64 28, .int .i64 31, .int .i64 30, .int .i64 31, .int .i64 30, .int .i64 31, .int .i64 31, .int .i64 30, .int .i64 31, .int .i64 30, .int .i64 31] t frozen
      | o => o) }
theorem laid_met (os : Os) : laidMetH Tryz.prog Rows.fnExactLostRow.laid ((laidWorld os).forCall (fun _ _ => 0) ⟨#[], #[.agg #[.string ByteArray.empty, .int .i64 0, .int .i64 0, .slice none 0 0, .slice none 0 0, .slice none 0 0, .int .i64 0], .int .i64 0], []⟩).memory :=
  laidMetH_of_parts (laidMet_of_run' 8 (by kernel_rfl) (by kernel_rfl)) (by kernel_rfl)
theorem reads (os : Os) {H : Type} (enc : TypeId × Value → H) : ∃ places, DataW.whole enc Tryz.prog ((laidWorld os).forCall (fun _ _ => 0) ⟨#[], #[.agg #[.string ByteArray.empty, .int .i64 0, .int .i64 0, .slice none 0 0, .slice none 0 0, .slice none 0 0, .int .i64 0], .int .i64 0], []⟩).memory Tryz.f5.params.toList Rows.fnExactLostSpec.vars false (#[.agg #[.string ByteArray.empty, .int .i64 0, .int .i64 0, .slice none 0 0, .slice none 0 0, .slice none 0 0, .int .i64 0], .int .i64 0] : Array Value).toList 8 = some ([.agg [.lit (.string []), .lit (.int .i64 0), .lit (.int .i64 0), .nil, .nil, .nil, .lit (.int .i64 0)], .lit (.int .i64 0)], [.held (enc (269, .pointer (some ⟨low, 0, none⟩))), Rows.laid_loop_example_g00638_impl_monthLengths], places) :=
  ⟨MemPlace.row ⟨0, 0, none⟩ 1 ++ [] ++ MemPlace.row ⟨1, 0, none⟩ 12 ++ [] ++ [], by kernel_rfl⟩
set_option maxRecDepth 100000 in
theorem lifted (os : Os) (started : os.Started) (H : Type) (enc : TypeId × Value → H) (F : Stop.Interp) :
    ReturnsInHanded {} Tryz.checked os 5 .any ((OpenSpec.ofChange Rows.fnExactLostSpec).preRow enc Tryz.prog Tryz.f5 Rows.fnExactLostRow.domain false Rows.fnExactLostRow.laid) (((OpenSpec.ofChange Rows.fnExactLostSpec).at F).post enc Tryz.prog Tryz.f5 false true false false) := by
  obtain ⟨places, hx⟩ := reads os enc
  refine returnsInHanded_of_row (C := Tryz.checked) (s := OpenSpec.ofChange Rows.fnExactLostSpec) own started (by kernel_rfl) Tryz.func5
    (witness_row_at (enc := enc) (C := Tryz.checked) false (laidWorld os) #[.agg #[.string ByteArray.empty, .int .i64 0, .int .i64 0, .slice none 0 0, .slice none 0 0, .slice none 0 0, .int .i64 0], .int .i64 0] rfl (by kernel_rfl) (by kernel_rfl) (by kernel_rfl)
      (OpenSpec.preRow_of_cond 8 hx (by kernel_rfl) (fun k hk => by cases hk) (by kernel_rfl) (laid_met os))) ?_
  intro W base args ds gs before hval hW _ _ _ hL _ _
  exact contract H enc W base args ds gs before hval hW hL
theorem said : Rows.FnExactLostSaid :=
  OpenClaim.holds_of_cond 5 Tryz.f5 rfl rfl rfl rfl rfl rfl rfl ⟨rfl, rfl, rfl, rfl, rfl⟩ rfl rfl rfl rfl rfl (by kernel_rfl) Tryz.func5 (by kernel_rfl)
    (of_decide_eq_true (by kernel_rfl)) (by unfold Func.isWrapper; first | (rw [if_pos (by decide +kernel)]; kernel_rfl) | (rw [if_neg (by decide +kernel)]; exact ⟨rfl, rfl⟩))
    (fun os started H enc _ F => by rw [OpenClaim.pre_eq_preRow]; exact lifted os started H enc F)
theorem plain (f : FuncId) (fn : Func) (hf : Tryz.pinned.checked.prog.funcNamed "loop.example/g00638/laws.FnExactLost" = some f) (hfn : Tryz.pinned.checked.prog.funcs[f]? = some fn) :
    true = Tryz.pinned.checked.prog.looks [] ∧ ∀ (j : Nat) t, fn.params[j]? = some t → Tryz.pinned.checked.prog.wantsStandIn t = false := by
  obtain rfl : f = 5 := Option.some.inj ((show Tryz.prog.funcNamed "loop.example/g00638/laws.FnExactLost" = some 5 by kernel_rfl).symm.trans hf) |>.symm
  obtain rfl : fn = Tryz.f5 := (Option.some.inj (Tryz.func5.symm.trans hfn)).symm
  refine ⟨by kernel_rfl, fun j t ht => ?_⟩
  rw [Tryz.params5] at ht
  have ht : t = 26 ∨ t = 3 := by simpa using Array.mem_of_getElem? ht
  rcases ht with rfl | rfl
  · exact (show Tryz.prog.wantsStandIn 26 = false by kernel_rfl)
  · exact (show Tryz.prog.wantsStandIn 3 = false by kernel_rfl)
theorem card : Rows.FnExactLostCardSaid :=
  Claim7.holds_tied_plain_at .later [] _ _ _ _ said (fun _ h => by cases h) (by kernel_rfl) (fun _ h => by cases h) fnExactLost_row_tie rfl ⟨rfl, rfl⟩ (by kernel_rfl) rfl plain (by kernel_rfl)
end Go.Proofs.YtdgolaaheakfoaaGreatDoor.fnExactLost
namespace Go.Proofs.YtdgolaaheakfoaaGreatDoor
theorem fnExactLost_holds : Rows.FnExactLostCardSaid := fnExactLost.card
#print axioms fnExactLost_holds
end Go.Proofs.YtdgolaaheakfoaaGreatDoor
