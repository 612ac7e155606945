/- The law of Means holds: at every regime, every saying and every day the program answers as the model, whatever order of evaluation Go leaves open; it writes into no argument. -/
import Derived.Test.YtdgolaaheakfoaaGreatDoorCards
import Derived.Test.YtdgolaaheakfoaaGreatDoorTie
import Derived.Test.YtdgolaaheakfoaaGreatDoorJnSaj
import Derived.Test.YtdgolaaheakfoaaGreatDoorJnSbs
import Derived.Test.YtdgolaaheakfoaaGreatDoorJnSak
import Derived.Test.YtdgolaaheakfoaaGreatDoorRgmOpenS
import Derived.Test.YtdgolaaheakfoaaGreatDoorWhnToSS
import Derived.WalkKit
import Derived.ProofKit
import Derived.OpenShut
import Derived.ShutString
import Derived.ChangeOld
import Derived.Below
import Derived.Deep.DeepHandedRow
import Derived.Lib.LaidTab
import Derived.Lib.SmallJoins
import Derived.Deep.CutRange
import Derived.LaidHandle
import Derived.LaidLaws
namespace Go.Proofs.YtdgolaaheakfoaaGreatDoor.fnExactMeans
open Go.ChangeShapes Go.WideShapes Go.ChangeAt Go.RowKit
open Go.ChangeMaps (open_string shut_string)
set_option linter.unusedVariables false
theorem own : ownKnob Tryz.prog.godebug = none := by kernel_rfl
theorem laidOut : laidOutB Tryz.prog = true := by kernel_rfl
theorem tab0 {W : World} (h : laidMetH Tryz.prog Rows.fnExactMeansRow.laid W) : ctr.ErrT W := by
  have h0 : laidMet Tryz.prog [("loop.example/g00638/impl.errNoTable", Rows.laid_loop_example_g00638_impl_errNoTable), ("loop.example/g00638/impl.monthLengths", Rows.laid_loop_example_g00638_impl_monthLengths)] W ∧ handlesMet Tryz.prog [("errors.errorType", Rows.laid_errors_errorType)] W := h
  exact kit.err_of h0.2
theorem g1 : Tryz.prog.globalNamed "loop.example/g00638/impl.errNoTable" = some 0 := by kernel_rfl
theorem gt1 : (Tryz.prog.globals[0]?).map (·.type) = some 181 := by kernel_rfl
theorem tab1 {W : World} (h : laidMetH Tryz.prog Rows.fnExactMeansRow.laid W) : ∃ a, ctr.Sent W a := by
  have h0 : laidMet Tryz.prog [("loop.example/g00638/impl.errNoTable", Rows.laid_loop_example_g00638_impl_errNoTable), ("loop.example/g00638/impl.monthLengths", Rows.laid_loop_example_g00638_impl_monthLengths)] W := h.1
  exact kit.sent_of h0
theorem g2 : Tryz.prog.globalNamed "loop.example/g00638/impl.monthLengths" = some 1 := by kernel_rfl
theorem gt2 : (Tryz.prog.globals[1]?).map (·.type) = some 192 := by kernel_rfl
theorem ce2 : Tryz.prog.cellsOf 3 = 1 := by kernel_rfl
theorem ct2 : Tryz.prog.cellsOf 192 = 12 := by kernel_rfl
theorem tab2 {W : World} (h : laidMetH Tryz.prog Rows.fnExactMeansRow.laid W) : Lib.TabIs Tryz.prog W "loop.example/g00638/impl.monthLengths" .i64 [31, 28, 31, 30, 31, 30, 31, 31, 30, 31, 30, 31] := by
  have h0 : laidMet Tryz.prog [("loop.example/g00638/impl.errNoTable", Rows.laid_loop_example_g00638_impl_errNoTable), ("loop.example/g00638/impl.monthLengths", Rows.laid_loop_example_g00638_impl_monthLengths)] W := h.1
  have h1 := laidMet.tail h0
  exact Lib.tabIs_of_head (rest := []) g2 gt2 Tryz.underlying192 Tryz.underlying3 ce2 ct2 h1
set_option maxRecDepth 100000 in
set_option maxHeartbeats 8000000 in
theorem walk (v : Value) (r : ctr.Rgm) (k m d a b c : Int) (t : Bool) (s : ByteArray) (p y so ca : Int) (hs : s.size ≤ maxLen) (n : Int) (_ : (Lit.int .i64 n).wf = true) (w : World) (h : ctr.GIn w v r) (wf : (Lit.int .i64 r.fr).wf = true) (wt : (Lit.int .i64 r.to).wf = true) (t0 : ctr.ErrT w) (t2 : ∃ q, ctr.Sent w q) (t1 : ctr.Tab w) :
    Calls Tryz.prog 3 #[v, .agg #[.int .i64 k, .int .i64 m, .int .i64 d, .int .i64 a, .int .i64 b, .int .i64 c, .bool t, .string s, .int .i64 p, .int .i64 y, .int .i64 so, .int .i64 ca], .int .i64 n] w fun e w' => e = .returned (.bool true) ∧ Below w.heap.size w w' := by
  have H := ctr.hideP h
  obtain ⟨a1, n1, c1, a2, n2, c2, a3, n3, c3, ev, _⟩ := h
  subst ev
  obtain ⟨W0, hW0, hD, hR, hBl⟩ := ctr.two_box w #[.string r.name, .int .i64 r.fr, .int .i64 r.to, .slice a1 n1 c1, .slice a2 n2 c2, .slice a3 n3 c3, .int .i64 r.rule] #[.int .i64 k, .int .i64 m, .int .i64 d, .int .i64 a, .int .i64 b, .int .i64 c, .bool t, .string s, .int .i64 p, .int .i64 y, .int .i64 so, .int .i64 ca] 26 32
  have d0_ : ∀ x : ctr.Later W0, x.w.cell? ⟨w.heap.size, 0, none⟩ = some (.string r.name) := fun x => (hD x).cell 0 rfl
  have d1_ : ∀ x : ctr.Later W0, x.w.cell? ⟨w.heap.size, 1, none⟩ = some (.int .i64 r.fr) := fun x => (hD x).cell 1 rfl
  have d2_ : ∀ x : ctr.Later W0, x.w.cell? ⟨w.heap.size, 2, none⟩ = some (.int .i64 r.to) := fun x => (hD x).cell 2 rfl
  have d3_ : ∀ x : ctr.Later W0, x.w.cell? ⟨w.heap.size, 3, none⟩ = some (.slice a1 n1 c1) := fun x => (hD x).cell 3 rfl
  have d4_ : ∀ x : ctr.Later W0, x.w.cell? ⟨w.heap.size, 4, none⟩ = some (.slice a2 n2 c2) := fun x => (hD x).cell 4 rfl
  have d5_ : ∀ x : ctr.Later W0, x.w.cell? ⟨w.heap.size, 5, none⟩ = some (.slice a3 n3 c3) := fun x => (hD x).cell 5 rfl
  have d6_ : ∀ x : ctr.Later W0, x.w.cell? ⟨w.heap.size, 6, none⟩ = some (.int .i64 r.rule) := fun x => (hD x).cell 6 rfl
  have q0_ : ∀ x : ctr.Later W0, x.w.cell? ⟨w.heap.size + 1, 0, none⟩ = some (.int .i64 k) := fun x => (hR x).cell 0 rfl
  have q1_ : ∀ x : ctr.Later W0, x.w.cell? ⟨w.heap.size + 1, 1, none⟩ = some (.int .i64 m) := fun x => (hR x).cell 1 rfl
  have q2_ : ∀ x : ctr.Later W0, x.w.cell? ⟨w.heap.size + 1, 2, none⟩ = some (.int .i64 d) := fun x => (hR x).cell 2 rfl
  have q3_ : ∀ x : ctr.Later W0, x.w.cell? ⟨w.heap.size + 1, 3, none⟩ = some (.int .i64 a) := fun x => (hR x).cell 3 rfl
  have q4_ : ∀ x : ctr.Later W0, x.w.cell? ⟨w.heap.size + 1, 4, none⟩ = some (.int .i64 b) := fun x => (hR x).cell 4 rfl
  have q5_ : ∀ x : ctr.Later W0, x.w.cell? ⟨w.heap.size + 1, 5, none⟩ = some (.int .i64 c) := fun x => (hR x).cell 5 rfl
  have q6_ : ∀ x : ctr.Later W0, x.w.cell? ⟨w.heap.size + 1, 6, none⟩ = some (.bool t) := fun x => (hR x).cell 6 rfl
  have q7_ : ∀ x : ctr.Later W0, x.w.cell? ⟨w.heap.size + 1, 7, none⟩ = some (.string s) := fun x => (hR x).cell 7 rfl
  have q8_ : ∀ x : ctr.Later W0, x.w.cell? ⟨w.heap.size + 1, 8, none⟩ = some (.int .i64 p) := fun x => (hR x).cell 8 rfl
  have q9_ : ∀ x : ctr.Later W0, x.w.cell? ⟨w.heap.size + 1, 9, none⟩ = some (.int .i64 y) := fun x => (hR x).cell 9 rfl
  have q10_ : ∀ x : ctr.Later W0, x.w.cell? ⟨w.heap.size + 1, 10, none⟩ = some (.int .i64 so) := fun x => (hR x).cell 10 rfl
  have q11_ : ∀ x : ctr.Later W0, x.w.cell? ⟨w.heap.size + 1, 11, none⟩ = some (.int .i64 ca) := fun x => (hR x).cell 11 rfl
  have HW0 := ctr.hideP hW0
  have HBl := ctr.hideP hBl
  have KZ : Hid (∀ x : ctr.Later W0, Calls Tryz.prog 7 #[.agg #[.string r.name, .int .i64 r.fr, .int .i64 r.to, .slice a1 n1 c1, .slice a2 n2 c2, .slice a3 n3 c3, .int .i64 r.rule], .int .i64 1048576] x.w fun e w' => ∃ z : Int, e = .returned (.int .i64 z) ∧ (z = -1 ∨ (0 ≤ z ∧ z ≤ 1048576 ∧ ctr.GOk r)) ∧ Below x.w.heap.size x.w w') := fun x => ctr.szRegime _ r 1048576 x.w (H.out.below (HBl.out x)) (by omega) (by omega)
  have KY : Hid (∀ (z : Int) W, 0 ≤ z → z ≤ 1048576 → Calls Tryz.prog 8 #[.agg #[.int .i64 k, .int .i64 m, .int .i64 d, .int .i64 a, .int .i64 b, .int .i64 c, .bool t, .string s, .int .i64 p, .int .i64 y, .int .i64 so, .int .i64 ca], .int .i64 z] W fun e w' => e = .returned (.int .i64 (if z < s.size then -1 else z - s.size)) ∧ Below W.heap.size W w') := fun z W z1 z2 => ctr.szSay k m d a b c t s p y so ca z W hs z1 z2
  have KT : Hid (ctr.GOk r → ∀ x : ctr.Later W0, Calls Tryz.prog 10 #[.agg #[.string r.name, .int .i64 r.fr, .int .i64 r.to, .slice a1 n1 c1, .slice a2 n2 c2, .slice a3 n3 c3, .int .i64 r.rule]] x.w fun e w' => ∃ o, e = .returned o ∧ ctr.GNew x.w w' o r ∧ Below x.w.heap.size x.w w') := fun ho x => ctr.toRegime _ r x.w (H.out.below (HBl.out x)) ho
  have KU : Hid (∀ W, Calls Tryz.prog 11 #[.agg #[.int .i64 k, .int .i64 m, .int .i64 d, .int .i64 a, .int .i64 b, .int .i64 c, .bool t, .string s, .int .i64 p, .int .i64 y, .int .i64 so, .int .i64 ca]] W fun e w' => e = .returned (.agg #[.int .i64 k, .int .i64 m, .int .i64 d, .int .i64 a, .int .i64 b, .int .i64 c, .bool t, .string s, .int .i64 p, .int .i64 y, .int .i64 so, .int .i64 ca]) ∧ Below W.heap.size W w') := fun W => ctr.toSay k m d a b c t s p y so ca W
  have KE : Hid (∀ v1 v2 W, ctr.GRow W v1 r → ctr.GRow W v2 r → Calls Tryz.prog 13 #[v1, v2] W fun e w' => e = .returned (.bool true) ∧ Below W.heap.size W w') := fun v1 v2 W g1 g2 => ctr.eqRegime v1 v2 r W g1 g2
  have bf := (kit.wf_bounds wf).1
  have bt := (kit.wf_bounds wt).2
  obtain ⟨q, t3⟩ := t2
  have KS : Hid (∀ v W, ctr.GRow W v r → Calls Tryz.prog 9 #[v, .agg #[.int .i64 k, .int .i64 m, .int .i64 d, .int .i64 a, .int .i64 b, .int .i64 c, .bool t, .string s, .int .i64 p, .int .i64 y, .int .i64 so, .int .i64 ca], .int .i64 n] W fun e w' => e = .returned (.bool (ctr.meansB r ⟨⟨k, m, d, ⟨a, b, c, t⟩, s, p⟩, y, so, ca⟩ n)) ∧ Below W.heap.size W w') := fun v W g => ctr.specMeans v r ⟨⟨k, m, d, ⟨a, b, c, t⟩, s, p⟩, y, so, ca⟩ n W g bf bt
  have KI : Hid (∀ v W, Below w.heap.size w W → ctr.GRow W v r → Calls Tryz.prog 12 #[v, .agg #[.int .i64 k, .int .i64 m, .int .i64 d, .int .i64 a, .int .i64 b, .int .i64 c, .bool t, .string s, .int .i64 p, .int .i64 y, .int .i64 so, .int .i64 ca], .int .i64 n] W fun e w' => e = .returned (.bool (ctr.meansB r ⟨⟨k, m, d, ⟨a, b, c, t⟩, s, p⟩, y, so, ca⟩ n)) ∧ Below W.heap.size W w') := fun v W hb g => ctr.implMeans v r ⟨⟨k, m, d, ⟨a, b, c, t⟩, s, p⟩, y, so, ca⟩ n q W g bt (t0.below hb) (t1.later hb) (t3.later hb)
  generalize ctr.meansB r ⟨⟨k, m, d, ⟨a, b, c, t⟩, s, p⟩, y, so, ca⟩ n = ok at *
  clear bf bt t0 t1 t3 hs
  clear hW0 hBl H hD hR
  go_enter Tryz.func3, Tryz.ntmps3
  go_wp2_with fail
  rw [← HW0.out]
  refine (KZ.out ⟨W0, Below.refl _ _⟩).mono ?_
  rintro e w1 ⟨z, rfl, hz, hb⟩
  obtain ⟨x1, rfl⟩ := ctr.Later.of hb
  have HZ := ctr.hideP hz
  clear hb hz
  rcases HZ.out with rfl | ⟨z1, z2, ho⟩
  · go_wp2_with fail
    go_ret
    exact ⟨rfl, HBl.out x1⟩
  have HO := ctr.hideP ho
  have KY1 := KY.out z x1.w z1 z2
  have hz2 : (if z < (s.size : Int) then -1 else z - (s.size : Int)) = -1 ∨ 0 ≤ (if z < (s.size : Int) then -1 else z - (s.size : Int)) := by split <;> omega
  generalize (if z < (s.size : Int) then -1 else z - (s.size : Int)) = zz at *
  clear ho KZ KY
  have hz1 : (z < 0) = False := eq_false (by omega)
  go_wp2_with fail
  refine KY1.mono ?_
  rintro e w2 ⟨rfl, hb⟩
  obtain ⟨x2, rfl⟩ := x1.next hb
  clear hb KY1 HZ z1 z2 hz1
  rcases hz2 with rfl | hz2
  · go_wp2_with fail
    go_ret
    exact ⟨rfl, HBl.out x2⟩
  go_upto_region 8 with fail
  go_cut [8] (fun s8 wx => s8 = .bool ok ∧ ∃ x : ctr.Later W0, wx = x.w)
  case first =>
    have D2 : Below W0.heap.size W0 x2.w.drew := x2.below.drew
    have KCE : Hid (∀ V, Below W0.heap.size W0 V → V.cell? ⟨w.heap.size, 0, none⟩ = some (.string r.name) ∧ V.cell? ⟨w.heap.size, 1, none⟩ = some (.int .i64 r.fr) ∧ V.cell? ⟨w.heap.size, 2, none⟩ = some (.int .i64 r.to) ∧ V.cell? ⟨w.heap.size, 3, none⟩ = some (.slice a1 n1 c1) ∧ V.cell? ⟨w.heap.size, 4, none⟩ = some (.slice a2 n2 c2) ∧ V.cell? ⟨w.heap.size, 5, none⟩ = some (.slice a3 n3 c3) ∧ V.cell? ⟨w.heap.size, 6, none⟩ = some (.int .i64 r.rule) ∧ V.cell? ⟨w.heap.size + 1, 0, none⟩ = some (.int .i64 k) ∧ V.cell? ⟨w.heap.size + 1, 1, none⟩ = some (.int .i64 m) ∧ V.cell? ⟨w.heap.size + 1, 2, none⟩ = some (.int .i64 d) ∧ V.cell? ⟨w.heap.size + 1, 3, none⟩ = some (.int .i64 a) ∧ V.cell? ⟨w.heap.size + 1, 4, none⟩ = some (.int .i64 b) ∧ V.cell? ⟨w.heap.size + 1, 5, none⟩ = some (.int .i64 c) ∧ V.cell? ⟨w.heap.size + 1, 6, none⟩ = some (.bool t) ∧ V.cell? ⟨w.heap.size + 1, 7, none⟩ = some (.string s) ∧ V.cell? ⟨w.heap.size + 1, 8, none⟩ = some (.int .i64 p) ∧ V.cell? ⟨w.heap.size + 1, 9, none⟩ = some (.int .i64 y) ∧ V.cell? ⟨w.heap.size + 1, 10, none⟩ = some (.int .i64 so) ∧ V.cell? ⟨w.heap.size + 1, 11, none⟩ = some (.int .i64 ca)) := fun V hb => ⟨d0_ ⟨V, hb⟩, d1_ ⟨V, hb⟩, d2_ ⟨V, hb⟩, d3_ ⟨V, hb⟩, d4_ ⟨V, hb⟩, d5_ ⟨V, hb⟩, d6_ ⟨V, hb⟩, q0_ ⟨V, hb⟩, q1_ ⟨V, hb⟩, q2_ ⟨V, hb⟩, q3_ ⟨V, hb⟩, q4_ ⟨V, hb⟩, q5_ ⟨V, hb⟩, q6_ ⟨V, hb⟩, q7_ ⟨V, hb⟩, q8_ ⟨V, hb⟩, q9_ ⟨V, hb⟩, q10_ ⟨V, hb⟩, q11_ ⟨V, hb⟩⟩
    go_region_held (fun w' => w'.cell? ⟨w.heap.size, 0, none⟩ = some (.string r.name) ∧ w'.cell? ⟨w.heap.size, 1, none⟩ = some (.int .i64 r.fr) ∧ w'.cell? ⟨w.heap.size, 2, none⟩ = some (.int .i64 r.to) ∧ w'.cell? ⟨w.heap.size, 3, none⟩ = some (.slice a1 n1 c1) ∧ w'.cell? ⟨w.heap.size, 4, none⟩ = some (.slice a2 n2 c2) ∧ w'.cell? ⟨w.heap.size, 5, none⟩ = some (.slice a3 n3 c3) ∧ w'.cell? ⟨w.heap.size, 6, none⟩ = some (.int .i64 r.rule) ∧ w'.cell? ⟨w.heap.size + 1, 0, none⟩ = some (.int .i64 k) ∧ w'.cell? ⟨w.heap.size + 1, 1, none⟩ = some (.int .i64 m) ∧ w'.cell? ⟨w.heap.size + 1, 2, none⟩ = some (.int .i64 d) ∧ w'.cell? ⟨w.heap.size + 1, 3, none⟩ = some (.int .i64 a) ∧ w'.cell? ⟨w.heap.size + 1, 4, none⟩ = some (.int .i64 b) ∧ w'.cell? ⟨w.heap.size + 1, 5, none⟩ = some (.int .i64 c) ∧ w'.cell? ⟨w.heap.size + 1, 6, none⟩ = some (.bool t) ∧ w'.cell? ⟨w.heap.size + 1, 7, none⟩ = some (.string s) ∧ w'.cell? ⟨w.heap.size + 1, 8, none⟩ = some (.int .i64 p) ∧ w'.cell? ⟨w.heap.size + 1, 9, none⟩ = some (.int .i64 y) ∧ w'.cell? ⟨w.heap.size + 1, 10, none⟩ = some (.int .i64 so) ∧ w'.cell? ⟨w.heap.size + 1, 11, none⟩ = some (.int .i64 ca)) (exact KCE.out _ (by assumption)) (first | (go_at_call 10; refine (KT.out HO.out ⟨_, D2⟩).mono ?_; rintro e V ⟨o1, rfl, hn, hb⟩; have BV : Below W0.heap.size W0 V := D2.trans (hb.mono D2.size); have RV := ctr.hideP (hn.row HO.out); obtain ⟨p1, p2, p3, rfl, _⟩ := hn; clear hb) | (go_at_call 11; refine (KU.out _).mono ?_; rintro e V2 ⟨rfl, hb⟩; have BV2 : Below W0.heap.size W0 V2 := BV.trans (hb.mono BV.size); have RV2 := ctr.hideP (RV.out.below hb); clear hb) | (go_at_call 9; refine (KS.out _ _ RV2.out).mono ?_; rintro e V3 ⟨rfl, hb⟩; have BV3 : Below W0.heap.size W0 V3 := BV2.trans (hb.mono BV2.size); clear hb))
    all_goals (go_wp2_with fail; go_meet)
    all_goals exact ⟨rfl, ⟨_, BV3⟩, rfl⟩
  case rest =>
  obtain ⟨rfl, x3, rfl⟩ := hcut
  clear KS
  go_wp2_with fail
  refine (KT.out HO.out x3).mono ?_
  rintro e w4 ⟨o2, rfl, hn, hb⟩
  obtain ⟨x4, rfl⟩ := x3.next hb
  have R2 := ctr.hideP (hn.row HO.out)
  obtain ⟨p1, p2, p3, rfl, ⟨s1, s2, rfl, _⟩, ⟨s3, s4, rfl, _⟩, ⟨s5, s6, rfl, _⟩⟩ := hn
  clear hb
  obtain ⟨W5, hW5, f0, f1, f2, f3, f4, f5, f6, hBl5⟩ := ctr.seven_box x4.w (.string r.name) (.int .i64 r.fr) (.int .i64 r.to) (.slice (some ⟨s1, 0, none⟩) r.segs.length r.segs.length) (.slice (some ⟨s3, 0, none⟩) r.pats.length r.pats.length) (.slice (some ⟨s5, 0, none⟩) r.rgns.length r.rgns.length) (.int .i64 r.rule) 40
  have B5 : Below W0.heap.size W0 W5 := x4.on (hBl5 ⟨W5, Below.refl _ _⟩)
  have e0_ : ∀ x : ctr.Later W5, x.w.cell? ⟨w.heap.size, 0, none⟩ = some (.string r.name) := fun x => d0_ ⟨x.w, B5.trans (x.below.mono B5.size)⟩
  have e1_ : ∀ x : ctr.Later W5, x.w.cell? ⟨w.heap.size, 1, none⟩ = some (.int .i64 r.fr) := fun x => d1_ ⟨x.w, B5.trans (x.below.mono B5.size)⟩
  have e2_ : ∀ x : ctr.Later W5, x.w.cell? ⟨w.heap.size, 2, none⟩ = some (.int .i64 r.to) := fun x => d2_ ⟨x.w, B5.trans (x.below.mono B5.size)⟩
  have e3_ : ∀ x : ctr.Later W5, x.w.cell? ⟨w.heap.size, 3, none⟩ = some (.slice a1 n1 c1) := fun x => d3_ ⟨x.w, B5.trans (x.below.mono B5.size)⟩
  have e4_ : ∀ x : ctr.Later W5, x.w.cell? ⟨w.heap.size, 4, none⟩ = some (.slice a2 n2 c2) := fun x => d4_ ⟨x.w, B5.trans (x.below.mono B5.size)⟩
  have e5_ : ∀ x : ctr.Later W5, x.w.cell? ⟨w.heap.size, 5, none⟩ = some (.slice a3 n3 c3) := fun x => d5_ ⟨x.w, B5.trans (x.below.mono B5.size)⟩
  have e6_ : ∀ x : ctr.Later W5, x.w.cell? ⟨w.heap.size, 6, none⟩ = some (.int .i64 r.rule) := fun x => d6_ ⟨x.w, B5.trans (x.below.mono B5.size)⟩
  have u0_ : ∀ x : ctr.Later W5, x.w.cell? ⟨w.heap.size + 1, 0, none⟩ = some (.int .i64 k) := fun x => q0_ ⟨x.w, B5.trans (x.below.mono B5.size)⟩
  have u1_ : ∀ x : ctr.Later W5, x.w.cell? ⟨w.heap.size + 1, 1, none⟩ = some (.int .i64 m) := fun x => q1_ ⟨x.w, B5.trans (x.below.mono B5.size)⟩
  have u2_ : ∀ x : ctr.Later W5, x.w.cell? ⟨w.heap.size + 1, 2, none⟩ = some (.int .i64 d) := fun x => q2_ ⟨x.w, B5.trans (x.below.mono B5.size)⟩
  have u3_ : ∀ x : ctr.Later W5, x.w.cell? ⟨w.heap.size + 1, 3, none⟩ = some (.int .i64 a) := fun x => q3_ ⟨x.w, B5.trans (x.below.mono B5.size)⟩
  have u4_ : ∀ x : ctr.Later W5, x.w.cell? ⟨w.heap.size + 1, 4, none⟩ = some (.int .i64 b) := fun x => q4_ ⟨x.w, B5.trans (x.below.mono B5.size)⟩
  have u5_ : ∀ x : ctr.Later W5, x.w.cell? ⟨w.heap.size + 1, 5, none⟩ = some (.int .i64 c) := fun x => q5_ ⟨x.w, B5.trans (x.below.mono B5.size)⟩
  have u6_ : ∀ x : ctr.Later W5, x.w.cell? ⟨w.heap.size + 1, 6, none⟩ = some (.bool t) := fun x => q6_ ⟨x.w, B5.trans (x.below.mono B5.size)⟩
  have u7_ : ∀ x : ctr.Later W5, x.w.cell? ⟨w.heap.size + 1, 7, none⟩ = some (.string s) := fun x => q7_ ⟨x.w, B5.trans (x.below.mono B5.size)⟩
  have u8_ : ∀ x : ctr.Later W5, x.w.cell? ⟨w.heap.size + 1, 8, none⟩ = some (.int .i64 p) := fun x => q8_ ⟨x.w, B5.trans (x.below.mono B5.size)⟩
  have u9_ : ∀ x : ctr.Later W5, x.w.cell? ⟨w.heap.size + 1, 9, none⟩ = some (.int .i64 y) := fun x => q9_ ⟨x.w, B5.trans (x.below.mono B5.size)⟩
  have u10_ : ∀ x : ctr.Later W5, x.w.cell? ⟨w.heap.size + 1, 10, none⟩ = some (.int .i64 so) := fun x => q10_ ⟨x.w, B5.trans (x.below.mono B5.size)⟩
  have u11_ : ∀ x : ctr.Later W5, x.w.cell? ⟨w.heap.size + 1, 11, none⟩ = some (.int .i64 ca) := fun x => q11_ ⟨x.w, B5.trans (x.below.mono B5.size)⟩
  have HE : Hid (∀ x : ctr.Later W5, ∃ y : ctr.Later W0, y.w = x.w) := fun x => ⟨⟨x.w, B5.trans (x.below.mono B5.size)⟩, rfl⟩
  have R5 : Hid (∀ x : ctr.Later W5, ctr.GRow x.w (.agg #[.string r.name, .int .i64 r.fr, .int .i64 r.to, .slice (some ⟨s1, 0, none⟩) r.segs.length r.segs.length, .slice (some ⟨s3, 0, none⟩) r.pats.length r.pats.length, .slice (some ⟨s5, 0, none⟩) r.rgns.length r.rgns.length, .int .i64 r.rule]) r) := fun x => R2.out.below (hBl5 x)
  have KT5 : Hid (∀ W, Below W5.heap.size W5 W → Calls Tryz.prog 10 #[.agg #[.string r.name, .int .i64 r.fr, .int .i64 r.to, .slice a1 n1 c1, .slice a2 n2 c2, .slice a3 n3 c3, .int .i64 r.rule]] W fun e w' => ∃ o, e = .returned o ∧ ctr.GNew W w' o r ∧ Below W.heap.size W w') := fun W hb => KT.out HO.out ⟨W, B5.trans (hb.mono B5.size)⟩
  have KI5 : Hid (∀ x : ctr.Later W5, Calls Tryz.prog 12 #[.agg #[.string r.name, .int .i64 r.fr, .int .i64 r.to, .slice (some ⟨s1, 0, none⟩) r.segs.length r.segs.length, .slice (some ⟨s3, 0, none⟩) r.pats.length r.pats.length, .slice (some ⟨s5, 0, none⟩) r.rgns.length r.rgns.length, .int .i64 r.rule], .agg #[.int .i64 k, .int .i64 m, .int .i64 d, .int .i64 a, .int .i64 b, .int .i64 c, .bool t, .string s, .int .i64 p, .int .i64 y, .int .i64 so, .int .i64 ca], .int .i64 n] x.w fun e w' => e = .returned (.bool ok) ∧ Below x.w.heap.size x.w w') := fun x => by
    obtain ⟨z, hz⟩ := HE.out x
    exact KI.out _ x.w (hz ▸ HBl.out z) (R5.out x)
  have HW5 := ctr.hideP hW5
  clear hW5 hBl5 B5 R2 KI KT d0_ d1_ d2_ d3_ d4_ d5_ d6_ q0_ q1_ q2_ q3_ q4_ q5_ q6_ q7_ q8_ q9_ q10_ q11_
  go_upto_region 10 with fail
  rw [← HW5.out]
  obtain ⟨x5, hx5⟩ : ∃ x5 : ctr.Later W5, W5 = x5.w := ⟨⟨W5, Below.refl _ _⟩, rfl⟩
  have D5 : Below W5.heap.size W5 W5.drew := (Below.refl _ _).drew
  clear hx5
  go_cut [10] (fun s10 wx => s10 = .bool ok ∧ ∃ x : ctr.Later W5, wx = x.w)
  case first =>
    have KCE : Hid (∀ V, Below W5.heap.size W5 V → V.cell? ⟨x4.w.heap.size, 0, none⟩ = some (.string r.name) ∧ V.cell? ⟨x4.w.heap.size, 1, none⟩ = some (.int .i64 r.fr) ∧ V.cell? ⟨x4.w.heap.size, 2, none⟩ = some (.int .i64 r.to) ∧ V.cell? ⟨x4.w.heap.size, 3, none⟩ = some (.slice (some ⟨s1, 0, none⟩) r.segs.length r.segs.length) ∧ V.cell? ⟨x4.w.heap.size, 4, none⟩ = some (.slice (some ⟨s3, 0, none⟩) r.pats.length r.pats.length) ∧ V.cell? ⟨x4.w.heap.size, 5, none⟩ = some (.slice (some ⟨s5, 0, none⟩) r.rgns.length r.rgns.length) ∧ V.cell? ⟨x4.w.heap.size, 6, none⟩ = some (.int .i64 r.rule) ∧ V.cell? ⟨w.heap.size + 1, 0, none⟩ = some (.int .i64 k) ∧ V.cell? ⟨w.heap.size + 1, 1, none⟩ = some (.int .i64 m) ∧ V.cell? ⟨w.heap.size + 1, 2, none⟩ = some (.int .i64 d) ∧ V.cell? ⟨w.heap.size + 1, 3, none⟩ = some (.int .i64 a) ∧ V.cell? ⟨w.heap.size + 1, 4, none⟩ = some (.int .i64 b) ∧ V.cell? ⟨w.heap.size + 1, 5, none⟩ = some (.int .i64 c) ∧ V.cell? ⟨w.heap.size + 1, 6, none⟩ = some (.bool t) ∧ V.cell? ⟨w.heap.size + 1, 7, none⟩ = some (.string s) ∧ V.cell? ⟨w.heap.size + 1, 8, none⟩ = some (.int .i64 p) ∧ V.cell? ⟨w.heap.size + 1, 9, none⟩ = some (.int .i64 y) ∧ V.cell? ⟨w.heap.size + 1, 10, none⟩ = some (.int .i64 so) ∧ V.cell? ⟨w.heap.size + 1, 11, none⟩ = some (.int .i64 ca)) := fun V hb => ⟨f0 ⟨V, hb⟩, f1 ⟨V, hb⟩, f2 ⟨V, hb⟩, f3 ⟨V, hb⟩, f4 ⟨V, hb⟩, f5 ⟨V, hb⟩, f6 ⟨V, hb⟩, u0_ ⟨V, hb⟩, u1_ ⟨V, hb⟩, u2_ ⟨V, hb⟩, u3_ ⟨V, hb⟩, u4_ ⟨V, hb⟩, u5_ ⟨V, hb⟩, u6_ ⟨V, hb⟩, u7_ ⟨V, hb⟩, u8_ ⟨V, hb⟩, u9_ ⟨V, hb⟩, u10_ ⟨V, hb⟩, u11_ ⟨V, hb⟩⟩
    go_region_held (fun w' => w'.cell? ⟨x4.w.heap.size, 0, none⟩ = some (.string r.name) ∧ w'.cell? ⟨x4.w.heap.size, 1, none⟩ = some (.int .i64 r.fr) ∧ w'.cell? ⟨x4.w.heap.size, 2, none⟩ = some (.int .i64 r.to) ∧ w'.cell? ⟨x4.w.heap.size, 3, none⟩ = some (.slice (some ⟨s1, 0, none⟩) r.segs.length r.segs.length) ∧ w'.cell? ⟨x4.w.heap.size, 4, none⟩ = some (.slice (some ⟨s3, 0, none⟩) r.pats.length r.pats.length) ∧ w'.cell? ⟨x4.w.heap.size, 5, none⟩ = some (.slice (some ⟨s5, 0, none⟩) r.rgns.length r.rgns.length) ∧ w'.cell? ⟨x4.w.heap.size, 6, none⟩ = some (.int .i64 r.rule) ∧ w'.cell? ⟨w.heap.size + 1, 0, none⟩ = some (.int .i64 k) ∧ w'.cell? ⟨w.heap.size + 1, 1, none⟩ = some (.int .i64 m) ∧ w'.cell? ⟨w.heap.size + 1, 2, none⟩ = some (.int .i64 d) ∧ w'.cell? ⟨w.heap.size + 1, 3, none⟩ = some (.int .i64 a) ∧ w'.cell? ⟨w.heap.size + 1, 4, none⟩ = some (.int .i64 b) ∧ w'.cell? ⟨w.heap.size + 1, 5, none⟩ = some (.int .i64 c) ∧ w'.cell? ⟨w.heap.size + 1, 6, none⟩ = some (.bool t) ∧ w'.cell? ⟨w.heap.size + 1, 7, none⟩ = some (.string s) ∧ w'.cell? ⟨w.heap.size + 1, 8, none⟩ = some (.int .i64 p) ∧ w'.cell? ⟨w.heap.size + 1, 9, none⟩ = some (.int .i64 y) ∧ w'.cell? ⟨w.heap.size + 1, 10, none⟩ = some (.int .i64 so) ∧ w'.cell? ⟨w.heap.size + 1, 11, none⟩ = some (.int .i64 ca)) (exact KCE.out _ (by assumption)) (first | (go_at_call 11; refine (KU.out _).mono ?_; rintro e V ⟨rfl, hb⟩; have BV : Below W5.heap.size W5 V := D5.trans (hb.mono D5.size); clear hb) | (go_at_call 12; refine (KI5.out ⟨_, BV⟩).mono ?_; rintro e V2 ⟨rfl, hb⟩; have BV2 : Below W5.heap.size W5 V2 := BV.trans (hb.mono BV.size); clear hb))
    all_goals (go_wp2_with fail; go_meet)
    all_goals exact ⟨rfl, ⟨_, BV2⟩, rfl⟩
  case rest =>
  obtain ⟨rfl, x6, rfl⟩ := hcut
  clear KI5 KU
  have e0 : (ok != ok) = false := by simp
  cases ok
  all_goals
    go_wp2_with fail
    go_region_with (first | (go_at_call 10; refine (KT5.out _ x6.below.drew).mono ?_; rintro e w7 ⟨o3, rfl, hn, hb⟩; obtain ⟨x7, rfl⟩ : ∃ x7 : ctr.Later W5, w7 = x7.w := ⟨⟨w7, x6.below.drew.trans (hb.mono x6.below.drew.size)⟩, rfl⟩; have R7 := ctr.hideP (hn.row HO.out); obtain ⟨p1, p2, p3, rfl, _⟩ := hn; clear hb) | (go_at_call 13; refine (KE.out _ _ _ (R5.out x7) R7.out).mono ?_; rintro e w8 ⟨rfl, hb⟩; obtain ⟨x8, rfl⟩ := x7.next hb; clear hb))
    all_goals go_wp2_with fail
    all_goals go_ret
    all_goals (obtain ⟨y, hy⟩ := HE.out x8; exact ⟨rfl, hy ▸ HBl.out y⟩)
theorem readable : ∀ m ∈ Rows.fnExactMeansSpec.vars, ∀ g t, Tryz.prog.globalNamed m = some g → (Tryz.prog.globals[g]?).map (·.type) = some t → Tryz.prog.readableRec t = true ∧ t < Tryz.prog.types.size := by
  intro m hm g t h1 h2
  have hm' : m = "loop.example/g00638/impl.errNoTable" ∨ m = "loop.example/g00638/impl.monthLengths" := by simpa [Rows.fnExactMeansSpec] using hm
  rcases hm' with rfl | rfl
  · obtain rfl := Option.some.inj (g1.symm.trans h1)
    obtain rfl := Option.some.inj (gt1.symm.trans h2)
    exact ⟨by kernel_rfl, of_decide_eq_true (by kernel_rfl)⟩
  · obtain rfl := Option.some.inj (g2.symm.trans h1)
    obtain rfl := Option.some.inj (gt2.symm.trans h2)
    exact ⟨by kernel_rfl, of_decide_eq_true (by kernel_rfl)⟩
set_option maxRecDepth 100000 in
theorem contract (H : Type) (enc : TypeId × Value → H) (W : World) (base : Nat) (args : Array Value) (ds gs : List (DataW H)) (before : List MemPlace)
    (hval : ∀ (j : Nat) t v, Tryz.f3.params[j]? = some t → args[j]? = some v → Value.okWide Tryz.prog W .any base t v)
    (hW : DataW.Whole enc Tryz.prog Tryz.f3.params.toList Rows.fnExactMeansSpec.vars false W args.toList ds gs before) (hL : laidMetH Tryz.prog Rows.fnExactMeansRow.laid W) :
    Calls Tryz.prog 3 args W fun e W' => ∃ v, e = .returned v ∧ Rows.fnExactMeansSpec.post enc Tryz.prog Tryz.f3 false true false false W args v W' := by
  have hW' := hW
  obtain ⟨p, q, hA0, hV, rfl, hfz, hnd⟩ := hW
  have hA : DataW.TrodAll enc Tryz.prog W 0 (fun _ => true) true Tryz.f3.params.toList args.toList ds p := hA0
  rw [Tryz.params3] at hA hval
  obtain ⟨v0, vs0, d0, ds0, p0, q0, hargs, rfl, rfl, h0, r0⟩ := trodAll_cons hA
  obtain ⟨v1, vs1, d1, ds1, p1, q1, rfl, rfl, rfl, h1, r1⟩ := trodAll_cons r0
  obtain ⟨v2, vs2, d2, ds2, p2, q2, rfl, rfl, rfl, h2, r2⟩ := trodAll_cons r1
  obtain ⟨rfl, rfl, rfl⟩ := trodAll_nil r2
  obtain rfl : args = #[v0, v1, v2] := by cases args; simp_all
  have hk : ∀ W', Below W.heap.size W W' → DataW.TrodVars enc Tryz.prog W' (fun b => decide (b < W.heap.size)) Rows.fnExactMeansSpec.vars gs q := fun W' hb => kit.trodVars_kept laidOut hb readable hV (DataW.TrodVars.lt hV)
  obtain ⟨g1, g2, rfl⟩ : ∃ g1 g2, gs = [g1, g2] := kit.gs_two hV
  have k0 := h0
  have lt0 : ∀ x ∈ p0, x.block < W.heap.size := by obtain ⟨m, hm⟩ := k0; exact DataW.trod_lt m _ _ _ hm
  obtain ⟨rg0, hr0, wf0, wt0⟩ := kit.open_rgm Tryz.underlying26 (by kernel_rfl) (show Tryz.prog.cellsOf 26 = 7 by kernel_rfl) Tryz.underlying9 Tryz.underlying3 Tryz.underlying3 Tryz.underlying22 Tryz.underlying23 Tryz.underlying24 Tryz.underlying3 Tryz.underlying118 (show Tryz.prog.cellsOf 118 = 5 by kernel_rfl) rfl (fun j f h => by
      rcases j with _ | _ | _ | _ | _ | j <;> simp at h <;> (try subst h) <;> exact ⟨rfl, by kernel_rfl, Tryz.underlying3⟩) Tryz.underlying122 (show Tryz.prog.cellsOf 122 = 3 by kernel_rfl) rfl (fun j f h => by
      rcases j with _ | _ | _ | j <;> simp at h <;> (try subst h) <;> exact ⟨rfl, by kernel_rfl, Tryz.underlying3⟩) Tryz.underlying111 (show Tryz.prog.cellsOf 111 = 3 by kernel_rfl) rfl rfl rfl (by kernel_rfl) (by kernel_rfl) (by kernel_rfl) Tryz.underlying9 Tryz.underlying3 Tryz.underlying3 (hval 0 26 v0 rfl rfl) h0
  have k1 := h1
  have lt1 : ∀ x ∈ p1, x.block < W.heap.size := by obtain ⟨m, hm⟩ := k1; exact DataW.trod_lt m _ _ _ hm
  obtain ⟨k1_, m1_, d1_, a1_, b1_, c1_, t1_, s1_, p1_, y1_, so1_, ca1_, rfl, w1⟩ := kit.open_say Tryz.underlying32 (show Tryz.prog.cellsOf 32 = 12 by kernel_rfl) rfl rfl (by kernel_rfl) Tryz.underlying3 Tryz.underlying3 Tryz.underlying3 Tryz.underlying30 Tryz.underlying28 rfl (by kernel_rfl) Tryz.underlying3 Tryz.underlying3 Tryz.underlying3 Tryz.underlying9 Tryz.underlying3 Tryz.underlying3 Tryz.underlying3 Tryz.underlying3 Tryz.underlying4 (hval 1 32 v1 rfl rfl) h1
  obtain ⟨a2, rfl, rfl, rfl, w2⟩ := open_int Tryz.underlying3 (hval 2 3 v2 rfl rfl) h2
  clear hA0
  refine (walk v0 rg0 k1_ m1_ d1_ a1_ b1_ c1_ t1_ s1_ p1_ y1_ so1_ ca1_ w1 a2 w2 W hr0 wf0 wt0 (tab0 hL) (tab1 hL) (tab2 hL)).mono fun e W' ⟨he, bel⟩ => ?_
  subst he
  exact ⟨_, rfl, _, _, _, [], _, _, hW', trodAll_mk1 (shut_bool Tryz.underlying4 _), trodAll_cons_mk (Below.trod laidOut (by kernel_rfl) (of_decide_eq_true (by kernel_rfl)) k0 bel lt0) (trodAll_cons_mk (Below.trod laidOut (by kernel_rfl) (of_decide_eq_true (by kernel_rfl)) k1 bel lt1) (trodAll_cons_mk (shut_int Tryz.underlying3 w2) (trodAll_mk0))), hk W' bel, bel.frame _, fun h => by cases h⟩
noncomputable def low : Nat := (World.holding Tryz.prog default ⟨#[], #[], []⟩).heap.size
noncomputable def laidWorld (os : Os) : World :=
  { World.holding Tryz.prog os ⟨#[.cells #[.string ⟨#[110, 111, 32, 116, 97, 98, 108, 101, 32, 111, 102, 32, 114, 101, 105, 103, 110, 115]⟩] 292], #[], []⟩ with heap := ((((World.holding Tryz.prog os ⟨#[.cells #[.string ⟨#[110, 111, 32, 116, 97, 98, 108, 101, 32, 111, 102, 32, 114, 101, 105, 103, 110, 115]⟩] 292], #[], []⟩).heap.modify 2 fun
      | .cells _ t frozen => .cells #[.iface 232 (.agg #[.pointer (some ⟨3, 181, none⟩)])] t frozen
      | o => o).modify 0 fun
      | .cells _ t frozen => .cells #[.iface 269 (.pointer (some ⟨low, 0, none⟩))] t frozen
      | o => o).modify 1 fun
      | .cells _ t frozen => .cells #[.int .i64 31, .int .i64 28, .int .i64 31, .int .i64 30, .int .i64 31, .int .i64 30, .int .i64 31, .int .i64 31, .int .i64 30, .int .i64 31, .int .i64 30, .int .i64 31] t frozen
      | o => o) }
theorem laid_met (os : Os) : laidMetH Tryz.prog Rows.fnExactMeansRow.laid ((laidWorld os).forCall (fun _ _ => 0) ⟨#[], #[.agg #[.string ByteArray.empty, .int .i64 0, .int .i64 0, .slice none 0 0, .slice none 0 0, .slice none 0 0, .int .i64 0], .agg #[.int .i64 0, .int .i64 0, .int .i64 0, .int .i64 0, .int .i64 0, .int .i64 0, .bool false, .string ByteArray.empty, .int .i64 0, .int .i64 0, .int .i64 0, .int .i64 0], .int .i64 0], []⟩).memory :=
  laidMetH_of_parts (laidMet_of_run' 8 (by kernel_rfl) (by kernel_rfl)) (by kernel_rfl)
theorem reads (os : Os) {H : Type} (enc : TypeId × Value → H) : ∃ places, DataW.whole enc Tryz.prog ((laidWorld os).forCall (fun _ _ => 0) ⟨#[], #[.agg #[.string ByteArray.empty, .int .i64 0, .int .i64 0, .slice none 0 0, .slice none 0 0, .slice none 0 0, .int .i64 0], .agg #[.int .i64 0, .int .i64 0, .int .i64 0, .int .i64 0, .int .i64 0, .int .i64 0, .bool false, .string ByteArray.empty, .int .i64 0, .int .i64 0, .int .i64 0, .int .i64 0], .int .i64 0], []⟩).memory Tryz.f3.params.toList Rows.fnExactMeansSpec.vars false (#[.agg #[.string ByteArray.empty, .int .i64 0, .int .i64 0, .slice none 0 0, .slice none 0 0, .slice none 0 0, .int .i64 0], .agg #[.int .i64 0, .int .i64 0, .int .i64 0, .int .i64 0, .int .i64 0, .int .i64 0, .bool false, .string ByteArray.empty, .int .i64 0, .int .i64 0, .int .i64 0, .int .i64 0], .int .i64 0] : Array Value).toList 8 = some ([.agg [.lit (.string []), .lit (.int .i64 0), .lit (.int .i64 0), .nil, .nil, .nil, .lit (.int .i64 0)], .agg [.agg [.lit (.int .i64 0), .lit (.int .i64 0), .lit (.int .i64 0), .agg [.lit (.int .i64 0), .lit (.int .i64 0), .lit (.int .i64 0), .lit (.bool false)], .lit (.string []), .lit (.int .i64 0)], .lit (.int .i64 0), .lit (.int .i64 0), .lit (.int .i64 0)], .lit (.int .i64 0)], [.held (enc (269, .pointer (some ⟨low, 0, none⟩))), Rows.laid_loop_example_g00638_impl_monthLengths], places) :=
  ⟨MemPlace.row ⟨0, 0, none⟩ 1 ++ [] ++ MemPlace.row ⟨1, 0, none⟩ 12 ++ [] ++ [], by kernel_rfl⟩
set_option maxRecDepth 100000 in
theorem lifted (os : Os) (started : os.Started) (H : Type) (enc : TypeId × Value → H) (F : Stop.Interp) :
    ReturnsInHanded {} Tryz.checked os 3 .any ((OpenSpec.ofChange Rows.fnExactMeansSpec).preRow enc Tryz.prog Tryz.f3 Rows.fnExactMeansRow.domain false Rows.fnExactMeansRow.laid) (((OpenSpec.ofChange Rows.fnExactMeansSpec).at F).post enc Tryz.prog Tryz.f3 false true false false) := by
  obtain ⟨places, hx⟩ := reads os enc
  refine returnsInHanded_of_row (C := Tryz.checked) (s := OpenSpec.ofChange Rows.fnExactMeansSpec) own started (by kernel_rfl) Tryz.func3
    (witness_row_at (enc := enc) (C := Tryz.checked) false (laidWorld os) #[.agg #[.string ByteArray.empty, .int .i64 0, .int .i64 0, .slice none 0 0, .slice none 0 0, .slice none 0 0, .int .i64 0], .agg #[.int .i64 0, .int .i64 0, .int .i64 0, .int .i64 0, .int .i64 0, .int .i64 0, .bool false, .string ByteArray.empty, .int .i64 0, .int .i64 0, .int .i64 0, .int .i64 0], .int .i64 0] rfl (by kernel_rfl) (by kernel_rfl) (by kernel_rfl)
      (OpenSpec.preRow_of_cond 8 hx (by kernel_rfl) (fun k hk => by cases hk) (by kernel_rfl) (laid_met os))) ?_
  intro W base args ds gs before hval hW _ _ _ hL _ _
  exact contract H enc W base args ds gs before hval hW hL
theorem said : Rows.FnExactMeansSaid :=
  OpenClaim.holds_of_cond 3 Tryz.f3 rfl rfl rfl rfl rfl rfl rfl ⟨rfl, rfl, rfl, rfl, rfl⟩ rfl rfl rfl rfl rfl (by kernel_rfl) Tryz.func3 (by kernel_rfl)
    (of_decide_eq_true (by kernel_rfl)) (by unfold Func.isWrapper; first | (rw [if_pos (by decide +kernel)]; kernel_rfl) | (rw [if_neg (by decide +kernel)]; exact ⟨rfl, rfl⟩))
    (fun os started H enc _ F => by rw [OpenClaim.pre_eq_preRow]; exact lifted os started H enc F)
theorem plain (f : FuncId) (fn : Func) (hf : Tryz.pinned.checked.prog.funcNamed "loop.example/g00638/laws.FnExactMeans" = some f) (hfn : Tryz.pinned.checked.prog.funcs[f]? = some fn) :
    true = Tryz.pinned.checked.prog.looks [] ∧ ∀ (j : Nat) t, fn.params[j]? = some t → Tryz.pinned.checked.prog.wantsStandIn t = false := by
  obtain rfl : f = 3 := Option.some.inj ((show Tryz.prog.funcNamed "loop.example/g00638/laws.FnExactMeans" = some 3 by kernel_rfl).symm.trans hf) |>.symm
  obtain rfl : fn = Tryz.f3 := (Option.some.inj (Tryz.func3.symm.trans hfn)).symm
  refine ⟨by kernel_rfl, fun j t ht => ?_⟩
  rw [Tryz.params3] at ht
  have ht : t = 26 ∨ t = 32 ∨ t = 3 := by simpa using Array.mem_of_getElem? ht
  rcases ht with rfl | rfl | rfl
  · exact (show Tryz.prog.wantsStandIn 26 = false by kernel_rfl)
  · exact (show Tryz.prog.wantsStandIn 32 = false by kernel_rfl)
  · exact (show Tryz.prog.wantsStandIn 3 = false by kernel_rfl)
theorem card : Rows.FnExactMeansCardSaid :=
  Claim7.holds_tied_plain_at .later [] _ _ _ _ said (fun _ h => by cases h) (by kernel_rfl) (fun _ h => by cases h) fnExactMeans_row_tie rfl ⟨rfl, rfl⟩ (by kernel_rfl) rfl plain (by kernel_rfl)
end Go.Proofs.YtdgolaaheakfoaaGreatDoor.fnExactMeans
namespace Go.Proofs.YtdgolaaheakfoaaGreatDoor
theorem fnExactMeans_holds : Rows.FnExactMeansCardSaid := fnExactMeans.card
#print axioms fnExactMeans_holds
end Go.Proofs.YtdgolaaheakfoaaGreatDoor
