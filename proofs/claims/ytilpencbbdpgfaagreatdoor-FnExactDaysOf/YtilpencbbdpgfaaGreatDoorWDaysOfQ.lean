/- The walk of the law FnExactDaysOf: at every input it returns true, and nothing that was there turns. -/
import Derived.Test.YtilpencbbdpgfaaGreatDoorJnQah
import Derived.Test.YtilpencbbdpgfaaGreatDoorJnQbr
import Derived.Test.YtilpencbbdpgfaaGreatDoorJnQbs
import Derived.Test.YtilpencbbdpgfaaGreatDoorJnQbt
import Derived.Test.YtilpencbbdpgfaaGreatDoorJnQaz
import Derived.Test.YtilpencbbdpgfaaGreatDoorJnQba
import Derived.Test.YtilpencbbdpgfaaGreatDoorRgmOpenQ
import Derived.WalkKit
import Derived.ProofKit
import Derived.OpenShut
import Derived.ShutString
import Derived.ChangeOld
import Derived.Below
import Derived.Deep.DeepHandedRow
import Derived.Lib.LaidTab
import Derived.Lib.SmallJoins
import Derived.Deep.CutRange
import Derived.LaidHandle
import Derived.LaidLaws
namespace Go.Proofs.YtilpencbbdpgfaaGreatDoor.fnExactDaysOf
open Go.ChangeShapes Go.WideShapes Go.ChangeAt Go.RowKit
open Go.ChangeMaps (open_string shut_string)
set_option linter.unusedVariables false
set_option maxRecDepth 100000 in
set_option maxHeartbeats 16000000 in
theorem walk (v : Value) (r : ctr.Rgm) (x : ctr.Rdg) (_ : ∀ z ∈ ctr.rdgK.iv x, (Lit.int .i64 z).wf = true) (w : World) (h : ctr.GIn w v r) (wf : (Lit.int .i64 r.fr).wf = true) (wt : (Lit.int .i64 r.to).wf = true) (t0 : ctr.ErrT w) (t1 : ctr.Tab w) (t2 : ∃ q, ctr.Sent w q) :
    Calls Tryz.prog 4 #[v, ctr.rdgV x] w fun e w' => e = .returned (.bool true) ∧ Below w.heap.size w w' := by
  obtain ⟨xc, xy, xo, xm, xd⟩ := x
  show Calls Tryz.prog 4 #[v, .agg #[.int .i64 xc, .int .i64 xy, .int .i64 xo, .int .i64 xm, .int .i64 xd]] w fun e w' => e = .returned (.bool true) ∧ Below w.heap.size w w'
  have H := ctr.hideP h
  obtain ⟨a1, n1, c1, a2, n2, c2, a3, n3, c3, ev, _⟩ := h
  subst ev
  obtain ⟨W0, hW0, hD, hR, hBl⟩ := ctr.two_box w #[.string r.name, .int .i64 r.fr, .int .i64 r.to, .slice a1 n1 c1, .slice a2 n2 c2, .slice a3 n3 c3, .int .i64 r.rule] #[.int .i64 xc, .int .i64 xy, .int .i64 xo, .int .i64 xm, .int .i64 xd] 26 41
  have d0_ : ∀ x : ctr.Later W0, x.w.cell? ⟨w.heap.size, 0, none⟩ = some (.string r.name) := fun x => (hD x).cell 0 rfl
  have d1_ : ∀ x : ctr.Later W0, x.w.cell? ⟨w.heap.size, 1, none⟩ = some (.int .i64 r.fr) := fun x => (hD x).cell 1 rfl
  have d2_ : ∀ x : ctr.Later W0, x.w.cell? ⟨w.heap.size, 2, none⟩ = some (.int .i64 r.to) := fun x => (hD x).cell 2 rfl
  have d3_ : ∀ x : ctr.Later W0, x.w.cell? ⟨w.heap.size, 3, none⟩ = some (.slice a1 n1 c1) := fun x => (hD x).cell 3 rfl
  have d4_ : ∀ x : ctr.Later W0, x.w.cell? ⟨w.heap.size, 4, none⟩ = some (.slice a2 n2 c2) := fun x => (hD x).cell 4 rfl
  have d5_ : ∀ x : ctr.Later W0, x.w.cell? ⟨w.heap.size, 5, none⟩ = some (.slice a3 n3 c3) := fun x => (hD x).cell 5 rfl
  have d6_ : ∀ x : ctr.Later W0, x.w.cell? ⟨w.heap.size, 6, none⟩ = some (.int .i64 r.rule) := fun x => (hD x).cell 6 rfl
  have q0_ : ∀ x : ctr.Later W0, x.w.cell? ⟨w.heap.size + 1, 0, none⟩ = some (.int .i64 xc) := fun x => (hR x).cell 0 rfl
  have q1_ : ∀ x : ctr.Later W0, x.w.cell? ⟨w.heap.size + 1, 1, none⟩ = some (.int .i64 xy) := fun x => (hR x).cell 1 rfl
  have q2_ : ∀ x : ctr.Later W0, x.w.cell? ⟨w.heap.size + 1, 2, none⟩ = some (.int .i64 xo) := fun x => (hR x).cell 2 rfl
  have q3_ : ∀ x : ctr.Later W0, x.w.cell? ⟨w.heap.size + 1, 3, none⟩ = some (.int .i64 xm) := fun x => (hR x).cell 3 rfl
  have q4_ : ∀ x : ctr.Later W0, x.w.cell? ⟨w.heap.size + 1, 4, none⟩ = some (.int .i64 xd) := fun x => (hR x).cell 4 rfl
  have HW0 := ctr.hideP hW0
  have HBl := ctr.hideP hBl
  have HCE : Hid (∀ x : ctr.Later W0, x.w.cell? ⟨w.heap.size, 0, none⟩ = some (.string r.name) ∧ x.w.cell? ⟨w.heap.size, 1, none⟩ = some (.int .i64 r.fr) ∧ x.w.cell? ⟨w.heap.size, 2, none⟩ = some (.int .i64 r.to) ∧ x.w.cell? ⟨w.heap.size, 3, none⟩ = some (.slice a1 n1 c1) ∧ x.w.cell? ⟨w.heap.size, 4, none⟩ = some (.slice a2 n2 c2) ∧ x.w.cell? ⟨w.heap.size, 5, none⟩ = some (.slice a3 n3 c3) ∧ x.w.cell? ⟨w.heap.size, 6, none⟩ = some (.int .i64 r.rule) ∧ x.w.cell? ⟨w.heap.size + 1, 0, none⟩ = some (.int .i64 xc) ∧ x.w.cell? ⟨w.heap.size + 1, 1, none⟩ = some (.int .i64 xy) ∧ x.w.cell? ⟨w.heap.size + 1, 2, none⟩ = some (.int .i64 xo) ∧ x.w.cell? ⟨w.heap.size + 1, 3, none⟩ = some (.int .i64 xm) ∧ x.w.cell? ⟨w.heap.size + 1, 4, none⟩ = some (.int .i64 xd)) := fun x => ⟨d0_ x, d1_ x, d2_ x, d3_ x, d4_ x, d5_ x, d6_ x, q0_ x, q1_ x, q2_ x, q3_ x, q4_ x⟩
  have KZ : Hid (∀ x : ctr.Later W0, Calls Tryz.prog 15 #[.agg #[.string r.name, .int .i64 r.fr, .int .i64 r.to, .slice a1 n1 c1, .slice a2 n2 c2, .slice a3 n3 c3, .int .i64 r.rule], .int .i64 1048576] x.w fun e w' => ∃ z : Int, e = .returned (.int .i64 z) ∧ (z = -1 ∨ (0 ≤ z ∧ z ≤ 1048576 ∧ ctr.GOk r)) ∧ Below x.w.heap.size x.w w') := fun x => ctr.szRegime _ r 1048576 x.w (H.out.below (HBl.out x)) (by omega) (by omega)
  have KT : Hid (ctr.GOk r → ∀ x : ctr.Later W0, Calls Tryz.prog 17 #[.agg #[.string r.name, .int .i64 r.fr, .int .i64 r.to, .slice a1 n1 c1, .slice a2 n2 c2, .slice a3 n3 c3, .int .i64 r.rule]] x.w fun e w' => ∃ o, e = .returned o ∧ ctr.GNew x.w w' o r ∧ Below x.w.heap.size x.w w') := fun ho x => ctr.toRegime _ r x.w (H.out.below (HBl.out x)) ho
  have KU : Hid (∀ W, Calls Tryz.prog 22 #[.agg #[.int .i64 xc, .int .i64 xy, .int .i64 xo, .int .i64 xm, .int .i64 xd]] W fun e w' => e = .returned (.agg #[.int .i64 xc, .int .i64 xy, .int .i64 xo, .int .i64 xm, .int .i64 xd]) ∧ Below W.heap.size W w') := fun W => ctr.toReading ⟨xc, xy, xo, xm, xd⟩ W
  have KE : Hid (∀ v1 v2 W, ctr.GRow W v1 r → ctr.GRow W v2 r → Calls Tryz.prog 20 #[v1, v2] W fun e w' => e = .returned (.bool true) ∧ Below W.heap.size W w') := fun v1 v2 W g1 g2 => ctr.eqRegime v1 v2 r W g1 g2
  have bf := (kit.wf_bounds wf).1
  have bt := (kit.wf_bounds wt).2
  obtain ⟨q, t3⟩ := t2
  have KS : Hid (∀ v W, ctr.GRow W v r → Calls Tryz.prog 21 #[v, .agg #[.int .i64 xc, .int .i64 xy, .int .i64 xo, .int .i64 xm, .int .i64 xd]] W fun e w' => ∃ o, e = .returned o ∧ ctr.MovRow W w' o (ctr.daysOfR r ⟨xc, xy, xo, xm, xd⟩) ∧ Below W.heap.size W w') := fun v W g => ctr.specDaysOf v r ⟨xc, xy, xo, xm, xd⟩ W g bf bt
  have KI : Hid (∀ v W, Below w.heap.size w W → ctr.GRow W v r → Calls Tryz.prog 23 #[v, .agg #[.int .i64 xc, .int .i64 xy, .int .i64 xo, .int .i64 xm, .int .i64 xd]] W fun e w' => ∃ o, e = .returned o ∧ ctr.MovRow W w' o (ctr.daysOfR r ⟨xc, xy, xo, xm, xd⟩) ∧ Below W.heap.size W w') := fun v W hb g => ctr.implDaysOf v r ⟨xc, xy, xo, xm, xd⟩ q W g bt (t0.below hb) (t1.later hb) (t3.later hb)
  have hcl := ctr.daysOf_len r ⟨xc, xy, xo, xm, xd⟩
  have KQ : Hid (∀ v1 v2 W, ctr.IntRow W v1 (ctr.daysOfR r ⟨xc, xy, xo, xm, xd⟩) → ctr.IntRow W v2 (ctr.daysOfR r ⟨xc, xy, xo, xm, xd⟩) → Calls Tryz.prog 24 #[v1, v2] W fun e w' => e = .returned (.bool true) ∧ Below W.heap.size W w') := fun v1 v2 W g1 g2 => ctr.eqInts v1 v2 _ W (by omega) g1 g2
  have KM : Hid (∀ V W o, ctr.MovRow V W o (ctr.daysOfR r ⟨xc, xy, xo, xm, xd⟩) → Below V.heap.size V W → Calls Tryz.prog 26 #[o, .int .i64 1] W fun e w' => e = .returned (.int .i64 ((1 + (ctr.daysOfR r ⟨xc, xy, xo, xm, xd⟩).length : Nat) : Int)) ∧ Below V.heap.size V w' ∧ ctr.IntRow w' o (ctr.marks 1 (ctr.daysOfR r ⟨xc, xy, xo, xm, xd⟩).length)) := fun V W o g hb => ctr.markRow V W o _ (by omega) g hb
  have KH : Hid (∀ o W, ctr.IntRow W o (ctr.marks 1 (ctr.daysOfR r ⟨xc, xy, xo, xm, xd⟩).length) → Calls Tryz.prog 27 #[o, .int .i64 1] W fun e w' => e = .returned (.int .i64 ((1 + (ctr.daysOfR r ⟨xc, xy, xo, xm, xd⟩).length : Nat) : Int)) ∧ Below W.heap.size W w') := fun o W g => ctr.heldInts o 1 _ W (by omega) (by omega) g
  have hm0 : 0 ≤ ((1 + (ctr.daysOfR r ⟨xc, xy, xo, xm, xd⟩).length : Nat) : Int) := by omega
  generalize ((1 + (ctr.daysOfR r ⟨xc, xy, xo, xm, xd⟩).length : Nat) : Int) = mz at *
  generalize ctr.marks 1 (ctr.daysOfR r ⟨xc, xy, xo, xm, xd⟩).length = mks at *
  generalize (ctr.daysOfR r ⟨xc, xy, xo, xm, xd⟩) = ch at *
  have hmd : decide (mz < 0) = false := decide_eq_false (by omega)
  clear bf bt t0 t1 t3 hcl
  clear hW0 hBl H hD hR
  go_enter Tryz.func4, Tryz.ntmps4
  go_wp2_with fail
  rw [← HW0.out]
  refine (KZ.out ⟨W0, Below.refl _ _⟩).mono ?_
  rintro e w1 ⟨z, rfl, hz, hb⟩
  obtain ⟨x1, rfl⟩ := ctr.Later.of hb
  have HZ := ctr.hideP hz
  clear hb hz
  rcases HZ.out with rfl | ⟨z1, z2, ho⟩
  · go_wp2_with fail
    go_ret
    exact ⟨rfl, HBl.out x1⟩
  have HO := ctr.hideP ho
  have hz1 : (z < 0) = False := eq_false (by omega)
  clear ho KZ HZ
  go_upto_region 5 with fail
  go_cut [6] (fun s6 wx => ∃ (ad : Option Addr) (cap : Nat), s6 = .slice ad ch.length cap ∧ ∃ x : ctr.Later W0, wx = x.w ∧ Hid (ctr.IntRow x.w (.slice ad ch.length cap) ch))
  case first =>
    have D2 : Below W0.heap.size W0 x1.w.drew := x1.below.drew
    have KCE : Hid (∀ V, Below W0.heap.size W0 V → V.cell? ⟨w.heap.size, 0, none⟩ = some (.string r.name) ∧ V.cell? ⟨w.heap.size, 1, none⟩ = some (.int .i64 r.fr) ∧ V.cell? ⟨w.heap.size, 2, none⟩ = some (.int .i64 r.to) ∧ V.cell? ⟨w.heap.size, 3, none⟩ = some (.slice a1 n1 c1) ∧ V.cell? ⟨w.heap.size, 4, none⟩ = some (.slice a2 n2 c2) ∧ V.cell? ⟨w.heap.size, 5, none⟩ = some (.slice a3 n3 c3) ∧ V.cell? ⟨w.heap.size, 6, none⟩ = some (.int .i64 r.rule) ∧ V.cell? ⟨w.heap.size + 1, 0, none⟩ = some (.int .i64 xc) ∧ V.cell? ⟨w.heap.size + 1, 1, none⟩ = some (.int .i64 xy) ∧ V.cell? ⟨w.heap.size + 1, 2, none⟩ = some (.int .i64 xo) ∧ V.cell? ⟨w.heap.size + 1, 3, none⟩ = some (.int .i64 xm) ∧ V.cell? ⟨w.heap.size + 1, 4, none⟩ = some (.int .i64 xd)) := fun V hb => HCE.out ⟨V, hb⟩
    go_region_held (fun w' => w'.cell? ⟨w.heap.size, 0, none⟩ = some (.string r.name) ∧ w'.cell? ⟨w.heap.size, 1, none⟩ = some (.int .i64 r.fr) ∧ w'.cell? ⟨w.heap.size, 2, none⟩ = some (.int .i64 r.to) ∧ w'.cell? ⟨w.heap.size, 3, none⟩ = some (.slice a1 n1 c1) ∧ w'.cell? ⟨w.heap.size, 4, none⟩ = some (.slice a2 n2 c2) ∧ w'.cell? ⟨w.heap.size, 5, none⟩ = some (.slice a3 n3 c3) ∧ w'.cell? ⟨w.heap.size, 6, none⟩ = some (.int .i64 r.rule) ∧ w'.cell? ⟨w.heap.size + 1, 0, none⟩ = some (.int .i64 xc) ∧ w'.cell? ⟨w.heap.size + 1, 1, none⟩ = some (.int .i64 xy) ∧ w'.cell? ⟨w.heap.size + 1, 2, none⟩ = some (.int .i64 xo) ∧ w'.cell? ⟨w.heap.size + 1, 3, none⟩ = some (.int .i64 xm) ∧ w'.cell? ⟨w.heap.size + 1, 4, none⟩ = some (.int .i64 xd)) (exact KCE.out _ (by assumption)) (first | (go_at_call 17; refine (KT.out HO.out ⟨_, D2⟩).mono ?_; rintro e V ⟨o1, rfl, hn, hb⟩; have BV : Below W0.heap.size W0 V := D2.trans (hb.mono D2.size); have RV := ctr.hideP (hn.row HO.out); obtain ⟨p1, p2, p3, rfl, _⟩ := hn; clear hb) | (go_at_call 22; refine (KU.out _).mono ?_; rintro e V2 ⟨rfl, hb⟩; have BV2 : Below W0.heap.size W0 V2 := BV.trans (hb.mono BV.size); have RV2 := ctr.hideP (RV.out.below hb); clear hb) | (go_at_call 21; refine (KS.out _ _ RV2.out).mono ?_; rintro e V3 ⟨o4, rfl, m4, hb⟩; have BV3 : Below W0.heap.size W0 V3 := BV2.trans (hb.mono BV2.size); have I4 := ctr.hideP m4.row; obtain ⟨ad4, cap4, rfl, _⟩ := m4; clear hb))
    all_goals (go_wp2_with fail; go_meet)
    all_goals exact ⟨_, _, rfl, ⟨_, BV3⟩, rfl, I4⟩
  case rest =>
  obtain ⟨ad4, cap4, rfl, x3, rfl, I4⟩ := hcut
  clear KS
  go_wp2_with fail
  refine (KT.out HO.out x3).mono ?_
  rintro e w4 ⟨o2, rfl, hn, hb⟩
  obtain ⟨x4, rfl⟩ := x3.next hb
  have R2 := ctr.hideP (hn.row HO.out)
  obtain ⟨p1, p2, p3, rfl, ⟨s1, s2, rfl, ge1, k1⟩, ⟨s3, s4, rfl, ge3, k3⟩, ⟨s5, s6, rfl, ge5, k5⟩⟩ := hn
  have HG1 := ctr.hideP ge1
  have HG3 := ctr.hideP ge3
  have HG5 := ctr.hideP ge5
  have X34 := ctr.hideP hb
  have HL1 := ctr.hideP k1.lt
  have HL3 := ctr.hideP k3.lt
  have HL5 := ctr.hideP k5.lt
  have HK1 := ctr.hideP k1
  have HK3 := ctr.hideP k3
  have HK5 := ctr.hideP k5
  clear hb ge1 ge3 ge5 k1 k3 k5
  obtain ⟨W5, hW5, f0, f1, f2, f3, f4, f5, f6, hBl5⟩ := ctr.seven_box x4.w (.string r.name) (.int .i64 r.fr) (.int .i64 r.to) (.slice (some ⟨s1, 0, none⟩) r.segs.length r.segs.length) (.slice (some ⟨s3, 0, none⟩) r.pats.length r.pats.length) (.slice (some ⟨s5, 0, none⟩) r.rgns.length r.rgns.length) (.int .i64 r.rule) 36
  have B5 : Below W0.heap.size W0 W5 := x4.on (hBl5 ⟨W5, Below.refl _ _⟩)
  have e0_ : ∀ x : ctr.Later W5, x.w.cell? ⟨w.heap.size, 0, none⟩ = some (.string r.name) := fun x => d0_ ⟨x.w, B5.trans (x.below.mono B5.size)⟩
  have e1_ : ∀ x : ctr.Later W5, x.w.cell? ⟨w.heap.size, 1, none⟩ = some (.int .i64 r.fr) := fun x => d1_ ⟨x.w, B5.trans (x.below.mono B5.size)⟩
  have e2_ : ∀ x : ctr.Later W5, x.w.cell? ⟨w.heap.size, 2, none⟩ = some (.int .i64 r.to) := fun x => d2_ ⟨x.w, B5.trans (x.below.mono B5.size)⟩
  have e3_ : ∀ x : ctr.Later W5, x.w.cell? ⟨w.heap.size, 3, none⟩ = some (.slice a1 n1 c1) := fun x => d3_ ⟨x.w, B5.trans (x.below.mono B5.size)⟩
  have e4_ : ∀ x : ctr.Later W5, x.w.cell? ⟨w.heap.size, 4, none⟩ = some (.slice a2 n2 c2) := fun x => d4_ ⟨x.w, B5.trans (x.below.mono B5.size)⟩
  have e5_ : ∀ x : ctr.Later W5, x.w.cell? ⟨w.heap.size, 5, none⟩ = some (.slice a3 n3 c3) := fun x => d5_ ⟨x.w, B5.trans (x.below.mono B5.size)⟩
  have e6_ : ∀ x : ctr.Later W5, x.w.cell? ⟨w.heap.size, 6, none⟩ = some (.int .i64 r.rule) := fun x => d6_ ⟨x.w, B5.trans (x.below.mono B5.size)⟩
  have u0_ : ∀ x : ctr.Later W5, x.w.cell? ⟨w.heap.size + 1, 0, none⟩ = some (.int .i64 xc) := fun x => q0_ ⟨x.w, B5.trans (x.below.mono B5.size)⟩
  have u1_ : ∀ x : ctr.Later W5, x.w.cell? ⟨w.heap.size + 1, 1, none⟩ = some (.int .i64 xy) := fun x => q1_ ⟨x.w, B5.trans (x.below.mono B5.size)⟩
  have u2_ : ∀ x : ctr.Later W5, x.w.cell? ⟨w.heap.size + 1, 2, none⟩ = some (.int .i64 xo) := fun x => q2_ ⟨x.w, B5.trans (x.below.mono B5.size)⟩
  have u3_ : ∀ x : ctr.Later W5, x.w.cell? ⟨w.heap.size + 1, 3, none⟩ = some (.int .i64 xm) := fun x => q3_ ⟨x.w, B5.trans (x.below.mono B5.size)⟩
  have u4_ : ∀ x : ctr.Later W5, x.w.cell? ⟨w.heap.size + 1, 4, none⟩ = some (.int .i64 xd) := fun x => q4_ ⟨x.w, B5.trans (x.below.mono B5.size)⟩
  have HE : Hid (∀ x : ctr.Later W5, ∃ y : ctr.Later W0, y.w = x.w) := fun x => ⟨⟨x.w, B5.trans (x.below.mono B5.size)⟩, rfl⟩
  have R5 : Hid (∀ x : ctr.Later W5, ctr.GRow x.w (.agg #[.string r.name, .int .i64 r.fr, .int .i64 r.to, .slice (some ⟨s1, 0, none⟩) r.segs.length r.segs.length, .slice (some ⟨s3, 0, none⟩) r.pats.length r.pats.length, .slice (some ⟨s5, 0, none⟩) r.rgns.length r.rgns.length, .int .i64 r.rule]) r) := fun x => R2.out.below (hBl5 x)
  have KT5 : Hid (∀ W, Below W5.heap.size W5 W → Calls Tryz.prog 17 #[.agg #[.string r.name, .int .i64 r.fr, .int .i64 r.to, .slice a1 n1 c1, .slice a2 n2 c2, .slice a3 n3 c3, .int .i64 r.rule]] W fun e w' => ∃ o, e = .returned o ∧ ctr.GNew W w' o r ∧ Below W.heap.size W w') := fun W hb => KT.out HO.out ⟨W, B5.trans (hb.mono B5.size)⟩
  have KI5 : Hid (∀ W, Below W5.heap.size W5 W → Calls Tryz.prog 23 #[.agg #[.string r.name, .int .i64 r.fr, .int .i64 r.to, .slice (some ⟨s1, 0, none⟩) r.segs.length r.segs.length, .slice (some ⟨s3, 0, none⟩) r.pats.length r.pats.length, .slice (some ⟨s5, 0, none⟩) r.rgns.length r.rgns.length, .int .i64 r.rule], .agg #[.int .i64 xc, .int .i64 xy, .int .i64 xo, .int .i64 xm, .int .i64 xd]] W fun e w' => ∃ o, e = .returned o ∧ ctr.MovRow W5 w' o ch ∧ Below W.heap.size W w') := fun W hb => by
    obtain ⟨z, hz⟩ := HE.out ⟨W, hb⟩
    refine (KI.out _ W (by have q := HBl.out z; rw [hz] at q; exact q) (R5.out ⟨W, hb⟩)).mono ?_
    rintro e w' ⟨o, h1, h2, h3⟩
    exact ⟨o, h1, h2.mono hb.size, h3⟩
  have HW5 := ctr.hideP hW5
  have X45 := ctr.hideP (hBl5 ⟨W5, Below.refl _ _⟩)
  have J4 : Hid (∀ W, Below W5.heap.size W5 W → ctr.IntRow W (.slice ad4 ch.length cap4) ch) := fun W hb => by
    have h1 := X34.out.trans (X45.out.mono X34.out.size)
    exact I4.out.below (h1.trans (hb.mono h1.size))
  clear hW5 hBl5 B5 R2 d0_ d1_ d2_ d3_ d4_ d5_ d6_ q0_ q1_ q2_ q3_ q4_
  go_upto_region 7 with fail
  rw [← HW5.out]
  have D5 : Below W5.heap.size W5 W5.drew := (Below.refl _ _).drew
  go_cut [8] (fun s8 wx => ∃ (ad : Option Addr) (cap : Nat), s8 = .slice ad ch.length cap ∧ ∃ x : ctr.Later W5, wx = x.w ∧ Hid (ctr.MovRow W5 x.w (.slice ad ch.length cap) ch))
  case first =>
    have KCE : Hid (∀ V, Below W5.heap.size W5 V → V.cell? ⟨x4.w.heap.size, 0, none⟩ = some (.string r.name) ∧ V.cell? ⟨x4.w.heap.size, 1, none⟩ = some (.int .i64 r.fr) ∧ V.cell? ⟨x4.w.heap.size, 2, none⟩ = some (.int .i64 r.to) ∧ V.cell? ⟨x4.w.heap.size, 3, none⟩ = some (.slice (some ⟨s1, 0, none⟩) r.segs.length r.segs.length) ∧ V.cell? ⟨x4.w.heap.size, 4, none⟩ = some (.slice (some ⟨s3, 0, none⟩) r.pats.length r.pats.length) ∧ V.cell? ⟨x4.w.heap.size, 5, none⟩ = some (.slice (some ⟨s5, 0, none⟩) r.rgns.length r.rgns.length) ∧ V.cell? ⟨x4.w.heap.size, 6, none⟩ = some (.int .i64 r.rule) ∧ V.cell? ⟨w.heap.size + 1, 0, none⟩ = some (.int .i64 xc) ∧ V.cell? ⟨w.heap.size + 1, 1, none⟩ = some (.int .i64 xy) ∧ V.cell? ⟨w.heap.size + 1, 2, none⟩ = some (.int .i64 xo) ∧ V.cell? ⟨w.heap.size + 1, 3, none⟩ = some (.int .i64 xm) ∧ V.cell? ⟨w.heap.size + 1, 4, none⟩ = some (.int .i64 xd)) := fun V hb => ⟨f0 ⟨V, hb⟩, f1 ⟨V, hb⟩, f2 ⟨V, hb⟩, f3 ⟨V, hb⟩, f4 ⟨V, hb⟩, f5 ⟨V, hb⟩, f6 ⟨V, hb⟩, u0_ ⟨V, hb⟩, u1_ ⟨V, hb⟩, u2_ ⟨V, hb⟩, u3_ ⟨V, hb⟩, u4_ ⟨V, hb⟩⟩
    go_region_held (fun w' => w'.cell? ⟨x4.w.heap.size, 0, none⟩ = some (.string r.name) ∧ w'.cell? ⟨x4.w.heap.size, 1, none⟩ = some (.int .i64 r.fr) ∧ w'.cell? ⟨x4.w.heap.size, 2, none⟩ = some (.int .i64 r.to) ∧ w'.cell? ⟨x4.w.heap.size, 3, none⟩ = some (.slice (some ⟨s1, 0, none⟩) r.segs.length r.segs.length) ∧ w'.cell? ⟨x4.w.heap.size, 4, none⟩ = some (.slice (some ⟨s3, 0, none⟩) r.pats.length r.pats.length) ∧ w'.cell? ⟨x4.w.heap.size, 5, none⟩ = some (.slice (some ⟨s5, 0, none⟩) r.rgns.length r.rgns.length) ∧ w'.cell? ⟨x4.w.heap.size, 6, none⟩ = some (.int .i64 r.rule) ∧ w'.cell? ⟨w.heap.size + 1, 0, none⟩ = some (.int .i64 xc) ∧ w'.cell? ⟨w.heap.size + 1, 1, none⟩ = some (.int .i64 xy) ∧ w'.cell? ⟨w.heap.size + 1, 2, none⟩ = some (.int .i64 xo) ∧ w'.cell? ⟨w.heap.size + 1, 3, none⟩ = some (.int .i64 xm) ∧ w'.cell? ⟨w.heap.size + 1, 4, none⟩ = some (.int .i64 xd)) (exact KCE.out _ (by assumption)) (first | (go_at_call 22; refine (KU.out _).mono ?_; rintro e V ⟨rfl, hb⟩; have BV : Below W5.heap.size W5 V := D5.trans (hb.mono D5.size); clear hb) | (go_at_call 23; refine (KI5.out _ BV).mono ?_; rintro e V2 ⟨o6, rfl, m6, hb⟩; have BV2 : Below W5.heap.size W5 V2 := BV.trans (hb.mono BV.size); have M6 := ctr.hideP m6; obtain ⟨ad6, cap6, rfl, _⟩ := m6; clear hb))
    all_goals (go_wp2_with fail; go_meet)
    all_goals exact ⟨_, _, rfl, ⟨_, BV2⟩, rfl, M6⟩
  case rest =>
  obtain ⟨ad6, cap6, rfl, x6, rfl, M6⟩ := hcut
  clear KI5
  go_wp2_with fail
  refine (KQ.out _ _ _ M6.out.row (J4.out _ x6.below)).mono ?_
  rintro e w7 ⟨rfl, hb⟩
  obtain ⟨x7, rfl⟩ := x6.next hb
  have M7 := ctr.hideP (M6.out.below hb)
  clear hb M6
  go_upto_region 10 with fail
  go_cut [37] from 33 to 36 (fun s37 wx => s37 = .bool false ∧ Below x7.w.heap.size x7.w wx)
  case first =>
    have HN7 : Hid (Below W5.heap.size W5 x7.w.drew) := x7.below.drew
    go_region_with (first | (go_at_call 17; refine (KT5.out _ HN7.out).mono ?_; rintro e w8 ⟨o3, rfl, hn, hb⟩; obtain ⟨x8, rfl⟩ : ∃ x8 : ctr.Later W5, w8 = x8.w := ⟨⟨w8, HN7.out.trans (hb.mono HN7.out.size)⟩, rfl⟩; have R8 := ctr.hideP (hn.row HO.out); obtain ⟨p1, p2, p3, rfl, _⟩ := hn; have HB8 : Hid (Below x7.w.heap.size x7.w x8.w) := (Below.refl _ _).drew.trans hb; clear hb) | (go_at_call 20; refine (KE.out _ _ _ (R5.out x8) R8.out).mono ?_; rintro e w9 ⟨rfl, hb⟩; have HB9 : Hid (Below x7.w.heap.size x7.w w9) := HB8.out.trans (hb.mono HB8.out.size); obtain ⟨x9, rfl⟩ := x8.next hb; clear hb))
    all_goals (go_wp2_with fail; go_meet; exact ⟨rfl, HB9.out⟩)
  case rest =>
    obtain ⟨rfl, hb9⟩ := hcut
    obtain ⟨x9, rfl⟩ := x7.next hb9
    have M9 := ctr.hideP (M7.out.below hb9)
    clear hb9 M7 KE
    have B59 : Hid (Below x4.w.heap.size x4.w x9.w) := X45.out.trans (x9.below.mono X45.out.size)
    have KG := ctr.hideP (ctr.markRegime r s1 s3 s5 s2 s4 s6 x9.w HO.out (HK1.out.below B59.out HL1.out) (HK3.out.below B59.out HL3.out) (HK5.out.below B59.out HL5.out))
    go_wp2_with fail
    refine KG.out.mono ?_
    rintro e w13 ⟨z, rfl, hkp⟩
    have hz0 : decide ((z : Int) < 0) = false := decide_eq_false (by omega)
    have B39 : Hid (Below x3.w.heap.size x3.w x9.w) := X34.out.trans (B59.out.mono X34.out.size)
    have B3 : Hid (Below x3.w.heap.size x3.w w13) := hkp.below B39.out B39.out.size (by
      intro k hk
      rcases hk with rfl | rfl | rfl
      · exact HG1.out
      · exact HG3.out
      · exact HG5.out)
    have M13 := ctr.hideP (hkp.mov M9.out (by
      intro k hk
      rcases hk with rfl | rfl | rfl
      · exact Nat.lt_of_lt_of_le HL1.out X45.out.size
      · exact Nat.lt_of_lt_of_le HL3.out X45.out.size
      · exact Nat.lt_of_lt_of_le HL5.out X45.out.size))
    have S35 : Hid (x3.w.heap.size ≤ W5.heap.size) := Nat.le_trans X34.out.size X45.out.size
    have M3 := ctr.hideP (M13.out.mono S35.out)
    have Q4 : Hid (∀ W, Below x3.w.heap.size x3.w W → ctr.IntRow W (.slice ad4 ch.length cap4) ch) := fun W hb => I4.out.below hb
    clear hkp M13 M9 KG B59 B39 HK1 HK3 HK5 J4 e0_ e1_ e2_ e3_ e4_ e5_ e6_ u0_ u1_ u2_ u3_ u4_ f0 f1 f2 f3 f4 f5 f6 R5 KT5 HE
    go_wp2_with fail
    refine (KQ.out _ _ _ M3.out.row (Q4.out _ B3.out)).mono ?_
    rintro e w14 ⟨rfl, hb⟩
    have B14 : Hid (Below x3.w.heap.size x3.w w14) := B3.out.trans (hb.mono B3.out.size)
    have M14 := ctr.hideP (M3.out.below hb)
    clear hb M3 B3 hz0
    go_wp2_with fail
    refine (KM.out _ _ _ M14.out B14.out).mono ?_
    rintro e w17 ⟨rfl, b17, i17⟩
    have B17 := ctr.hideP b17
    have I17 := ctr.hideP i17
    clear b17 i17 M14 B14 KM
    go_wp2_with fail
    refine (KH.out _ _ I17.out).mono ?_
    rintro e w19 ⟨rfl, hb⟩
    have B19 : Hid (Below x3.w.heap.size x3.w w19) := B17.out.trans (hb.mono B17.out.size)
    have I19 := ctr.hideP (I17.out.below hb)
    clear hb I17 B17
    obtain ⟨x19, rfl⟩ := x3.next B19.out
    go_upto_region 24 with fail
    go_cut [12] (fun s12 wx => ∃ (ad : Option Addr) (cap : Nat), s12 = .slice ad ch.length cap ∧ Hid (Below x19.w.heap.size x19.w wx) ∧ Hid (ctr.IntRow wx (.slice ad ch.length cap) ch))
    case first =>
      obtain ⟨g0_, g1_, g2_, g3_, g4_, g5_, g6_, g7_, g8_, g9_, g10_, g11_⟩ := HCE.out x19
      have D19 : Below x19.w.heap.size x19.w x19.w.drew := (Below.refl _ _).drew
      have KT19 : Hid (∀ W, Below x19.w.heap.size x19.w W → Calls Tryz.prog 17 #[.agg #[.string r.name, .int .i64 r.fr, .int .i64 r.to, .slice a1 n1 c1, .slice a2 n2 c2, .slice a3 n3 c3, .int .i64 r.rule]] W fun e w' => ∃ o, e = .returned o ∧ ctr.GNew W w' o r ∧ Below W.heap.size W w') := fun W hb => KT.out HO.out ⟨W, x19.below.trans (hb.mono x19.below.size)⟩
      have KI19 : Hid (∀ v W, Below x19.w.heap.size x19.w W → ctr.GRow W v r → Calls Tryz.prog 23 #[v, .agg #[.int .i64 xc, .int .i64 xy, .int .i64 xo, .int .i64 xm, .int .i64 xd]] W fun e w' => ∃ o, e = .returned o ∧ ctr.MovRow W w' o ch ∧ Below W.heap.size W w') := fun v W hb g => KI.out v W (HBl.out ⟨W, x19.below.trans (hb.mono x19.below.size)⟩) g
      have KCE : Hid (∀ V, Below x19.w.heap.size x19.w V → V.cell? ⟨w.heap.size, 0, none⟩ = some (.string r.name) ∧ V.cell? ⟨w.heap.size, 1, none⟩ = some (.int .i64 r.fr) ∧ V.cell? ⟨w.heap.size, 2, none⟩ = some (.int .i64 r.to) ∧ V.cell? ⟨w.heap.size, 3, none⟩ = some (.slice a1 n1 c1) ∧ V.cell? ⟨w.heap.size, 4, none⟩ = some (.slice a2 n2 c2) ∧ V.cell? ⟨w.heap.size, 5, none⟩ = some (.slice a3 n3 c3) ∧ V.cell? ⟨w.heap.size, 6, none⟩ = some (.int .i64 r.rule) ∧ V.cell? ⟨w.heap.size + 1, 0, none⟩ = some (.int .i64 xc) ∧ V.cell? ⟨w.heap.size + 1, 1, none⟩ = some (.int .i64 xy) ∧ V.cell? ⟨w.heap.size + 1, 2, none⟩ = some (.int .i64 xo) ∧ V.cell? ⟨w.heap.size + 1, 3, none⟩ = some (.int .i64 xm) ∧ V.cell? ⟨w.heap.size + 1, 4, none⟩ = some (.int .i64 xd)) := fun V hb => HCE.out ⟨V, x19.below.trans (hb.mono x19.below.size)⟩
      go_region_held (fun w' => w'.cell? ⟨w.heap.size, 0, none⟩ = some (.string r.name) ∧ w'.cell? ⟨w.heap.size, 1, none⟩ = some (.int .i64 r.fr) ∧ w'.cell? ⟨w.heap.size, 2, none⟩ = some (.int .i64 r.to) ∧ w'.cell? ⟨w.heap.size, 3, none⟩ = some (.slice a1 n1 c1) ∧ w'.cell? ⟨w.heap.size, 4, none⟩ = some (.slice a2 n2 c2) ∧ w'.cell? ⟨w.heap.size, 5, none⟩ = some (.slice a3 n3 c3) ∧ w'.cell? ⟨w.heap.size, 6, none⟩ = some (.int .i64 r.rule) ∧ w'.cell? ⟨w.heap.size + 1, 0, none⟩ = some (.int .i64 xc) ∧ w'.cell? ⟨w.heap.size + 1, 1, none⟩ = some (.int .i64 xy) ∧ w'.cell? ⟨w.heap.size + 1, 2, none⟩ = some (.int .i64 xo) ∧ w'.cell? ⟨w.heap.size + 1, 3, none⟩ = some (.int .i64 xm) ∧ w'.cell? ⟨w.heap.size + 1, 4, none⟩ = some (.int .i64 xd)) (exact KCE.out _ (by assumption)) (first | (go_at_call 17; refine (KT19.out _ D19).mono ?_; rintro e V ⟨o5, rfl, hn, hb⟩; have BV : Below x19.w.heap.size x19.w V := D19.trans (hb.mono D19.size); have RV := ctr.hideP (hn.row HO.out); obtain ⟨p1, p2, p3, rfl, _⟩ := hn; clear hb) | (go_at_call 22; refine (KU.out _).mono ?_; rintro e V2 ⟨rfl, hb⟩; have BV2 : Below x19.w.heap.size x19.w V2 := BV.trans (hb.mono BV.size); have RV2 := ctr.hideP (RV.out.below hb); clear hb) | (go_at_call 23; refine (KI19.out _ _ BV2 RV2.out).mono ?_; rintro e V3 ⟨o10, rfl, m10, hb⟩; have BV3 : Below x19.w.heap.size x19.w V3 := BV2.trans (hb.mono BV2.size); have I10 := ctr.hideP m10.row; obtain ⟨ad10, cap10, rfl, _⟩ := m10; clear hb))
      all_goals (go_wp2_with fail; go_meet)
      all_goals exact ⟨_, _, rfl, BV3, I10⟩
    case rest =>
    obtain ⟨ad10, cap10, rfl, B25', R10⟩ := hcut
    obtain ⟨x25, rfl⟩ := x19.next B25'.out
    have B25 : Hid (Below x3.w.heap.size x3.w x25.w) := B19.out.trans (B25'.out.mono B19.out.size)
    have I25 := ctr.hideP (I19.out.below B25'.out)
    clear I19 B25' B19
    go_wp2_with fail
    refine (KQ.out _ _ _ R10.out (Q4.out _ B25.out)).mono ?_
    rintro e w26 ⟨rfl, hb⟩
    obtain ⟨x26, rfl⟩ := x25.next hb
    have I26 := ctr.hideP (I25.out.below hb)
    clear hb I25 R10 B25
    go_wp2_with fail
    refine (KH.out _ _ I26.out).mono ?_
    rintro e w28 ⟨rfl, hb⟩
    obtain ⟨x28, rfl⟩ := x26.next hb
    clear hb
    go_wp2_with fail
    go_ret
    exact ⟨rfl, HBl.out x28⟩
end Go.Proofs.YtilpencbbdpgfaaGreatDoor.fnExactDaysOf
