/- FnExactPatchAt returns true at every regime and every day: the program's PatchAt answers as the model's; nothing that was there turns. -/
import Derived.Test.YtkinapfoigibcaaRows
import Derived.Test.YtkinapfoigibcaaSegAtC
import Derived.WalkKit
import Derived.ProofKit
import Derived.OpenShut
import Derived.ShutString
import Derived.ChangeOld
import Derived.Below
import Derived.Lib.SmallJoins
namespace Go.Proofs.Ytkinapfoigibcaa.fnExactPatchAt
open Go.ChangeShapes Go.WideShapes Go.ChangeAt Go.RowKit
set_option linter.unusedVariables false

theorem own : ownKnob Try.prog.godebug = none := by kernel_rfl
theorem laidOut : laidOutB Try.prog = true := by kernel_rfl

set_option maxHeartbeats 4000000 in
theorem walk (v : Value) (r : ctr.Rgm) (n : Int) (wn : (Lit.int .i64 n).wf = true) (w : World) (h : ctr.GIn w v r) (_ : (Lit.int .i64 r.fr).wf = true) (_ : (Lit.int .i64 r.to).wf = true) :
    Calls Try.prog 6 #[v, .int .i64 n] w fun e w' => e = .returned (.bool true) ∧ Below w.heap.size w w' := by
  have H := ctr.hideP h
  obtain ⟨a1, n1, c1, a2, n2, c2, a3, n3, c3, ev, _⟩ := h
  obtain ⟨W0, hW0, d0, d1, d2, d3, d4, d5, d6, hBl⟩ := ctr.seven_box w (.string r.name) (.int .i64 r.fr) (.int .i64 r.to) (.slice a1 n1 c1) (.slice a2 n2 c2) (.slice a3 n3 c3) (.int .i64 r.rule) 39
  have HW0 := ctr.hideP hW0
  have HBl := ctr.hideP hBl
  have KZ : Hid (∀ x : ctr.Later W0, Calls Try.prog 18 #[v, .int .i64 1048576] x.w fun e w' => ∃ z : Int, e = .returned (.int .i64 z) ∧ (z = -1 ∨ (0 ≤ z ∧ z ≤ 1048576 ∧ ctr.GOk r)) ∧ Below x.w.heap.size x.w w') := fun x => ctr.szRegime v r 1048576 x.w (H.out.below (HBl.out x)) (by omega) (by omega)
  have KT : Hid (ctr.GOk r → ∀ x : ctr.Later W0, Calls Try.prog 20 #[v] x.w fun e w' => ∃ o, e = .returned o ∧ ctr.GNew x.w w' o r ∧ Below x.w.heap.size x.w w') := fun ho x => ctr.toRegime v r x.w (H.out.below (HBl.out x)) ho
  have KE : Hid (∀ v1 v2 W, ctr.GRow W v1 r → ctr.GRow W v2 r → Calls Try.prog 22 #[v1, v2] W fun e w' => e = .returned (.bool true) ∧ Below W.heap.size W w') := fun v1 v2 W g1 g2 => ctr.eqRegime v1 v2 r W g1 g2
  have KS : Hid (∀ v W, ctr.GRow W v r → Calls Try.prog 23 #[v, .int .i64 n] W fun e w' => e = .returned (.int .i64 (ctr.patAt r.pats n)) ∧ Below W.heap.size W w') := fun v W g => ctr.specPatAt v r n W g
  have KI : Hid (∀ v W, ctr.GRow W v r → Calls Try.prog 24 #[v, .int .i64 n] W fun e w' => e = .returned (.int .i64 (ctr.patAt r.pats n)) ∧ Below W.heap.size W w') := fun v W g => ctr.implPatAt v r n W g
  generalize ctr.patAt r.pats n = ans at *
  subst ev
  clear hW0 hBl H
  go_enter Try.func6, Try.ntmps6
  go_wp2_with fail
  rw [← HW0.out]
  refine (KZ.out ⟨W0, Below.refl _ _⟩).mono ?_
  rintro e w1 ⟨z, rfl, hz, hb⟩
  obtain ⟨x1, rfl⟩ := ctr.Later.of hb
  have HZ := ctr.hideP hz
  clear hb hz
  rcases HZ.out with rfl | ⟨z1, z2, ho⟩
  · go_wp2_with fail
    go_ret
    exact ⟨rfl, HBl.out x1⟩
  have HO := ctr.hideP ho
  clear ho
  go_wp2_with fail
  refine (KT.out HO.out x1).mono ?_
  rintro e w2 ⟨o1, rfl, hn, hb⟩
  obtain ⟨x2, rfl⟩ := x1.next hb
  have R1 := ctr.hideP (hn.row HO.out)
  obtain ⟨p1, p2, p3, rfl, _⟩ := hn
  clear hb
  go_wp2_with fail
  refine (KS.out _ _ R1.out).mono ?_
  rintro e w3 ⟨rfl, hb⟩
  obtain ⟨x3, rfl⟩ := x2.next hb
  clear hb R1
  go_wp2_with fail
  refine (KT.out HO.out x3).mono ?_
  rintro e w4 ⟨o2, rfl, hn, hb⟩
  obtain ⟨x4, rfl⟩ := x3.next hb
  have R2 := ctr.hideP (hn.row HO.out)
  obtain ⟨p1, p2, p3, rfl, ⟨s1, s2, rfl, _⟩, ⟨s3, s4, rfl, _⟩, ⟨s5, s6, rfl, _⟩⟩ := hn
  clear hb
  obtain ⟨W5, hW5, f0, f1, f2, f3, f4, f5, f6, hBl5⟩ := ctr.seven_box x4.w (.string r.name) (.int .i64 r.fr) (.int .i64 r.to) (.slice (some ⟨s1, 0, none⟩) r.segs.length r.segs.length) (.slice (some ⟨s3, 0, none⟩) r.pats.length r.pats.length) (.slice (some ⟨s5, 0, none⟩) r.rgns.length r.rgns.length) (.int .i64 r.rule) 45
  have B5 : Below W0.heap.size W0 W5 := x4.on (hBl5 ⟨W5, Below.refl _ _⟩)
  have e0 : ∀ x : ctr.Later W5, x.w.cell? ⟨w.heap.size, 0, none⟩ = some (.string r.name) := fun x => d0 ⟨x.w, B5.trans (x.below.mono B5.size)⟩
  have e1 : ∀ x : ctr.Later W5, x.w.cell? ⟨w.heap.size, 1, none⟩ = some (.int .i64 r.fr) := fun x => d1 ⟨x.w, B5.trans (x.below.mono B5.size)⟩
  have e2 : ∀ x : ctr.Later W5, x.w.cell? ⟨w.heap.size, 2, none⟩ = some (.int .i64 r.to) := fun x => d2 ⟨x.w, B5.trans (x.below.mono B5.size)⟩
  have e3 : ∀ x : ctr.Later W5, x.w.cell? ⟨w.heap.size, 3, none⟩ = some (.slice a1 n1 c1) := fun x => d3 ⟨x.w, B5.trans (x.below.mono B5.size)⟩
  have e4 : ∀ x : ctr.Later W5, x.w.cell? ⟨w.heap.size, 4, none⟩ = some (.slice a2 n2 c2) := fun x => d4 ⟨x.w, B5.trans (x.below.mono B5.size)⟩
  have e5 : ∀ x : ctr.Later W5, x.w.cell? ⟨w.heap.size, 5, none⟩ = some (.slice a3 n3 c3) := fun x => d5 ⟨x.w, B5.trans (x.below.mono B5.size)⟩
  have e6 : ∀ x : ctr.Later W5, x.w.cell? ⟨w.heap.size, 6, none⟩ = some (.int .i64 r.rule) := fun x => d6 ⟨x.w, B5.trans (x.below.mono B5.size)⟩
  have HE : Hid (∀ x : ctr.Later W5, ∃ y : ctr.Later W0, y.w = x.w) := fun x => ⟨⟨x.w, B5.trans (x.below.mono B5.size)⟩, rfl⟩
  have R5 : Hid (∀ x : ctr.Later W5, ctr.GRow x.w (.agg #[.string r.name, .int .i64 r.fr, .int .i64 r.to, .slice (some ⟨s1, 0, none⟩) r.segs.length r.segs.length, .slice (some ⟨s3, 0, none⟩) r.pats.length r.pats.length, .slice (some ⟨s5, 0, none⟩) r.rgns.length r.rgns.length, .int .i64 r.rule]) r) := fun x => R2.out.below (hBl5 x)
  have KT5 : Hid (∀ W, Below W5.heap.size W5 W → Calls Try.prog 20 #[.agg #[.string r.name, .int .i64 r.fr, .int .i64 r.to, .slice a1 n1 c1, .slice a2 n2 c2, .slice a3 n3 c3, .int .i64 r.rule]] W fun e w' => ∃ o, e = .returned o ∧ ctr.GNew W w' o r ∧ Below W.heap.size W w') := fun W hb => KT.out HO.out ⟨W, B5.trans (hb.mono B5.size)⟩
  have HW5 := ctr.hideP hW5
  clear hW5 hBl5 B5 R2 d0 d1 d2 d3 d4 d5 d6 KZ KS
  go_wp2_with fail
  rw [← HW5.out]
  refine (KI.out _ _ (R5.out ⟨W5, Below.refl _ _⟩)).mono ?_
  rintro e w6 ⟨rfl, hb⟩
  obtain ⟨x6, rfl⟩ := ctr.Later.of hb
  clear hb KI
  go_wp2_with fail
  go_region_with (first | (go_at_call 20; refine (KT5.out _ x6.below.drew).mono ?_; rintro e w7 ⟨o3, rfl, hn, hb⟩; obtain ⟨x7, rfl⟩ : ∃ x7 : ctr.Later W5, w7 = x7.w := ⟨⟨w7, x6.below.drew.trans (hb.mono x6.below.drew.size)⟩, rfl⟩; have R7 := ctr.hideP (hn.row HO.out); obtain ⟨p1, p2, p3, rfl, _⟩ := hn; clear hb) | (go_at_call 22; refine (KE.out _ _ _ (R5.out x7) R7.out).mono ?_; rintro e w8 ⟨rfl, hb⟩; obtain ⟨x8, rfl⟩ := x7.next hb; clear hb))
  all_goals go_wp2_with fail
  all_goals go_ret
  all_goals (obtain ⟨y, hy⟩ := HE.out x8; exact ⟨rfl, hy ▸ HBl.out y⟩)

set_option maxRecDepth 100000 in
theorem lifted (os : Os) (started : os.Started) (H : Type) (enc : TypeId × Value → H) :
    ReturnsInHanded {} Try.checked os 6 .any (Rows.fnExactPatchAtSpec.pre6 enc Try.prog Try.f6 Rows.fnExactPatchAtRow.domain false) (Rows.fnExactPatchAtSpec.post enc Try.prog Try.f6 false true false false) := by
  refine returnsInHanded_of_change (C := Try.checked) own started (by kernel_rfl) Try.func6
    (ChangeSpec.witness6 (enc := enc) (C := Try.checked) false ⟨#[], #[.agg #[.string ByteArray.empty, .int .i64 0, .int .i64 0, .slice none 0 0, .slice none 0 0, .slice none 0 0, .int .i64 0], .int .i64 0], []⟩ 8 (by kernel_rfl) (by kernel_rfl) (by kernel_rfl) (by kernel_rfl)) ?_
  intro W base args ds gs before hval0 hW hcnd _
  have hval : ∀ (j : Nat) t v, Try.f6.params[j]? = some t → args[j]? = some v → Value.okWide Try.prog W .any base t v := hval0
  have hW' := hW
  obtain ⟨p, q, hA0, hV, rfl, hfz, hnd⟩ := hW
  have hA : DataW.TrodAll enc Try.prog W 0 (fun _ => true) true Try.f6.params.toList args.toList ds p := hA0
  rw [Try.params6] at hA hval
  obtain ⟨v0, vs0, d0, ds0, p0, q0, hargs, rfl, rfl, h0, r0'⟩ := trodAll_cons hA
  obtain ⟨v1, vs1, d1, ds1, p1, q1, rfl, rfl, rfl, h1, r1'⟩ := trodAll_cons r0'
  obtain ⟨rfl, rfl, rfl⟩ := trodAll_nil r1'
  obtain rfl : args = #[v0, v1] := by cases args; simp_all
  obtain ⟨rfl, rfl⟩ := trodVars_none hV
  have k0 := h0
  have lt0 : ∀ x ∈ p0, x.block < W.heap.size := by obtain ⟨m, hm⟩ := k0; exact DataW.trod_lt m _ _ _ hm
  obtain ⟨r0, hr0, wf0, wt0⟩ := kit.open_rgm Try.underlying39 (by kernel_rfl) (show Try.prog.cellsOf 39 = 7 by kernel_rfl) Try.underlying9 Try.underlying3 Try.underlying3 Try.underlying28 Try.underlying36 Try.underlying37 Try.underlying3 Try.underlying23 (show Try.prog.cellsOf 23 = 5 by kernel_rfl) rfl (fun j f h => by
      rcases j with _ | _ | _ | _ | _ | j <;> simp at h <;> (try subst h) <;> exact ⟨rfl, by kernel_rfl, Try.underlying3⟩) Try.underlying91 (show Try.prog.cellsOf 91 = 3 by kernel_rfl) rfl (fun j f h => by
      rcases j with _ | _ | _ | j <;> simp at h <;> (try subst h) <;> exact ⟨rfl, by kernel_rfl, Try.underlying3⟩) Try.underlying89 (show Try.prog.cellsOf 89 = 3 by kernel_rfl) rfl rfl rfl (by kernel_rfl) (by kernel_rfl) (by kernel_rfl) Try.underlying9 Try.underlying3 Try.underlying3 (hval 0 39 v0 rfl rfl) h0
  obtain ⟨a1, rfl, rfl, rfl, w1⟩ := open_int Try.underlying3 (hval 1 3 v1 rfl rfl) h1
  clear hA0 hval0
  refine (walk v0 r0 a1 w1 W hr0 wf0 wt0).mono fun e W' ⟨he, bel⟩ => ?_
  subst he
  exact ⟨_, rfl, _, _, _, [], _, [], hW', trodAll_cons_mk (shut_bool Try.underlying4 _) trodAll_mk0, trodAll_cons_mk (Below.trod laidOut (by kernel_rfl) (of_decide_eq_true (by kernel_rfl)) k0 bel lt0) (trodAll_cons_mk (shut_int Try.underlying3 w1) (trodAll_mk0)), rfl, bel.frame _, fun h => by cases h⟩

theorem over : Rows.fnExactPatchAtRow.holds Try.pinned (OpenSpec.ofChange Rows.fnExactPatchAtSpec) :=
  OpenClaim.holds_of_wide 6 Try.f6 rfl rfl rfl rfl rfl rfl rfl ⟨rfl, rfl, rfl, rfl, rfl⟩ rfl rfl rfl rfl rfl (by kernel_rfl) Try.func6 (by kernel_rfl)
    (of_decide_eq_true (by kernel_rfl)) (by unfold Func.isWrapper; first | (rw [if_pos (by decide +kernel)]; kernel_rfl) | (rw [if_neg (by decide +kernel)]; exact ⟨rfl, rfl⟩))
    (fun os started H enc _ => lifted os started H enc)

theorem proved : Rows.FnExactPatchAtSaid :=
  over
end Go.Proofs.Ytkinapfoigibcaa.fnExactPatchAt

namespace Go.Proofs.Ytkinapfoigibcaa
theorem fnExactPatchAt_holds : Rows.FnExactPatchAtSaid := fnExactPatchAt.proved
#print axioms fnExactPatchAt_holds
end Go.Proofs.Ytkinapfoigibcaa
