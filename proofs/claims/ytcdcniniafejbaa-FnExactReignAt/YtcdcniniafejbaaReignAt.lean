/- FnExactReignAt returns true at every list of reigns and every day: the program's ReignAt answers as the model's; nothing that was there turns. -/
import Derived.Test.YtcdcniniafejbaaRows
import Derived.WalkKit
import Derived.ProofKit
import Derived.OpenShut
import Derived.ShutString
import Derived.ChangeOld
import Derived.Below
import Derived.Lib.SmallJoins
import Derived.Test.YtcdcniniafejbaaRgnHelp
import Derived.Test.YtcdcniniafejbaaRgnAt
namespace Go.Proofs.Ytcdcniniafejbaa.fnExactReignAt
open Go.ChangeShapes Go.WideShapes Go.ChangeAt Go.RowKit
set_option linter.unusedVariables false

theorem own : ownKnob Try.prog.godebug = none := by kernel_rfl
theorem laidOut : laidOutB Try.prog = true := by kernel_rfl
set_option maxHeartbeats 1000000 in
theorem walk (a : Option Addr) (len cap : Nat) (l : List ctr.Rgn) (n : Int) (w : World) (h : ctr.RIn w a len cap l) :
    Calls Try.prog 3 #[.slice a len cap, .int .i64 n] w fun e w' => e = .returned (.bool true) ∧ Below w.heap.size w w' := by
  have H := ctr.hideP h
  clear h
  go_enter Try.func3, Try.ntmps3
  go_wp2_with fail
  refine (ctr.szReignS _ _ _ _ _ H.out).mono ?_
  rintro e w1 ⟨z, rfl, hz, hb1⟩
  have B1 := ctr.hideP hb1
  clear hb1
  rcases hz with rfl | ⟨z1, hs⟩
  · go_wp2
    go_ret
    exact ⟨rfl, B1.out⟩
  have HS := ctr.hideP hs
  have H1 := ctr.hideP (H.out.below B1.out)
  clear hs
  go_wp2_with fail
  refine (ctr.toReignS _ _ _ _ _ H1.out HS.out).mono ?_
  rintro e w2 ⟨v0, rfl, hr0, hb2⟩
  have R0 := ctr.hideP (hr0.row (ctr.len_ok HS.out) HS.out.names)
  have B2 : Hid (Below w.heap.size w w2) := B1.out.trans (hb2.mono B1.out.size)
  clear hr0 hb2
  go_wp2_with fail
  refine (ctr.specReignAt _ _ _ _ R0.out).mono ?_
  rintro e w3 ⟨rfl, hb3⟩
  have B3 : Hid (Below w.heap.size w w3) := B2.out.trans (hb3.mono B2.out.size)
  have H3 := ctr.hideP (H.out.below B3.out)
  clear hb3
  go_wp2_with fail
  refine (ctr.toReignS _ _ _ _ _ H3.out HS.out).mono ?_
  rintro e w4 ⟨v1, rfl, hr1, hb4⟩
  have R1 := ctr.hideP (hr1.row (ctr.len_ok HS.out) HS.out.names)
  have B4 : Hid (Below w.heap.size w w4) := B3.out.trans (hb4.mono B3.out.size)
  clear hr1 hb4
  go_wp2_with fail
  refine (ctr.implReignAt _ _ _ _ R1.out).mono ?_
  rintro e w5 ⟨rfl, hb5⟩
  have R5 := ctr.hideP (R1.out.below hb5)
  have B5 : Hid (Below w.heap.size w w5) := B4.out.trans (hb5.mono B4.out.size)
  have H5 := ctr.hideP (H.out.below B5.out)
  clear hb5
  generalize ctr.atR l n = z at *
  go_wp2_with fail
  refine (ctr.toReignS _ _ _ _ _ H5.out HS.out).mono ?_
  rintro e w6 ⟨v2, rfl, hr2, hb6⟩
  have R2 := ctr.hideP (hr2.row (ctr.len_ok HS.out) HS.out.names)
  have R6 := ctr.hideP (R5.out.below hb6)
  have B6 : Hid (Below w.heap.size w w6) := B5.out.trans (hb6.mono B5.out.size)
  clear hr2 hb6
  go_wp2_with fail
  refine (ctr.eqReignS _ _ _ _ R6.out R2.out).mono ?_
  rintro e w7 ⟨rfl, hb7⟩
  have B7 : Hid (Below w.heap.size w w7) := B6.out.trans (hb7.mono B6.out.size)
  clear hb7
  go_wp2
  go_ret
  exact ⟨rfl, B7.out⟩

set_option maxRecDepth 100000 in
theorem lifted (os : Os) (started : os.Started) (H : Type) (enc : TypeId × Value → H) :
    ReturnsInHanded {} Try.checked os 3 .any (Rows.fnExactReignAtSpec.pre6 enc Try.prog Try.f3 Rows.fnExactReignAtRow.domain false) (Rows.fnExactReignAtSpec.post enc Try.prog Try.f3 false true false false) := by
  refine returnsInHanded_of_change (C := Try.checked) own started (by kernel_rfl) Try.func3
    (ChangeSpec.witness6 (enc := enc) (C := Try.checked) false ⟨#[], #[.slice none 0 0, .int .i64 0], []⟩ 8 (by kernel_rfl) (by kernel_rfl) (by kernel_rfl) (by kernel_rfl)) ?_
  intro W base args ds gs before hval0 hW hcnd _
  have hval : ∀ (j : Nat) t v, Try.f3.params[j]? = some t → args[j]? = some v → Value.okWide Try.prog W .any base t v := hval0
  have hW' := hW
  obtain ⟨p, q, hA0, hV, rfl, hfz, hnd⟩ := hW
  have hA : DataW.TrodAll enc Try.prog W 0 (fun _ => true) true Try.f3.params.toList args.toList ds p := hA0
  rw [Try.params3] at hA hval
  obtain ⟨v0, vs0, d0, ds0, p0, q0, hargs, rfl, rfl, h0, r0⟩ := trodAll_cons hA
  obtain ⟨v1, vs1, d1, ds1, p1, q1, rfl, rfl, rfl, h1, r1⟩ := trodAll_cons r0
  obtain ⟨rfl, rfl, rfl⟩ := trodAll_nil r1
  obtain rfl : args = #[v0, v1] := by cases args; simp_all
  obtain ⟨rfl, rfl⟩ := trodVars_none hV
  have k0 := h0
  have lt0 : ∀ x ∈ p0, x.block < W.heap.size := by obtain ⟨m, hm⟩ := k0; exact DataW.trod_lt m _ _ _ hm
  obtain ⟨a0, len0, cap0, rfl⟩ := okWide_slice Try.underlying22 (hval 0 22 v0 rfl rfl)
  obtain ⟨l, hl⟩ := kit.open_rgns Try.underlying22 Try.underlying31 (show Try.prog.cellsOf 31 = 3 by kernel_rfl) rfl rfl rfl (by kernel_rfl) (by kernel_rfl) (by kernel_rfl) Try.underlying9 Try.underlying3 Try.underlying3 h0
  obtain ⟨a1, rfl, rfl, rfl, w1⟩ := open_int Try.underlying3 (hval 1 3 v1 rfl rfl) h1
  clear hA0 hval0
  refine (walk a0 len0 cap0 l a1 W hl).mono fun e W' ⟨he, bel⟩ => ?_
  subst he
  exact ⟨_, rfl, _, _, _, [], _, [], hW', trodAll_cons_mk (shut_bool Try.underlying4 _) trodAll_mk0, trodAll_cons_mk (Below.trod laidOut (by kernel_rfl) (of_decide_eq_true (by kernel_rfl)) k0 bel lt0) (trodAll_cons_mk (shut_int Try.underlying3 w1) trodAll_mk0), rfl, bel.frame _, fun h => by cases h⟩

theorem over : Rows.fnExactReignAtRow.holds Try.pinned (OpenSpec.ofChange Rows.fnExactReignAtSpec) :=
  OpenClaim.holds_of_wide 3 Try.f3 rfl rfl rfl rfl rfl rfl rfl ⟨rfl, rfl, rfl, rfl, rfl⟩ rfl rfl rfl rfl rfl (by kernel_rfl) Try.func3 (by kernel_rfl)
    (of_decide_eq_true (by kernel_rfl)) (by unfold Func.isWrapper; first | (rw [if_pos (by decide +kernel)]; kernel_rfl) | (rw [if_neg (by decide +kernel)]; exact ⟨rfl, rfl⟩))
    (fun os started H enc _ => lifted os started H enc)

theorem proved : Rows.FnExactReignAtSaid :=
  over
end Go.Proofs.Ytcdcniniafejbaa.fnExactReignAt

namespace Go.Proofs.Ytcdcniniafejbaa
theorem fnExactReignAt_holds : Rows.FnExactReignAtSaid := fnExactReignAt.proved
#print axioms fnExactReignAt_holds
end Go.Proofs.Ytcdcniniafejbaa
