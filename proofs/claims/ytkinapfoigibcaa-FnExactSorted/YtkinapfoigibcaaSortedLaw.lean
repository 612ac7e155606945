/- FnExactSorted returns true at every list of segments: the program's Sorted answers as the model's, in memory of its own, and writes into no argument; nothing that was there turns. -/
import Derived.Test.YtkinapfoigibcaaRows
import Derived.Test.YtkinapfoigibcaaSrtSpec
import Derived.Test.YtkinapfoigibcaaSegMark
import Derived.Test.YtkinapfoigibcaaIntOpen
import Derived.WalkKit
import Derived.ProofKit
import Derived.OpenShut
import Derived.ShutString
import Derived.ChangeOld
import Derived.Below
import Derived.Lib.SmallJoins
namespace Go.Proofs.Ytkinapfoigibcaa.fnExactSorted
open Go.ChangeShapes Go.WideShapes Go.ChangeAt Go.RowKit
set_option linter.unusedVariables false

theorem own : ownKnob Try.prog.godebug = none := by kernel_rfl
theorem laidOut : laidOutB Try.prog = true := by kernel_rfl

set_option maxHeartbeats 4000000 in
theorem walk (a : Option Addr) (len cap : Nat) (l : List ctr.Seg) (w : World) (h : ctr.IIn ctr.segK w a len cap l) :
    Calls Try.prog 4 #[.slice a len cap] w fun e w' => e = .returned (.bool true) ∧ Below w.heap.size w w' := by
  have H := ctr.hideP h
  have hl1 := h.2.1
  have hl2 := h.2.2.1
  have HLn := ctr.hideP h.1
  have KZ := ctr.hideP (ctr.szSegmentS a len cap 1048576 w hl1 hl2 (by omega) (by omega))
  clear h hl1 hl2
  by_cases hbig : (1048576 : Int) < len
  · rw [if_pos hbig] at KZ
    go_enter Try.func4, Try.ntmps4
    go_wp2_with fail
    refine KZ.out.mono ?_
    rintro e w1 ⟨rfl, rfl⟩
    go_wp2
    go_ret
    exact ⟨rfl, Below.refl _ _⟩
  rw [if_neg hbig] at KZ
  have hlen : l.length ≤ 1048576 := by rw [HLn.out]; omega
  have hml : l.length ≤ maxLen := by unfold maxLen; omega
  obtain ⟨z, hz⟩ : ∃ z : Int, z = 1048576 - len := ⟨_, rfl⟩
  have hz0 : 0 ≤ z := by omega
  rw [← hz] at KZ
  have HSL := ctr.hideP (ctr.sortS_len l)
  clear hz hbig
  go_enter Try.func4, Try.ntmps4
  go_wp2_with fail
  refine KZ.out.mono ?_
  rintro e w1 ⟨rfl, rfl⟩
  go_wp2_with fail
  refine (ctr.toSegmentS _ _ _ _ _ H.out hlen).mono ?_
  rintro e w2 ⟨v0, rfl, hr0, hb⟩
  have R0 := ctr.hideP (hr0.row hml)
  have B2 := ctr.hideP hb
  clear hr0 hb
  go_wp2_with fail
  refine (ctr.specSorted _ _ _ R0.out hlen).mono ?_
  rintro e w3 ⟨s0, rfl, hs0, hb⟩
  have S0 := ctr.hideP hs0.row
  have B3 : Hid (Below w1.heap.size w1 w3) := B2.out.trans (hb.mono B2.out.size)
  have H3 := ctr.hideP (H.out.below B3.out)
  clear hs0 hb
  go_wp2_with fail
  refine (ctr.toSegmentS _ _ _ _ _ H3.out hlen).mono ?_
  rintro e w4 ⟨v1, rfl, hr1, hb⟩
  have R1 := ctr.hideP (hr1.row hml)
  obtain ⟨gx, tx, rfl, hgx, hBx⟩ := hr1
  have X4 := ctr.hideP hBx
  have hgx4 : gx < w4.heap.size := hBx.lt
  have C4 := ctr.hideP hb
  clear hBx hb
  go_wp2_with fail
  refine (ctr.implSorted _ _ _ R1.out hlen).mono ?_
  rintro e w5 ⟨g0, rfl, hg0, hb⟩
  obtain ⟨gg, cg, rfl, hgg, hP5⟩ := hg0
  have P5 := ctr.hideP hP5
  have D5 := ctr.hideP hb
  have C5 : Hid (Below w3.heap.size w3 w5) := C4.out.trans (hb.mono C4.out.size)
  have R5 := ctr.hideP (R1.out.below hb)
  clear hP5 hb
  go_wp2_with fail
  refine (ctr.eqSegmentS _ _ _ _ P5.out.row (S0.out.below C5.out)).mono ?_
  rintro e w6 ⟨rfl, hb⟩
  have P6 := ctr.hideP (P5.out.below hb P5.out.lt)
  have D6 : Hid (Below w4.heap.size w4 w6) := D5.out.trans (hb.mono D5.out.size)
  have C6 : Hid (Below w3.heap.size w3 w6) := C5.out.trans (hb.mono C5.out.size)
  have R6 := ctr.hideP (R5.out.below hb)
  have H6 := ctr.hideP (H3.out.below C6.out)
  clear hb P5 D5 C5 R5
  go_wp2_with fail
  refine (ctr.toSegmentS _ _ _ _ _ H6.out hlen).mono ?_
  rintro e w7 ⟨v2, rfl, hr2, hb⟩
  have R2 := ctr.hideP (hr2.row hml)
  have P7 := ctr.hideP (P6.out.below hb P6.out.lt)
  have D7 : Hid (Below w4.heap.size w4 w7) := D6.out.trans (hb.mono D6.out.size)
  have C7 : Hid (Below w3.heap.size w3 w7) := C6.out.trans (hb.mono C6.out.size)
  have R7 := ctr.hideP (R6.out.below hb)
  clear hr2 hb P6 D6 C6 R6
  go_wp2_with fail
  refine (ctr.eqSegmentS _ _ _ _ R7.out R2.out).mono ?_
  rintro e w8 ⟨rfl, hb⟩
  have P8 := ctr.hideP (P7.out.below hb P7.out.lt)
  have D8 : Hid (Below w4.heap.size w4 w8) := D7.out.trans (hb.mono D7.out.size)
  have C8 : Hid (Below w3.heap.size w3 w8) := C7.out.trans (hb.mono C7.out.size)
  have O8 : Hid (ctr.OwnC w8 gx (l.length * 5)) := ctr.ownC_of (X4.out.below D8.out hgx4) (by rw [ctr.iA_size]; exact Nat.le_refl _)
  clear hb P7 D7 C7 R7
  go_wp2_with fail
  refine (ctr.markSegs gx _ _ _ hlen O8.out).mono ?_
  rintro e w9 ⟨rfl, hM⟩
  have P9 := ctr.hideP (P8.out.grown hM.grown (fun e => by have := Option.some.inj e; omega))
  have C9 : Hid (Below w3.heap.size w3 w9) := C8.out.trans (ctr.below_grown2 hM.grown C8.out.size (fun k e => by cases e; exact hgx))
  clear hM P8 C8
  go_wp2_with fail
  refine (ctr.eqSegmentS _ _ _ _ P9.out.row (S0.out.below C9.out)).mono ?_
  rintro e w10 ⟨rfl, hb⟩
  have P10 := ctr.hideP (P9.out.below hb P9.out.lt)
  have C10 : Hid (Below w3.heap.size w3 w10) := C9.out.trans (hb.mono C9.out.size)
  have O10 := ctr.hideP P10.out.own
  clear hb P9 C9
  generalize hN : (ctr.sortS l).length = N at *
  have HN := ctr.hideP hN
  have hN' : N ≤ 1048576 := by have := HSL.out; omega
  clear hN
  go_wp2_with fail
  refine (ctr.markSegs gg cg N _ hN' O10.out).mono ?_
  rintro e w11 ⟨rfl, hM⟩
  have M11 := ctr.hideP hM.mark
  have hg11 : Hid (gg < w11.heap.size) := Nat.lt_of_lt_of_le P10.out.lt hM.grown.size
  have C11 : Hid (Below w3.heap.size w3 w11) := C10.out.trans (ctr.below_grown2 hM.grown C10.out.size (fun k e => by cases e; have := C4.out.size; omega))
  have H11 := ctr.hideP (H3.out.below C11.out)
  clear hM P10 C10 O10
  go_wp2_with fail
  refine (ctr.heldSegs gg cg N _ hN' M11.out).mono ?_
  rintro e w12 ⟨rfl, rfl⟩
  go_wp2_with fail
  refine (ctr.toSegmentS _ _ _ _ _ H11.out hlen).mono ?_
  rintro e w13 ⟨v3, rfl, hr3, hb⟩
  have R13 := ctr.hideP (hr3.row hml)
  have C13 : Hid (Below w3.heap.size w3 w13) := C11.out.trans (hb.mono C11.out.size)
  have M13 : Hid (ctr.MarkC w13 gg (N * 5)) := fun j hj => (hb.cell (p := ⟨gg, j, none⟩) hg11.out).trans (M11.out j hj)
  have hg13 : Hid (gg < w13.heap.size) := Nat.lt_of_lt_of_le hg11.out hb.size
  clear hr3 hb
  go_wp2_with fail
  refine (ctr.implSorted _ _ _ R13.out hlen).mono ?_
  rintro e w14 ⟨h0, rfl, hh0, hb⟩
  have G14 := ctr.hideP hh0.row
  have C14 : Hid (Below w3.heap.size w3 w14) := C13.out.trans (hb.mono C13.out.size)
  have M14 : Hid (ctr.MarkC w14 gg (N * 5)) := fun j hj => (hb.cell (p := ⟨gg, j, none⟩) hg13.out).trans (M13.out j hj)
  have hg14 : Hid (gg < w14.heap.size) := Nat.lt_of_lt_of_le hg13.out hb.size
  clear hh0 hb
  go_wp2_with fail
  refine (ctr.eqSegmentS _ _ _ _ G14.out (S0.out.below C14.out)).mono ?_
  rintro e w15 ⟨rfl, hb⟩
  have C15 : Hid (Below w3.heap.size w3 w15) := C14.out.trans (hb.mono C14.out.size)
  have M15 : Hid (ctr.MarkC w15 gg (N * 5)) := fun j hj => (hb.cell (p := ⟨gg, j, none⟩) hg14.out).trans (M14.out j hj)
  clear hb
  go_wp2_with fail
  refine (ctr.heldSegs gg cg N _ hN' M15.out).mono ?_
  rintro e w16 ⟨rfl, rfl⟩
  go_wp2
  go_ret
  exact ⟨rfl, B3.out.trans (C15.out.mono B3.out.size)⟩

set_option maxRecDepth 100000 in
theorem lifted (os : Os) (started : os.Started) (H : Type) (enc : TypeId × Value → H) :
    ReturnsInHanded {} Try.checked os 4 .any (Rows.fnExactSortedSpec.pre6 enc Try.prog Try.f4 Rows.fnExactSortedRow.domain false) (Rows.fnExactSortedSpec.post enc Try.prog Try.f4 false true false false) := by
  refine returnsInHanded_of_change (C := Try.checked) own started (by kernel_rfl) Try.func4
    (ChangeSpec.witness6 (enc := enc) (C := Try.checked) false ⟨#[], #[.slice none 0 0], []⟩ 8 (by kernel_rfl) (by kernel_rfl) (by kernel_rfl) (by kernel_rfl)) ?_
  intro W base args ds gs before hval0 hW hcnd _
  have hval : ∀ (j : Nat) t v, Try.f4.params[j]? = some t → args[j]? = some v → Value.okWide Try.prog W .any base t v := hval0
  have hW' := hW
  obtain ⟨p, q, hA0, hV, rfl, hfz, hnd⟩ := hW
  have hA : DataW.TrodAll enc Try.prog W 0 (fun _ => true) true Try.f4.params.toList args.toList ds p := hA0
  rw [Try.params4] at hA hval
  obtain ⟨v0, vs0, d0, ds0, p0, q0, hargs, rfl, rfl, h0, r0'⟩ := trodAll_cons hA
  obtain ⟨rfl, rfl, rfl⟩ := trodAll_nil r0'
  obtain rfl : args = #[v0] := by cases args; simp_all
  obtain ⟨rfl, rfl⟩ := trodVars_none hV
  obtain ⟨a0, len0, cap0, rfl⟩ := okWide_slice Try.underlying28 (hval 0 28 v0 rfl rfl)
  have k0 := h0
  have lt0 : ∀ x ∈ p0, x.block < W.heap.size := by obtain ⟨m, hm⟩ := k0; exact DataW.trod_lt m _ _ _ hm
  obtain ⟨l0, hl0⟩ := kit.open_irow ctr.segK Try.underlying28 Try.underlying23 (show Try.prog.cellsOf 23 = 5 by kernel_rfl) rfl (fun j f h => by
      rcases j with _ | _ | _ | _ | _ | j <;> simp at h <;> (try subst h) <;> exact ⟨rfl, by kernel_rfl, Try.underlying3⟩) h0
  clear hA0 hval0
  refine (walk a0 len0 cap0 l0 W hl0).mono fun e W' ⟨he, bel⟩ => ?_
  subst he
  exact ⟨_, rfl, _, _, _, [], _, [], hW', trodAll_cons_mk (shut_bool Try.underlying4 _) trodAll_mk0, trodAll_cons_mk (Below.trod laidOut (by kernel_rfl) (of_decide_eq_true (by kernel_rfl)) k0 bel lt0) (trodAll_mk0), rfl, bel.frame _, fun h => by cases h⟩

theorem over : Rows.fnExactSortedRow.holds Try.pinned (OpenSpec.ofChange Rows.fnExactSortedSpec) :=
  OpenClaim.holds_of_wide 4 Try.f4 rfl rfl rfl rfl rfl rfl rfl ⟨rfl, rfl, rfl, rfl, rfl⟩ rfl rfl rfl rfl rfl (by kernel_rfl) Try.func4 (by kernel_rfl)
    (of_decide_eq_true (by kernel_rfl)) (by unfold Func.isWrapper; first | (rw [if_pos (by decide +kernel)]; kernel_rfl) | (rw [if_neg (by decide +kernel)]; exact ⟨rfl, rfl⟩))
    (fun os started H enc _ => lifted os started H enc)

theorem proved : Rows.FnExactSortedSaid :=
  over
end Go.Proofs.Ytkinapfoigibcaa.fnExactSorted

namespace Go.Proofs.Ytkinapfoigibcaa
theorem fnExactSorted_holds : Rows.FnExactSortedSaid := fnExactSorted.proved
#print axioms fnExactSorted_holds
end Go.Proofs.Ytkinapfoigibcaa
