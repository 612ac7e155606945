/- FnExactGaps returns true at every list of reigns and every two days: the program's Gaps answers as the model's, in memory of its own; nothing that was there turns. The row lists the table of months and errNoTable; the card ties them to the program's text. -/
import Derived.Test.YtcdcniniafejbaaDoorCards
import Derived.Test.YtcdcniniafejbaaDoorTie
import Derived.Test.YtcdcniniafejbaaDoorVarsKit
import Derived.Test.YtcdcniniafejbaaDoorRgnMark
import Derived.Test.YtcdcniniafejbaaDoorRgnGapI
import Derived.Test.YtcdcniniafejbaaDoorRgnLaw
import Derived.WalkKit
import Derived.ProofKit
import Derived.OpenShut
import Derived.ShutString
import Derived.ChangeOld
import Derived.Below
import Derived.Deep.DeepHandedRow
import Derived.Lib.LaidTab
import Derived.Lib.SmallJoins
namespace Go.Proofs.YtcdcniniafejbaaDoor.fnExactGaps
open Go.ChangeShapes Go.WideShapes Go.ChangeAt Go.RowKit
open Go.ChangeMaps (open_string shut_string)
set_option linter.unusedVariables false

theorem own : ownKnob Tryd.prog.godebug = none := by kernel_rfl
theorem laidOut : laidOutB Tryd.prog = true := by kernel_rfl
theorem g0 : Tryd.prog.globalNamed "loop.example/g00638/impl.monthLengths" = some 1 := by kernel_rfl
theorem gt0 : (Tryd.prog.globals[1]?).map (·.type) = some 123 := by kernel_rfl
theorem ce0 : Tryd.prog.cellsOf 3 = 1 := by kernel_rfl
theorem ct0 : Tryd.prog.cellsOf 123 = 12 := by kernel_rfl
theorem tab0 {W : World} (h : laidMetH Tryd.prog Rows.fnExactGapsRow.laid W) : Lib.TabIs Tryd.prog W "loop.example/g00638/impl.monthLengths" .i64 [31, 28, 31, 30, 31, 30, 31, 31, 30, 31, 30, 31] := by
  have h0 : laidMet Tryd.prog [("loop.example/g00638/impl.monthLengths", Rows.laid_loop_example_g00638_impl_monthLengths), ("loop.example/g00638/impl.errNoTable", Rows.laid_loop_example_g00638_impl_errNoTable)] W := h
  exact Lib.tabIs_of_head (rest := [("loop.example/g00638/impl.errNoTable", Rows.laid_loop_example_g00638_impl_errNoTable)]) g0 gt0 Tryd.underlying123 Tryd.underlying3 ce0 ct0 h0
theorem g1 : Tryd.prog.globalNamed "loop.example/g00638/impl.errNoTable" = some 0 := by kernel_rfl
theorem gt1 : (Tryd.prog.globals[0]?).map (·.type) = some 55 := by kernel_rfl
theorem tab1 {W : World} (h : laidMetH Tryd.prog Rows.fnExactGapsRow.laid W) : ∃ a, ctr.Sent W a := by
  have h0 : laidMet Tryd.prog [("loop.example/g00638/impl.monthLengths", Rows.laid_loop_example_g00638_impl_monthLengths), ("loop.example/g00638/impl.errNoTable", Rows.laid_loop_example_g00638_impl_errNoTable)] W := h
  have h1 := laidMet.tail h0
  exact kit.sent_of h1

theorem walk (a : Option Addr) (len cap : Nat) (l : List ctr.Rgn) (F : Int) (wF : (Lit.int .i64 F).wf = true) (T : Int) (wT : (Lit.int .i64 T).wf = true) (w : World) (h : ctr.RIn w a len cap l) (t0 : ctr.Tab w) (t1 : ∃ q, ctr.Sent w q) :
    Calls Tryd.prog 7 #[.slice a len cap, .int .i64 F, .int .i64 T] w fun e w' => e = .returned (.bool true) ∧ Below w.heap.size w w' := by
  obtain ⟨q, hq⟩ := t1
  have H := ctr.hideP h
  have HT := ctr.hideP t0
  have HQ := ctr.hideP hq
  have hgl := ctr.gap_len l F T
  have KI : ∀ v W, ctr.RRow W v l → Below w.heap.size w W → Calls Tryd.prog 26 #[v, .int .i64 F, .int .i64 T] W fun e W' => ∃ o, e = .returned o ∧ ctr.PMov W W' o (ctr.gaps l F T) ∧ Below W.heap.size W W' := fun v W hr hb => ctr.implGaps v l F T q W hr (HT.out.later hb) (HQ.out.later hb)
  clear h t0 hq wF wT
  go_enter Tryd.func7, Tryd.ntmps7
  go_wp2_with fail
  refine (ctr.szReignS _ _ _ _ _ H.out).mono ?_
  rintro e w1 ⟨z, rfl, hz, hb1⟩
  have B1 := ctr.hideP hb1
  clear hb1
  rcases hz with rfl | ⟨z1, hs⟩
  · go_wp2
    go_ret
    exact ⟨rfl, B1.out⟩
  have HS := ctr.hideP hs
  have hlen : l.length ≤ 1048576 := hs.1
  have H1 := ctr.hideP (H.out.below B1.out)
  clear hs
  go_wp2_with fail
  refine (ctr.toReignS _ _ _ _ _ H1.out HS.out).mono ?_
  rintro e w2 ⟨v0, rfl, hr0, hb⟩
  have R0 := ctr.hideP (hr0.row (ctr.len_ok HS.out) HS.out.names)
  have B2 : Hid (Below w.heap.size w w2) := B1.out.trans (hb.mono B1.out.size)
  clear hr0 hb
  go_wp2_with fail
  refine (ctr.specGaps _ _ F T _ R0.out).mono ?_
  rintro e w3 ⟨s0, rfl, hs0, hb⟩
  have S0 := ctr.hideP hs0.row
  have B3 : Hid (Below w.heap.size w w3) := B2.out.trans (hb.mono B2.out.size)
  have H3 := ctr.hideP (H.out.below B3.out)
  clear hs0 hb
  go_wp2_with fail
  refine (ctr.toReignS _ _ _ _ _ H3.out HS.out).mono ?_
  rintro e w4 ⟨v1, rfl, hr1, hb⟩
  have R1 := ctr.hideP (hr1.row (ctr.len_ok HS.out) HS.out.names)
  obtain ⟨gx, tx, rfl, hgx, hBx⟩ := hr1
  have X4 := ctr.hideP hBx
  have hgx4 : gx < w4.heap.size := hBx.lt
  have C4 := ctr.hideP hb
  clear hBx hb
  go_wp2_with fail
  refine (ctr.implGaps _ _ F T q _ R1.out (HT.out.later (B3.out.trans (C4.out.mono B3.out.size))) (HQ.out.later (B3.out.trans (C4.out.mono B3.out.size)))).mono ?_
  rintro e w5 ⟨g0, rfl, hg0, hb⟩
  have G5 := ctr.hideP hg0
  have D5 := ctr.hideP hb
  have C5 : Hid (Below w3.heap.size w3 w5) := C4.out.trans (hb.mono C4.out.size)
  have R5 := ctr.hideP (R1.out.below hb)
  clear hg0 hb
  generalize hxs : ctr.gaps l F T = xs at *
  clear hxs
  go_wp2_with fail
  refine (ctr.eqPairs g0 s0 _ _ (by omega) G5.out.row (S0.out.below C5.out)).mono ?_
  rintro e w6 ⟨rfl, hb⟩
  have G6 := ctr.hideP (G5.out.below hb)
  have D6 : Hid (Below w4.heap.size w4 w6) := D5.out.trans (hb.mono D5.out.size)
  have C6 : Hid (Below w3.heap.size w3 w6) := C5.out.trans (hb.mono C5.out.size)
  have R6 := ctr.hideP (R5.out.below hb)
  have H6 := ctr.hideP (H3.out.below C6.out)
  clear hb
  go_wp2_with fail
  refine (ctr.toReignS _ _ _ _ _ H6.out HS.out).mono ?_
  rintro e w7 ⟨v2, rfl, hr2, hb⟩
  have R2 := ctr.hideP (hr2.row (ctr.len_ok HS.out) HS.out.names)
  have G7 := ctr.hideP (G6.out.below hb)
  have D7 : Hid (Below w4.heap.size w4 w7) := D6.out.trans (hb.mono D6.out.size)
  have C7 : Hid (Below w3.heap.size w3 w7) := C6.out.trans (hb.mono C6.out.size)
  have R7 := ctr.hideP (R6.out.below hb)
  clear hr2 hb
  go_wp2_with fail
  refine (ctr.eqReignS _ _ _ _ R7.out R2.out).mono ?_
  rintro e w8 ⟨rfl, hb⟩
  have G8 := ctr.hideP (G7.out.below hb)
  have D8 : Hid (Below w4.heap.size w4 w8) := D7.out.trans (hb.mono D7.out.size)
  have C8 : Hid (Below w3.heap.size w3 w8) := C7.out.trans (hb.mono C7.out.size)
  have hgx8 : gx < w8.heap.size := Nat.lt_of_lt_of_le hgx4 D8.out.size
  have O8 := ctr.hideP (ctr.own_rA (X4.out.below D8.out hgx4))
  clear hb
  go_wp2_with fail
  refine (ctr.markRgns gx _ _ _ hlen hgx8 O8.out).mono ?_
  rintro e w9 ⟨rfl, hG⟩
  have G9 := ctr.hideP ((G8.out.grown hG hgx4).mono (w0 := w3) C4.out.size)
  have C9 : Hid (Below w3.heap.size w3 w9) := C8.out.grown hG C8.out.size (fun k e => by cases e; exact hgx)
  clear hG
  go_wp2_with fail
  refine (ctr.eqPairs g0 s0 _ _ (by omega) G9.out.row (S0.out.below C9.out)).mono ?_
  rintro e w10 ⟨rfl, hb⟩
  have G10 := ctr.hideP (G9.out.below hb)
  have C10 : Hid (Below w3.heap.size w3 w10) := C9.out.trans (hb.mono C9.out.size)
  clear hb
  go_wp2_with fail
  refine (ctr.markPairRow w3 w10 g0 _ (by omega) G10.out C10.out).mono ?_
  rintro e w11 ⟨rfl, hb, hM⟩
  have C11 := ctr.hideP hb
  have M11 := ctr.hideP hM
  have H11 := ctr.hideP (H3.out.below hb)
  clear hb hM
  generalize hN : xs.length = N at *
  have HN := ctr.hideP hN
  clear hN
  go_wp2_with fail
  refine (ctr.heldPairs g0 1 N _ (by omega) (by omega) M11.out).mono ?_
  rintro e w12 ⟨rfl, rfl⟩
  go_wp2_with fail
  refine (ctr.toReignS _ _ _ _ _ H11.out HS.out).mono ?_
  rintro e w13 ⟨v3, rfl, hr3, hb⟩
  have R13 := ctr.hideP (hr3.row (ctr.len_ok HS.out) HS.out.names)
  have C13 : Hid (Below w3.heap.size w3 w13) := C11.out.trans (hb.mono C11.out.size)
  have M13 := ctr.hideP (M11.out.below hb)
  clear hr3 hb
  go_wp2_with fail
  refine (KI _ _ R13.out (B3.out.trans (C13.out.mono B3.out.size))).mono ?_
  rintro e w14 ⟨h0, rfl, hh0, hb⟩
  have G14 := ctr.hideP hh0.row
  have C14 : Hid (Below w3.heap.size w3 w14) := C13.out.trans (hb.mono C13.out.size)
  have M14 := ctr.hideP (M13.out.below hb)
  clear hh0 hb
  go_wp2_with fail
  refine (ctr.eqPairs h0 s0 _ _ (by rw [HN.out]; omega) G14.out (S0.out.below C14.out)).mono ?_
  rintro e w15 ⟨rfl, hb⟩
  have C15 : Hid (Below w3.heap.size w3 w15) := C14.out.trans (hb.mono C14.out.size)
  have M15 := ctr.hideP (M14.out.below hb)
  clear hb
  go_wp2_with fail
  refine (ctr.heldPairs g0 1 N _ (by omega) (by omega) M15.out).mono ?_
  rintro e w16 ⟨rfl, rfl⟩
  go_wp2
  go_ret
  exact ⟨rfl, B3.out.trans (C15.out.mono B3.out.size)⟩

theorem readable : ∀ m ∈ Rows.fnExactGapsSpec.vars, ∀ g t, Tryd.prog.globalNamed m = some g → (Tryd.prog.globals[g]?).map (·.type) = some t → Tryd.prog.readableRec t = true ∧ t < Tryd.prog.types.size := by
  intro m hm g t h1 h2
  have hm' : m = "loop.example/g00638/impl.errNoTable" ∨ m = "loop.example/g00638/impl.monthLengths" := by simpa [Rows.fnExactGapsSpec] using hm
  rcases hm' with rfl | rfl
  · obtain rfl := Option.some.inj (g1.symm.trans h1)
    obtain rfl := Option.some.inj (gt1.symm.trans h2)
    exact ⟨by kernel_rfl, of_decide_eq_true (by kernel_rfl)⟩
  · obtain rfl := Option.some.inj (g0.symm.trans h1)
    obtain rfl := Option.some.inj (gt0.symm.trans h2)
    exact ⟨by kernel_rfl, of_decide_eq_true (by kernel_rfl)⟩

set_option maxRecDepth 100000 in
theorem contract (H : Type) (enc : TypeId × Value → H) (W : World) (base : Nat) (args : Array Value) (ds gs : List (DataW H)) (before : List MemPlace)
    (hval : ∀ (j : Nat) t v, Tryd.f7.params[j]? = some t → args[j]? = some v → Value.okWide Tryd.prog W .any base t v)
    (hW : DataW.Whole enc Tryd.prog Tryd.f7.params.toList Rows.fnExactGapsSpec.vars false W args.toList ds gs before) (hL : laidMetH Tryd.prog Rows.fnExactGapsRow.laid W) :
    Calls Tryd.prog 7 args W fun e W' => ∃ v, e = .returned v ∧ Rows.fnExactGapsSpec.post enc Tryd.prog Tryd.f7 false true false false W args v W' := by
  have hW' := hW
  obtain ⟨p, q, hA0, hV, rfl, hfz, hnd⟩ := hW
  have hA : DataW.TrodAll enc Tryd.prog W 0 (fun _ => true) true Tryd.f7.params.toList args.toList ds p := hA0
  rw [Tryd.params7] at hA hval
  obtain ⟨v0, vs0, d0, ds0, p0, q0, hargs, rfl, rfl, h0, r0⟩ := trodAll_cons hA
  obtain ⟨v1, vs1, d1, ds1, p1, q1, rfl, rfl, rfl, h1, r1⟩ := trodAll_cons r0
  obtain ⟨v2, vs2, d2, ds2, p2, q2, rfl, rfl, rfl, h2, r2⟩ := trodAll_cons r1
  obtain ⟨rfl, rfl, rfl⟩ := trodAll_nil r2
  obtain rfl : args = #[v0, v1, v2] := by cases args; simp_all
  have hk : ∀ W', Below W.heap.size W W' → DataW.TrodVars enc Tryd.prog W' (fun b => decide (b < W.heap.size)) Rows.fnExactGapsSpec.vars gs q := fun W' hb => kit.trodVars_kept laidOut hb readable hV (DataW.TrodVars.lt hV)
  obtain ⟨g1, g2, rfl⟩ : ∃ g1 g2, gs = [g1, g2] := kit.gs_two hV
  obtain ⟨a0, len0, cap0, rfl⟩ := okWide_slice Tryd.underlying22 (hval 0 22 v0 rfl rfl)
  have k0 := h0
  have lt0 : ∀ x ∈ p0, x.block < W.heap.size := by obtain ⟨m, hm⟩ := k0; exact DataW.trod_lt m _ _ _ hm
  obtain ⟨l0, hl0⟩ := kit.open_rgns Tryd.underlying22 Tryd.underlying30 (show Tryd.prog.cellsOf 30 = 3 by kernel_rfl) rfl rfl rfl (by kernel_rfl) (by kernel_rfl) (by kernel_rfl) Tryd.underlying9 Tryd.underlying3 Tryd.underlying3 h0
  obtain ⟨a1, rfl, rfl, rfl, w1⟩ := open_int Tryd.underlying3 (hval 1 3 v1 rfl rfl) h1
  obtain ⟨a2, rfl, rfl, rfl, w2⟩ := open_int Tryd.underlying3 (hval 2 3 v2 rfl rfl) h2
  clear hA0
  refine (walk a0 len0 cap0 l0 a1 w1 a2 w2 W hl0 (tab0 hL) (tab1 hL)).mono fun e W' ⟨he, bel⟩ => ?_
  subst he
  exact ⟨_, rfl, _, _, _, [], _, _, hW', trodAll_mk1 (shut_bool Tryd.underlying4 _), trodAll_cons_mk (Below.trod laidOut (by kernel_rfl) (of_decide_eq_true (by kernel_rfl)) k0 bel lt0) (trodAll_cons_mk (shut_int Tryd.underlying3 w1) (trodAll_cons_mk (shut_int Tryd.underlying3 w2) (trodAll_mk0))), hk W' bel, bel.frame _, fun h => by cases h⟩

/-- A world for the witness: the settled one, each listed table holding what its initialiser lays. -/
noncomputable def low : Nat := (World.holding Tryd.prog default ⟨#[], #[], []⟩).heap.size
noncomputable def laidWorld (os : Os) : World :=
  { World.holding Tryd.prog os ⟨#[.cells #[.string ⟨#[110, 111, 32, 116, 97, 98, 108, 101, 32, 111, 102, 32, 114, 101, 105, 103, 110, 115]⟩] 178], #[], []⟩ with heap := (((World.holding Tryd.prog os ⟨#[.cells #[.string ⟨#[110, 111, 32, 116, 97, 98, 108, 101, 32, 111, 102, 32, 114, 101, 105, 103, 110, 115]⟩] 178], #[], []⟩).heap.modify 1 fun
      | .cells _ t frozen => .cells #[.int .i64 31, .int .i64 28, .int .i64 31, .int .i64 30, .int .i64 31, .int .i64 30, .int .i64 31, .int .i64 31, .int .i64 30, .int .i64 31, .int .i64 30, .int .i64 31] t frozen
      | o => o).modify 0 fun
      | .cells _ t frozen => .cells #[.iface 156 (.pointer (some ⟨low, 0, none⟩))] t frozen
      | o => o) }
theorem laid_met (os : Os) : laidMet Tryd.prog Rows.fnExactGapsRow.laid ((laidWorld os).forCall (fun _ _ => 0) ⟨#[], #[.slice none 0 0, .int .i64 0, .int .i64 0], []⟩).memory :=
  laidMet_of_run' 8 (by kernel_rfl) (by kernel_rfl)
theorem reads (os : Os) {H : Type} (enc : TypeId × Value → H) : ∃ places, DataW.whole enc Tryd.prog ((laidWorld os).forCall (fun _ _ => 0) ⟨#[], #[.slice none 0 0, .int .i64 0, .int .i64 0], []⟩).memory Tryd.f7.params.toList Rows.fnExactGapsSpec.vars false (#[.slice none 0 0, .int .i64 0, .int .i64 0] : Array Value).toList 8 = some ([.nil, .lit (.int .i64 0), .lit (.int .i64 0)], [.held (enc (156, .pointer (some ⟨low, 0, none⟩))), Rows.laid_loop_example_g00638_impl_monthLengths], places) :=
  ⟨MemPlace.row ⟨0, 0, none⟩ 1 ++ [] ++ MemPlace.row ⟨1, 0, none⟩ 12 ++ [] ++ [], by kernel_rfl⟩

set_option maxRecDepth 100000 in
theorem lifted (os : Os) (started : os.Started) (H : Type) (enc : TypeId × Value → H) (F : Stop.Interp) :
    ReturnsInHanded {} Tryd.checked os 7 .any ((OpenSpec.ofChange Rows.fnExactGapsSpec).preRow enc Tryd.prog Tryd.f7 Rows.fnExactGapsRow.domain false Rows.fnExactGapsRow.laid) (((OpenSpec.ofChange Rows.fnExactGapsSpec).at F).post enc Tryd.prog Tryd.f7 false true false false) := by
  obtain ⟨places, hx⟩ := reads os enc
  refine returnsInHanded_of_row (C := Tryd.checked) (s := OpenSpec.ofChange Rows.fnExactGapsSpec) own started (by kernel_rfl) Tryd.func7
    (witness_row_at (enc := enc) (C := Tryd.checked) false (laidWorld os) #[.slice none 0 0, .int .i64 0, .int .i64 0] rfl (by kernel_rfl) (by kernel_rfl) (by kernel_rfl)
      (OpenSpec.preRow_of_cond 8 hx (by kernel_rfl) (fun k hk => by cases hk) (by kernel_rfl) (laid_met os))) ?_
  intro W base args ds gs before hval hW _ _ _ hL _ _
  exact contract H enc W base args ds gs before hval hW hL

theorem said : Rows.FnExactGapsSaid :=
  OpenClaim.holds_of_cond 7 Tryd.f7 rfl rfl rfl rfl rfl rfl rfl ⟨rfl, rfl, rfl, rfl, rfl⟩ rfl rfl rfl rfl rfl (by kernel_rfl) Tryd.func7 (by kernel_rfl)
    (of_decide_eq_true (by kernel_rfl)) (by unfold Func.isWrapper; first | (rw [if_pos (by decide +kernel)]; kernel_rfl) | (rw [if_neg (by decide +kernel)]; exact ⟨rfl, rfl⟩))
    (fun os started H enc _ F => by rw [OpenClaim.pre_eq_preRow]; exact lifted os started H enc F)

theorem plain (f : FuncId) (fn : Func) (hf : Tryd.pinned.checked.prog.funcNamed "loop.example/g00638/laws.FnExactGaps" = some f) (hfn : Tryd.pinned.checked.prog.funcs[f]? = some fn) :
    true = Tryd.pinned.checked.prog.looks [] ∧ ∀ (j : Nat) t, fn.params[j]? = some t → Tryd.pinned.checked.prog.wantsStandIn t = false := by
  obtain rfl : f = 7 := Option.some.inj ((show Tryd.prog.funcNamed "loop.example/g00638/laws.FnExactGaps" = some 7 by kernel_rfl).symm.trans hf) |>.symm
  obtain rfl : fn = Tryd.f7 := (Option.some.inj (Tryd.func7.symm.trans hfn)).symm
  refine ⟨by kernel_rfl, fun j t ht => ?_⟩
  rw [Tryd.params7] at ht
  have ht : t = 22 ∨ t = 3 ∨ t = 3 := by simpa using Array.mem_of_getElem? ht
  rcases ht with rfl | rfl | rfl
  · exact (show Tryd.prog.wantsStandIn 22 = false by kernel_rfl)
  · exact (show Tryd.prog.wantsStandIn 3 = false by kernel_rfl)
  · exact (show Tryd.prog.wantsStandIn 3 = false by kernel_rfl)

theorem card : Rows.FnExactGapsCardSaid :=
  Claim7.holds_tied_plain_at .later [] _ _ _ _ said (fun _ h => by cases h) (by kernel_rfl) (fun _ h => by cases h) fnExactGaps_row_tie rfl ⟨rfl, rfl⟩ (by kernel_rfl) rfl plain (by kernel_rfl)
end Go.Proofs.YtcdcniniafejbaaDoor.fnExactGaps

namespace Go.Proofs.YtcdcniniafejbaaDoor
theorem fnExactGaps_holds : Rows.FnExactGapsCardSaid := fnExactGaps.card
#print axioms fnExactGaps_holds
end Go.Proofs.YtcdcniniafejbaaDoor
