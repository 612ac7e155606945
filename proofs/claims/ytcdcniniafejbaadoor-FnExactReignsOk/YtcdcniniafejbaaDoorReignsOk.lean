/- FnExactReignsOk returns true at every list of reigns: the program's ReignsOk answers as the model's; nothing that was there turns. The row lists the table of months and errNoTable; the card ties them to the program's text. -/
import Derived.Test.YtcdcniniafejbaaDoorCards
import Derived.Test.YtcdcniniafejbaaDoorTie
import Derived.Test.YtcdcniniafejbaaDoorVarsKit
import Derived.Test.YtcdcniniafejbaaDoorRgnHelp
import Derived.Test.YtcdcniniafejbaaDoorRgnOkS
import Derived.Test.YtcdcniniafejbaaDoorRgnLaw
import Derived.WalkKit
import Derived.ProofKit
import Derived.OpenShut
import Derived.ShutString
import Derived.ChangeOld
import Derived.Below
import Derived.Deep.DeepHandedRow
import Derived.Lib.LaidTab
import Derived.Lib.SmallJoins
namespace Go.Proofs.YtcdcniniafejbaaDoor.fnExactReignsOk
open Go.ChangeShapes Go.WideShapes Go.ChangeAt Go.RowKit
open Go.ChangeMaps (open_string shut_string)
set_option linter.unusedVariables false

theorem own : ownKnob Tryd.prog.godebug = none := by kernel_rfl
theorem laidOut : laidOutB Tryd.prog = true := by kernel_rfl
theorem g0 : Tryd.prog.globalNamed "loop.example/g00638/impl.monthLengths" = some 1 := by kernel_rfl
theorem gt0 : (Tryd.prog.globals[1]?).map (·.type) = some 123 := by kernel_rfl
theorem ce0 : Tryd.prog.cellsOf 3 = 1 := by kernel_rfl
theorem ct0 : Tryd.prog.cellsOf 123 = 12 := by kernel_rfl
theorem tab0 {W : World} (h : laidMetH Tryd.prog Rows.fnExactReignsOkRow.laid W) : Lib.TabIs Tryd.prog W "loop.example/g00638/impl.monthLengths" .i64 [31, 28, 31, 30, 31, 30, 31, 31, 30, 31, 30, 31] := by
  have h0 : laidMet Tryd.prog [("loop.example/g00638/impl.monthLengths", Rows.laid_loop_example_g00638_impl_monthLengths), ("loop.example/g00638/impl.errNoTable", Rows.laid_loop_example_g00638_impl_errNoTable)] W := h
  exact Lib.tabIs_of_head (rest := [("loop.example/g00638/impl.errNoTable", Rows.laid_loop_example_g00638_impl_errNoTable)]) g0 gt0 Tryd.underlying123 Tryd.underlying3 ce0 ct0 h0
theorem g1 : Tryd.prog.globalNamed "loop.example/g00638/impl.errNoTable" = some 0 := by kernel_rfl
theorem gt1 : (Tryd.prog.globals[0]?).map (·.type) = some 55 := by kernel_rfl
theorem tab1 {W : World} (h : laidMetH Tryd.prog Rows.fnExactReignsOkRow.laid W) : ∃ a, ctr.Sent W a := by
  have h0 : laidMet Tryd.prog [("loop.example/g00638/impl.monthLengths", Rows.laid_loop_example_g00638_impl_monthLengths), ("loop.example/g00638/impl.errNoTable", Rows.laid_loop_example_g00638_impl_errNoTable)] W := h
  have h1 := laidMet.tail h0
  exact kit.sent_of h1

theorem walk (a : Option Addr) (len cap : Nat) (l : List ctr.Rgn) (w : World) (h : ctr.RIn w a len cap l) (t0 : ctr.Tab w) (t1 : ∃ q, ctr.Sent w q) :
    Calls Tryd.prog 3 #[.slice a len cap] w fun e w' => e = .returned (.bool true) ∧ Below w.heap.size w w' := by
  obtain ⟨q, hq⟩ := t1
  have H := ctr.hideP h
  have HT := ctr.hideP t0
  have HQ := ctr.hideP hq
  clear h t0 hq
  go_enter Tryd.func3, Tryd.ntmps3
  go_wp2_with fail
  refine (ctr.szReignS _ _ _ _ _ H.out).mono ?_
  rintro e w1 ⟨z, rfl, hz, hb1⟩
  have B1 := ctr.hideP hb1
  clear hb1
  rcases hz with rfl | ⟨z1, hs⟩
  · go_wp2
    go_ret
    exact ⟨rfl, B1.out⟩
  have HS := ctr.hideP hs
  have H1 := ctr.hideP (H.out.below B1.out)
  clear hs
  go_wp2_with fail
  refine (ctr.toReignS _ _ _ _ _ H1.out HS.out).mono ?_
  rintro e w2 ⟨v0, rfl, hr0, hb2⟩
  have R0 := ctr.hideP (hr0.row (ctr.len_ok HS.out) HS.out.names)
  have B2 : Hid (Below w.heap.size w w2) := B1.out.trans (hb2.mono B1.out.size)
  clear hr0 hb2
  go_wp2_with fail
  refine (ctr.specReignsOk _ _ _ R0.out).mono ?_
  rintro e w3 ⟨rfl, hb3⟩
  have B3 : Hid (Below w.heap.size w w3) := B2.out.trans (hb3.mono B2.out.size)
  have H3 := ctr.hideP (H.out.below B3.out)
  clear hb3
  go_wp2_with fail
  refine (ctr.toReignS _ _ _ _ _ H3.out HS.out).mono ?_
  rintro e w4 ⟨v1, rfl, hr1, hb4⟩
  have R1 := ctr.hideP (hr1.row (ctr.len_ok HS.out) HS.out.names)
  have B4 : Hid (Below w.heap.size w w4) := B3.out.trans (hb4.mono B3.out.size)
  clear hr1 hb4
  go_wp2_with fail
  refine (ctr.implReignsOk _ _ q _ R1.out (HT.out.later B4.out) (HQ.out.later B4.out)).mono ?_
  rintro e w5 ⟨rfl, hb5⟩
  have R5 := ctr.hideP (R1.out.below hb5)
  have B5 : Hid (Below w.heap.size w w5) := B4.out.trans (hb5.mono B4.out.size)
  have H5 := ctr.hideP (H.out.below B5.out)
  clear hb5
  generalize ctr.reignsOk l = z at *
  go_wp2_with fail
  refine (ctr.toReignS _ _ _ _ _ H5.out HS.out).mono ?_
  rintro e w6 ⟨v2, rfl, hr2, hb6⟩
  have R2 := ctr.hideP (hr2.row (ctr.len_ok HS.out) HS.out.names)
  have R6 := ctr.hideP (R5.out.below hb6)
  have B6 : Hid (Below w.heap.size w w6) := B5.out.trans (hb6.mono B5.out.size)
  clear hr2 hb6
  go_wp2_with fail
  refine (ctr.eqReignS _ _ _ _ R6.out R2.out).mono ?_
  rintro e w7 ⟨rfl, hb7⟩
  have B7 : Hid (Below w.heap.size w w7) := B6.out.trans (hb7.mono B6.out.size)
  clear hb7
  go_wp2
  go_ret
  exact ⟨rfl, B7.out⟩

theorem readable : ∀ m ∈ Rows.fnExactReignsOkSpec.vars, ∀ g t, Tryd.prog.globalNamed m = some g → (Tryd.prog.globals[g]?).map (·.type) = some t → Tryd.prog.readableRec t = true ∧ t < Tryd.prog.types.size := by
  intro m hm g t h1 h2
  have hm' : m = "loop.example/g00638/impl.errNoTable" ∨ m = "loop.example/g00638/impl.monthLengths" := by simpa [Rows.fnExactReignsOkSpec] using hm
  rcases hm' with rfl | rfl
  · obtain rfl := Option.some.inj (g1.symm.trans h1)
    obtain rfl := Option.some.inj (gt1.symm.trans h2)
    exact ⟨by kernel_rfl, of_decide_eq_true (by kernel_rfl)⟩
  · obtain rfl := Option.some.inj (g0.symm.trans h1)
    obtain rfl := Option.some.inj (gt0.symm.trans h2)
    exact ⟨by kernel_rfl, of_decide_eq_true (by kernel_rfl)⟩

set_option maxRecDepth 100000 in
theorem contract (H : Type) (enc : TypeId × Value → H) (W : World) (base : Nat) (args : Array Value) (ds gs : List (DataW H)) (before : List MemPlace)
    (hval : ∀ (j : Nat) t v, Tryd.f3.params[j]? = some t → args[j]? = some v → Value.okWide Tryd.prog W .any base t v)
    (hW : DataW.Whole enc Tryd.prog Tryd.f3.params.toList Rows.fnExactReignsOkSpec.vars false W args.toList ds gs before) (hL : laidMetH Tryd.prog Rows.fnExactReignsOkRow.laid W) :
    Calls Tryd.prog 3 args W fun e W' => ∃ v, e = .returned v ∧ Rows.fnExactReignsOkSpec.post enc Tryd.prog Tryd.f3 false true false false W args v W' := by
  have hW' := hW
  obtain ⟨p, q, hA0, hV, rfl, hfz, hnd⟩ := hW
  have hA : DataW.TrodAll enc Tryd.prog W 0 (fun _ => true) true Tryd.f3.params.toList args.toList ds p := hA0
  rw [Tryd.params3] at hA hval
  obtain ⟨v0, vs0, d0, ds0, p0, q0, hargs, rfl, rfl, h0, r0⟩ := trodAll_cons hA
  obtain ⟨rfl, rfl, rfl⟩ := trodAll_nil r0
  obtain rfl : args = #[v0] := by cases args; simp_all
  have hk : ∀ W', Below W.heap.size W W' → DataW.TrodVars enc Tryd.prog W' (fun b => decide (b < W.heap.size)) Rows.fnExactReignsOkSpec.vars gs q := fun W' hb => kit.trodVars_kept laidOut hb readable hV (DataW.TrodVars.lt hV)
  obtain ⟨g1, g2, rfl⟩ : ∃ g1 g2, gs = [g1, g2] := kit.gs_two hV
  obtain ⟨a0, len0, cap0, rfl⟩ := okWide_slice Tryd.underlying22 (hval 0 22 v0 rfl rfl)
  have k0 := h0
  have lt0 : ∀ x ∈ p0, x.block < W.heap.size := by obtain ⟨m, hm⟩ := k0; exact DataW.trod_lt m _ _ _ hm
  obtain ⟨l0, hl0⟩ := kit.open_rgns Tryd.underlying22 Tryd.underlying30 (show Tryd.prog.cellsOf 30 = 3 by kernel_rfl) rfl rfl rfl (by kernel_rfl) (by kernel_rfl) (by kernel_rfl) Tryd.underlying9 Tryd.underlying3 Tryd.underlying3 h0
  clear hA0
  refine (walk a0 len0 cap0 l0 W hl0 (tab0 hL) (tab1 hL)).mono fun e W' ⟨he, bel⟩ => ?_
  subst he
  exact ⟨_, rfl, _, _, _, [], _, _, hW', trodAll_mk1 (shut_bool Tryd.underlying4 _), trodAll_cons_mk (Below.trod laidOut (by kernel_rfl) (of_decide_eq_true (by kernel_rfl)) k0 bel lt0) (trodAll_mk0), hk W' bel, bel.frame _, fun h => by cases h⟩

/-- A world for the witness: the settled one, each listed table holding what its initialiser lays. -/
noncomputable def low : Nat := (World.holding Tryd.prog default ⟨#[], #[], []⟩).heap.size
noncomputable def laidWorld (os : Os) : World :=
  { World.holding Tryd.prog os ⟨#[.cells #[.string ⟨#[110, 111, 32, 116, 97, 98, 108, 101, 32, 111, 102, 32, 114, 101, 105, 103, 110, 115]⟩] 178], #[], []⟩ with heap := (((World.holding Tryd.prog os ⟨#[.cells #[.string ⟨#[110, 111, 32, 116, 97, 98, 108, 101, 32, 111, 102, 32, 114, 101, 105, 103, 110, 115]⟩] 178], #[], []⟩).heap.modify 1 fun
      | .cells _ t frozen => .cells #[.int .i64 31, .int .i64 28, .int .i64 31, .int .i64 30, .int .i64 31, .int .i64 30, .int .i64 31, .int .i64 31, .int .i64 30, .int .i64 31, .int .i64 30, .int .i64 31] t frozen
      | o => o).modify 0 fun
      | .cells _ t frozen => .cells #[.iface 156 (.pointer (some ⟨low, 0, none⟩))] t frozen
      | o => o) }
theorem laid_met (os : Os) : laidMet Tryd.prog Rows.fnExactReignsOkRow.laid ((laidWorld os).forCall (fun _ _ => 0) ⟨#[], #[.slice none 0 0], []⟩).memory :=
  laidMet_of_run' 8 (by kernel_rfl) (by kernel_rfl)
theorem reads (os : Os) {H : Type} (enc : TypeId × Value → H) : ∃ places, DataW.whole enc Tryd.prog ((laidWorld os).forCall (fun _ _ => 0) ⟨#[], #[.slice none 0 0], []⟩).memory Tryd.f3.params.toList Rows.fnExactReignsOkSpec.vars false (#[.slice none 0 0] : Array Value).toList 8 = some ([.nil], [.held (enc (156, .pointer (some ⟨low, 0, none⟩))), Rows.laid_loop_example_g00638_impl_monthLengths], places) :=
  ⟨MemPlace.row ⟨0, 0, none⟩ 1 ++ [] ++ MemPlace.row ⟨1, 0, none⟩ 12 ++ [] ++ [], by kernel_rfl⟩

set_option maxRecDepth 100000 in
theorem lifted (os : Os) (started : os.Started) (H : Type) (enc : TypeId × Value → H) (F : Stop.Interp) :
    ReturnsInHanded {} Tryd.checked os 3 .any ((OpenSpec.ofChange Rows.fnExactReignsOkSpec).preRow enc Tryd.prog Tryd.f3 Rows.fnExactReignsOkRow.domain false Rows.fnExactReignsOkRow.laid) (((OpenSpec.ofChange Rows.fnExactReignsOkSpec).at F).post enc Tryd.prog Tryd.f3 false true false false) := by
  obtain ⟨places, hx⟩ := reads os enc
  refine returnsInHanded_of_row (C := Tryd.checked) (s := OpenSpec.ofChange Rows.fnExactReignsOkSpec) own started (by kernel_rfl) Tryd.func3
    (witness_row_at (enc := enc) (C := Tryd.checked) false (laidWorld os) #[.slice none 0 0] rfl (by kernel_rfl) (by kernel_rfl) (by kernel_rfl)
      (OpenSpec.preRow_of_cond 8 hx (by kernel_rfl) (fun k hk => by cases hk) (by kernel_rfl) (laid_met os))) ?_
  intro W base args ds gs before hval hW _ _ _ hL _ _
  exact contract H enc W base args ds gs before hval hW hL

theorem said : Rows.FnExactReignsOkSaid :=
  OpenClaim.holds_of_cond 3 Tryd.f3 rfl rfl rfl rfl rfl rfl rfl ⟨rfl, rfl, rfl, rfl, rfl⟩ rfl rfl rfl rfl rfl (by kernel_rfl) Tryd.func3 (by kernel_rfl)
    (of_decide_eq_true (by kernel_rfl)) (by unfold Func.isWrapper; first | (rw [if_pos (by decide +kernel)]; kernel_rfl) | (rw [if_neg (by decide +kernel)]; exact ⟨rfl, rfl⟩))
    (fun os started H enc _ F => by rw [OpenClaim.pre_eq_preRow]; exact lifted os started H enc F)

theorem plain (f : FuncId) (fn : Func) (hf : Tryd.pinned.checked.prog.funcNamed "loop.example/g00638/laws.FnExactReignsOk" = some f) (hfn : Tryd.pinned.checked.prog.funcs[f]? = some fn) :
    true = Tryd.pinned.checked.prog.looks [] ∧ ∀ (j : Nat) t, fn.params[j]? = some t → Tryd.pinned.checked.prog.wantsStandIn t = false := by
  obtain rfl : f = 3 := Option.some.inj ((show Tryd.prog.funcNamed "loop.example/g00638/laws.FnExactReignsOk" = some 3 by kernel_rfl).symm.trans hf) |>.symm
  obtain rfl : fn = Tryd.f3 := (Option.some.inj (Tryd.func3.symm.trans hfn)).symm
  refine ⟨by kernel_rfl, fun j t ht => ?_⟩
  rw [Tryd.params3] at ht
  obtain rfl : t = 22 := by simpa using Array.mem_of_getElem? ht
  exact (show Tryd.prog.wantsStandIn 22 = false by kernel_rfl)

theorem card : Rows.FnExactReignsOkCardSaid :=
  Claim7.holds_tied_plain_at .later [] _ _ _ _ said (fun _ h => by cases h) (by kernel_rfl) (fun _ h => by cases h) fnExactReignsOk_row_tie rfl ⟨rfl, rfl⟩ (by kernel_rfl) rfl plain (by kernel_rfl)
end Go.Proofs.YtcdcniniafejbaaDoor.fnExactReignsOk

namespace Go.Proofs.YtcdcniniafejbaaDoor
theorem fnExactReignsOk_holds : Rows.FnExactReignsOkCardSaid := fnExactReignsOk.card
#print axioms fnExactReignsOk_holds
end Go.Proofs.YtcdcniniafejbaaDoor
