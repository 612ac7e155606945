/- FnExactTiles returns true at every two days and every list of segments: the program's Tiles answers as the model's; nothing that was there turns. -/
import Derived.Test.YtkinapfoigibcaaDoorCards
import Derived.Test.YtkinapfoigibcaaDoorTie
import Derived.Test.YtkinapfoigibcaaDoorVarsKit
import Derived.Test.YtkinapfoigibcaaDoorTilSpec
import Derived.Test.YtkinapfoigibcaaDoorAsLaw
import Derived.Test.YtkinapfoigibcaaDoorIntOpenW
import Derived.WalkKit
import Derived.ProofKit
import Derived.OpenShut
import Derived.ShutString
import Derived.ChangeOld
import Derived.Below
import Derived.Deep.DeepHandedRow
import Derived.Lib.LaidTab
import Derived.Lib.SmallJoins
import Derived.LaidHandle
import Derived.LaidLaws
namespace Go.Proofs.YtkinapfoigibcaaDoor.fnExactTiles
open Go.ChangeShapes Go.WideShapes Go.ChangeAt Go.RowKit
open Go.ChangeMaps (open_string shut_string)
set_option linter.unusedVariables false

theorem own : ownKnob Tryd.prog.godebug = none := by kernel_rfl
theorem laidOut : laidOutB Tryd.prog = true := by kernel_rfl
theorem tab0 {W : World} (h : laidMetH Tryd.prog Rows.fnExactTilesRow.laid W) : ctr.ErrT W := by
  have h0 : laidMet Tryd.prog [] W ∧ handlesMet Tryd.prog [("errors.errorType", Rows.laid_errors_errorType)] W := h
  exact kit.err_of h0.2

set_option maxHeartbeats 4000000 in
theorem walk (F : Int) (wF : (Lit.int .i64 F).wf = true) (T : Int) (wT : (Lit.int .i64 T).wf = true) (a : Option Addr) (len cap : Nat) (l : List ctr.Seg) (w : World) (h : ctr.IIn ctr.segK w a len cap l) (hwf : ∀ k, k < len → ∀ z ∈ ctr.segK.iv (ctr.atK ctr.segK l k), (Lit.int .i64 z).wf = true) (t0 : ctr.ErrT w) :
    Calls Tryd.prog 3 #[.int .i64 F, .int .i64 T, .slice a len cap] w fun e w' => e = .returned (.bool true) ∧ Below w.heap.size w w' := by
  have H := ctr.hideP h
  have hl1 := h.2.1
  have hl2 := h.2.2.1
  have HLn := ctr.hideP h.1
  have bF := kit.wf_bounds wF
  have bT := kit.wf_bounds wT
  have HW : Hid (∀ s ∈ l, -9223372036854775808 ≤ s.to) := fun s hs => by
    obtain ⟨k, hk, rfl⟩ := List.mem_iff_getElem.1 hs
    have := hwf k (by rw [← h.1]; exact hk) (l[k].to) (by rw [ctr.atK_eq hk]; simp [ctr.segK])
    exact (kit.wf_bounds this).1
  have HT := ctr.hideP t0
  have KZ := ctr.hideP (ctr.szSegmentS a len cap 1048576 w hl1 hl2 (by omega) (by omega))
  clear h hl1 hl2 hwf t0 wF wT
  by_cases hbig : (1048576 : Int) < len
  · rw [if_pos hbig] at KZ
    go_enter Tryd.func3, Tryd.ntmps3
    go_wp2_with fail
    refine KZ.out.mono ?_
    rintro e w1 ⟨rfl, rfl⟩
    go_wp2
    go_ret
    exact ⟨rfl, Below.refl _ _⟩
  rw [if_neg hbig] at KZ
  have hlen : l.length ≤ 1048576 := by rw [HLn.out]; omega
  have hml : l.length ≤ maxLen := by unfold maxLen; omega
  obtain ⟨z, hz⟩ : ∃ z : Int, z = 1048576 - len := ⟨_, rfl⟩
  have hz0 : 0 ≤ z := by omega
  rw [← hz] at KZ
  have KS : Hid (∀ v W, ctr.IRow ctr.segK W v l → Calls Tryd.prog 6 #[.int .i64 F, .int .i64 T, v] W fun e w' => e = .returned (.int .i64 (ctr.tilesZ F T l)) ∧ Below W.heap.size W w') := fun v W hr => ctr.specTiles F T v l W hr hlen bF.1 bT.2
  have KI : Hid (∀ v W, ctr.IRow ctr.segK W v l → Below w.heap.size w W → Calls Tryd.prog 8 #[.int .i64 F, .int .i64 T, v] W fun e w' => e = .returned (.int .i64 (ctr.tilesZ F T l)) ∧ Below W.heap.size W w') := fun v W hr hb => ctr.implTiles F T v l W hr hlen bT.2 HW.out (HT.out.below hb)
  generalize ctr.tilesZ F T l = ans at *
  clear hz hbig bF bT
  go_enter Tryd.func3, Tryd.ntmps3
  go_wp2_with fail
  refine KZ.out.mono ?_
  rintro e w1 ⟨rfl, rfl⟩
  go_wp2_with fail
  refine (ctr.toSegmentS _ _ _ _ _ H.out hlen).mono ?_
  rintro e w2 ⟨v0, rfl, hr0, hb⟩
  have R0 := ctr.hideP (hr0.row hml)
  have B2 := ctr.hideP hb
  clear hr0 hb
  go_wp2_with fail
  refine (KS.out _ _ R0.out).mono ?_
  rintro e w3 ⟨rfl, hb⟩
  have B3 : Hid (Below w1.heap.size w1 w3) := B2.out.trans (hb.mono B2.out.size)
  have H3 := ctr.hideP (H.out.below B3.out)
  clear hb
  go_wp2_with fail
  refine (ctr.toSegmentS _ _ _ _ _ H3.out hlen).mono ?_
  rintro e w4 ⟨v1, rfl, hr1, hb⟩
  have R1 := ctr.hideP (hr1.row hml)
  have B4 : Hid (Below w1.heap.size w1 w4) := B3.out.trans (hb.mono B3.out.size)
  clear hr1 hb
  go_wp2_with fail
  refine (KI.out _ _ R1.out B4.out).mono ?_
  rintro e w5 ⟨rfl, hb⟩
  have R5 := ctr.hideP (R1.out.below hb)
  have B5 : Hid (Below w1.heap.size w1 w5) := B4.out.trans (hb.mono B4.out.size)
  have H5 := ctr.hideP (H.out.below B5.out)
  clear hb
  go_wp2_with fail
  refine (ctr.toSegmentS _ _ _ _ _ H5.out hlen).mono ?_
  rintro e w6 ⟨v2, rfl, hr2, hb⟩
  have R2 := ctr.hideP (hr2.row hml)
  have R6 := ctr.hideP (R5.out.below hb)
  have B6 : Hid (Below w1.heap.size w1 w6) := B5.out.trans (hb.mono B5.out.size)
  clear hr2 hb
  go_wp2_with fail
  refine (ctr.eqSegmentS _ _ _ _ R6.out R2.out).mono ?_
  rintro e w7 ⟨rfl, hb⟩
  have B7 : Hid (Below w1.heap.size w1 w7) := B6.out.trans (hb.mono B6.out.size)
  clear hb
  go_wp2
  go_ret
  exact ⟨rfl, B7.out⟩

theorem readable : ∀ m ∈ Rows.fnExactTilesSpec.vars, ∀ g t, Tryd.prog.globalNamed m = some g → (Tryd.prog.globals[g]?).map (·.type) = some t → Tryd.prog.readableRec t = true ∧ t < Tryd.prog.types.size := by
  intro m hm g t h1 h2
  exact absurd hm (by simp [Rows.fnExactTilesSpec])

set_option maxRecDepth 100000 in
theorem contract (H : Type) (enc : TypeId × Value → H) (W : World) (base : Nat) (args : Array Value) (ds gs : List (DataW H)) (before : List MemPlace)
    (hval : ∀ (j : Nat) t v, Tryd.f3.params[j]? = some t → args[j]? = some v → Value.okWide Tryd.prog W .any base t v)
    (hW : DataW.Whole enc Tryd.prog Tryd.f3.params.toList Rows.fnExactTilesSpec.vars false W args.toList ds gs before) (hL : laidMetH Tryd.prog Rows.fnExactTilesRow.laid W) :
    Calls Tryd.prog 3 args W fun e W' => ∃ v, e = .returned v ∧ Rows.fnExactTilesSpec.post enc Tryd.prog Tryd.f3 false true false false W args v W' := by
  have hW' := hW
  obtain ⟨p, q, hA0, hV, rfl, hfz, hnd⟩ := hW
  have hA : DataW.TrodAll enc Tryd.prog W 0 (fun _ => true) true Tryd.f3.params.toList args.toList ds p := hA0
  rw [Tryd.params3] at hA hval
  obtain ⟨v0, vs0, d0, ds0, p0, q0, hargs, rfl, rfl, h0, r0⟩ := trodAll_cons hA
  obtain ⟨v1, vs1, d1, ds1, p1, q1, rfl, rfl, rfl, h1, r1⟩ := trodAll_cons r0
  obtain ⟨v2, vs2, d2, ds2, p2, q2, rfl, rfl, rfl, h2, r2⟩ := trodAll_cons r1
  obtain ⟨rfl, rfl, rfl⟩ := trodAll_nil r2
  obtain rfl : args = #[v0, v1, v2] := by cases args; simp_all
  have hk : ∀ W', Below W.heap.size W W' → DataW.TrodVars enc Tryd.prog W' (fun b => decide (b < W.heap.size)) Rows.fnExactTilesSpec.vars gs q := fun W' hb => kit.trodVars_kept laidOut hb readable hV (DataW.TrodVars.lt hV)
  obtain ⟨rfl, rfl⟩ := trodVars_none hV
  obtain ⟨a0, rfl, rfl, rfl, w0⟩ := open_int Tryd.underlying3 (hval 0 3 v0 rfl rfl) h0
  obtain ⟨a1, rfl, rfl, rfl, w1⟩ := open_int Tryd.underlying3 (hval 1 3 v1 rfl rfl) h1
  obtain ⟨a2, len2, cap2, rfl⟩ := okWide_slice Tryd.underlying22 (hval 2 22 v2 rfl rfl)
  have k2 := h2
  have lt2 : ∀ x ∈ p2, x.block < W.heap.size := by obtain ⟨m, hm⟩ := k2; exact DataW.trod_lt m _ _ _ hm
  obtain ⟨l2, hl2, hwf2⟩ := kit.open_irowW ctr.segK Tryd.underlying22 Tryd.underlying30 (show Tryd.prog.cellsOf 30 = 5 by kernel_rfl) rfl (fun j f h => by
      rcases j with _ | _ | _ | _ | _ | j <;> simp at h <;> (try subst h) <;> exact ⟨rfl, by kernel_rfl, Tryd.underlying3⟩) h2
  clear hA0
  refine (walk a0 w0 a1 w1 a2 len2 cap2 l2 W hl2 hwf2 (tab0 hL)).mono fun e W' ⟨he, bel⟩ => ?_
  subst he
  exact ⟨_, rfl, _, _, _, [], _, _, hW', trodAll_mk1 (shut_bool Tryd.underlying4 _), trodAll_cons_mk (shut_int Tryd.underlying3 w0) (trodAll_cons_mk (shut_int Tryd.underlying3 w1) (trodAll_cons_mk (Below.trod laidOut (by kernel_rfl) (of_decide_eq_true (by kernel_rfl)) k2 bel lt2) (trodAll_mk0))), hk W' bel, bel.frame _, fun h => by cases h⟩

/-- A world for the witness: the settled one, each listed table holding what its initialiser lays. -/
noncomputable def laidWorld (os : Os) : World :=
  { World.holding Tryd.prog os ⟨#[], #[], []⟩ with heap := ((World.holding Tryd.prog os ⟨#[], #[], []⟩).heap.modify 0 fun
      | .cells _ t frozen => .cells #[.iface 75 (.agg #[.pointer (some ⟨5, 40, none⟩)])] t frozen
      | o => o) }
theorem laid_met (os : Os) : laidMetH Tryd.prog Rows.fnExactTilesRow.laid ((laidWorld os).forCall (fun _ _ => 0) ⟨#[], #[.int .i64 0, .int .i64 0, .slice none 0 0], []⟩).memory :=
  laidMetH_of_parts (laidMet_nil _ _) (by kernel_rfl)
theorem reads (os : Os) {H : Type} (enc : TypeId × Value → H) : ∃ places, DataW.whole enc Tryd.prog ((laidWorld os).forCall (fun _ _ => 0) ⟨#[], #[.int .i64 0, .int .i64 0, .slice none 0 0], []⟩).memory Tryd.f3.params.toList Rows.fnExactTilesSpec.vars false (#[.int .i64 0, .int .i64 0, .slice none 0 0] : Array Value).toList 8 = some ([.lit (.int .i64 0), .lit (.int .i64 0), .nil], [], places) :=
  ⟨[], by kernel_rfl⟩

set_option maxRecDepth 100000 in
theorem lifted (os : Os) (started : os.Started) (H : Type) (enc : TypeId × Value → H) (F : Stop.Interp) :
    ReturnsInHanded {} Tryd.checked os 3 .any ((OpenSpec.ofChange Rows.fnExactTilesSpec).preRow enc Tryd.prog Tryd.f3 Rows.fnExactTilesRow.domain false Rows.fnExactTilesRow.laid) (((OpenSpec.ofChange Rows.fnExactTilesSpec).at F).post enc Tryd.prog Tryd.f3 false true false false) := by
  obtain ⟨places, hx⟩ := reads os enc
  refine returnsInHanded_of_row (C := Tryd.checked) (s := OpenSpec.ofChange Rows.fnExactTilesSpec) own started (by kernel_rfl) Tryd.func3
    (witness_row_at (enc := enc) (C := Tryd.checked) false (laidWorld os) #[.int .i64 0, .int .i64 0, .slice none 0 0] rfl (by kernel_rfl) (by kernel_rfl) (by kernel_rfl)
      (OpenSpec.preRow_of_cond 8 hx (by kernel_rfl) (fun k hk => by cases hk) (by kernel_rfl) (laid_met os))) ?_
  intro W base args ds gs before hval hW _ _ _ hL _ _
  exact contract H enc W base args ds gs before hval hW hL

theorem said : Rows.FnExactTilesSaid :=
  OpenClaim.holds_of_cond 3 Tryd.f3 rfl rfl rfl rfl rfl rfl rfl ⟨rfl, rfl, rfl, rfl, rfl⟩ rfl rfl rfl rfl rfl (by kernel_rfl) Tryd.func3 (by kernel_rfl)
    (of_decide_eq_true (by kernel_rfl)) (by unfold Func.isWrapper; first | (rw [if_pos (by decide +kernel)]; kernel_rfl) | (rw [if_neg (by decide +kernel)]; exact ⟨rfl, rfl⟩))
    (fun os started H enc _ F => by rw [OpenClaim.pre_eq_preRow]; exact lifted os started H enc F)

theorem plain (f : FuncId) (fn : Func) (hf : Tryd.pinned.checked.prog.funcNamed "loop.example/g00638/laws.FnExactTiles" = some f) (hfn : Tryd.pinned.checked.prog.funcs[f]? = some fn) :
    true = Tryd.pinned.checked.prog.looks [] ∧ ∀ (j : Nat) t, fn.params[j]? = some t → Tryd.pinned.checked.prog.wantsStandIn t = false := by
  obtain rfl : f = 3 := Option.some.inj ((show Tryd.prog.funcNamed "loop.example/g00638/laws.FnExactTiles" = some 3 by kernel_rfl).symm.trans hf) |>.symm
  obtain rfl : fn = Tryd.f3 := (Option.some.inj (Tryd.func3.symm.trans hfn)).symm
  refine ⟨by kernel_rfl, fun j t ht => ?_⟩
  rw [Tryd.params3] at ht
  have ht : t = 3 ∨ t = 3 ∨ t = 22 := by simpa using Array.mem_of_getElem? ht
  rcases ht with rfl | rfl | rfl
  · exact (show Tryd.prog.wantsStandIn 3 = false by kernel_rfl)
  · exact (show Tryd.prog.wantsStandIn 3 = false by kernel_rfl)
  · exact (show Tryd.prog.wantsStandIn 22 = false by kernel_rfl)

theorem card : Rows.FnExactTilesCardSaid :=
  Claim7.holds_tied_plain_at .later [] _ _ _ _ said (fun _ h => by cases h) (by kernel_rfl) (fun _ h => by cases h) fnExactTiles_row_tie rfl ⟨rfl, rfl⟩ (by kernel_rfl) rfl plain (by kernel_rfl)
end Go.Proofs.YtkinapfoigibcaaDoor.fnExactTiles

namespace Go.Proofs.YtkinapfoigibcaaDoor
theorem fnExactTiles_holds : Rows.FnExactTilesCardSaid := fnExactTiles.card
#print axioms fnExactTiles_holds
end Go.Proofs.YtkinapfoigibcaaDoor
