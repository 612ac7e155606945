/- FnExactEraSpan returns true at every calendar, era and number: the program's EraSpan answers as the model's; nothing that was there turns; the table of months is tied to the program's own text. -/
import Derived.Test.YtifekkehbaegiaaDoorCards
import Derived.Test.YtifekkehbaegiaaDoorTie
import Derived.Test.YtifekkehbaegiaaDoorVarsKit
import Derived.Test.YtifekkehbaegiaaDoorEraSp
import Derived.Test.YtifekkehbaegiaaDoorEraOpen
import Derived.WalkKit
import Derived.ProofKit
import Derived.OpenShut
import Derived.ShutString
import Derived.ChangeOld
import Derived.Below
import Derived.Deep.DeepHandedRow
import Derived.Lib.LaidTab
import Derived.Lib.SmallJoins
namespace Go.Proofs.YtifekkehbaegiaaDoor.fnExactEraSpan
open Go.ChangeShapes Go.WideShapes Go.ChangeAt Go.RowKit
open Go.ChangeMaps (open_string shut_string)
set_option linter.unusedVariables false

theorem own : ownKnob Tryd.prog.godebug = none := by kernel_rfl
theorem laidOut : laidOutB Tryd.prog = true := by kernel_rfl
theorem g0 : Tryd.prog.globalNamed "loop.example/g00638/impl.monthLengths" = some 0 := by kernel_rfl
theorem gt0 : (Tryd.prog.globals[0]?).map (·.type) = some 76 := by kernel_rfl
theorem ce0 : Tryd.prog.cellsOf 3 = 1 := by kernel_rfl
theorem ct0 : Tryd.prog.cellsOf 76 = 12 := by kernel_rfl
theorem tab0 {W : World} (h : laidMetH Tryd.prog Rows.fnExactEraSpanRow.laid W) : Lib.TabIs Tryd.prog W "loop.example/g00638/impl.monthLengths" .i64 [31, 28, 31, 30, 31, 30, 31, 31, 30, 31, 30, 31] := by
  have h0 : laidMet Tryd.prog [("loop.example/g00638/impl.monthLengths", Rows.laid_loop_example_g00638_impl_monthLengths)] W := h
  exact Lib.tabIs_of_head (rest := []) g0 gt0 Tryd.underlying76 Tryd.underlying3 ce0 ct0 h0

theorem walk (a : Int) (wa : (Lit.int .i64 a).wf = true) (s : ByteArray) (st ad cy : Int) (hs : s.size ≤ maxLen) (n : Int) (wn : (Lit.int .i64 n).wf = true) (w : World) (t0 : ctr.Tab w) :
    Calls Tryd.prog 4 #[.int .i64 a, .agg #[.string s, .int .i64 st, .int .i64 ad, .int .i64 cy], .int .i64 n] w fun e w' => e = .returned (.bool true) ∧ Below w.heap.size w w' := by
  obtain ⟨W0, hW0, c0, c1, c2, c3, hBl⟩ := ctr.era_box w s st ad cy 23
  have KT : ∀ x : ctr.Later W0, ctr.Tab x.w := fun x => t0.later (hBl x)
  have HW0 := ctr.hideP hW0
  have HBl := ctr.hideP hBl
  obtain ⟨r1, r2⟩ := bounds_i64 wn
  have hr : -9223372036854775808 ≤ n ∧ n ≤ 9223372036854775807 := ⟨r1, r2⟩
  have KZ : ∀ W, Calls Tryd.prog 6 #[.agg #[.string s, .int .i64 st, .int .i64 ad, .int .i64 cy], .int .i64 1048576] W fun e w' => e = .returned (.int .i64 (ctr.szE s.size)) ∧ Below W.heap.size W w' := fun W => ctr.szEra s st ad cy W hs
  have KS : ∀ W, Calls Tryd.prog 10 #[.int .i64 a, .agg #[.string s, .int .i64 st, .int .i64 ad, .int .i64 cy], .int .i64 n] W fun e w' => e = .returned (ctr.spanR a s st ad cy n) ∧ Below W.heap.size W w' := fun W => ctr.specEraSpan a s st ad cy n W hs
  have KI : ∀ x : ctr.Later W0, Calls Tryd.prog 11 #[.int .i64 a, .agg #[.string s, .int .i64 st, .int .i64 ad, .int .i64 cy], .int .i64 n] x.w fun e w' => e = .returned (ctr.spanR a s st ad cy n) ∧ Below x.w.heap.size x.w w' := fun x => ctr.implEraSpan a s st ad cy n x.w hs (KT x) hr
  have hz : ctr.szE s.size = -1 ∨ 0 ≤ ctr.szE s.size := by unfold ctr.szE; split <;> omega
  clear hW0 hBl t0 hs KT wa wn
  generalize ctr.szE s.size = z at *
  unfold ctr.spanR at KS KI
  generalize (ctr.eraSpan a s st ad cy n).1 = r1 at *
  generalize (ctr.eraSpan a s st ad cy n).2 = r2 at *
  rcases hz with rfl | hz
  · go_enter Tryd.func4, Tryd.ntmps4
    go_wp2_with fail
    rw [← HW0.out]
    refine (KZ _).mono ?_
    rintro e w1 ⟨rfl, hb⟩
    obtain ⟨x1, rfl⟩ := ctr.Later.of hb
    clear hb
    go_wp2
    go_ret
    exact ⟨rfl, HBl.out x1⟩
  go_enter Tryd.func4, Tryd.ntmps4
  go_wp2_with fail
  rw [← HW0.out]
  refine (KZ _).mono ?_
  rintro e w1 ⟨rfl, hb⟩
  obtain ⟨x1, rfl⟩ := ctr.Later.of hb
  clear hb
  go_wp2_with fail
  refine (ctr.toEra _ _ _ _ _).mono ?_
  rintro e w2 ⟨rfl, hb⟩
  obtain ⟨x2, rfl⟩ := x1.next hb
  clear hb
  go_wp2_with fail
  refine (KS _).mono ?_
  rintro e w3 ⟨rfl, hb⟩
  obtain ⟨x3, rfl⟩ := x2.next hb
  clear hb
  go_wp2_with fail
  refine (ctr.toEra _ _ _ _ _).mono ?_
  rintro e w4 ⟨rfl, hb⟩
  obtain ⟨x4, rfl⟩ := x3.next hb
  clear hb
  go_wp2_with fail
  refine (KI x4).mono ?_
  rintro e w5 ⟨rfl, hb⟩
  obtain ⟨x5, rfl⟩ := x4.next hb
  clear hb
  go_wp2
  go_ret
  exact ⟨rfl, HBl.out x5⟩

theorem readable : ∀ m ∈ Rows.fnExactEraSpanSpec.vars, ∀ g t, Tryd.prog.globalNamed m = some g → (Tryd.prog.globals[g]?).map (·.type) = some t → Tryd.prog.readableRec t = true ∧ t < Tryd.prog.types.size := by
  intro m hm g t h1 h2
  have hm' : m = "loop.example/g00638/impl.monthLengths" := by simpa [Rows.fnExactEraSpanSpec] using hm
  rcases hm' with rfl
  · obtain rfl := Option.some.inj (g0.symm.trans h1)
    obtain rfl := Option.some.inj (gt0.symm.trans h2)
    exact ⟨by kernel_rfl, of_decide_eq_true (by kernel_rfl)⟩

set_option maxRecDepth 100000 in
theorem contract (H : Type) (enc : TypeId × Value → H) (W : World) (base : Nat) (args : Array Value) (ds gs : List (DataW H)) (before : List MemPlace)
    (hval : ∀ (j : Nat) t v, Tryd.f4.params[j]? = some t → args[j]? = some v → Value.okWide Tryd.prog W .any base t v)
    (hW : DataW.Whole enc Tryd.prog Tryd.f4.params.toList Rows.fnExactEraSpanSpec.vars false W args.toList ds gs before) (hL : laidMetH Tryd.prog Rows.fnExactEraSpanRow.laid W) :
    Calls Tryd.prog 4 args W fun e W' => ∃ v, e = .returned v ∧ Rows.fnExactEraSpanSpec.post enc Tryd.prog Tryd.f4 false true false false W args v W' := by
  have hW' := hW
  obtain ⟨p, q, hA0, hV, rfl, hfz, hnd⟩ := hW
  have hA : DataW.TrodAll enc Tryd.prog W 0 (fun _ => true) true Tryd.f4.params.toList args.toList ds p := hA0
  rw [Tryd.params4] at hA hval
  obtain ⟨v0, vs0, d0, ds0, p0, q0, hargs, rfl, rfl, h0, r0⟩ := trodAll_cons hA
  obtain ⟨v1, vs1, d1, ds1, p1, q1, rfl, rfl, rfl, h1, r1⟩ := trodAll_cons r0
  obtain ⟨v2, vs2, d2, ds2, p2, q2, rfl, rfl, rfl, h2, r2⟩ := trodAll_cons r1
  obtain ⟨rfl, rfl, rfl⟩ := trodAll_nil r2
  obtain rfl : args = #[v0, v1, v2] := by cases args; simp_all
  have hk : ∀ W', Below W.heap.size W W' → DataW.TrodVars enc Tryd.prog W' (fun b => decide (b < W.heap.size)) Rows.fnExactEraSpanSpec.vars gs q := fun W' hb => kit.trodVars_kept laidOut hb readable hV (DataW.TrodVars.lt hV)
  obtain ⟨g1, rfl⟩ : ∃ g1, gs = [g1] := by obtain ⟨_, _, _, _, d, _, h, _⟩ := trodVars_one hV; exact ⟨d, h⟩
  obtain ⟨a0, rfl, rfl, rfl, w0⟩ := open_int Tryd.underlying3 (hval 0 3 v0 rfl rfl) h0
  have k1 := h1
  have lt1 : ∀ x ∈ p1, x.block < W.heap.size := by obtain ⟨m, hm⟩ := k1; exact DataW.trod_lt m _ _ _ hm
  obtain ⟨s1, b1, o1, m1, rfl, w1, _, _, _⟩ := kit.open_era Tryd.underlying23 (by kernel_rfl) (show Tryd.prog.cellsOf 23 = 4 by kernel_rfl) Tryd.underlying9 Tryd.underlying3 Tryd.underlying3 Tryd.underlying3 (hval 1 23 v1 rfl rfl) h1
  obtain ⟨a2, rfl, rfl, rfl, w2⟩ := open_int Tryd.underlying3 (hval 2 3 v2 rfl rfl) h2
  clear hA0
  refine (walk a0 w0 s1 b1 o1 m1 w1 a2 w2 W (tab0 hL)).mono fun e W' ⟨he, bel⟩ => ?_
  subst he
  exact ⟨_, rfl, _, _, _, [], _, _, hW', trodAll_mk1 (shut_bool Tryd.underlying4 _), trodAll_cons_mk (shut_int Tryd.underlying3 w0) (trodAll_cons_mk (Below.trod laidOut (by kernel_rfl) (of_decide_eq_true (by kernel_rfl)) k1 bel lt1) (trodAll_cons_mk (shut_int Tryd.underlying3 w2) (trodAll_mk0))), hk W' bel, bel.frame _, fun h => by cases h⟩

/-- A world for the witness: the settled one, each listed table holding what its initialiser lays. -/
noncomputable def laidWorld (os : Os) : World :=
  { World.holding Tryd.prog os ⟨#[], #[], []⟩ with heap := ((World.holding Tryd.prog os ⟨#[], #[], []⟩).heap.modify 0 fun
      | .cells _ t frozen => .cells #[.int .i64 31, .int .i64 28, .int .i64 31, .int .i64 30, .int .i64 31, .int .i64 30, .int .i64 31, .int .i64 31, .int .i64 30, .int .i64 31, .int .i64 30, .int .i64 31] t frozen
      | o => o) }
theorem laid_met (os : Os) : laidMet Tryd.prog Rows.fnExactEraSpanRow.laid ((laidWorld os).forCall (fun _ _ => 0) ⟨#[], #[.int .i64 0, .agg #[.string ByteArray.empty, .int .i64 0, .int .i64 0, .int .i64 0], .int .i64 0], []⟩).memory :=
  laidMet_of_run' 8 (by kernel_rfl) (by kernel_rfl)
theorem reads (os : Os) {H : Type} (enc : TypeId × Value → H) : ∃ places, DataW.whole enc Tryd.prog ((laidWorld os).forCall (fun _ _ => 0) ⟨#[], #[.int .i64 0, .agg #[.string ByteArray.empty, .int .i64 0, .int .i64 0, .int .i64 0], .int .i64 0], []⟩).memory Tryd.f4.params.toList Rows.fnExactEraSpanSpec.vars false (#[.int .i64 0, .agg #[.string ByteArray.empty, .int .i64 0, .int .i64 0, .int .i64 0], .int .i64 0] : Array Value).toList 8 = some ([.lit (.int .i64 0), .agg [.lit (.string []), .lit (.int .i64 0), .lit (.int .i64 0), .lit (.int .i64 0)], .lit (.int .i64 0)], [Rows.laid_loop_example_g00638_impl_monthLengths], places) :=
  ⟨MemPlace.row ⟨0, 0, none⟩ 12 ++ [] ++ [], by kernel_rfl⟩

set_option maxRecDepth 100000 in
theorem lifted (os : Os) (started : os.Started) (H : Type) (enc : TypeId × Value → H) (F : Stop.Interp) :
    ReturnsInHanded {} Tryd.checked os 4 .any ((OpenSpec.ofChange Rows.fnExactEraSpanSpec).preRow enc Tryd.prog Tryd.f4 Rows.fnExactEraSpanRow.domain false Rows.fnExactEraSpanRow.laid) (((OpenSpec.ofChange Rows.fnExactEraSpanSpec).at F).post enc Tryd.prog Tryd.f4 false true false false) := by
  obtain ⟨places, hx⟩ := reads os enc
  refine returnsInHanded_of_row (C := Tryd.checked) (s := OpenSpec.ofChange Rows.fnExactEraSpanSpec) own started (by kernel_rfl) Tryd.func4
    (witness_row_at (enc := enc) (C := Tryd.checked) false (laidWorld os) #[.int .i64 0, .agg #[.string ByteArray.empty, .int .i64 0, .int .i64 0, .int .i64 0], .int .i64 0] rfl (by kernel_rfl) (by kernel_rfl) (by kernel_rfl)
      (OpenSpec.preRow_of_cond 8 hx (by kernel_rfl) (fun k hk => by cases hk) (by kernel_rfl) (laid_met os))) ?_
  intro W base args ds gs before hval hW _ _ _ hL _ _
  exact contract H enc W base args ds gs before hval hW hL

theorem said : Rows.FnExactEraSpanSaid :=
  OpenClaim.holds_of_cond 4 Tryd.f4 rfl rfl rfl rfl rfl rfl rfl ⟨rfl, rfl, rfl, rfl, rfl⟩ rfl rfl rfl rfl rfl (by kernel_rfl) Tryd.func4 (by kernel_rfl)
    (of_decide_eq_true (by kernel_rfl)) (by unfold Func.isWrapper; first | (rw [if_pos (by decide +kernel)]; kernel_rfl) | (rw [if_neg (by decide +kernel)]; exact ⟨rfl, rfl⟩))
    (fun os started H enc _ F => by rw [OpenClaim.pre_eq_preRow]; exact lifted os started H enc F)

theorem plain (f : FuncId) (fn : Func) (hf : Tryd.pinned.checked.prog.funcNamed "loop.example/g00638/laws.FnExactEraSpan" = some f) (hfn : Tryd.pinned.checked.prog.funcs[f]? = some fn) :
    true = Tryd.pinned.checked.prog.looks [] ∧ ∀ (j : Nat) t, fn.params[j]? = some t → Tryd.pinned.checked.prog.wantsStandIn t = false := by
  obtain rfl : f = 4 := Option.some.inj ((show Tryd.prog.funcNamed "loop.example/g00638/laws.FnExactEraSpan" = some 4 by kernel_rfl).symm.trans hf) |>.symm
  obtain rfl : fn = Tryd.f4 := (Option.some.inj (Tryd.func4.symm.trans hfn)).symm
  refine ⟨by kernel_rfl, fun j t ht => ?_⟩
  rw [Tryd.params4] at ht
  have ht : t = 3 ∨ t = 23 ∨ t = 3 := by simpa using Array.mem_of_getElem? ht
  rcases ht with rfl | rfl | rfl
  · exact (show Tryd.prog.wantsStandIn 3 = false by kernel_rfl)
  · exact (show Tryd.prog.wantsStandIn 23 = false by kernel_rfl)
  · exact (show Tryd.prog.wantsStandIn 3 = false by kernel_rfl)

theorem card : Rows.FnExactEraSpanCardSaid :=
  Claim7.holds_tied_plain_at .later [] _ _ _ _ said (fun _ h => by cases h) (by kernel_rfl) (fun _ h => by cases h) fnExactEraSpan_row_tie rfl ⟨rfl, rfl⟩ (by kernel_rfl) rfl plain (by kernel_rfl)
end Go.Proofs.YtifekkehbaegiaaDoor.fnExactEraSpan

namespace Go.Proofs.YtifekkehbaegiaaDoor
theorem fnExactEraSpan_holds : Rows.FnExactEraSpanCardSaid := fnExactEraSpan.card
#print axioms fnExactEraSpan_holds
end Go.Proofs.YtifekkehbaegiaaDoor
