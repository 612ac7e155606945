/- At every reading the program's Plain answers as the model's: the date of its calendar, year, month and day, and whether there is one; nothing that was there is written into. -/
import Derived.Test.YteebgakbeoiflaaDoorCards
import Derived.Test.YteebgakbeoiflaaDoorTie
import Derived.Test.YteebgakbeoiflaaDoorVarsKit
import Derived.Test.YteebgakbeoiflaaDoorRdgCtr
import Derived.Test.YteebgakbeoiflaaDoorSolEq
import Derived.Test.YteebgakbeoiflaaDoorIntOpen
import Derived.WalkKit
import Derived.ProofKit
import Derived.OpenShut
import Derived.ShutString
import Derived.ChangeOld
import Derived.Below
import Derived.Deep.DeepHandedRow
import Derived.Lib.LaidTab
import Derived.Lib.SmallJoins
import Derived.Deep.CutRange
namespace Go.Proofs.YteebgakbeoiflaaDoor.fnExactPlain
open Go.ChangeShapes Go.WideShapes Go.ChangeAt Go.RowKit
open Go.ChangeMaps (open_string shut_string)
set_option linter.unusedVariables false

theorem own : ownKnob Tryd.prog.godebug = none := by kernel_rfl
theorem laidOut : laidOutB Tryd.prog = true := by kernel_rfl
theorem g0 : Tryd.prog.globalNamed "loop.example/g00638/impl.monthLengths" = some 1 := by kernel_rfl
theorem gt0 : (Tryd.prog.globals[1]?).map (·.type) = some 50 := by kernel_rfl
theorem ce0 : Tryd.prog.cellsOf 3 = 1 := by kernel_rfl
theorem ct0 : Tryd.prog.cellsOf 50 = 12 := by kernel_rfl
theorem tab0 {W : World} (h : laidMetH Tryd.prog Rows.fnExactPlainRow.laid W) : Lib.TabIs Tryd.prog W "loop.example/g00638/impl.monthLengths" .i64 [31, 28, 31, 30, 31, 30, 31, 31, 30, 31, 30, 31] := by
  have h0 : laidMet Tryd.prog [("loop.example/g00638/impl.monthLengths", Rows.laid_loop_example_g00638_impl_monthLengths)] W := h
  exact Lib.tabIs_of_head (rest := []) g0 gt0 Tryd.underlying50 Tryd.underlying3 ce0 ct0 h0

set_option maxHeartbeats 1000000 in
theorem walk (x : ctr.Rdg) (_ : ∀ z ∈ ctr.rdgK.iv x, (Lit.int .i64 z).wf = true) (w : World) (t0 : ctr.Tab w) :
    Calls Tryd.prog 3 #[ctr.rdgV x] w fun e w' => e = .returned (.bool true) ∧ Below w.heap.size w w' := by
  obtain ⟨W0, hW0, p0, p1, p2, p3, p4, hBl⟩ := ctr.rdg_box w x 23
  have E0 : ∀ (z : ctr.Later W0) (o : Obj), (z.w.alloc o).cell? ⟨w.heap.size, 0, none⟩ = some (.int .i64 x.cal) := fun z o => p0 ⟨z.w.alloc o, z.below.alloc z.below.size o⟩
  have E1 : ∀ (z : ctr.Later W0) (o : Obj), (z.w.alloc o).cell? ⟨w.heap.size, 1, none⟩ = some (.int .i64 x.year) := fun z o => p1 ⟨z.w.alloc o, z.below.alloc z.below.size o⟩
  have E2 : ∀ (z : ctr.Later W0) (o : Obj), (z.w.alloc o).cell? ⟨w.heap.size, 2, none⟩ = some (.int .i64 x.sol) := fun z o => p2 ⟨z.w.alloc o, z.below.alloc z.below.size o⟩
  have E3 : ∀ (z : ctr.Later W0) (o : Obj), (z.w.alloc o).cell? ⟨w.heap.size, 3, none⟩ = some (.int .i64 x.mon) := fun z o => p3 ⟨z.w.alloc o, z.below.alloc z.below.size o⟩
  have E4 : ∀ (z : ctr.Later W0) (o : Obj), (z.w.alloc o).cell? ⟨w.heap.size, 4, none⟩ = some (.int .i64 x.day) := fun z o => p4 ⟨z.w.alloc o, z.below.alloc z.below.size o⟩
  have HW0 := ctr.hideP hW0
  have HBl := ctr.hideP hBl
  have KS := fun W => ctr.specPlain x W
  have KI : ∀ W, Hid (Below w.heap.size w W) → Calls Tryd.prog 7 #[ctr.rdgV x] W fun e w' => e = .returned (ctr.plainR x.cal x) ∧ Below W.heap.size W w' := fun W h => ctr.implPlain x W (t0.later h.out)
  obtain ⟨a, b, m, d, ok, h⟩ : ∃ a b m d ok, ctr.plainR x.cal x = .tuple #[.agg #[.int .i64 a, .int .i64 b, .int .i64 m, .int .i64 d], .bool ok] := by
    unfold ctr.plainR
    split
    · exact ⟨_, _, _, _, _, rfl⟩
    · exact ⟨_, _, _, _, _, rfl⟩
  rw [h] at KS KI
  have KE := fun W => ctr.eqDateSame a b m d W
  clear t0 h hW0 hBl
  go_enter Tryd.func3, Tryd.ntmps3
  go_wp2_with fail
  rw [← HW0.out]
  refine (ctr.toReading x _).mono ?_
  rintro e wz ⟨rfl, hb⟩
  obtain ⟨y0, rfl⟩ := ctr.Later.of hb
  clear hb
  go_wp2_with fail
  refine (KS _).mono ?_
  rintro e wA ⟨rfl, hb⟩
  obtain ⟨x1, rfl⟩ := y0.next hb
  clear hb
  go_wp2_with fail
  obtain ⟨W1, e1⟩ : ∃ W1, W1 = x1.w.alloc (.cells #[.int .i64 a, .int .i64 b, .int .i64 m, .int .i64 d] 25) := ⟨_, rfl⟩
  have c0 : ∀ x : ctr.Later W1, x.w.cell? ⟨x1.w.heap.size, 0, none⟩ = some (.int .i64 a) := ctr.Later.new e1 0 rfl
  have c1 : ∀ x : ctr.Later W1, x.w.cell? ⟨x1.w.heap.size, 1, none⟩ = some (.int .i64 b) := ctr.Later.new e1 1 rfl
  have c2 : ∀ x : ctr.Later W1, x.w.cell? ⟨x1.w.heap.size, 2, none⟩ = some (.int .i64 m) := ctr.Later.new e1 2 rfl
  have c3 : ∀ x : ctr.Later W1, x.w.cell? ⟨x1.w.heap.size, 3, none⟩ = some (.int .i64 d) := ctr.Later.new e1 3 rfl
  have d0 : ∀ (x : ctr.Later W1) (o : Obj), (x.w.alloc o).cell? ⟨x1.w.heap.size, 0, none⟩ = some (.int .i64 a) := fun x o => c0 ⟨x.w.alloc o, x.below.alloc x.below.size o⟩
  have d1 : ∀ (x : ctr.Later W1) (o : Obj), (x.w.alloc o).cell? ⟨x1.w.heap.size, 1, none⟩ = some (.int .i64 b) := fun x o => c1 ⟨x.w.alloc o, x.below.alloc x.below.size o⟩
  have d2 : ∀ (x : ctr.Later W1) (o : Obj), (x.w.alloc o).cell? ⟨x1.w.heap.size, 2, none⟩ = some (.int .i64 m) := fun x o => c2 ⟨x.w.alloc o, x.below.alloc x.below.size o⟩
  have d3 : ∀ (x : ctr.Later W1) (o : Obj), (x.w.alloc o).cell? ⟨x1.w.heap.size, 3, none⟩ = some (.int .i64 d) := fun x o => c3 ⟨x.w.alloc o, x.below.alloc x.below.size o⟩
  have B0 : Hid (Below W0.heap.size W0 W1) := by unfold Hid; rw [e1]; exact x1.below.alloc x1.below.size _
  rw [← e1]
  have S1 : Hid (∀ z : ctr.Later W1, Below w.heap.size w z.w) := fun z => HBl.out ⟨z.w, B0.out.trans (z.below.mono B0.out.size)⟩
  have P0 : ∀ z : ctr.Later W1, z.w.cell? ⟨w.heap.size, 0, none⟩ = some (.int .i64 x.cal) := fun z => p0 ⟨z.w, B0.out.trans (z.below.mono B0.out.size)⟩
  have P1 : ∀ z : ctr.Later W1, z.w.cell? ⟨w.heap.size, 1, none⟩ = some (.int .i64 x.year) := fun z => p1 ⟨z.w, B0.out.trans (z.below.mono B0.out.size)⟩
  have P2 : ∀ z : ctr.Later W1, z.w.cell? ⟨w.heap.size, 2, none⟩ = some (.int .i64 x.sol) := fun z => p2 ⟨z.w, B0.out.trans (z.below.mono B0.out.size)⟩
  have P3 : ∀ z : ctr.Later W1, z.w.cell? ⟨w.heap.size, 3, none⟩ = some (.int .i64 x.mon) := fun z => p3 ⟨z.w, B0.out.trans (z.below.mono B0.out.size)⟩
  have P4 : ∀ z : ctr.Later W1, z.w.cell? ⟨w.heap.size, 4, none⟩ = some (.int .i64 x.day) := fun z => p4 ⟨z.w, B0.out.trans (z.below.mono B0.out.size)⟩
  clear e1
  refine (ctr.toReading x _).mono ?_
  rintro e wy ⟨rfl, hb⟩
  obtain ⟨y1, rfl⟩ := ctr.Later.of hb
  clear hb
  go_wp2_with fail
  refine (KI _ (S1.out y1)).mono ?_
  rintro e wB ⟨rfl, hb⟩
  obtain ⟨x2, rfl⟩ := y1.next hb
  clear hb
  go_wp2_with fail
  refine (KE _).mono ?_
  rintro e wC ⟨rfl, hb⟩
  have HC := ctr.hideP (ctr.below_alloc hb)
  clear hb
  cases ok
  · go_wp2
    go_ret
    exact ⟨rfl, (S1.out x2).trans (HC.out.mono (S1.out x2).size)⟩
  · go_wp2
    go_ret
    exact ⟨rfl, (S1.out x2).trans (HC.out.mono (S1.out x2).size)⟩

theorem readable : ∀ m ∈ Rows.fnExactPlainSpec.vars, ∀ g t, Tryd.prog.globalNamed m = some g → (Tryd.prog.globals[g]?).map (·.type) = some t → Tryd.prog.readableRec t = true ∧ t < Tryd.prog.types.size := by
  intro m hm g t h1 h2
  have hm' : m = "loop.example/g00638/impl.monthLengths" := by simpa [Rows.fnExactPlainSpec] using hm
  rcases hm' with rfl
  · obtain rfl := Option.some.inj (g0.symm.trans h1)
    obtain rfl := Option.some.inj (gt0.symm.trans h2)
    exact ⟨by kernel_rfl, of_decide_eq_true (by kernel_rfl)⟩

set_option maxRecDepth 100000 in
theorem contract (H : Type) (enc : TypeId × Value → H) (W : World) (base : Nat) (args : Array Value) (ds gs : List (DataW H)) (before : List MemPlace)
    (hval : ∀ (j : Nat) t v, Tryd.f3.params[j]? = some t → args[j]? = some v → Value.okWide Tryd.prog W .any base t v)
    (hW : DataW.Whole enc Tryd.prog Tryd.f3.params.toList Rows.fnExactPlainSpec.vars false W args.toList ds gs before) (hL : laidMetH Tryd.prog Rows.fnExactPlainRow.laid W) :
    Calls Tryd.prog 3 args W fun e W' => ∃ v, e = .returned v ∧ Rows.fnExactPlainSpec.post enc Tryd.prog Tryd.f3 false true false false W args v W' := by
  have hW' := hW
  obtain ⟨p, q, hA0, hV, rfl, hfz, hnd⟩ := hW
  have hA : DataW.TrodAll enc Tryd.prog W 0 (fun _ => true) true Tryd.f3.params.toList args.toList ds p := hA0
  rw [Tryd.params3] at hA hval
  obtain ⟨v0, vs0, d0, ds0, p0, q0, hargs, rfl, rfl, h0, r0⟩ := trodAll_cons hA
  obtain ⟨rfl, rfl, rfl⟩ := trodAll_nil r0
  obtain rfl : args = #[v0] := by cases args; simp_all
  have hk : ∀ W', Below W.heap.size W W' → DataW.TrodVars enc Tryd.prog W' (fun b => decide (b < W.heap.size)) Rows.fnExactPlainSpec.vars gs q := fun W' hb => kit.trodVars_kept laidOut hb readable hV (DataW.TrodVars.lt hV)
  obtain ⟨g1, rfl⟩ : ∃ g1, gs = [g1] := by obtain ⟨_, _, _, _, d, _, h, _⟩ := trodVars_one hV; exact ⟨d, h⟩
  have k0 := h0
  have lt0 : ∀ x ∈ p0, x.block < W.heap.size := by obtain ⟨m, hm⟩ := k0; exact DataW.trod_lt m _ _ _ hm
  obtain ⟨s0, rfl, w0⟩ := kit.open_istruct ctr.rdgK Tryd.underlying23 (show Tryd.prog.cellsOf 23 = 5 by kernel_rfl) rfl (fun j f h => by
      rcases j with _ | _ | _ | _ | _ | j <;> simp at h <;> (try subst h) <;> exact ⟨rfl, by kernel_rfl, Tryd.underlying3⟩) (hval 0 23 v0 rfl rfl) h0
  clear hA0
  refine (walk s0 w0 W (tab0 hL)).mono fun e W' ⟨he, bel⟩ => ?_
  subst he
  exact ⟨_, rfl, _, _, _, [], _, _, hW', trodAll_mk1 (shut_bool Tryd.underlying4 _), trodAll_cons_mk (Below.trod laidOut (by kernel_rfl) (of_decide_eq_true (by kernel_rfl)) k0 bel lt0) (trodAll_mk0), hk W' bel, bel.frame _, fun h => by cases h⟩

/-- A world for the witness: the settled one, each listed table holding what its initialiser lays. -/
noncomputable def laidWorld (os : Os) : World :=
  { World.holding Tryd.prog os ⟨#[], #[], []⟩ with heap := ((World.holding Tryd.prog os ⟨#[], #[], []⟩).heap.modify 1 fun
      | .cells _ t frozen => .cells #[.int .i64 31, .int .i64 28, .int .i64 31, .int .i64 30, .int .i64 31, .int .i64 30, .int .i64 31, .int .i64 31, .int .i64 30, .int .i64 31, .int .i64 30, .int .i64 31] t frozen
      | o => o) }
theorem laid_met (os : Os) : laidMet Tryd.prog Rows.fnExactPlainRow.laid ((laidWorld os).forCall (fun _ _ => 0) ⟨#[], #[.agg #[.int .i64 0, .int .i64 0, .int .i64 0, .int .i64 0, .int .i64 0]], []⟩).memory :=
  laidMet_of_run' 8 (by kernel_rfl) (by kernel_rfl)
theorem reads (os : Os) {H : Type} (enc : TypeId × Value → H) : ∃ places, DataW.whole enc Tryd.prog ((laidWorld os).forCall (fun _ _ => 0) ⟨#[], #[.agg #[.int .i64 0, .int .i64 0, .int .i64 0, .int .i64 0, .int .i64 0]], []⟩).memory Tryd.f3.params.toList Rows.fnExactPlainSpec.vars false (#[.agg #[.int .i64 0, .int .i64 0, .int .i64 0, .int .i64 0, .int .i64 0]] : Array Value).toList 8 = some ([.agg [.lit (.int .i64 0), .lit (.int .i64 0), .lit (.int .i64 0), .lit (.int .i64 0), .lit (.int .i64 0)]], [Rows.laid_loop_example_g00638_impl_monthLengths], places) :=
  ⟨MemPlace.row ⟨1, 0, none⟩ 12 ++ [] ++ [], by kernel_rfl⟩

set_option maxRecDepth 100000 in
theorem lifted (os : Os) (started : os.Started) (H : Type) (enc : TypeId × Value → H) (F : Stop.Interp) :
    ReturnsInHanded {} Tryd.checked os 3 .any ((OpenSpec.ofChange Rows.fnExactPlainSpec).preRow enc Tryd.prog Tryd.f3 Rows.fnExactPlainRow.domain false Rows.fnExactPlainRow.laid) (((OpenSpec.ofChange Rows.fnExactPlainSpec).at F).post enc Tryd.prog Tryd.f3 false true false false) := by
  obtain ⟨places, hx⟩ := reads os enc
  refine returnsInHanded_of_row (C := Tryd.checked) (s := OpenSpec.ofChange Rows.fnExactPlainSpec) own started (by kernel_rfl) Tryd.func3
    (witness_row_at (enc := enc) (C := Tryd.checked) false (laidWorld os) #[.agg #[.int .i64 0, .int .i64 0, .int .i64 0, .int .i64 0, .int .i64 0]] rfl (by kernel_rfl) (by kernel_rfl) (by kernel_rfl)
      (OpenSpec.preRow_of_cond 8 hx (by kernel_rfl) (fun k hk => by cases hk) (by kernel_rfl) (laid_met os))) ?_
  intro W base args ds gs before hval hW _ _ _ hL _ _
  exact contract H enc W base args ds gs before hval hW hL

theorem said : Rows.FnExactPlainSaid :=
  OpenClaim.holds_of_cond 3 Tryd.f3 rfl rfl rfl rfl rfl rfl rfl ⟨rfl, rfl, rfl, rfl, rfl⟩ rfl rfl rfl rfl rfl (by kernel_rfl) Tryd.func3 (by kernel_rfl)
    (of_decide_eq_true (by kernel_rfl)) (by unfold Func.isWrapper; first | (rw [if_pos (by decide +kernel)]; kernel_rfl) | (rw [if_neg (by decide +kernel)]; exact ⟨rfl, rfl⟩))
    (fun os started H enc _ F => by rw [OpenClaim.pre_eq_preRow]; exact lifted os started H enc F)

theorem plain (f : FuncId) (fn : Func) (hf : Tryd.pinned.checked.prog.funcNamed "loop.example/g00638/laws.FnExactPlain" = some f) (hfn : Tryd.pinned.checked.prog.funcs[f]? = some fn) :
    true = Tryd.pinned.checked.prog.looks [] ∧ ∀ (j : Nat) t, fn.params[j]? = some t → Tryd.pinned.checked.prog.wantsStandIn t = false := by
  obtain rfl : f = 3 := Option.some.inj ((show Tryd.prog.funcNamed "loop.example/g00638/laws.FnExactPlain" = some 3 by kernel_rfl).symm.trans hf) |>.symm
  obtain rfl : fn = Tryd.f3 := (Option.some.inj (Tryd.func3.symm.trans hfn)).symm
  refine ⟨by kernel_rfl, fun j t ht => ?_⟩
  rw [Tryd.params3] at ht
  obtain rfl : t = 23 := by simpa using Array.mem_of_getElem? ht
  exact (show Tryd.prog.wantsStandIn 23 = false by kernel_rfl)

theorem card : Rows.FnExactPlainCardSaid :=
  Claim7.holds_tied_plain_at .later [] _ _ _ _ said (fun _ h => by cases h) (by kernel_rfl) (fun _ h => by cases h) fnExactPlain_row_tie rfl ⟨rfl, rfl⟩ (by kernel_rfl) rfl plain (by kernel_rfl)
end Go.Proofs.YteebgakbeoiflaaDoor.fnExactPlain

namespace Go.Proofs.YteebgakbeoiflaaDoor
theorem fnExactPlain_holds : Rows.FnExactPlainCardSaid := fnExactPlain.card
#print axioms fnExactPlain_holds
end Go.Proofs.YteebgakbeoiflaaDoor
