/- At every calendar, year and day counted back, DayOfRoman of the program answers as the model's, every field, where the listed table of months holds its numbers; nothing that was there turns. -/
import Derived.Test.YtnjfhfjnbimdlaaDoorCards
import Derived.Test.YtnjfhfjnbimdlaaDoorTie
import Derived.Test.YtnjfhfjnbimdlaaDoorVarsKit
import Derived.Test.YtnjfhfjnbimdlaaDoorRomDay
import Derived.Test.YtnjfhfjnbimdlaaDoorRomDayS
import Derived.Test.YtnjfhfjnbimdlaaDoorRomLaw
import Derived.WalkKit
import Derived.ProofKit
import Derived.OpenShut
import Derived.ShutString
import Derived.ChangeOld
import Derived.Below
import Derived.Deep.DeepHandedRow
import Derived.Lib.LaidTab
import Derived.Lib.SmallJoins
namespace Go.Proofs.YtnjfhfjnbimdlaaDoor.fnExactDayOfRoman
open Go.ChangeShapes Go.WideShapes Go.ChangeAt Go.RowKit
open Go.ChangeMaps (open_string shut_string)
set_option linter.unusedVariables false

theorem own : ownKnob Tryd.prog.godebug = none := by kernel_rfl
theorem laidOut : laidOutB Tryd.prog = true := by kernel_rfl
theorem g0 : Tryd.prog.globalNamed "loop.example/g00638/impl.monthLengths" = some 0 := by kernel_rfl
theorem gt0 : (Tryd.prog.globals[0]?).map (·.type) = some 76 := by kernel_rfl
theorem ce0 : Tryd.prog.cellsOf 3 = 1 := by kernel_rfl
theorem ct0 : Tryd.prog.cellsOf 76 = 12 := by kernel_rfl
theorem tab0 {W : World} (h : laidMetH Tryd.prog Rows.fnExactDayOfRomanRow.laid W) : Lib.TabIs Tryd.prog W "loop.example/g00638/impl.monthLengths" .i64 [31, 28, 31, 30, 31, 30, 31, 31, 30, 31, 30, 31] := by
  have h0 : laidMet Tryd.prog [("loop.example/g00638/impl.monthLengths", Rows.laid_loop_example_g00638_impl_monthLengths)] W := h
  exact Lib.tabIs_of_head (rest := []) g0 gt0 Tryd.underlying76 Tryd.underlying3 ce0 ct0 h0

theorem walk (p : Int) (_ : (Lit.int .i64 p).wf = true) (q : Int) (_ : (Lit.int .i64 q).wf = true) (a b c : Int) (d : Bool) (w : World) (t0 : ctr.Tab w) :
    Calls Tryd.prog 6 #[.int .i64 p, .int .i64 q, .agg #[.int .i64 a, .int .i64 b, .int .i64 c, .bool d]] w fun e w' => e = .returned (.bool true) ∧ Below w.heap.size w w' := by
  obtain ⟨W0, hW0⟩ : ∃ W0, W0 = w.alloc (.cells #[.int .i64 a, .int .i64 b, .int .i64 c, .bool d] 54) := ⟨_, rfl⟩
  have c0 : ∀ x : ctr.Later W0, x.w.cell? ⟨w.heap.size, 0, none⟩ = some (.int .i64 a) := ctr.Later.new hW0 0 rfl
  have c1 : ∀ x : ctr.Later W0, x.w.cell? ⟨w.heap.size, 1, none⟩ = some (.int .i64 b) := ctr.Later.new hW0 1 rfl
  have c2 : ∀ x : ctr.Later W0, x.w.cell? ⟨w.heap.size, 2, none⟩ = some (.int .i64 c) := ctr.Later.new hW0 2 rfl
  have c3 : ∀ x : ctr.Later W0, x.w.cell? ⟨w.heap.size, 3, none⟩ = some (.bool d) := ctr.Later.new hW0 3 rfl
  have HW0 : Hid (W0 = _) := hW0
  have HT : Hid (∀ x : ctr.Later W0, ctr.Tab x.w) := fun x => t0.later (ctr.below_of_alloc HW0.out x.below)
  have HB : Hid (∀ x : ctr.Later W0, Below w.heap.size w x.w) := fun x => ctr.below_of_alloc HW0.out x.below
  have KS := ctr.specDayOfRoman p q ⟨a, b, c, d⟩
  have KI := fun W h => ctr.implDayOfRoman p q ⟨a, b, c, d⟩ W h
  generalize ctr.dayOfRoman p q ⟨a, b, c, d⟩ = r at *
  obtain ⟨r0, r1, r2, r3⟩ := r
  have KE := ctr.lawEqDate r0 r1 r2 r3
  clear t0 hW0
  go_enter Tryd.func6, Tryd.ntmps6
  go_wp2_with fail
  rw [← HW0.out]
  refine (ctr.lawToRoman _ _ _ _ _).mono ?_
  rintro e w1 ⟨rfl, hb1⟩
  obtain ⟨x1, rfl⟩ := ctr.Later.of hb1
  clear hb1
  go_wp2_with fail
  refine (KS _).mono ?_
  rintro e w2 ⟨rfl, hb2⟩
  obtain ⟨x2, rfl⟩ := x1.next hb2
  clear hb2
  have k0 := fun o => ((c0 ⟨x2.w.alloc o, x2.below.alloc x2.below.size o⟩ : _) : (x2.w.alloc o).cell? ⟨w.heap.size, 0, none⟩ = some (.int .i64 a))
  have k1 := fun o => ((c1 ⟨x2.w.alloc o, x2.below.alloc x2.below.size o⟩ : _) : (x2.w.alloc o).cell? ⟨w.heap.size, 1, none⟩ = some (.int .i64 b))
  have k2 := fun o => ((c2 ⟨x2.w.alloc o, x2.below.alloc x2.below.size o⟩ : _) : (x2.w.alloc o).cell? ⟨w.heap.size, 2, none⟩ = some (.int .i64 c))
  have k3 := fun o => ((c3 ⟨x2.w.alloc o, x2.below.alloc x2.below.size o⟩ : _) : (x2.w.alloc o).cell? ⟨w.heap.size, 3, none⟩ = some (.bool d))
  go_wp2_with fail
  obtain ⟨W3, hW3⟩ : ∃ W3, W3 = x2.w.alloc (ctr.dateO r0 r1 r2 r3) := ⟨_, rfl⟩
  have d0 : ∀ x : ctr.Later W3, x.w.cell? ⟨x2.w.heap.size, 0, none⟩ = some (.int .i64 r0) := ctr.Later.new hW3 0 rfl
  have d1 : ∀ x : ctr.Later W3, x.w.cell? ⟨x2.w.heap.size, 1, none⟩ = some (.int .i64 r1) := ctr.Later.new hW3 1 rfl
  have d2 : ∀ x : ctr.Later W3, x.w.cell? ⟨x2.w.heap.size, 2, none⟩ = some (.int .i64 r2) := ctr.Later.new hW3 2 rfl
  have d3 : ∀ x : ctr.Later W3, x.w.cell? ⟨x2.w.heap.size, 3, none⟩ = some (.int .i64 r3) := ctr.Later.new hW3 3 rfl
  have UP : Hid (∀ x : ctr.Later W3, ∃ y : ctr.Later W0, x.w = y.w) := fun x => x2.next (ctr.below_of_alloc hW3 x.below)
  rw [← hW3]
  clear hW3 k0 k1 k2 k3 c0 c1 c2 c3
  refine (ctr.lawToRoman _ _ _ _ _).mono ?_
  rintro e w4 ⟨rfl, hb⟩
  obtain ⟨x4, rfl⟩ := ctr.Later.of hb
  clear hb
  have hT4 : ctr.Tab x4.w := by obtain ⟨y, hy⟩ := UP.out x4; rw [hy]; exact HT.out y
  have HT4 := ctr.hideP hT4
  clear hT4
  go_wp2_with fail
  refine (KI _ HT4.out).mono ?_
  rintro e w5 ⟨rfl, hb⟩
  obtain ⟨x5, rfl⟩ := x4.next hb
  clear hb
  have n0 := fun o => ((d0 ⟨x5.w.alloc o, x5.below.alloc x5.below.size o⟩ : _) : (x5.w.alloc o).cell? ⟨x2.w.heap.size, 0, none⟩ = some (.int .i64 r0))
  have n1 := fun o => ((d1 ⟨x5.w.alloc o, x5.below.alloc x5.below.size o⟩ : _) : (x5.w.alloc o).cell? ⟨x2.w.heap.size, 1, none⟩ = some (.int .i64 r1))
  have n2 := fun o => ((d2 ⟨x5.w.alloc o, x5.below.alloc x5.below.size o⟩ : _) : (x5.w.alloc o).cell? ⟨x2.w.heap.size, 2, none⟩ = some (.int .i64 r2))
  have n3 := fun o => ((d3 ⟨x5.w.alloc o, x5.below.alloc x5.below.size o⟩ : _) : (x5.w.alloc o).cell? ⟨x2.w.heap.size, 3, none⟩ = some (.int .i64 r3))
  go_wp2_with fail
  refine (KE _).mono ?_
  rintro e w6 ⟨rfl, hb⟩
  obtain ⟨x6, hx6⟩ := x5.next (ctr.below_alloc hb)
  have HX6 := ctr.hideP hx6
  clear hb hx6
  go_wp2
  go_ret
  obtain ⟨y, hy⟩ := UP.out x6
  rw [HX6.out, hy]
  exact ⟨rfl, HB.out y⟩

theorem readable : ∀ m ∈ Rows.fnExactDayOfRomanSpec.vars, ∀ g t, Tryd.prog.globalNamed m = some g → (Tryd.prog.globals[g]?).map (·.type) = some t → Tryd.prog.readableRec t = true ∧ t < Tryd.prog.types.size := by
  intro m hm g t h1 h2
  have hm' : m = "loop.example/g00638/impl.monthLengths" := by simpa [Rows.fnExactDayOfRomanSpec] using hm
  rcases hm' with rfl
  · obtain rfl := Option.some.inj (g0.symm.trans h1)
    obtain rfl := Option.some.inj (gt0.symm.trans h2)
    exact ⟨by kernel_rfl, of_decide_eq_true (by kernel_rfl)⟩

set_option maxRecDepth 100000 in
theorem contract (H : Type) (enc : TypeId × Value → H) (W : World) (base : Nat) (args : Array Value) (ds gs : List (DataW H)) (before : List MemPlace)
    (hval : ∀ (j : Nat) t v, Tryd.f6.params[j]? = some t → args[j]? = some v → Value.okWide Tryd.prog W .any base t v)
    (hW : DataW.Whole enc Tryd.prog Tryd.f6.params.toList Rows.fnExactDayOfRomanSpec.vars false W args.toList ds gs before) (hL : laidMetH Tryd.prog Rows.fnExactDayOfRomanRow.laid W) :
    Calls Tryd.prog 6 args W fun e W' => ∃ v, e = .returned v ∧ Rows.fnExactDayOfRomanSpec.post enc Tryd.prog Tryd.f6 false true false false W args v W' := by
  have hW' := hW
  obtain ⟨p, q, hA0, hV, rfl, hfz, hnd⟩ := hW
  have hA : DataW.TrodAll enc Tryd.prog W 0 (fun _ => true) true Tryd.f6.params.toList args.toList ds p := hA0
  rw [Tryd.params6] at hA hval
  obtain ⟨v0, vs0, d0, ds0, p0, q0, hargs, rfl, rfl, h0, r0⟩ := trodAll_cons hA
  obtain ⟨v1, vs1, d1, ds1, p1, q1, rfl, rfl, rfl, h1, r1⟩ := trodAll_cons r0
  obtain ⟨v2, vs2, d2, ds2, p2, q2, rfl, rfl, rfl, h2, r2⟩ := trodAll_cons r1
  obtain ⟨rfl, rfl, rfl⟩ := trodAll_nil r2
  obtain rfl : args = #[v0, v1, v2] := by cases args; simp_all
  have hk : ∀ W', Below W.heap.size W W' → DataW.TrodVars enc Tryd.prog W' (fun b => decide (b < W.heap.size)) Rows.fnExactDayOfRomanSpec.vars gs q := fun W' hb => kit.trodVars_kept laidOut hb readable hV (DataW.TrodVars.lt hV)
  obtain ⟨g1, rfl⟩ : ∃ g1, gs = [g1] := by obtain ⟨_, _, _, _, d, _, h, _⟩ := trodVars_one hV; exact ⟨d, h⟩
  obtain ⟨a0, rfl, rfl, rfl, w0⟩ := open_int Tryd.underlying3 (hval 0 3 v0 rfl rfl) h0
  obtain ⟨a1, rfl, rfl, rfl, w1⟩ := open_int Tryd.underlying3 (hval 1 3 v1 rfl rfl) h1
  obtain ⟨c20, c21, c22, c23, y20, y21, y22, y23, m2, rfl, rfl, rfl, hy20, hy21, hy22, hy23⟩ := Joins.open_agg4 Tryd.underlying54 (by kernel_rfl) (show Tryd.prog.cellsOf 54 = 4 by kernel_rfl) (hval 2 54 v2 rfl rfl) h2
  obtain ⟨a20, e20, rfl, w20⟩ := DataW.trod_int Tryd.underlying3 hy20
  obtain rfl : c20 = .int .i64 a20 := by simpa using e20
  obtain ⟨a21, e21, rfl, w21⟩ := DataW.trod_int Tryd.underlying3 hy21
  obtain rfl : c21 = .int .i64 a21 := by simpa using e21
  obtain ⟨a22, e22, rfl, w22⟩ := DataW.trod_int Tryd.underlying3 hy22
  obtain rfl : c22 = .int .i64 a22 := by simpa using e22
  obtain ⟨a23, e23, rfl⟩ := DataW.trod_bool Tryd.underlying4 hy23
  obtain rfl : c23 = .bool a23 := by simpa using e23
  clear hA0
  refine (walk a0 w0 a1 w1 a20 a21 a22 a23 W (tab0 hL)).mono fun e W' ⟨he, bel⟩ => ?_
  subst he
  exact ⟨_, rfl, _, _, _, [], _, _, hW', trodAll_mk1 (shut_bool Tryd.underlying4 _), trodAll_cons_mk (shut_int Tryd.underlying3 w0) (trodAll_cons_mk (shut_int Tryd.underlying3 w1) (trodAll_cons_mk (Joins.shut_agg4 (y0 := (.lit (.int .i64 a20), [])) (y1 := (.lit (.int .i64 a21), [])) (y2 := (.lit (.int .i64 a22), [])) (y3 := (.lit (.bool a23), [])) Tryd.underlying54 (by kernel_rfl) (show Tryd.prog.cellsOf 54 = 4 by kernel_rfl) ⟨1, by simp [DataW.trod, Tryd.underlying3, w20]⟩ ⟨1, by simp [DataW.trod, Tryd.underlying3, w21]⟩ ⟨1, by simp [DataW.trod, Tryd.underlying3, w22]⟩ ⟨1, by simp [DataW.trod, Tryd.underlying4]⟩) (trodAll_mk0))), hk W' bel, bel.frame _, fun h => by cases h⟩

/-- A world for the witness: the settled one, each listed table holding what its initialiser lays. -/
noncomputable def laidWorld (os : Os) : World :=
  { World.holding Tryd.prog os ⟨#[], #[], []⟩ with heap := ((World.holding Tryd.prog os ⟨#[], #[], []⟩).heap.modify 0 fun
      | .cells _ t frozen => .cells #[.int .i64 31, .int .i64 28, .int .i64 31, .int .i64 30, .int .i64 31, .int .i64 30, .int .i64 31, .int .i64 31, .int .i64 30, .int .i64 31, .int .i64 30, .int .i64 31] t frozen
      | o => o) }
theorem laid_met (os : Os) : laidMet Tryd.prog Rows.fnExactDayOfRomanRow.laid ((laidWorld os).forCall (fun _ _ => 0) ⟨#[], #[.int .i64 0, .int .i64 0, .agg #[.int .i64 0, .int .i64 0, .int .i64 0, .bool false]], []⟩).memory :=
  laidMet_of_run' 8 (by kernel_rfl) (by kernel_rfl)
theorem reads (os : Os) {H : Type} (enc : TypeId × Value → H) : ∃ places, DataW.whole enc Tryd.prog ((laidWorld os).forCall (fun _ _ => 0) ⟨#[], #[.int .i64 0, .int .i64 0, .agg #[.int .i64 0, .int .i64 0, .int .i64 0, .bool false]], []⟩).memory Tryd.f6.params.toList Rows.fnExactDayOfRomanSpec.vars false (#[.int .i64 0, .int .i64 0, .agg #[.int .i64 0, .int .i64 0, .int .i64 0, .bool false]] : Array Value).toList 8 = some ([.lit (.int .i64 0), .lit (.int .i64 0), .agg [.lit (.int .i64 0), .lit (.int .i64 0), .lit (.int .i64 0), .lit (.bool false)]], [Rows.laid_loop_example_g00638_impl_monthLengths], places) :=
  ⟨MemPlace.row ⟨0, 0, none⟩ 12 ++ [] ++ [], by kernel_rfl⟩

set_option maxRecDepth 100000 in
theorem lifted (os : Os) (started : os.Started) (H : Type) (enc : TypeId × Value → H) (F : Stop.Interp) :
    ReturnsInHanded {} Tryd.checked os 6 .any ((OpenSpec.ofChange Rows.fnExactDayOfRomanSpec).preRow enc Tryd.prog Tryd.f6 Rows.fnExactDayOfRomanRow.domain false Rows.fnExactDayOfRomanRow.laid) (((OpenSpec.ofChange Rows.fnExactDayOfRomanSpec).at F).post enc Tryd.prog Tryd.f6 false true false false) := by
  obtain ⟨places, hx⟩ := reads os enc
  refine returnsInHanded_of_row (C := Tryd.checked) (s := OpenSpec.ofChange Rows.fnExactDayOfRomanSpec) own started (by kernel_rfl) Tryd.func6
    (witness_row_at (enc := enc) (C := Tryd.checked) false (laidWorld os) #[.int .i64 0, .int .i64 0, .agg #[.int .i64 0, .int .i64 0, .int .i64 0, .bool false]] rfl (by kernel_rfl) (by kernel_rfl) (by kernel_rfl)
      (OpenSpec.preRow_of_cond 8 hx (by kernel_rfl) (fun k hk => by cases hk) (by kernel_rfl) (laid_met os))) ?_
  intro W base args ds gs before hval hW _ _ _ hL _ _
  exact contract H enc W base args ds gs before hval hW hL

theorem said : Rows.FnExactDayOfRomanSaid :=
  OpenClaim.holds_of_cond 6 Tryd.f6 rfl rfl rfl rfl rfl rfl rfl ⟨rfl, rfl, rfl, rfl, rfl⟩ rfl rfl rfl rfl rfl (by kernel_rfl) Tryd.func6 (by kernel_rfl)
    (of_decide_eq_true (by kernel_rfl)) (by unfold Func.isWrapper; first | (rw [if_pos (by decide +kernel)]; kernel_rfl) | (rw [if_neg (by decide +kernel)]; exact ⟨rfl, rfl⟩))
    (fun os started H enc _ F => by rw [OpenClaim.pre_eq_preRow]; exact lifted os started H enc F)

theorem plain (f : FuncId) (fn : Func) (hf : Tryd.pinned.checked.prog.funcNamed "loop.example/g00638/laws.FnExactDayOfRoman" = some f) (hfn : Tryd.pinned.checked.prog.funcs[f]? = some fn) :
    true = Tryd.pinned.checked.prog.looks [] ∧ ∀ (j : Nat) t, fn.params[j]? = some t → Tryd.pinned.checked.prog.wantsStandIn t = false := by
  obtain rfl : f = 6 := Option.some.inj ((show Tryd.prog.funcNamed "loop.example/g00638/laws.FnExactDayOfRoman" = some 6 by kernel_rfl).symm.trans hf) |>.symm
  obtain rfl : fn = Tryd.f6 := (Option.some.inj (Tryd.func6.symm.trans hfn)).symm
  refine ⟨by kernel_rfl, fun j t ht => ?_⟩
  rw [Tryd.params6] at ht
  have ht : t = 3 ∨ t = 3 ∨ t = 54 := by simpa using Array.mem_of_getElem? ht
  rcases ht with rfl | rfl | rfl
  · exact (show Tryd.prog.wantsStandIn 3 = false by kernel_rfl)
  · exact (show Tryd.prog.wantsStandIn 3 = false by kernel_rfl)
  · exact (show Tryd.prog.wantsStandIn 54 = false by kernel_rfl)

theorem card : Rows.FnExactDayOfRomanCardSaid :=
  Claim7.holds_tied_plain_at .later [] _ _ _ _ said (fun _ h => by cases h) (by kernel_rfl) (fun _ h => by cases h) fnExactDayOfRoman_row_tie rfl ⟨rfl, rfl⟩ (by kernel_rfl) rfl plain (by kernel_rfl)
end Go.Proofs.YtnjfhfjnbimdlaaDoor.fnExactDayOfRoman

namespace Go.Proofs.YtnjfhfjnbimdlaaDoor
theorem fnExactDayOfRoman_holds : Rows.FnExactDayOfRomanCardSaid := fnExactDayOfRoman.card
#print axioms fnExactDayOfRoman_holds
end Go.Proofs.YtnjfhfjnbimdlaaDoor
