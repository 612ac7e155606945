/- At every text, ReadRoman of the program answers as the model's, every field, where the listed tables hold what they list; nothing that was there turns. (Of texts of more than 1048576 bytes the law asks nothing.) -/
import Derived.Test.YtnjfhfjnbimdlaaDoorCards
import Derived.Test.YtnjfhfjnbimdlaaDoorTie
import Derived.Test.YtnjfhfjnbimdlaaDoorVarsKit
import Derived.Test.YtnjfhfjnbimdlaaDoorRomReadS
import Derived.Test.YtnjfhfjnbimdlaaDoorRomReadI
import Derived.Test.YtnjfhfjnbimdlaaDoorRomLaw
import Derived.WalkKit
import Derived.ProofKit
import Derived.OpenShut
import Derived.ShutString
import Derived.ChangeOld
import Derived.Below
import Derived.Deep.DeepHandedRow
import Derived.Lib.LaidTab
import Derived.Lib.SmallJoins
namespace Go.Proofs.YtnjfhfjnbimdlaaDoor.fnExactReadRoman
open Go.ChangeShapes Go.WideShapes Go.ChangeAt Go.RowKit
open Go.ChangeMaps (open_string shut_string)
set_option linter.unusedVariables false

theorem own : ownKnob Tryd.prog.godebug = none := by kernel_rfl
theorem laidOut : laidOutB Tryd.prog = true := by kernel_rfl
theorem g0 : Tryd.prog.globalNamed "loop.example/g00638/impl.digitShapes" = some 3 := by kernel_rfl
theorem gt0 : (Tryd.prog.globals[3]?).map (·.type) = some 118 := by kernel_rfl
theorem ce0 : Tryd.prog.cellsOf 9 = 1 := by kernel_rfl
theorem ct0 : Tryd.prog.cellsOf 118 = 10 := by kernel_rfl
theorem tab0 {W : World} (h : laidMetH Tryd.prog Rows.fnExactReadRomanRow.laid W) : kit.StrIs Tryd.prog W "loop.example/g00638/impl.digitShapes" [[], [97], [97, 97], [97, 97, 97], [97, 98], [98], [98, 97], [98, 97, 97], [98, 97, 97, 97], [97, 99]] := by
  have h0 : laidMet Tryd.prog [("loop.example/g00638/impl.digitShapes", Rows.laid_loop_example_g00638_impl_digitShapes), ("loop.example/g00638/impl.monthNames", Rows.laid_loop_example_g00638_impl_monthNames), ("loop.example/g00638/impl.monthLengths", Rows.laid_loop_example_g00638_impl_monthLengths), ("loop.example/g00638/impl.markNames", Rows.laid_loop_example_g00638_impl_markNames)] W := h
  exact kit.strIs_of_head (rest := [("loop.example/g00638/impl.monthNames", Rows.laid_loop_example_g00638_impl_monthNames), ("loop.example/g00638/impl.monthLengths", Rows.laid_loop_example_g00638_impl_monthLengths), ("loop.example/g00638/impl.markNames", Rows.laid_loop_example_g00638_impl_markNames)]) g0 gt0 Tryd.underlying118 Tryd.underlying9 ce0 ct0 h0
theorem g1 : Tryd.prog.globalNamed "loop.example/g00638/impl.monthNames" = some 2 := by kernel_rfl
theorem gt1 : (Tryd.prog.globals[2]?).map (·.type) = some 93 := by kernel_rfl
theorem ce1 : Tryd.prog.cellsOf 9 = 1 := by kernel_rfl
theorem ct1 : Tryd.prog.cellsOf 93 = 12 := by kernel_rfl
theorem tab1 {W : World} (h : laidMetH Tryd.prog Rows.fnExactReadRomanRow.laid W) : kit.StrIs Tryd.prog W "loop.example/g00638/impl.monthNames" [[106, 97, 110], [102, 101, 98], [109, 97, 114], [97, 112, 114], [109, 97, 121], [106, 117, 110], [106, 117, 108], [97, 117, 103], [115, 101, 112], [111, 99, 116], [110, 111, 118], [100, 101, 99]] := by
  have h0 : laidMet Tryd.prog [("loop.example/g00638/impl.digitShapes", Rows.laid_loop_example_g00638_impl_digitShapes), ("loop.example/g00638/impl.monthNames", Rows.laid_loop_example_g00638_impl_monthNames), ("loop.example/g00638/impl.monthLengths", Rows.laid_loop_example_g00638_impl_monthLengths), ("loop.example/g00638/impl.markNames", Rows.laid_loop_example_g00638_impl_markNames)] W := h
  have h1 := laidMet.tail h0
  exact kit.strIs_of_head (rest := [("loop.example/g00638/impl.monthLengths", Rows.laid_loop_example_g00638_impl_monthLengths), ("loop.example/g00638/impl.markNames", Rows.laid_loop_example_g00638_impl_markNames)]) g1 gt1 Tryd.underlying93 Tryd.underlying9 ce1 ct1 h1
theorem g2 : Tryd.prog.globalNamed "loop.example/g00638/impl.monthLengths" = some 0 := by kernel_rfl
theorem gt2 : (Tryd.prog.globals[0]?).map (·.type) = some 76 := by kernel_rfl
theorem ce2 : Tryd.prog.cellsOf 3 = 1 := by kernel_rfl
theorem ct2 : Tryd.prog.cellsOf 76 = 12 := by kernel_rfl
theorem tab2 {W : World} (h : laidMetH Tryd.prog Rows.fnExactReadRomanRow.laid W) : Lib.TabIs Tryd.prog W "loop.example/g00638/impl.monthLengths" .i64 [31, 28, 31, 30, 31, 30, 31, 31, 30, 31, 30, 31] := by
  have h0 : laidMet Tryd.prog [("loop.example/g00638/impl.digitShapes", Rows.laid_loop_example_g00638_impl_digitShapes), ("loop.example/g00638/impl.monthNames", Rows.laid_loop_example_g00638_impl_monthNames), ("loop.example/g00638/impl.monthLengths", Rows.laid_loop_example_g00638_impl_monthLengths), ("loop.example/g00638/impl.markNames", Rows.laid_loop_example_g00638_impl_markNames)] W := h
  have h1 := laidMet.tail h0
  have h2 := laidMet.tail h1
  exact Lib.tabIs_of_head (rest := [("loop.example/g00638/impl.markNames", Rows.laid_loop_example_g00638_impl_markNames)]) g2 gt2 Tryd.underlying76 Tryd.underlying3 ce2 ct2 h2
theorem g3 : Tryd.prog.globalNamed "loop.example/g00638/impl.markNames" = some 1 := by kernel_rfl
theorem gt3 : (Tryd.prog.globals[1]?).map (·.type) = some 80 := by kernel_rfl
theorem ce3 : Tryd.prog.cellsOf 9 = 1 := by kernel_rfl
theorem ct3 : Tryd.prog.cellsOf 80 = 3 := by kernel_rfl
theorem tab3 {W : World} (h : laidMetH Tryd.prog Rows.fnExactReadRomanRow.laid W) : kit.StrIs Tryd.prog W "loop.example/g00638/impl.markNames" [[107, 97, 108], [110, 111, 110], [105, 100]] := by
  have h0 : laidMet Tryd.prog [("loop.example/g00638/impl.digitShapes", Rows.laid_loop_example_g00638_impl_digitShapes), ("loop.example/g00638/impl.monthNames", Rows.laid_loop_example_g00638_impl_monthNames), ("loop.example/g00638/impl.monthLengths", Rows.laid_loop_example_g00638_impl_monthLengths), ("loop.example/g00638/impl.markNames", Rows.laid_loop_example_g00638_impl_markNames)] W := h
  have h1 := laidMet.tail h0
  have h2 := laidMet.tail h1
  have h3 := laidMet.tail h2
  exact kit.strIs_of_head (rest := []) g3 gt3 Tryd.underlying80 Tryd.underlying9 ce3 ct3 h3

theorem walk (a0 : ByteArray) (w0 : a0.size ≤ maxLen) (w : World) (tS : ctr.Shp w) (tN : ctr.Mon w) (tT : ctr.Tab w) (tM : ctr.Mrk w) :
    Calls Tryd.prog 8 #[.string a0] w fun e w' => e = .returned (.bool true) ∧ Below w.heap.size w w' := by
  unfold maxLen at w0
  by_cases hbig : 1048576 < a0.size
  · clear tS tN tT tM
    go_enter Tryd.func8, Tryd.ntmps8
    go_wp2
    go_ret
    exact ⟨rfl, Below.refl _ _⟩
  have KS := fun W => ctr.specReadRoman a0 W (by omega)
  have KI : ∀ W, Hid (Below w.heap.size w W) → Calls Tryd.prog 35 #[.string a0] W fun e w' => e = .returned (ctr.readV (ctr.readRoman a0)) ∧ Below W.heap.size W w' := fun W h => ctr.implReadRoman a0 W (by omega) (tT.later h.out) (ctr.Shp.later tS h.out) (ctr.Mrk.later tM h.out) (ctr.Mon.later tN h.out)
  generalize ctr.readRoman a0 = q at *
  obtain ⟨⟨a, b, m, d⟩, ok⟩ := q
  have KE := fun W => ctr.lawEqRoman a b m d W
  clear tS tN tT tM
  go_enter Tryd.func8, Tryd.ntmps8
  go_wp2_with fail
  refine (KS _).mono ?_
  rintro e wA ⟨rfl, hb⟩
  obtain ⟨x1, rfl⟩ := ctr.Later.of hb
  clear hb
  go_wp2_with fail
  obtain ⟨W1, e1⟩ : ∃ W1, W1 = x1.w.alloc (.cells #[.int .i64 a, .int .i64 b, .int .i64 m, .bool d] 38) := ⟨_, rfl⟩
  have c0 : ∀ x : ctr.Later W1, x.w.cell? ⟨x1.w.heap.size, 0, none⟩ = some (.int .i64 a) := ctr.Later.new e1 0 rfl
  have c1 : ∀ x : ctr.Later W1, x.w.cell? ⟨x1.w.heap.size, 1, none⟩ = some (.int .i64 b) := ctr.Later.new e1 1 rfl
  have c2 : ∀ x : ctr.Later W1, x.w.cell? ⟨x1.w.heap.size, 2, none⟩ = some (.int .i64 m) := ctr.Later.new e1 2 rfl
  have c3 : ∀ x : ctr.Later W1, x.w.cell? ⟨x1.w.heap.size, 3, none⟩ = some (.bool d) := ctr.Later.new e1 3 rfl
  have d0 : ∀ (x : ctr.Later W1) (o : Obj), (x.w.alloc o).cell? ⟨x1.w.heap.size, 0, none⟩ = some (.int .i64 a) := fun x o => c0 ⟨x.w.alloc o, x.below.alloc x.below.size o⟩
  have d1 : ∀ (x : ctr.Later W1) (o : Obj), (x.w.alloc o).cell? ⟨x1.w.heap.size, 1, none⟩ = some (.int .i64 b) := fun x o => c1 ⟨x.w.alloc o, x.below.alloc x.below.size o⟩
  have d2 : ∀ (x : ctr.Later W1) (o : Obj), (x.w.alloc o).cell? ⟨x1.w.heap.size, 2, none⟩ = some (.int .i64 m) := fun x o => c2 ⟨x.w.alloc o, x.below.alloc x.below.size o⟩
  have d3 : ∀ (x : ctr.Later W1) (o : Obj), (x.w.alloc o).cell? ⟨x1.w.heap.size, 3, none⟩ = some (.bool d) := fun x o => c3 ⟨x.w.alloc o, x.below.alloc x.below.size o⟩
  have B1 : Hid (Below w.heap.size w W1) := by unfold Hid; rw [e1]; exact x1.below.alloc x1.below.size _
  rw [← e1]
  have S1 : Hid (∀ x : ctr.Later W1, Below w.heap.size w x.w) := fun x => B1.out.trans (x.below.mono B1.out.size)
  clear e1
  refine (KI W1 B1).mono ?_
  rintro e wB ⟨rfl, hb⟩
  obtain ⟨x2, rfl⟩ := ctr.Later.of hb
  clear hb
  go_wp2_with fail
  refine (KE _).mono ?_
  rintro e wC ⟨rfl, hb⟩
  have HC := ctr.hideP (ctr.below_alloc hb)
  clear hb
  cases ok
  · go_wp2
    go_ret
    exact ⟨rfl, (S1.out x2).trans (HC.out.mono (S1.out x2).size)⟩
  · go_wp2
    go_ret
    exact ⟨rfl, (S1.out x2).trans (HC.out.mono (S1.out x2).size)⟩

theorem readable : ∀ m ∈ Rows.fnExactReadRomanSpec.vars, ∀ g t, Tryd.prog.globalNamed m = some g → (Tryd.prog.globals[g]?).map (·.type) = some t → Tryd.prog.readableRec t = true ∧ t < Tryd.prog.types.size := by
  intro m hm g t h1 h2
  have hm' : m = "loop.example/g00638/impl.digitShapes" ∨ m = "loop.example/g00638/impl.markNames" ∨ m = "loop.example/g00638/impl.monthNames" ∨ m = "loop.example/g00638/impl.monthLengths" := by simpa [Rows.fnExactReadRomanSpec] using hm
  rcases hm' with rfl | rfl | rfl | rfl
  · obtain rfl := Option.some.inj (g0.symm.trans h1)
    obtain rfl := Option.some.inj (gt0.symm.trans h2)
    exact ⟨by kernel_rfl, of_decide_eq_true (by kernel_rfl)⟩
  · obtain rfl := Option.some.inj (g3.symm.trans h1)
    obtain rfl := Option.some.inj (gt3.symm.trans h2)
    exact ⟨by kernel_rfl, of_decide_eq_true (by kernel_rfl)⟩
  · obtain rfl := Option.some.inj (g1.symm.trans h1)
    obtain rfl := Option.some.inj (gt1.symm.trans h2)
    exact ⟨by kernel_rfl, of_decide_eq_true (by kernel_rfl)⟩
  · obtain rfl := Option.some.inj (g2.symm.trans h1)
    obtain rfl := Option.some.inj (gt2.symm.trans h2)
    exact ⟨by kernel_rfl, of_decide_eq_true (by kernel_rfl)⟩

set_option maxRecDepth 100000 in
theorem contract (H : Type) (enc : TypeId × Value → H) (W : World) (base : Nat) (args : Array Value) (ds gs : List (DataW H)) (before : List MemPlace)
    (hval : ∀ (j : Nat) t v, Tryd.f8.params[j]? = some t → args[j]? = some v → Value.okWide Tryd.prog W .any base t v)
    (hW : DataW.Whole enc Tryd.prog Tryd.f8.params.toList Rows.fnExactReadRomanSpec.vars false W args.toList ds gs before) (hL : laidMetH Tryd.prog Rows.fnExactReadRomanRow.laid W) :
    Calls Tryd.prog 8 args W fun e W' => ∃ v, e = .returned v ∧ Rows.fnExactReadRomanSpec.post enc Tryd.prog Tryd.f8 false true false false W args v W' := by
  have hW' := hW
  obtain ⟨p, q, hA0, hV, rfl, hfz, hnd⟩ := hW
  have hA : DataW.TrodAll enc Tryd.prog W 0 (fun _ => true) true Tryd.f8.params.toList args.toList ds p := hA0
  rw [Tryd.params8] at hA hval
  obtain ⟨v0, vs0, d0, ds0, p0, q0, hargs, rfl, rfl, h0, r0⟩ := trodAll_cons hA
  obtain ⟨rfl, rfl, rfl⟩ := trodAll_nil r0
  obtain rfl : args = #[v0] := by cases args; simp_all
  have hk : ∀ W', Below W.heap.size W W' → DataW.TrodVars enc Tryd.prog W' (fun b => decide (b < W.heap.size)) Rows.fnExactReadRomanSpec.vars gs q := fun W' hb => kit.trodVars_kept laidOut hb readable hV (DataW.TrodVars.lt hV)
  obtain ⟨g1, g2, g3, g4, rfl⟩ : ∃ g1 g2 g3 g4, gs = [g1, g2, g3, g4] := kit.gs_four hV
  obtain ⟨a0, rfl, rfl, rfl, w0⟩ := open_string Tryd.underlying9 (hval 0 9 v0 rfl rfl) h0
  clear hA0
  refine (walk a0 w0 W (tab0 hL) (tab1 hL) (tab2 hL) (tab3 hL)).mono fun e W' ⟨he, bel⟩ => ?_
  subst he
  exact ⟨_, rfl, _, _, _, [], [], _, hW', trodAll_mk1 (shut_bool Tryd.underlying4 _), trodAll_cons_mk (shut_string Tryd.underlying9 w0) (trodAll_mk0), hk W' bel, bel.frame _, fun h => by cases h⟩

/-- A world for the witness: the settled one, each listed table holding what its initialiser lays. -/
noncomputable def laidWorld (os : Os) : World :=
  { World.holding Tryd.prog os ⟨#[], #[], []⟩ with heap := (((((World.holding Tryd.prog os ⟨#[], #[], []⟩).heap.modify 3 fun
      | .cells _ t frozen => .cells #[.string ⟨#[]⟩, .string ⟨#[97]⟩, .string ⟨#[97, 97]⟩, .string ⟨#[97, 97, 97]⟩, .string ⟨#[97, 98]⟩, .string ⟨#[98]⟩, .string ⟨#[98, 97]⟩, .string ⟨#[98, 97, 97]⟩, .string ⟨#[98, 97, 97, 97]⟩, .string ⟨#[97, 99]⟩] t frozen
      | o => o).modify 2 fun
      | .cells _ t frozen => .cells #[.string ⟨#[106, 97, 110]⟩, .string ⟨#[102, 101, 98]⟩, .string ⟨#[109, 97, 114]⟩, .string ⟨#[97, 112, 114]⟩, .string ⟨#[109, 97, 121]⟩, .string ⟨#[106, 117, 110]⟩, .string ⟨#[106, 117, 108]⟩, .string ⟨#[97, 117, 103]⟩, .string ⟨#[115, 101, 112]⟩, .string ⟨#[111, 99, 116]⟩, .string ⟨#[110, 111, 118]⟩, .string ⟨#[100, 101, 99]⟩] t frozen
      | o => o).modify 0 fun
      | .cells _ t frozen => .cells #[.int .i64 31, .int .i64 28, .int .i64 31, .int .i64 30, .int .i64 31, .int .i64 30, .int .i64 31, .int .i64 31, .int .i64 30, .int .i64 31, .int .i64 30, .int .i64 31] t frozen
      | o => o).modify 1 fun
      | .cells _ t frozen => .cells #[.string ⟨#[107, 97, 108]⟩, .string ⟨#[110, 111, 110]⟩, .string ⟨#[105, 100]⟩] t frozen
      | o => o) }
theorem laid_met (os : Os) : laidMet Tryd.prog Rows.fnExactReadRomanRow.laid ((laidWorld os).forCall (fun _ _ => 0) ⟨#[], #[.string ByteArray.empty], []⟩).memory :=
  laidMet_of_run' 8 (by kernel_rfl) (by kernel_rfl)
theorem reads (os : Os) {H : Type} (enc : TypeId × Value → H) : ∃ places, DataW.whole enc Tryd.prog ((laidWorld os).forCall (fun _ _ => 0) ⟨#[], #[.string ByteArray.empty], []⟩).memory Tryd.f8.params.toList Rows.fnExactReadRomanSpec.vars false (#[.string ByteArray.empty] : Array Value).toList 8 = some ([.lit (.string [])], [Rows.laid_loop_example_g00638_impl_digitShapes, Rows.laid_loop_example_g00638_impl_markNames, Rows.laid_loop_example_g00638_impl_monthNames, Rows.laid_loop_example_g00638_impl_monthLengths], places) :=
  ⟨MemPlace.row ⟨3, 0, none⟩ 10 ++ [] ++ MemPlace.row ⟨1, 0, none⟩ 3 ++ [] ++ MemPlace.row ⟨2, 0, none⟩ 12 ++ [] ++ MemPlace.row ⟨0, 0, none⟩ 12 ++ [] ++ [], by kernel_rfl⟩

set_option maxRecDepth 100000 in
theorem lifted (os : Os) (started : os.Started) (H : Type) (enc : TypeId × Value → H) (F : Stop.Interp) :
    ReturnsInHanded {} Tryd.checked os 8 .any ((OpenSpec.ofChange Rows.fnExactReadRomanSpec).preRow enc Tryd.prog Tryd.f8 Rows.fnExactReadRomanRow.domain false Rows.fnExactReadRomanRow.laid) (((OpenSpec.ofChange Rows.fnExactReadRomanSpec).at F).post enc Tryd.prog Tryd.f8 false true false false) := by
  obtain ⟨places, hx⟩ := reads os enc
  refine returnsInHanded_of_row (C := Tryd.checked) (s := OpenSpec.ofChange Rows.fnExactReadRomanSpec) own started (by kernel_rfl) Tryd.func8
    (witness_row_at (enc := enc) (C := Tryd.checked) false (laidWorld os) #[.string ByteArray.empty] rfl (by kernel_rfl) (by kernel_rfl) (by kernel_rfl)
      (OpenSpec.preRow_of_cond 8 hx (by kernel_rfl) (fun k hk => by cases hk) (by kernel_rfl) (laid_met os))) ?_
  intro W base args ds gs before hval hW _ _ _ hL _ _
  exact contract H enc W base args ds gs before hval hW hL

theorem said : Rows.FnExactReadRomanSaid :=
  OpenClaim.holds_of_cond 8 Tryd.f8 rfl rfl rfl rfl rfl rfl rfl ⟨rfl, rfl, rfl, rfl, rfl⟩ rfl rfl rfl rfl rfl (by kernel_rfl) Tryd.func8 (by kernel_rfl)
    (of_decide_eq_true (by kernel_rfl)) (by unfold Func.isWrapper; first | (rw [if_pos (by decide +kernel)]; kernel_rfl) | (rw [if_neg (by decide +kernel)]; exact ⟨rfl, rfl⟩))
    (fun os started H enc _ F => by rw [OpenClaim.pre_eq_preRow]; exact lifted os started H enc F)

theorem plain (f : FuncId) (fn : Func) (hf : Tryd.pinned.checked.prog.funcNamed "loop.example/g00638/laws.FnExactReadRoman" = some f) (hfn : Tryd.pinned.checked.prog.funcs[f]? = some fn) :
    true = Tryd.pinned.checked.prog.looks [] ∧ ∀ (j : Nat) t, fn.params[j]? = some t → Tryd.pinned.checked.prog.wantsStandIn t = false := by
  obtain rfl : f = 8 := Option.some.inj ((show Tryd.prog.funcNamed "loop.example/g00638/laws.FnExactReadRoman" = some 8 by kernel_rfl).symm.trans hf) |>.symm
  obtain rfl : fn = Tryd.f8 := (Option.some.inj (Tryd.func8.symm.trans hfn)).symm
  refine ⟨by kernel_rfl, fun j t ht => ?_⟩
  rw [Tryd.params8] at ht
  obtain rfl : t = 9 := by simpa using Array.mem_of_getElem? ht
  exact (show Tryd.prog.wantsStandIn 9 = false by kernel_rfl)

theorem card : Rows.FnExactReadRomanCardSaid :=
  Claim7.holds_tied_plain_at .later [] _ _ _ _ said (fun _ h => by cases h) (by kernel_rfl) (fun _ h => by cases h) fnExactReadRoman_row_tie rfl ⟨rfl, rfl⟩ (by kernel_rfl) rfl plain (by kernel_rfl)
end Go.Proofs.YtnjfhfjnbimdlaaDoor.fnExactReadRoman

namespace Go.Proofs.YtnjfhfjnbimdlaaDoor
theorem fnExactReadRoman_holds : Rows.FnExactReadRomanCardSaid := fnExactReadRoman.card
#print axioms fnExactReadRoman_holds
end Go.Proofs.YtnjfhfjnbimdlaaDoor
