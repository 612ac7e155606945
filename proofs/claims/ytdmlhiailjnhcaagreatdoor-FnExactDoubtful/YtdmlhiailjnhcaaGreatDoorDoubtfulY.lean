/- FnExactDoubtful: at every right regime or other one, days and kind the program's Doubtful answers as the model's, it writes into no argument, and its answer owns its memory -/
import Derived.Test.YtdmlhiailjnhcaaGreatDoorCgDoubtful
import Derived.Test.YtdmlhiailjnhcaaGreatDoorCmMain
import Derived.Test.YtdmlhiailjnhcaaGreatDoorCards
import Derived.Test.YtdmlhiailjnhcaaGreatDoorTie
import Derived.Test.YtdmlhiailjnhcaaGreatDoorVarsKitY
import Derived.Test.YtdmlhiailjnhcaaGreatDoorJnYbr
import Derived.Test.YtdmlhiailjnhcaaGreatDoorChgMarkY
import Derived.Test.YtdmlhiailjnhcaaGreatDoorJnYax
import Derived.Test.YtdmlhiailjnhcaaGreatDoorJnYag
import Derived.Test.YtdmlhiailjnhcaaGreatDoorJnYai
import Derived.Test.YtdmlhiailjnhcaaGreatDoorRgmOpenY
import Derived.Test.YtdmlhiailjnhcaaGreatDoorJfDoubtful
import Derived.Test.YtdmlhiailjnhcaaGreatDoorWDoubtfulY
import Derived.WalkKit
import Derived.ProofKit
import Derived.OpenShut
import Derived.ShutString
import Derived.ChangeOld
import Derived.Below
import Derived.Deep.DeepHandedRow
import Derived.Lib.LaidTab
import Derived.Lib.SmallJoins
import Derived.Deep.CutRange
import Derived.LaidHandle
import Derived.LaidLaws
namespace Go.Proofs.YtdmlhiailjnhcaaGreatDoor.fnExactDoubtful
open Go.ChangeShapes Go.WideShapes Go.ChangeAt Go.RowKit
open Go.ChangeMaps (open_string shut_string)
set_option linter.unusedVariables false
theorem own : ownKnob Tryz.prog.godebug = none := by kernel_rfl
theorem laidOut : laidOutB Tryz.prog = true := by kernel_rfl
theorem tab0 {W : World} (h : laidMetH Tryz.prog Rows.fnExactDoubtfulRow.laid W) : ctr.ErrT W := by
 have h0 : laidMet Tryz.prog [("loop.example/g00638/impl.errNoTable", Rows.laid_loop_example_g00638_impl_errNoTable), ("loop.example/g00638/impl.monthLengths", Rows.laid_loop_example_g00638_impl_monthLengths), ("internal/strconv.uint64pow10", Rows.laid_internal_strconv_uint64pow10), ("math/bits.deBruijn32tab", Rows.laid_math_bits_deBruijn32tab), ("math/bits.deBruijn64tab", Rows.laid_math_bits_deBruijn64tab)] W ∧ handlesMet Tryz.prog [("errors.errorType", Rows.laid_errors_errorType)] W := h
 exact kit.err_of h0.2
theorem g1 : Tryz.prog.globalNamed "loop.example/g00638/impl.errNoTable" = some 0 := by kernel_rfl
theorem gt1 : (Tryz.prog.globals[0]?).map (·.type) = some 181 := by kernel_rfl
theorem tab1 {W : World} (h : laidMetH Tryz.prog Rows.fnExactDoubtfulRow.laid W) : ∃ a, ctr.Sent W a := by
 have h0 : laidMet Tryz.prog [("loop.example/g00638/impl.errNoTable", Rows.laid_loop_example_g00638_impl_errNoTable), ("loop.example/g00638/impl.monthLengths", Rows.laid_loop_example_g00638_impl_monthLengths), ("internal/strconv.uint64pow10", Rows.laid_internal_strconv_uint64pow10), ("math/bits.deBruijn32tab", Rows.laid_math_bits_deBruijn32tab), ("math/bits.deBruijn64tab", Rows.laid_math_bits_deBruijn64tab)] W := h.1
 exact kit.sent_of h0
theorem g2 : Tryz.prog.globalNamed "loop.example/g00638/impl.monthLengths" = some 1 := by kernel_rfl
theorem gt2 : (Tryz.prog.globals[1]?).map (·.type) = some 229 := by kernel_rfl
theorem ce2 : Tryz.prog.cellsOf 3 = 1 := by kernel_rfl
theorem ct2 : Tryz.prog.cellsOf 229 = 12 := by kernel_rfl
theorem tab2 {W : World} (h : laidMetH Tryz.prog Rows.fnExactDoubtfulRow.laid W) : Lib.TabIs Tryz.prog W "loop.example/g00638/impl.monthLengths" .i64 [31, 28, 31, 30, 31, 30, 31, 31, 30, 31, 30, 31] := by
 have h0 : laidMet Tryz.prog [("loop.example/g00638/impl.errNoTable", Rows.laid_loop_example_g00638_impl_errNoTable), ("loop.example/g00638/impl.monthLengths", Rows.laid_loop_example_g00638_impl_monthLengths), ("internal/strconv.uint64pow10", Rows.laid_internal_strconv_uint64pow10), ("math/bits.deBruijn32tab", Rows.laid_math_bits_deBruijn32tab), ("math/bits.deBruijn64tab", Rows.laid_math_bits_deBruijn64tab)] W := h.1
 have h1 := laidMet.tail h0
 exact Lib.tabIs_of_head (rest := [("internal/strconv.uint64pow10", Rows.laid_internal_strconv_uint64pow10), ("math/bits.deBruijn32tab", Rows.laid_math_bits_deBruijn32tab), ("math/bits.deBruijn64tab", Rows.laid_math_bits_deBruijn64tab)]) g2 gt2 Tryz.underlying229 Tryz.underlying3 ce2 ct2 h1
theorem g3 : Tryz.prog.globalNamed "internal/strconv.uint64pow10" = some 5 := by kernel_rfl
theorem gt3 : (Tryz.prog.globals[5]?).map (·.type) = some 308 := by kernel_rfl
theorem ce3 : Tryz.prog.cellsOf 209 = 1 := by kernel_rfl
theorem ct3 : Tryz.prog.cellsOf 308 = 20 := by kernel_rfl
theorem tab3 {W : World} (h : laidMetH Tryz.prog Rows.fnExactDoubtfulRow.laid W) : Lib.TabIs Tryz.prog W "internal/strconv.uint64pow10" .u64 [1, 10, 100, 1000, 10000, 100000, 1000000, 10000000, 100000000, 1000000000, 10000000000, 100000000000, 1000000000000, 10000000000000, 100000000000000, 1000000000000000, 10000000000000000, 100000000000000000, 1000000000000000000, 10000000000000000000] := by
 have h0 : laidMet Tryz.prog [("loop.example/g00638/impl.errNoTable", Rows.laid_loop_example_g00638_impl_errNoTable), ("loop.example/g00638/impl.monthLengths", Rows.laid_loop_example_g00638_impl_monthLengths), ("internal/strconv.uint64pow10", Rows.laid_internal_strconv_uint64pow10), ("math/bits.deBruijn32tab", Rows.laid_math_bits_deBruijn32tab), ("math/bits.deBruijn64tab", Rows.laid_math_bits_deBruijn64tab)] W := h.1
 have h1 := laidMet.tail h0
 have h2 := laidMet.tail h1
 exact Lib.tabIs_of_head (rest := [("math/bits.deBruijn32tab", Rows.laid_math_bits_deBruijn32tab), ("math/bits.deBruijn64tab", Rows.laid_math_bits_deBruijn64tab)]) g3 gt3 Tryz.underlying308 Tryz.underlying209 ce3 ct3 h2
theorem g4 : Tryz.prog.globalNamed "math/bits.deBruijn32tab" = some 8 := by kernel_rfl
theorem gt4 : (Tryz.prog.globals[8]?).map (·.type) = some 337 := by kernel_rfl
theorem ce4 : Tryz.prog.cellsOf 5 = 1 := by kernel_rfl
theorem ct4 : Tryz.prog.cellsOf 337 = 32 := by kernel_rfl
theorem tab4 {W : World} (h : laidMetH Tryz.prog Rows.fnExactDoubtfulRow.laid W) : Lib.TabIs Tryz.prog W "math/bits.deBruijn32tab" .u8 [0, 1, 28, 2, 29, 14, 24, 3, 30, 22, 20, 15, 25, 17, 4, 8, 31, 27, 13, 23, 21, 19, 16, 7, 26, 12, 18, 6, 11, 5, 10, 9] := by
 have h0 : laidMet Tryz.prog [("loop.example/g00638/impl.errNoTable", Rows.laid_loop_example_g00638_impl_errNoTable), ("loop.example/g00638/impl.monthLengths", Rows.laid_loop_example_g00638_impl_monthLengths), ("internal/strconv.uint64pow10", Rows.laid_internal_strconv_uint64pow10), ("math/bits.deBruijn32tab", Rows.laid_math_bits_deBruijn32tab), ("math/bits.deBruijn64tab", Rows.laid_math_bits_deBruijn64tab)] W := h.1
 have h1 := laidMet.tail h0
 have h2 := laidMet.tail h1
 have h3 := laidMet.tail h2
 exact Lib.tabIs_of_head (rest := [("math/bits.deBruijn64tab", Rows.laid_math_bits_deBruijn64tab)]) g4 gt4 Tryz.underlying337 Tryz.underlying5 ce4 ct4 h3
theorem g5 : Tryz.prog.globalNamed "math/bits.deBruijn64tab" = some 9 := by kernel_rfl
theorem gt5 : (Tryz.prog.globals[9]?).map (·.type) = some 338 := by kernel_rfl
theorem ce5 : Tryz.prog.cellsOf 5 = 1 := by kernel_rfl
theorem ct5 : Tryz.prog.cellsOf 338 = 64 := by kernel_rfl
theorem tab5 {W : World} (h : laidMetH Tryz.prog Rows.fnExactDoubtfulRow.laid W) : Lib.TabIs Tryz.prog W "math/bits.deBruijn64tab" .u8 [0, 1, 56, 2, 57, 49, 28, 3, 61, 58, 42, 50, 38, 29, 17, 4, 62, 47, 59, 36, 45, 43, 51, 22, 53, 39, 33, 30, 24, 18, 12, 5, 63, 55, 48, 27, 60, 41, 37, 16, 46, 35, 44, 21, 52, 32, 23, 11, 54, 26, 40, 15, 34, 20, 31, 10, 25, 14, 19, 9, 13, 8, 7, 6] := by
 have h0 : laidMet Tryz.prog [("loop.example/g00638/impl.errNoTable", Rows.laid_loop_example_g00638_impl_errNoTable), ("loop.example/g00638/impl.monthLengths", Rows.laid_loop_example_g00638_impl_monthLengths), ("internal/strconv.uint64pow10", Rows.laid_internal_strconv_uint64pow10), ("math/bits.deBruijn32tab", Rows.laid_math_bits_deBruijn32tab), ("math/bits.deBruijn64tab", Rows.laid_math_bits_deBruijn64tab)] W := h.1
 have h1 := laidMet.tail h0
 have h2 := laidMet.tail h1
 have h3 := laidMet.tail h2
 have h4 := laidMet.tail h3
 exact Lib.tabIs_of_head (rest := []) g5 gt5 Tryz.underlying338 Tryz.underlying5 ce5 ct5 h4
theorem readable : ∀ m ∈ Rows.fnExactDoubtfulSpec.vars, ∀ g t, Tryz.prog.globalNamed m = some g → (Tryz.prog.globals[g]?).map (·.type) = some t → Tryz.prog.readableRec t = true ∧ t < Tryz.prog.types.size := by
 intro m hm g t h1 h2
 have hm' : m = "loop.example/g00638/impl.errNoTable" ∨ m = "loop.example/g00638/impl.monthLengths" := by simpa [Rows.fnExactDoubtfulSpec] using hm
 rcases hm' with rfl | rfl
 · obtain rfl := Option.some.inj (g1.symm.trans h1)
   obtain rfl := Option.some.inj (gt1.symm.trans h2)
   exact ⟨by kernel_rfl, of_decide_eq_true (by kernel_rfl)⟩
 · obtain rfl := Option.some.inj (g2.symm.trans h1)
   obtain rfl := Option.some.inj (gt2.symm.trans h2)
   exact ⟨by kernel_rfl, of_decide_eq_true (by kernel_rfl)⟩
set_option maxRecDepth 100000 in
theorem contract (H : Type) (enc : TypeId × Value → H) (W : World) (base : Nat) (args : Array Value) (ds gs : List (DataW H)) (before : List MemPlace)
    (hval : ∀ (j : Nat) t v, Tryz.f8.params[j]? = some t → args[j]? = some v → Value.okWide Tryz.prog W .any base t v)
    (hW : DataW.Whole enc Tryz.prog Tryz.f8.params.toList Rows.fnExactDoubtfulSpec.vars false W args.toList ds gs before) (hL : laidMetH Tryz.prog Rows.fnExactDoubtfulRow.laid W) :
    Calls Tryz.prog 8 args W fun e W' => ∃ v, e = .returned v ∧ Rows.fnExactDoubtfulSpec.post enc Tryz.prog Tryz.f8 false true false false W args v W' := by
  have hW' := hW
  obtain ⟨p, q, hA0, hV, rfl, hfz, hnd⟩ := hW
  have hA : DataW.TrodAll enc Tryz.prog W 0 (fun _ => true) true Tryz.f8.params.toList args.toList ds p := hA0
  rw [Tryz.params8] at hA hval
  obtain ⟨v0, vs0, d0, ds0, p0, q0, hargs, rfl, rfl, h0, r0⟩ := trodAll_cons hA
  obtain ⟨v1, vs1, d1, ds1, p1, q1, rfl, rfl, rfl, h1, r1⟩ := trodAll_cons r0
  obtain ⟨v2, vs2, d2, ds2, p2, q2, rfl, rfl, rfl, h2, r2⟩ := trodAll_cons r1
  obtain ⟨v3, vs3, d3, ds3, p3, q3, rfl, rfl, rfl, h3, r3⟩ := trodAll_cons r2
  obtain ⟨rfl, rfl, rfl⟩ := trodAll_nil r3
  obtain rfl : args = #[v0, v1, v2, v3] := by cases args; simp_all
  have hk : ∀ W', Below W.heap.size W W' → DataW.TrodVars enc Tryz.prog W' (fun b => decide (b < W.heap.size)) Rows.fnExactDoubtfulSpec.vars gs q := fun W' hb => kit.trodVars_kept laidOut hb readable hV (DataW.TrodVars.lt hV)
  obtain ⟨g1, g2, rfl⟩ : ∃ g1 g2, gs = [g1, g2] := kit.gs_two hV
  have k0 := h0
  have lt0 : ∀ x ∈ p0, x.block < W.heap.size := by obtain ⟨m, hm⟩ := k0; exact DataW.trod_lt m _ _ _ hm
  obtain ⟨rg0, hr0, wf0, wt0⟩ := kit.open_rgm Tryz.underlying26 (by kernel_rfl) (show Tryz.prog.cellsOf 26 = 7 by kernel_rfl) Tryz.underlying9 Tryz.underlying3 Tryz.underlying3 Tryz.underlying22 Tryz.underlying23 Tryz.underlying24 Tryz.underlying3 Tryz.underlying111 (show Tryz.prog.cellsOf 111 = 5 by kernel_rfl) rfl (fun j f h => by
   rcases j with _ | _ | _ | _ | _ | j <;> simp at h <;> (try subst h) <;> exact ⟨rfl, by kernel_rfl, Tryz.underlying3⟩) Tryz.underlying115 (show Tryz.prog.cellsOf 115 = 3 by kernel_rfl) rfl (fun j f h => by
   rcases j with _ | _ | _ | j <;> simp at h <;> (try subst h) <;> exact ⟨rfl, by kernel_rfl, Tryz.underlying3⟩) Tryz.underlying95 (show Tryz.prog.cellsOf 95 = 3 by kernel_rfl) rfl rfl rfl (by kernel_rfl) (by kernel_rfl) (by kernel_rfl) Tryz.underlying9 Tryz.underlying3 Tryz.underlying3 (hval 0 26 v0 rfl rfl) h0
  obtain ⟨a1, rfl, rfl, rfl, w1⟩ := open_int Tryz.underlying3 (hval 1 3 v1 rfl rfl) h1
  obtain ⟨a2, rfl, rfl, rfl, w2⟩ := open_int Tryz.underlying3 (hval 2 3 v2 rfl rfl) h2
  obtain ⟨a3, rfl, rfl, rfl, w3⟩ := open_int Tryz.underlying3 (hval 3 3 v3 rfl rfl) h3
  clear hA0
  refine (walk v0 rg0 a1 w1 a2 w2 a3 w3 W hr0 wf0 wt0 (tab0 hL) (tab1 hL) (tab2 hL) (tab3 hL)).mono fun e W' ⟨he, bel⟩ => ?_
  subst he
  exact ⟨_, rfl, _, _, _, [], _, _, hW', trodAll_mk1 (shut_bool Tryz.underlying4 _), trodAll_cons_mk (Below.trod laidOut (by kernel_rfl) (of_decide_eq_true (by kernel_rfl)) k0 bel lt0) (trodAll_cons_mk (shut_int Tryz.underlying3 w1) (trodAll_cons_mk (shut_int Tryz.underlying3 w2) (trodAll_cons_mk (shut_int Tryz.underlying3 w3) (trodAll_mk0)))), hk W' bel, bel.frame _, fun h => by cases h⟩
noncomputable def low : Nat := (World.holding Tryz.prog default ⟨#[], #[], []⟩).heap.size
noncomputable def laidWorld (os : Os) : World :=
 { World.holding Tryz.prog os ⟨#[.cells #[.string ⟨#[110, 111, 32, 116, 97, 98, 108, 101, 32, 111, 102, 32, 114, 101, 105, 103, 110, 115]⟩] 360], #[], []⟩ with heap := (((((((World.holding Tryz.prog os ⟨#[.cells #[.string ⟨#[110, 111, 32, 116, 97, 98, 108, 101, 32, 111, 102, 32, 114, 101, 105, 103, 110, 115]⟩] 360], #[], []⟩).heap.modify 4 fun
     | .cells _ t frozen => .cells #[.iface 269 (.agg #[.pointer (some ⟨10, 181, none⟩)])] t frozen
     | o => o).modify 0 fun
     | .cells _ t frozen => .cells #[.iface 341 (.pointer (some ⟨low, 0, none⟩))] t frozen
     | o => o).modify 1 fun
     | .cells _ t frozen => .cells #[.int .i64 31, .int .i64 28, .int .i64 31, .int .i64 30, .int .i64 31, .int .i64 30, .int .i64 31, .int .i64 31, .int .i64 30, .int .i64 31, .int .i64 30, .int .i64 31] t frozen
     | o => o).modify 5 fun
     | .cells _ t frozen => .cells #[.int .u64 1, .int .u64 10, .int .u64 100, .int .u64 1000, .int .u64 10000, .int .u64 100000, .int .u64 1000000, .int .u64 10000000, .int .u64 100000000, .int .u64 1000000000, .int .u64 10000000000, .int .u64 100000000000, .int .u64 1000000000000, .int .u64 10000000000000, .int .u64 100000000000000, .int .u64 1000000000000000, .int .u64 10000000000000000, .int .u64 100000000000000000, .int .u64 1000000000000000000, .int .u64 10000000000000000000] t frozen
     | o => o).modify 8 fun
     | .cells _ t frozen => .cells #[.int .u8 0, .int .u8 1, .int .u8 28, .int .u8 2, .int .u8 29, .int .u8 14, .int .u8 24, .int .u8 3, .int .u8 30, .int .u8 22, .int .u8 20, .int .u8 15, .int .u8 25, .int .u8 17, .int .u8 4, .int .u8 8, .int .u8 31, .int .u8 27, .int .u8 13, .int .u8 23, .int .u8 21, .int .u8 19, .int .u8 16, .int .u8 7, .int .u8 26, .int .u8 12, .int .u8 18, .int .u8 6, .int .u8 11, .int .u8 5, .int .u8 10, .int .u8 9] t frozen
     | o => o).modify 9 fun
     | .cells _ t frozen => .cells #[.int .u8 0, .int .u8 1, .int .u8 56, .int .u8 2, .int .u8 57, .int .u8 49, .int .u8 28, .int .u8 3, .int .u8 61, .int .u8 58, .int .u8 42, .int .u8 50, .int .u8 38, .int .u8 29, .int .u8 17, .int .u8 4, .int .u8 62, .int .u8 47, .int .u8 59, .int .u8 36, .int .u8 45, .int .u8 43, .int .u8 51, .int .u8 22, .int .u8 53, .int .u8 39, .int .u8 33, .int .u8 30, .int .u8 24, .int .u8 18, .int .u8 12, .int .u8 5, .int .u8 63, .int .u8 55, .int .u8 48, .int .u8 27, .int .u8 60, .int .u8 41, .int .u8 37, .int .u8 16, .int .u8 46, .int .u8 35, .int .u8 44, .int .u8 21, .int .u8 52, .int .u8 32, .int .u8 23, .int .u8 11, .int .u8 54, .int .u8 26, .int .u8 40, .int .u8 15, .int .u8 34, .int .u8 20, .int .u8 31, .int .u8 10, .int .u8 25, .int .u8 14, .int .u8 19, .int .u8 9, .int .u8 13, .int .u8 8, .int .u8 7, .int .u8 6] t frozen
     | o => o) }
theorem laid_met (os : Os) : laidMetH Tryz.prog Rows.fnExactDoubtfulRow.laid ((laidWorld os).forCall (fun _ _ => 0) ⟨#[], #[.agg #[.string ByteArray.empty, .int .i64 0, .int .i64 0, .slice none 0 0, .slice none 0 0, .slice none 0 0, .int .i64 0], .int .i64 0, .int .i64 0, .int .i64 0], []⟩).memory :=
 laidMetH_of_parts (laidMet_of_run' 8 (by kernel_rfl) (by kernel_rfl)) (by kernel_rfl)
theorem reads (os : Os) {H : Type} (enc : TypeId × Value → H) : ∃ places, DataW.whole enc Tryz.prog ((laidWorld os).forCall (fun _ _ => 0) ⟨#[], #[.agg #[.string ByteArray.empty, .int .i64 0, .int .i64 0, .slice none 0 0, .slice none 0 0, .slice none 0 0, .int .i64 0], .int .i64 0, .int .i64 0, .int .i64 0], []⟩).memory Tryz.f8.params.toList Rows.fnExactDoubtfulSpec.vars false (#[.agg #[.string ByteArray.empty, .int .i64 0, .int .i64 0, .slice none 0 0, .slice none 0 0, .slice none 0 0, .int .i64 0], .int .i64 0, .int .i64 0, .int .i64 0] : Array Value).toList 8 = some ([.agg [.lit (.string []), .lit (.int .i64 0), .lit (.int .i64 0), .nil, .nil, .nil, .lit (.int .i64 0)], .lit (.int .i64 0), .lit (.int .i64 0), .lit (.int .i64 0)], [.held (enc (341, .pointer (some ⟨low, 0, none⟩))), Rows.laid_loop_example_g00638_impl_monthLengths], places) :=
 ⟨MemPlace.row ⟨0, 0, none⟩ 1 ++ [] ++ MemPlace.row ⟨1, 0, none⟩ 12 ++ [] ++ [], by kernel_rfl⟩
set_option maxRecDepth 100000 in
theorem lifted (os : Os) (started : os.Started) (H : Type) (enc : TypeId × Value → H) (F : Stop.Interp) :
    ReturnsInHanded {} Tryz.checked os 8 .any ((OpenSpec.ofChange Rows.fnExactDoubtfulSpec).preRow enc Tryz.prog Tryz.f8 Rows.fnExactDoubtfulRow.domain false Rows.fnExactDoubtfulRow.laid) (((OpenSpec.ofChange Rows.fnExactDoubtfulSpec).at F).post enc Tryz.prog Tryz.f8 false true false false) := by
  obtain ⟨places, hx⟩ := reads os enc
  refine returnsInHanded_of_row (C := Tryz.checked) (s := OpenSpec.ofChange Rows.fnExactDoubtfulSpec) own started (by kernel_rfl) Tryz.func8
    (witness_row_at (enc := enc) (C := Tryz.checked) false (laidWorld os) #[.agg #[.string ByteArray.empty, .int .i64 0, .int .i64 0, .slice none 0 0, .slice none 0 0, .slice none 0 0, .int .i64 0], .int .i64 0, .int .i64 0, .int .i64 0] rfl (by kernel_rfl) (by kernel_rfl) (by kernel_rfl)
      (OpenSpec.preRow_of_cond 8 hx (by kernel_rfl) (fun k hk => by cases hk) (by kernel_rfl) (laid_met os))) ?_
  intro W base args ds gs before hval hW _ _ _ hL _ _
  exact contract H enc W base args ds gs before hval hW hL
theorem said : Rows.FnExactDoubtfulSaid :=
 OpenClaim.holds_of_cond 8 Tryz.f8 rfl rfl rfl rfl rfl rfl rfl ⟨rfl, rfl, rfl, rfl, rfl⟩ rfl rfl rfl rfl rfl (by kernel_rfl) Tryz.func8 jf
   (of_decide_eq_true (by kernel_rfl)) (by unfold Func.isWrapper; first | (rw [if_pos (by decide +kernel)]; kernel_rfl) | (rw [if_neg (by decide +kernel)]; exact ⟨rfl, rfl⟩))
   (fun os started H enc _ F => by rw [OpenClaim.pre_eq_preRow]; exact lifted os started H enc F)
theorem plain (f : FuncId) (fn : Func) (hf : Tryz.pinned.checked.prog.funcNamed "loop.example/g00638/laws.FnExactDoubtful" = some f) (hfn : Tryz.pinned.checked.prog.funcs[f]? = some fn) :
    true = Tryz.pinned.checked.prog.looks [] ∧ ∀ (j : Nat) t, fn.params[j]? = some t → Tryz.pinned.checked.prog.wantsStandIn t = false := by
  obtain rfl : f = 8 := Option.some.inj ((show Tryz.prog.funcNamed "loop.example/g00638/laws.FnExactDoubtful" = some 8 by kernel_rfl).symm.trans hf) |>.symm
  obtain rfl : fn = Tryz.f8 := (Option.some.inj (Tryz.func8.symm.trans hfn)).symm
  refine ⟨by kernel_rfl, fun j t ht => ?_⟩
  rw [Tryz.params8] at ht
  have ht : t = 26 ∨ t = 3 ∨ t = 3 ∨ t = 3 := by simpa using Array.mem_of_getElem? ht
  rcases ht with rfl | rfl | rfl | rfl
  · exact (show Tryz.prog.wantsStandIn 26 = false by kernel_rfl)
  · exact (show Tryz.prog.wantsStandIn 3 = false by kernel_rfl)
  · exact (show Tryz.prog.wantsStandIn 3 = false by kernel_rfl)
  · exact (show Tryz.prog.wantsStandIn 3 = false by kernel_rfl)
theorem card : Rows.FnExactDoubtfulCardSaid :=
 Claim7.holds_tied_plain_at .later [] _ _ _ _ said (fun _ h => by cases h) (by kernel_rfl) (fun _ h => by cases h) fnExactDoubtful_row_tie rfl ⟨rfl, rfl⟩ kit.mainis rfl plain goesnot
end Go.Proofs.YtdmlhiailjnhcaaGreatDoor.fnExactDoubtful
namespace Go.Proofs.YtdmlhiailjnhcaaGreatDoor
theorem fnExactDoubtful_holds : Rows.FnExactDoubtfulCardSaid := fnExactDoubtful.card
#print axioms fnExactDoubtful_holds
end Go.Proofs.YtdmlhiailjnhcaaGreatDoor
