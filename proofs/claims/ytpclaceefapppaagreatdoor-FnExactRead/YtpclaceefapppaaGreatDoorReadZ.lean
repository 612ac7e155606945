/- FnExactRead: at every right regime or other one and every text the program's Read answers as the model's, it writes into no argument, and its answer owns its memory -/
import Derived.Test.YtpclaceefapppaaGreatDoorCgRead
import Derived.Test.YtpclaceefapppaaGreatDoorCards
import Derived.Test.YtpclaceefapppaaGreatDoorTie
import Derived.Test.YtpclaceefapppaaGreatDoorJnZab
import Derived.Test.YtpclaceefapppaaGreatDoorReadCZ
import Derived.Test.YtpclaceefapppaaGreatDoorChgMarkZ
import Derived.Test.YtpclaceefapppaaGreatDoorJnZay
import Derived.Test.YtpclaceefapppaaGreatDoorJnZba
import Derived.Test.YtpclaceefapppaaGreatDoorJnZai
import Derived.Test.YtpclaceefapppaaGreatDoorRgmOpenZ
import Derived.Test.YtpclaceefapppaaGreatDoorJnZad
import Derived.Test.YtpclaceefapppaaGreatDoorJnZbf
import Derived.Test.YtpclaceefapppaaGreatDoorJfRead
import Derived.Test.YtpclaceefapppaaGreatDoorWReadZ
import Derived.WalkKit
import Derived.ProofKit
import Derived.OpenShut
import Derived.ShutString
import Derived.ChangeOld
import Derived.Below
import Derived.Deep.DeepHandedRow
import Derived.Lib.LaidTab
import Derived.Lib.SmallJoins
import Derived.Deep.CutRange
import Derived.LaidHandle
import Derived.LaidLaws
namespace Go.Proofs.YtpclaceefapppaaGreatDoor.fnExactRead
open Go.ChangeShapes Go.WideShapes Go.ChangeAt Go.RowKit
open Go.ChangeMaps (open_string shut_string)
set_option linter.unusedVariables false
theorem own : ownKnob Tryz.prog.godebug = none := by kernel_rfl
theorem laidOut : laidOutB Tryz.prog = true := by kernel_rfl
theorem laidAll {W : World} (h : laidMetH Tryz.prog Rows.fnExactReadRow.laid W) : laidMet Tryz.prog [("math/bits.deBruijn32tab", Rows.laid_math_bits_deBruijn32tab), ("math/bits.deBruijn64tab", Rows.laid_math_bits_deBruijn64tab), ("internal/strconv.uint64pow10", Rows.laid_internal_strconv_uint64pow10), ("loop.example/g00638/impl.digitShapes", Rows.laid_loop_example_g00638_impl_digitShapes), ("loop.example/g00638/impl.monthNames", Rows.laid_loop_example_g00638_impl_monthNames), ("loop.example/g00638/impl.monthLengths", Rows.laid_loop_example_g00638_impl_monthLengths), ("loop.example/g00638/impl.markNames", Rows.laid_loop_example_g00638_impl_markNames), ("loop.example/g00638/impl.errNoTable", Rows.laid_loop_example_g00638_impl_errNoTable)] W := h.1
theorem g2 : Tryz.prog.globalNamed "internal/strconv.uint64pow10" = some 7 := by kernel_rfl
theorem gt2 : (Tryz.prog.globals[7]?).map (·.type) = some 345 := by kernel_rfl
theorem ce2 : Tryz.prog.cellsOf 238 = 1 := by kernel_rfl
theorem ct2 : Tryz.prog.cellsOf 345 = 20 := by kernel_rfl
theorem tab2 {W : World} (h : laidMetH Tryz.prog Rows.fnExactReadRow.laid W) : Lib.TabIs Tryz.prog W "internal/strconv.uint64pow10" .u64 [1, 10, 100, 1000, 10000, 100000, 1000000, 10000000, 100000000, 1000000000, 10000000000, 100000000000, 1000000000000, 10000000000000, 100000000000000, 1000000000000000, 10000000000000000, 100000000000000000, 1000000000000000000, 10000000000000000000] := by
 have h0 := laidAll h
 have h1 := laidMet.tail h0
 have h2 := laidMet.tail h1
 exact Lib.tabIs_of_head (rest := [("loop.example/g00638/impl.digitShapes", Rows.laid_loop_example_g00638_impl_digitShapes), ("loop.example/g00638/impl.monthNames", Rows.laid_loop_example_g00638_impl_monthNames), ("loop.example/g00638/impl.monthLengths", Rows.laid_loop_example_g00638_impl_monthLengths), ("loop.example/g00638/impl.markNames", Rows.laid_loop_example_g00638_impl_markNames), ("loop.example/g00638/impl.errNoTable", Rows.laid_loop_example_g00638_impl_errNoTable)]) g2 gt2 Tryz.underlying345 Tryz.underlying238 ce2 ct2 h2
theorem tab3 {W : World} (h : laidMetH Tryz.prog Rows.fnExactReadRow.laid W) : ctr.ErrT W := by
 have h0 : laidMet Tryz.prog [("math/bits.deBruijn32tab", Rows.laid_math_bits_deBruijn32tab), ("math/bits.deBruijn64tab", Rows.laid_math_bits_deBruijn64tab), ("internal/strconv.uint64pow10", Rows.laid_internal_strconv_uint64pow10), ("loop.example/g00638/impl.digitShapes", Rows.laid_loop_example_g00638_impl_digitShapes), ("loop.example/g00638/impl.monthNames", Rows.laid_loop_example_g00638_impl_monthNames), ("loop.example/g00638/impl.monthLengths", Rows.laid_loop_example_g00638_impl_monthLengths), ("loop.example/g00638/impl.markNames", Rows.laid_loop_example_g00638_impl_markNames), ("loop.example/g00638/impl.errNoTable", Rows.laid_loop_example_g00638_impl_errNoTable)] W ∧ handlesMet Tryz.prog [("errors.errorType", Rows.laid_errors_errorType)] W := h
 exact kit.err_of h0.2
theorem g4 : Tryz.prog.globalNamed "loop.example/g00638/impl.digitShapes" = some 6 := by kernel_rfl
theorem gt4 : (Tryz.prog.globals[6]?).map (·.type) = some 343 := by kernel_rfl
theorem ce4 : Tryz.prog.cellsOf 9 = 1 := by kernel_rfl
theorem ct4 : Tryz.prog.cellsOf 343 = 10 := by kernel_rfl
theorem tab4 {W : World} (h : laidMetH Tryz.prog Rows.fnExactReadRow.laid W) : kit.StrIs Tryz.prog W "loop.example/g00638/impl.digitShapes" [[], [97], [97, 97], [97, 97, 97], [97, 98], [98], [98, 97], [98, 97, 97], [98, 97, 97, 97], [97, 99]] := by
 have h0 := laidAll h
 have h1 := laidMet.tail h0
 have h2 := laidMet.tail h1
 have h3 := laidMet.tail h2
 exact kit.strIs_of_head (rest := [("loop.example/g00638/impl.monthNames", Rows.laid_loop_example_g00638_impl_monthNames), ("loop.example/g00638/impl.monthLengths", Rows.laid_loop_example_g00638_impl_monthLengths), ("loop.example/g00638/impl.markNames", Rows.laid_loop_example_g00638_impl_markNames), ("loop.example/g00638/impl.errNoTable", Rows.laid_loop_example_g00638_impl_errNoTable)]) g4 gt4 Tryz.underlying343 Tryz.underlying9 ce4 ct4 h3
theorem g5 : Tryz.prog.globalNamed "loop.example/g00638/impl.monthNames" = some 1 := by kernel_rfl
theorem gt5 : (Tryz.prog.globals[1]?).map (·.type) = some 197 := by kernel_rfl
theorem ce5 : Tryz.prog.cellsOf 9 = 1 := by kernel_rfl
theorem ct5 : Tryz.prog.cellsOf 197 = 12 := by kernel_rfl
theorem tab5 {W : World} (h : laidMetH Tryz.prog Rows.fnExactReadRow.laid W) : kit.StrIs Tryz.prog W "loop.example/g00638/impl.monthNames" [[106, 97, 110], [102, 101, 98], [109, 97, 114], [97, 112, 114], [109, 97, 121], [106, 117, 110], [106, 117, 108], [97, 117, 103], [115, 101, 112], [111, 99, 116], [110, 111, 118], [100, 101, 99]] := by
 have h0 := laidAll h
 have h1 := laidMet.tail h0
 have h2 := laidMet.tail h1
 have h3 := laidMet.tail h2
 have h4 := laidMet.tail h3
 exact kit.strIs_of_head (rest := [("loop.example/g00638/impl.monthLengths", Rows.laid_loop_example_g00638_impl_monthLengths), ("loop.example/g00638/impl.markNames", Rows.laid_loop_example_g00638_impl_markNames), ("loop.example/g00638/impl.errNoTable", Rows.laid_loop_example_g00638_impl_errNoTable)]) g5 gt5 Tryz.underlying197 Tryz.underlying9 ce5 ct5 h4
theorem g6 : Tryz.prog.globalNamed "loop.example/g00638/impl.monthLengths" = some 5 := by kernel_rfl
theorem gt6 : (Tryz.prog.globals[5]?).map (·.type) = some 280 := by kernel_rfl
theorem ce6 : Tryz.prog.cellsOf 3 = 1 := by kernel_rfl
theorem ct6 : Tryz.prog.cellsOf 280 = 12 := by kernel_rfl
theorem tab6 {W : World} (h : laidMetH Tryz.prog Rows.fnExactReadRow.laid W) : Lib.TabIs Tryz.prog W "loop.example/g00638/impl.monthLengths" .i64 [31, 28, 31, 30, 31, 30, 31, 31, 30, 31, 30, 31] := by
 have h0 := laidAll h
 have h1 := laidMet.tail h0
 have h2 := laidMet.tail h1
 have h3 := laidMet.tail h2
 have h4 := laidMet.tail h3
 have h5 := laidMet.tail h4
 exact Lib.tabIs_of_head (rest := [("loop.example/g00638/impl.markNames", Rows.laid_loop_example_g00638_impl_markNames), ("loop.example/g00638/impl.errNoTable", Rows.laid_loop_example_g00638_impl_errNoTable)]) g6 gt6 Tryz.underlying280 Tryz.underlying3 ce6 ct6 h5
theorem g7 : Tryz.prog.globalNamed "loop.example/g00638/impl.markNames" = some 3 := by kernel_rfl
theorem gt7 : (Tryz.prog.globals[3]?).map (·.type) = some 249 := by kernel_rfl
theorem ce7 : Tryz.prog.cellsOf 9 = 1 := by kernel_rfl
theorem ct7 : Tryz.prog.cellsOf 249 = 3 := by kernel_rfl
theorem tab7 {W : World} (h : laidMetH Tryz.prog Rows.fnExactReadRow.laid W) : kit.StrIs Tryz.prog W "loop.example/g00638/impl.markNames" [[107, 97, 108], [110, 111, 110], [105, 100]] := by
 have h0 := laidAll h
 have h1 := laidMet.tail h0
 have h2 := laidMet.tail h1
 have h3 := laidMet.tail h2
 have h4 := laidMet.tail h3
 have h5 := laidMet.tail h4
 have h6 := laidMet.tail h5
 exact kit.strIs_of_head (rest := [("loop.example/g00638/impl.errNoTable", Rows.laid_loop_example_g00638_impl_errNoTable)]) g7 gt7 Tryz.underlying249 Tryz.underlying9 ce7 ct7 h6
theorem g8 : Tryz.prog.globalNamed "loop.example/g00638/impl.errNoTable" = some 0 := by kernel_rfl
theorem gt8 : (Tryz.prog.globals[0]?).map (·.type) = some 144 := by kernel_rfl
theorem tab8 {W : World} (h : laidMetH Tryz.prog Rows.fnExactReadRow.laid W) : ∃ a, ctr.Sent W a := by
 have h0 : laidMet Tryz.prog [("math/bits.deBruijn32tab", Rows.laid_math_bits_deBruijn32tab), ("math/bits.deBruijn64tab", Rows.laid_math_bits_deBruijn64tab), ("internal/strconv.uint64pow10", Rows.laid_internal_strconv_uint64pow10), ("loop.example/g00638/impl.digitShapes", Rows.laid_loop_example_g00638_impl_digitShapes), ("loop.example/g00638/impl.monthNames", Rows.laid_loop_example_g00638_impl_monthNames), ("loop.example/g00638/impl.monthLengths", Rows.laid_loop_example_g00638_impl_monthLengths), ("loop.example/g00638/impl.markNames", Rows.laid_loop_example_g00638_impl_markNames), ("loop.example/g00638/impl.errNoTable", Rows.laid_loop_example_g00638_impl_errNoTable)] W := h.1
 have h1 := laidMet.tail h0
 have h2 := laidMet.tail h1
 have h3 := laidMet.tail h2
 have h4 := laidMet.tail h3
 have h5 := laidMet.tail h4
 have h6 := laidMet.tail h5
 have h7 := laidMet.tail h6
 exact kit.sent_of h7
theorem readable : ∀ m ∈ Rows.fnExactReadSpec.vars, ∀ g t, Tryz.prog.globalNamed m = some g → (Tryz.prog.globals[g]?).map (·.type) = some t → Tryz.prog.readableRec t = true ∧ t < Tryz.prog.types.size := by
 intro m hm g t h1 h2
 have hm' : m = "loop.example/g00638/impl.digitShapes" ∨ m = "loop.example/g00638/impl.markNames" ∨ m = "loop.example/g00638/impl.monthNames" ∨ m = "loop.example/g00638/impl.monthLengths" ∨ m = "loop.example/g00638/impl.errNoTable" := by simpa [Rows.fnExactReadSpec] using hm
 rcases hm' with rfl | rfl | rfl | rfl | rfl
 · obtain rfl := Option.some.inj (g4.symm.trans h1)
   obtain rfl := Option.some.inj (gt4.symm.trans h2)
   exact ⟨by kernel_rfl, of_decide_eq_true (by kernel_rfl)⟩
 · obtain rfl := Option.some.inj (g7.symm.trans h1)
   obtain rfl := Option.some.inj (gt7.symm.trans h2)
   exact ⟨by kernel_rfl, of_decide_eq_true (by kernel_rfl)⟩
 · obtain rfl := Option.some.inj (g5.symm.trans h1)
   obtain rfl := Option.some.inj (gt5.symm.trans h2)
   exact ⟨by kernel_rfl, of_decide_eq_true (by kernel_rfl)⟩
 · obtain rfl := Option.some.inj (g6.symm.trans h1)
   obtain rfl := Option.some.inj (gt6.symm.trans h2)
   exact ⟨by kernel_rfl, of_decide_eq_true (by kernel_rfl)⟩
 · obtain rfl := Option.some.inj (g8.symm.trans h1)
   obtain rfl := Option.some.inj (gt8.symm.trans h2)
   exact ⟨by kernel_rfl, of_decide_eq_true (by kernel_rfl)⟩
set_option maxRecDepth 100000 in
theorem contract (H : Type) (enc : TypeId × Value → H) (W : World) (base : Nat) (args : Array Value) (ds gs : List (DataW H)) (before : List MemPlace)
    (hval : ∀ (j : Nat) t v, Tryz.f3.params[j]? = some t → args[j]? = some v → Value.okWide Tryz.prog W .any base t v)
    (hW : DataW.Whole enc Tryz.prog Tryz.f3.params.toList Rows.fnExactReadSpec.vars false W args.toList ds gs before) (hL : laidMetH Tryz.prog Rows.fnExactReadRow.laid W) :
    Calls Tryz.prog 3 args W fun e W' => ∃ v, e = .returned v ∧ Rows.fnExactReadSpec.post enc Tryz.prog Tryz.f3 false true false false W args v W' := by
  have hW' := hW
  obtain ⟨p, q, hA0, hV, rfl, hfz, hnd⟩ := hW
  have hA : DataW.TrodAll enc Tryz.prog W 0 (fun _ => true) true Tryz.f3.params.toList args.toList ds p := hA0
  rw [Tryz.params3] at hA hval
  obtain ⟨v0, vs0, d0, ds0, p0, q0, hargs, rfl, rfl, h0, r0⟩ := trodAll_cons hA
  obtain ⟨v1, vs1, d1, ds1, p1, q1, rfl, rfl, rfl, h1, r1⟩ := trodAll_cons r0
  obtain ⟨rfl, rfl, rfl⟩ := trodAll_nil r1
  obtain rfl : args = #[v0, v1] := by cases args; simp_all
  have hk : ∀ W', Below W.heap.size W W' → DataW.TrodVars enc Tryz.prog W' (fun b => decide (b < W.heap.size)) Rows.fnExactReadSpec.vars gs q := fun W' hb => kit.trodVars_kept laidOut hb readable hV (DataW.TrodVars.lt hV)
  obtain ⟨g1, g2, g3, g4, g5, rfl⟩ : ∃ g1 g2 g3 g4 g5, gs = [g1, g2, g3, g4, g5] := kit.gs_five hV
  have k0 := h0
  have lt0 : ∀ x ∈ p0, x.block < W.heap.size := by obtain ⟨m, hm⟩ := k0; exact DataW.trod_lt m _ _ _ hm
  obtain ⟨rg0, hr0, wf0, wt0⟩ := kit.open_rgm Tryz.underlying26 (by kernel_rfl) (show Tryz.prog.cellsOf 26 = 7 by kernel_rfl) Tryz.underlying9 Tryz.underlying3 Tryz.underlying3 Tryz.underlying22 Tryz.underlying23 Tryz.underlying24 Tryz.underlying3 Tryz.underlying94 (show Tryz.prog.cellsOf 94 = 5 by kernel_rfl) rfl (fun j f h => by
   rcases j with _ | _ | _ | _ | _ | j <;> simp at h <;> (try subst h) <;> exact ⟨rfl, by kernel_rfl, Tryz.underlying3⟩) Tryz.underlying98 (show Tryz.prog.cellsOf 98 = 3 by kernel_rfl) rfl (fun j f h => by
   rcases j with _ | _ | _ | j <;> simp at h <;> (try subst h) <;> exact ⟨rfl, by kernel_rfl, Tryz.underlying3⟩) Tryz.underlying79 (show Tryz.prog.cellsOf 79 = 3 by kernel_rfl) rfl rfl rfl (by kernel_rfl) (by kernel_rfl) (by kernel_rfl) Tryz.underlying9 Tryz.underlying3 Tryz.underlying3 (hval 0 26 v0 rfl rfl) h0
  obtain ⟨a1, rfl, rfl, rfl, w1⟩ := open_string Tryz.underlying9 (hval 1 9 v1 rfl rfl) h1
  clear hA0
  refine (walk v0 rg0 a1 w1 W hr0 wf0 wt0 (tab2 hL) (tab3 hL) (tab4 hL) (tab5 hL) (tab6 hL) (tab7 hL) (tab8 hL)).mono fun e W' ⟨he, bel⟩ => ?_
  subst he
  exact ⟨_, rfl, _, _, _, [], _, _, hW', trodAll_mk1 (shut_bool Tryz.underlying4 _), trodAll_cons_mk (Below.trod laidOut (by kernel_rfl) (of_decide_eq_true (by kernel_rfl)) k0 bel lt0) (trodAll_cons_mk (shut_string Tryz.underlying9 w1) (trodAll_mk0)), hk W' bel, bel.frame _, fun h => by cases h⟩
noncomputable def low : Nat := (World.holding Tryz.prog default ⟨#[], #[], []⟩).heap.size
noncomputable def laidWorld (os : Os) : World :=
 { World.holding Tryz.prog os ⟨#[.cells #[.string ⟨#[110, 111, 32, 116, 97, 98, 108, 101, 32, 111, 102, 32, 114, 101, 105, 103, 110, 115]⟩] 377], #[], []⟩ with heap := ((((((((((World.holding Tryz.prog os ⟨#[.cells #[.string ⟨#[110, 111, 32, 116, 97, 98, 108, 101, 32, 111, 102, 32, 114, 101, 105, 103, 110, 115]⟩] 377], #[], []⟩).heap.modify 8 fun
     | .cells _ t frozen => .cells #[.int .u8 0, .int .u8 1, .int .u8 28, .int .u8 2, .int .u8 29, .int .u8 14, .int .u8 24, .int .u8 3, .int .u8 30, .int .u8 22, .int .u8 20, .int .u8 15, .int .u8 25, .int .u8 17, .int .u8 4, .int .u8 8, .int .u8 31, .int .u8 27, .int .u8 13, .int .u8 23, .int .u8 21, .int .u8 19, .int .u8 16, .int .u8 7, .int .u8 26, .int .u8 12, .int .u8 18, .int .u8 6, .int .u8 11, .int .u8 5, .int .u8 10, .int .u8 9] t frozen
     | o => o).modify 9 fun
     | .cells _ t frozen => .cells #[.int .u8 0, .int .u8 1, .int .u8 56, .int .u8 2, .int .u8 57, .int .u8 49, .int .u8 28, .int .u8 3, .int .u8 61, .int .u8 58, .int .u8 42, .int .u8 50, .int .u8 38, .int .u8 29, .int .u8 17, .int .u8 4, .int .u8 62, .int .u8 47, .int .u8 59, .int .u8 36, .int .u8 45, .int .u8 43, .int .u8 51, .int .u8 22, .int .u8 53, .int .u8 39, .int .u8 33, .int .u8 30, .int .u8 24, .int .u8 18, .int .u8 12, .int .u8 5, .int .u8 63, .int .u8 55, .int .u8 48, .int .u8 27, .int .u8 60, .int .u8 41, .int .u8 37, .int .u8 16, .int .u8 46, .int .u8 35, .int .u8 44, .int .u8 21, .int .u8 52, .int .u8 32, .int .u8 23, .int .u8 11, .int .u8 54, .int .u8 26, .int .u8 40, .int .u8 15, .int .u8 34, .int .u8 20, .int .u8 31, .int .u8 10, .int .u8 25, .int .u8 14, .int .u8 19, .int .u8 9, .int .u8 13, .int .u8 8, .int .u8 7, .int .u8 6] t frozen
     | o => o).modify 7 fun
     | .cells _ t frozen => .cells #[.int .u64 1, .int .u64 10, .int .u64 100, .int .u64 1000, .int .u64 10000, .int .u64 100000, .int .u64 1000000, .int .u64 10000000, .int .u64 100000000, .int .u64 1000000000, .int .u64 10000000000, .int .u64 100000000000, .int .u64 1000000000000, .int .u64 10000000000000, .int .u64 100000000000000, .int .u64 1000000000000000, .int .u64 10000000000000000, .int .u64 100000000000000000, .int .u64 1000000000000000000, .int .u64 10000000000000000000] t frozen
     | o => o).modify 4 fun
     | .cells _ t frozen => .cells #[.iface 270 (.agg #[.pointer (some ⟨10, 144, none⟩)])] t frozen
     | o => o).modify 6 fun
     | .cells _ t frozen => .cells #[.string ⟨#[]⟩, .string ⟨#[97]⟩, .string ⟨#[97, 97]⟩, .string ⟨#[97, 97, 97]⟩, .string ⟨#[97, 98]⟩, .string ⟨#[98]⟩, .string ⟨#[98, 97]⟩, .string ⟨#[98, 97, 97]⟩, .string ⟨#[98, 97, 97, 97]⟩, .string ⟨#[97, 99]⟩] t frozen
     | o => o).modify 1 fun
     | .cells _ t frozen => .cells #[.string ⟨#[106, 97, 110]⟩, .string ⟨#[102, 101, 98]⟩, .string ⟨#[109, 97, 114]⟩, .string ⟨#[97, 112, 114]⟩, .string ⟨#[109, 97, 121]⟩, .string ⟨#[106, 117, 110]⟩, .string ⟨#[106, 117, 108]⟩, .string ⟨#[97, 117, 103]⟩, .string ⟨#[115, 101, 112]⟩, .string ⟨#[111, 99, 116]⟩, .string ⟨#[110, 111, 118]⟩, .string ⟨#[100, 101, 99]⟩] t frozen
     | o => o).modify 5 fun
     | .cells _ t frozen => .cells #[.int .i64 31, .int .i64 28, .int .i64 31, .int .i64 30, .int .i64 31, .int .i64 30, .int .i64 31, .int .i64 31, .int .i64 30, .int .i64 31, .int .i64 30, .int .i64 31] t frozen
     | o => o).modify 3 fun
     | .cells _ t frozen => .cells #[.string ⟨#[107, 97, 108]⟩, .string ⟨#[110, 111, 110]⟩, .string ⟨#[105, 100]⟩] t frozen
     | o => o).modify 0 fun
     | .cells _ t frozen => .cells #[.iface 358 (.pointer (some ⟨low, 0, none⟩))] t frozen
     | o => o) }
theorem laid_met (os : Os) : laidMetH Tryz.prog Rows.fnExactReadRow.laid ((laidWorld os).forCall (fun _ _ => 0) ⟨#[], #[.agg #[.string ByteArray.empty, .int .i64 0, .int .i64 0, .slice none 0 0, .slice none 0 0, .slice none 0 0, .int .i64 0], .string ByteArray.empty], []⟩).memory :=
 laidMetH_of_parts (laidMet_of_run' 8 (by kernel_rfl) (by kernel_rfl)) (by kernel_rfl)
theorem reads (os : Os) {H : Type} (enc : TypeId × Value → H) : ∃ places, DataW.whole enc Tryz.prog ((laidWorld os).forCall (fun _ _ => 0) ⟨#[], #[.agg #[.string ByteArray.empty, .int .i64 0, .int .i64 0, .slice none 0 0, .slice none 0 0, .slice none 0 0, .int .i64 0], .string ByteArray.empty], []⟩).memory Tryz.f3.params.toList Rows.fnExactReadSpec.vars false (#[.agg #[.string ByteArray.empty, .int .i64 0, .int .i64 0, .slice none 0 0, .slice none 0 0, .slice none 0 0, .int .i64 0], .string ByteArray.empty] : Array Value).toList 8 = some ([.agg [.lit (.string []), .lit (.int .i64 0), .lit (.int .i64 0), .nil, .nil, .nil, .lit (.int .i64 0)], .lit (.string [])], [Rows.laid_loop_example_g00638_impl_digitShapes, Rows.laid_loop_example_g00638_impl_markNames, Rows.laid_loop_example_g00638_impl_monthNames, Rows.laid_loop_example_g00638_impl_monthLengths, .held (enc (358, .pointer (some ⟨low, 0, none⟩)))], places) :=
 ⟨MemPlace.row ⟨6, 0, none⟩ 10 ++ [] ++ MemPlace.row ⟨3, 0, none⟩ 3 ++ [] ++ MemPlace.row ⟨1, 0, none⟩ 12 ++ [] ++ MemPlace.row ⟨5, 0, none⟩ 12 ++ [] ++ MemPlace.row ⟨0, 0, none⟩ 1 ++ [] ++ [], by kernel_rfl⟩
set_option maxRecDepth 100000 in
theorem lifted (os : Os) (started : os.Started) (H : Type) (enc : TypeId × Value → H) (F : Stop.Interp) :
    ReturnsInHanded {} Tryz.checked os 3 .any ((OpenSpec.ofChange Rows.fnExactReadSpec).preRow enc Tryz.prog Tryz.f3 Rows.fnExactReadRow.domain false Rows.fnExactReadRow.laid) (((OpenSpec.ofChange Rows.fnExactReadSpec).at F).post enc Tryz.prog Tryz.f3 false true false false) := by
  obtain ⟨places, hx⟩ := reads os enc
  refine returnsInHanded_of_row (C := Tryz.checked) (s := OpenSpec.ofChange Rows.fnExactReadSpec) own started (by kernel_rfl) Tryz.func3
    (witness_row_at (enc := enc) (C := Tryz.checked) false (laidWorld os) #[.agg #[.string ByteArray.empty, .int .i64 0, .int .i64 0, .slice none 0 0, .slice none 0 0, .slice none 0 0, .int .i64 0], .string ByteArray.empty] rfl (by kernel_rfl) (by kernel_rfl) (by kernel_rfl)
      (OpenSpec.preRow_of_cond 8 hx (by kernel_rfl) (fun k hk => by cases hk) (by kernel_rfl) (laid_met os))) ?_
  intro W base args ds gs before hval hW _ _ _ hL _ _
  exact contract H enc W base args ds gs before hval hW hL
theorem said : Rows.FnExactReadSaid :=
 OpenClaim.holds_of_cond 3 Tryz.f3 rfl rfl rfl rfl rfl rfl rfl ⟨rfl, rfl, rfl, rfl, rfl⟩ rfl rfl rfl rfl rfl (by kernel_rfl) Tryz.func3 jf
   (of_decide_eq_true (by kernel_rfl)) (by unfold Func.isWrapper; first | (rw [if_pos (by decide +kernel)]; kernel_rfl) | (rw [if_neg (by decide +kernel)]; exact ⟨rfl, rfl⟩))
   (fun os started H enc _ F => by rw [OpenClaim.pre_eq_preRow]; exact lifted os started H enc F)
theorem plain (f : FuncId) (fn : Func) (hf : Tryz.pinned.checked.prog.funcNamed "loop.example/g00638/laws.FnExactRead" = some f) (hfn : Tryz.pinned.checked.prog.funcs[f]? = some fn) :
    true = Tryz.pinned.checked.prog.looks [] ∧ ∀ (j : Nat) t, fn.params[j]? = some t → Tryz.pinned.checked.prog.wantsStandIn t = false := by
  obtain rfl : f = 3 := Option.some.inj ((show Tryz.prog.funcNamed "loop.example/g00638/laws.FnExactRead" = some 3 by kernel_rfl).symm.trans hf) |>.symm
  obtain rfl : fn = Tryz.f3 := (Option.some.inj (Tryz.func3.symm.trans hfn)).symm
  refine ⟨by kernel_rfl, fun j t ht => ?_⟩
  rw [Tryz.params3] at ht
  have ht : t = 26 ∨ t = 9 := by simpa using Array.mem_of_getElem? ht
  rcases ht with rfl | rfl
  · exact (show Tryz.prog.wantsStandIn 26 = false by kernel_rfl)
  · exact (show Tryz.prog.wantsStandIn 9 = false by kernel_rfl)
theorem card : Rows.FnExactReadCardSaid :=
 Claim7.holds_tied_plain_at .later [] _ _ _ _ said (fun _ h => by cases h) (by kernel_rfl) (fun _ h => by cases h) fnExactRead_row_tie rfl ⟨rfl, rfl⟩ kit.mainis rfl plain goesnot
end Go.Proofs.YtpclaceefapppaaGreatDoor.fnExactRead
namespace Go.Proofs.YtpclaceefapppaaGreatDoor
theorem fnExactRead_holds : Rows.FnExactReadCardSaid := fnExactRead.card
#print axioms fnExactRead_holds
end Go.Proofs.YtpclaceefapppaaGreatDoor
