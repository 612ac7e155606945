/- for every two texts both ReadDate tell the same date or none -/
import Derived.Test.YtioiaefjkmgmdaaDoorCards
import Derived.Test.YtioiaefjkmgmdaaDoorTie
import Derived.Test.YtioiaefjkmgmdaaDoorVarsKit
import Derived.Test.YtioiaefjkmgmdaaDoorRdDateI
import Derived.Test.YtioiaefjkmgmdaaDoorRdDateS
import Derived.Test.YtioiaefjkmgmdaaDoorSolEq
import Derived.WalkKit
import Derived.ProofKit
import Derived.OpenShut
import Derived.ShutString
import Derived.ChangeOld
import Derived.Below
import Derived.Deep.DeepHandedRow
import Derived.Lib.LaidTab
import Derived.Lib.SmallJoins
import Derived.Deep.CutRange
namespace Go.Proofs.YtioiaefjkmgmdaaDoor.fnExactReadDate
open Go.ChangeShapes Go.WideShapes Go.ChangeAt Go.RowKit
open Go.ChangeMaps (open_string shut_string)
set_option linter.unusedVariables false

theorem own : ownKnob Tryd.prog.godebug = none := by kernel_rfl
theorem laidOut : laidOutB Tryd.prog = true := by kernel_rfl
theorem g0 : Tryd.prog.globalNamed "math/bits.deBruijn32tab" = some 6 := by kernel_rfl
theorem gt0 : (Tryd.prog.globals[6]?).map (·.type) = some 80 := by kernel_rfl
theorem ce0 : Tryd.prog.cellsOf 5 = 1 := by kernel_rfl
theorem ct0 : Tryd.prog.cellsOf 80 = 32 := by kernel_rfl
theorem tab0 {W : World} (h : laidMetH Tryd.prog Rows.fnExactReadDateRow.laid W) : Lib.TabIs Tryd.prog W "math/bits.deBruijn32tab" .u8 [0, 1, 28, 2, 29, 14, 24, 3, 30, 22, 20, 15, 25, 17, 4, 8, 31, 27, 13, 23, 21, 19, 16, 7, 26, 12, 18, 6, 11, 5, 10, 9] := by
  have h0 : laidMet Tryd.prog [("math/bits.deBruijn32tab", Rows.laid_math_bits_deBruijn32tab), ("math/bits.deBruijn64tab", Rows.laid_math_bits_deBruijn64tab), ("internal/strconv.uint64pow10", Rows.laid_internal_strconv_uint64pow10), ("unicode/utf8.acceptRanges", Rows.laid_unicode_utf8_acceptRanges), ("loop.example/g00638/impl.monthLengths", Rows.laid_loop_example_g00638_impl_monthLengths), ("unicode/utf8.first", Rows.laid_unicode_utf8_first)] W := h
  exact Lib.tabIs_of_head (rest := [("math/bits.deBruijn64tab", Rows.laid_math_bits_deBruijn64tab), ("internal/strconv.uint64pow10", Rows.laid_internal_strconv_uint64pow10), ("unicode/utf8.acceptRanges", Rows.laid_unicode_utf8_acceptRanges), ("loop.example/g00638/impl.monthLengths", Rows.laid_loop_example_g00638_impl_monthLengths), ("unicode/utf8.first", Rows.laid_unicode_utf8_first)]) g0 gt0 Tryd.underlying80 Tryd.underlying5 ce0 ct0 h0
theorem g1 : Tryd.prog.globalNamed "math/bits.deBruijn64tab" = some 7 := by kernel_rfl
theorem gt1 : (Tryd.prog.globals[7]?).map (·.type) = some 81 := by kernel_rfl
theorem ce1 : Tryd.prog.cellsOf 5 = 1 := by kernel_rfl
theorem ct1 : Tryd.prog.cellsOf 81 = 64 := by kernel_rfl
theorem tab1 {W : World} (h : laidMetH Tryd.prog Rows.fnExactReadDateRow.laid W) : Lib.TabIs Tryd.prog W "math/bits.deBruijn64tab" .u8 [0, 1, 56, 2, 57, 49, 28, 3, 61, 58, 42, 50, 38, 29, 17, 4, 62, 47, 59, 36, 45, 43, 51, 22, 53, 39, 33, 30, 24, 18, 12, 5, 63, 55, 48, 27, 60, 41, 37, 16, 46, 35, 44, 21, 52, 32, 23, 11, 54, 26, 40, 15, 34, 20, 31, 10, 25, 14, 19, 9, 13, 8, 7, 6] := by
  have h0 : laidMet Tryd.prog [("math/bits.deBruijn32tab", Rows.laid_math_bits_deBruijn32tab), ("math/bits.deBruijn64tab", Rows.laid_math_bits_deBruijn64tab), ("internal/strconv.uint64pow10", Rows.laid_internal_strconv_uint64pow10), ("unicode/utf8.acceptRanges", Rows.laid_unicode_utf8_acceptRanges), ("loop.example/g00638/impl.monthLengths", Rows.laid_loop_example_g00638_impl_monthLengths), ("unicode/utf8.first", Rows.laid_unicode_utf8_first)] W := h
  have h1 := laidMet.tail h0
  exact Lib.tabIs_of_head (rest := [("internal/strconv.uint64pow10", Rows.laid_internal_strconv_uint64pow10), ("unicode/utf8.acceptRanges", Rows.laid_unicode_utf8_acceptRanges), ("loop.example/g00638/impl.monthLengths", Rows.laid_loop_example_g00638_impl_monthLengths), ("unicode/utf8.first", Rows.laid_unicode_utf8_first)]) g1 gt1 Tryd.underlying81 Tryd.underlying5 ce1 ct1 h1
theorem g2 : Tryd.prog.globalNamed "internal/strconv.uint64pow10" = some 3 := by kernel_rfl
theorem gt2 : (Tryd.prog.globals[3]?).map (·.type) = some 69 := by kernel_rfl
theorem ce2 : Tryd.prog.cellsOf 60 = 1 := by kernel_rfl
theorem ct2 : Tryd.prog.cellsOf 69 = 20 := by kernel_rfl
theorem tab2 {W : World} (h : laidMetH Tryd.prog Rows.fnExactReadDateRow.laid W) : Lib.TabIs Tryd.prog W "internal/strconv.uint64pow10" .u64 [1, 10, 100, 1000, 10000, 100000, 1000000, 10000000, 100000000, 1000000000, 10000000000, 100000000000, 1000000000000, 10000000000000, 100000000000000, 1000000000000000, 10000000000000000, 100000000000000000, 1000000000000000000, 10000000000000000000] := by
  have h0 : laidMet Tryd.prog [("math/bits.deBruijn32tab", Rows.laid_math_bits_deBruijn32tab), ("math/bits.deBruijn64tab", Rows.laid_math_bits_deBruijn64tab), ("internal/strconv.uint64pow10", Rows.laid_internal_strconv_uint64pow10), ("unicode/utf8.acceptRanges", Rows.laid_unicode_utf8_acceptRanges), ("loop.example/g00638/impl.monthLengths", Rows.laid_loop_example_g00638_impl_monthLengths), ("unicode/utf8.first", Rows.laid_unicode_utf8_first)] W := h
  have h1 := laidMet.tail h0
  have h2 := laidMet.tail h1
  exact Lib.tabIs_of_head (rest := [("unicode/utf8.acceptRanges", Rows.laid_unicode_utf8_acceptRanges), ("loop.example/g00638/impl.monthLengths", Rows.laid_loop_example_g00638_impl_monthLengths), ("unicode/utf8.first", Rows.laid_unicode_utf8_first)]) g2 gt2 Tryd.underlying69 Tryd.underlying60 ce2 ct2 h2
theorem g4 : Tryd.prog.globalNamed "loop.example/g00638/impl.monthLengths" = some 1 := by kernel_rfl
theorem gt4 : (Tryd.prog.globals[1]?).map (·.type) = some 52 := by kernel_rfl
theorem ce4 : Tryd.prog.cellsOf 3 = 1 := by kernel_rfl
theorem ct4 : Tryd.prog.cellsOf 52 = 12 := by kernel_rfl
theorem tab4 {W : World} (h : laidMetH Tryd.prog Rows.fnExactReadDateRow.laid W) : Lib.TabIs Tryd.prog W "loop.example/g00638/impl.monthLengths" .i64 [31, 28, 31, 30, 31, 30, 31, 31, 30, 31, 30, 31] := by
  have h0 : laidMet Tryd.prog [("math/bits.deBruijn32tab", Rows.laid_math_bits_deBruijn32tab), ("math/bits.deBruijn64tab", Rows.laid_math_bits_deBruijn64tab), ("internal/strconv.uint64pow10", Rows.laid_internal_strconv_uint64pow10), ("unicode/utf8.acceptRanges", Rows.laid_unicode_utf8_acceptRanges), ("loop.example/g00638/impl.monthLengths", Rows.laid_loop_example_g00638_impl_monthLengths), ("unicode/utf8.first", Rows.laid_unicode_utf8_first)] W := h
  have h1 := laidMet.tail h0
  have h2 := laidMet.tail h1
  have h3 := laidMet.tail h2
  have h4 := laidMet.tail h3
  exact Lib.tabIs_of_head (rest := [("unicode/utf8.first", Rows.laid_unicode_utf8_first)]) g4 gt4 Tryd.underlying52 Tryd.underlying3 ce4 ct4 h4

set_option maxHeartbeats 2000000 in
theorem walk (a0 : ByteArray) (w0 : a0.size ≤ maxLen) (a1 : ByteArray) (w1 : a1.size ≤ maxLen) (w : World) (tP : Lib.TabIs Tryd.prog w "internal/strconv.uint64pow10" .u64 [1, 10, 100, 1000, 10000, 100000, 1000000, 10000000, 100000000, 1000000000, 10000000000, 100000000000, 1000000000000, 10000000000000, 100000000000000, 1000000000000000, 10000000000000000, 100000000000000000, 1000000000000000000, 10000000000000000000]) (tT : ctr.Tab w) :
    Calls Tryd.prog 4 #[.string a0, .string a1] w fun e w' => e = .returned (.bool true) ∧ Below w.heap.size w w' := by
  rw [← ctr.pow10_eq] at tP
  unfold maxLen at w0 w1
  by_cases hbig : 1048576 < a0.size
  · clear tP tT
    go_enter Tryd.func4, Tryd.ntmps4
    go_wp2
    go_ret
    exact ⟨rfl, Below.refl _ _⟩
  by_cases hbig1 : 1048576 < a1.size
  · clear tP tT
    go_enter Tryd.func4, Tryd.ntmps4
    go_wp2
    go_ret
    exact ⟨rfl, Below.refl _ _⟩
  have KS := fun W => ctr.specReadDate a0 a1 W (by omega)
  have KI : ∀ W, Hid (Below w.heap.size w W) → Calls Tryd.prog 10 #[.string a0, .string a1] W fun e w' => e = .returned (ctr.rdR a0 a1) ∧ Below W.heap.size W w' := fun W h => ctr.implReadDate a0 a1 W (by omega) (tT.later h.out) (ctr.PowN.later tP h.out)
  obtain ⟨a, b, m, d, ok, hq⟩ : ∃ (a b m d : Int) (ok : Bool), ctr.rdR a0 a1 = .tuple #[.agg #[.int .i64 a, .int .i64 b, .int .i64 m, .int .i64 d], .bool ok] := by
    unfold ctr.rdR
    split
    · exact ⟨_, _, _, _, _, rfl⟩
    · exact ⟨0, 0, 0, 0, false, rfl⟩
  rw [hq] at KS KI
  have KE := fun W => ctr.eqDateSame a b m d W
  clear tP tT hq
  go_enter Tryd.func4, Tryd.ntmps4
  go_wp2_with fail
  refine (KS _).mono ?_
  rintro e wA ⟨rfl, hb⟩
  obtain ⟨x1, rfl⟩ := ctr.Later.of hb
  clear hb
  go_wp2_with fail
  obtain ⟨W1, e1⟩ : ∃ W1, W1 = x1.w.alloc (.cells #[.int .i64 a, .int .i64 b, .int .i64 m, .int .i64 d] 25) := ⟨_, rfl⟩
  have c0 : ∀ x : ctr.Later W1, x.w.cell? ⟨x1.w.heap.size, 0, none⟩ = some (.int .i64 a) := ctr.Later.new e1 0 rfl
  have c1 : ∀ x : ctr.Later W1, x.w.cell? ⟨x1.w.heap.size, 1, none⟩ = some (.int .i64 b) := ctr.Later.new e1 1 rfl
  have c2 : ∀ x : ctr.Later W1, x.w.cell? ⟨x1.w.heap.size, 2, none⟩ = some (.int .i64 m) := ctr.Later.new e1 2 rfl
  have c3 : ∀ x : ctr.Later W1, x.w.cell? ⟨x1.w.heap.size, 3, none⟩ = some (.int .i64 d) := ctr.Later.new e1 3 rfl
  have d0 : ∀ (x : ctr.Later W1) (o : Obj), (x.w.alloc o).cell? ⟨x1.w.heap.size, 0, none⟩ = some (.int .i64 a) := fun x o => c0 ⟨x.w.alloc o, x.below.alloc x.below.size o⟩
  have d1 : ∀ (x : ctr.Later W1) (o : Obj), (x.w.alloc o).cell? ⟨x1.w.heap.size, 1, none⟩ = some (.int .i64 b) := fun x o => c1 ⟨x.w.alloc o, x.below.alloc x.below.size o⟩
  have d2 : ∀ (x : ctr.Later W1) (o : Obj), (x.w.alloc o).cell? ⟨x1.w.heap.size, 2, none⟩ = some (.int .i64 m) := fun x o => c2 ⟨x.w.alloc o, x.below.alloc x.below.size o⟩
  have d3 : ∀ (x : ctr.Later W1) (o : Obj), (x.w.alloc o).cell? ⟨x1.w.heap.size, 3, none⟩ = some (.int .i64 d) := fun x o => c3 ⟨x.w.alloc o, x.below.alloc x.below.size o⟩
  have B1 : Hid (Below w.heap.size w W1) := by unfold Hid; rw [e1]; exact x1.below.alloc x1.below.size _
  rw [← e1]
  have S1 : Hid (∀ x : ctr.Later W1, Below w.heap.size w x.w) := fun x => B1.out.trans (x.below.mono B1.out.size)
  clear e1
  refine (KI W1 B1).mono ?_
  rintro e wB ⟨rfl, hb⟩
  obtain ⟨x2, rfl⟩ := ctr.Later.of hb
  clear hb
  go_wp2_with fail
  refine (KE _).mono ?_
  rintro e wC ⟨rfl, hb⟩
  have HC := ctr.hideP (ctr.below_alloc hb)
  clear hb
  cases ok
  · go_wp2
    go_ret
    exact ⟨rfl, (S1.out x2).trans (HC.out.mono (S1.out x2).size)⟩
  · go_wp2
    go_ret
    exact ⟨rfl, (S1.out x2).trans (HC.out.mono (S1.out x2).size)⟩

theorem readable : ∀ m ∈ Rows.fnExactReadDateSpec.vars, ∀ g t, Tryd.prog.globalNamed m = some g → (Tryd.prog.globals[g]?).map (·.type) = some t → Tryd.prog.readableRec t = true ∧ t < Tryd.prog.types.size := by
  intro m hm g t h1 h2
  have hm' : m = "loop.example/g00638/impl.monthLengths" := by simpa [Rows.fnExactReadDateSpec] using hm
  rcases hm' with rfl
  · obtain rfl := Option.some.inj (g4.symm.trans h1)
    obtain rfl := Option.some.inj (gt4.symm.trans h2)
    exact ⟨by kernel_rfl, of_decide_eq_true (by kernel_rfl)⟩

set_option maxRecDepth 100000 in
theorem contract (H : Type) (enc : TypeId × Value → H) (W : World) (base : Nat) (args : Array Value) (ds gs : List (DataW H)) (before : List MemPlace)
    (hval : ∀ (j : Nat) t v, Tryd.f4.params[j]? = some t → args[j]? = some v → Value.okWide Tryd.prog W .any base t v)
    (hW : DataW.Whole enc Tryd.prog Tryd.f4.params.toList Rows.fnExactReadDateSpec.vars false W args.toList ds gs before) (hL : laidMetH Tryd.prog Rows.fnExactReadDateRow.laid W) :
    Calls Tryd.prog 4 args W fun e W' => ∃ v, e = .returned v ∧ Rows.fnExactReadDateSpec.post enc Tryd.prog Tryd.f4 false true false false W args v W' := by
  have hW' := hW
  obtain ⟨p, q, hA0, hV, rfl, hfz, hnd⟩ := hW
  have hA : DataW.TrodAll enc Tryd.prog W 0 (fun _ => true) true Tryd.f4.params.toList args.toList ds p := hA0
  rw [Tryd.params4] at hA hval
  obtain ⟨v0, vs0, d0, ds0, p0, q0, hargs, rfl, rfl, h0, r0⟩ := trodAll_cons hA
  obtain ⟨v1, vs1, d1, ds1, p1, q1, rfl, rfl, rfl, h1, r1⟩ := trodAll_cons r0
  obtain ⟨rfl, rfl, rfl⟩ := trodAll_nil r1
  obtain rfl : args = #[v0, v1] := by cases args; simp_all
  have hk : ∀ W', Below W.heap.size W W' → DataW.TrodVars enc Tryd.prog W' (fun b => decide (b < W.heap.size)) Rows.fnExactReadDateSpec.vars gs q := fun W' hb => kit.trodVars_kept laidOut hb readable hV (DataW.TrodVars.lt hV)
  obtain ⟨g1, rfl⟩ : ∃ g1, gs = [g1] := by obtain ⟨_, _, _, _, d, _, h, _⟩ := trodVars_one hV; exact ⟨d, h⟩
  obtain ⟨a0, rfl, rfl, rfl, w0⟩ := open_string Tryd.underlying9 (hval 0 9 v0 rfl rfl) h0
  obtain ⟨a1, rfl, rfl, rfl, w1⟩ := open_string Tryd.underlying9 (hval 1 9 v1 rfl rfl) h1
  clear hA0
  refine (walk a0 w0 a1 w1 W (tab2 hL) (tab4 hL)).mono fun e W' ⟨he, bel⟩ => ?_
  subst he
  exact ⟨_, rfl, _, _, _, [], [], _, hW', trodAll_mk1 (shut_bool Tryd.underlying4 _), trodAll_cons_mk (shut_string Tryd.underlying9 w0) (trodAll_cons_mk (shut_string Tryd.underlying9 w1) (trodAll_mk0)), hk W' bel, bel.frame _, fun h => by cases h⟩

/-- A world for the witness: the settled one, each listed table holding what its initialiser lays. -/
noncomputable def laidWorld (os : Os) : World :=
  { World.holding Tryd.prog os ⟨#[], #[], []⟩ with heap := (((((((World.holding Tryd.prog os ⟨#[], #[], []⟩).heap.modify 6 fun
      | .cells _ t frozen => .cells #[.int .u8 0, .int .u8 1, .int .u8 28, .int .u8 2, .int .u8 29, .int .u8 14, .int .u8 24, .int .u8 3, .int .u8 30, .int .u8 22, .int .u8 20, .int .u8 15, .int .u8 25, .int .u8 17, .int .u8 4, .int .u8 8, .int .u8 31, .int .u8 27, .int .u8 13, .int .u8 23, .int .u8 21, .int .u8 19, .int .u8 16, .int .u8 7, .int .u8 26, .int .u8 12, .int .u8 18, .int .u8 6, .int .u8 11, .int .u8 5, .int .u8 10, .int .u8 9] t frozen
      | o => o).modify 7 fun
      | .cells _ t frozen => .cells #[.int .u8 0, .int .u8 1, .int .u8 56, .int .u8 2, .int .u8 57, .int .u8 49, .int .u8 28, .int .u8 3, .int .u8 61, .int .u8 58, .int .u8 42, .int .u8 50, .int .u8 38, .int .u8 29, .int .u8 17, .int .u8 4, .int .u8 62, .int .u8 47, .int .u8 59, .int .u8 36, .int .u8 45, .int .u8 43, .int .u8 51, .int .u8 22, .int .u8 53, .int .u8 39, .int .u8 33, .int .u8 30, .int .u8 24, .int .u8 18, .int .u8 12, .int .u8 5, .int .u8 63, .int .u8 55, .int .u8 48, .int .u8 27, .int .u8 60, .int .u8 41, .int .u8 37, .int .u8 16, .int .u8 46, .int .u8 35, .int .u8 44, .int .u8 21, .int .u8 52, .int .u8 32, .int .u8 23, .int .u8 11, .int .u8 54, .int .u8 26, .int .u8 40, .int .u8 15, .int .u8 34, .int .u8 20, .int .u8 31, .int .u8 10, .int .u8 25, .int .u8 14, .int .u8 19, .int .u8 9, .int .u8 13, .int .u8 8, .int .u8 7, .int .u8 6] t frozen
      | o => o).modify 3 fun
      | .cells _ t frozen => .cells #[.int .u64 1, .int .u64 10, .int .u64 100, .int .u64 1000, .int .u64 10000, .int .u64 100000, .int .u64 1000000, .int .u64 10000000, .int .u64 100000000, .int .u64 1000000000, .int .u64 10000000000, .int .u64 100000000000, .int .u64 1000000000000, .int .u64 10000000000000, .int .u64 100000000000000, .int .u64 1000000000000000, .int .u64 10000000000000000, .int .u64 100000000000000000, .int .u64 1000000000000000000, .int .u64 10000000000000000000] t frozen
      | o => o).modify 5 fun
      | .cells _ t frozen => .cells #[.int .u8 128, .int .u8 191, .int .u8 160, .int .u8 191, .int .u8 128, .int .u8 159, .int .u8 144, .int .u8 191, .int .u8 128, .int .u8 143, .int .u8 0, .int .u8 0, .int .u8 0, .int .u8 0, .int .u8 0, .int .u8 0, .int .u8 0, .int .u8 0, .int .u8 0, .int .u8 0, .int .u8 0, .int .u8 0, .int .u8 0, .int .u8 0, .int .u8 0, .int .u8 0, .int .u8 0, .int .u8 0, .int .u8 0, .int .u8 0, .int .u8 0, .int .u8 0] t frozen
      | o => o).modify 1 fun
      | .cells _ t frozen => .cells #[.int .i64 31, .int .i64 28, .int .i64 31, .int .i64 30, .int .i64 31, .int .i64 30, .int .i64 31, .int .i64 31, .int .i64 30, .int .i64 31, .int .i64 30, .int .i64 31] t frozen
      | o => o).modify 4 fun
      | .cells _ t frozen => .cells (Go.Pinned.utf8FirstZ.map fun (n : Nat) => Value.int .u8 (n : Int)).toArray t frozen
      | o => o) }
theorem laid_met (os : Os) : laidMet Tryd.prog Rows.fnExactReadDateRow.laid ((laidWorld os).forCall (fun _ _ => 0) ⟨#[], #[.string ByteArray.empty, .string ByteArray.empty], []⟩).memory :=
  laidMet_of_run' 8 (by kernel_rfl) (by kernel_rfl)
theorem reads (os : Os) {H : Type} (enc : TypeId × Value → H) : ∃ places, DataW.whole enc Tryd.prog ((laidWorld os).forCall (fun _ _ => 0) ⟨#[], #[.string ByteArray.empty, .string ByteArray.empty], []⟩).memory Tryd.f4.params.toList Rows.fnExactReadDateSpec.vars false (#[.string ByteArray.empty, .string ByteArray.empty] : Array Value).toList 8 = some ([.lit (.string []), .lit (.string [])], [Rows.laid_loop_example_g00638_impl_monthLengths], places) :=
  ⟨MemPlace.row ⟨1, 0, none⟩ 12 ++ [] ++ [], by kernel_rfl⟩

set_option maxRecDepth 100000 in
theorem lifted (os : Os) (started : os.Started) (H : Type) (enc : TypeId × Value → H) (F : Stop.Interp) :
    ReturnsInHanded {} Tryd.checked os 4 .any ((OpenSpec.ofChange Rows.fnExactReadDateSpec).preRow enc Tryd.prog Tryd.f4 Rows.fnExactReadDateRow.domain false Rows.fnExactReadDateRow.laid) (((OpenSpec.ofChange Rows.fnExactReadDateSpec).at F).post enc Tryd.prog Tryd.f4 false true false false) := by
  obtain ⟨places, hx⟩ := reads os enc
  refine returnsInHanded_of_row (C := Tryd.checked) (s := OpenSpec.ofChange Rows.fnExactReadDateSpec) own started (by kernel_rfl) Tryd.func4
    (witness_row_at (enc := enc) (C := Tryd.checked) false (laidWorld os) #[.string ByteArray.empty, .string ByteArray.empty] rfl (by kernel_rfl) (by kernel_rfl) (by kernel_rfl)
      (OpenSpec.preRow_of_cond 8 hx (by kernel_rfl) (fun k hk => by cases hk) (by kernel_rfl) (laid_met os))) ?_
  intro W base args ds gs before hval hW _ _ _ hL _ _
  exact contract H enc W base args ds gs before hval hW hL

theorem said : Rows.FnExactReadDateSaid :=
  OpenClaim.holds_of_cond 4 Tryd.f4 rfl rfl rfl rfl rfl rfl rfl ⟨rfl, rfl, rfl, rfl, rfl⟩ rfl rfl rfl rfl rfl (by kernel_rfl) Tryd.func4 (by kernel_rfl)
    (of_decide_eq_true (by kernel_rfl)) (by unfold Func.isWrapper; first | (rw [if_pos (by decide +kernel)]; kernel_rfl) | (rw [if_neg (by decide +kernel)]; exact ⟨rfl, rfl⟩))
    (fun os started H enc _ F => by rw [OpenClaim.pre_eq_preRow]; exact lifted os started H enc F)

theorem plain (f : FuncId) (fn : Func) (hf : Tryd.pinned.checked.prog.funcNamed "loop.example/g00638/laws.FnExactReadDate" = some f) (hfn : Tryd.pinned.checked.prog.funcs[f]? = some fn) :
    true = Tryd.pinned.checked.prog.looks [] ∧ ∀ (j : Nat) t, fn.params[j]? = some t → Tryd.pinned.checked.prog.wantsStandIn t = false := by
  obtain rfl : f = 4 := Option.some.inj ((show Tryd.prog.funcNamed "loop.example/g00638/laws.FnExactReadDate" = some 4 by kernel_rfl).symm.trans hf) |>.symm
  obtain rfl : fn = Tryd.f4 := (Option.some.inj (Tryd.func4.symm.trans hfn)).symm
  refine ⟨by kernel_rfl, fun j t ht => ?_⟩
  rw [Tryd.params4] at ht
  obtain rfl : t = 9 := by simpa using Array.mem_of_getElem? ht
  exact (show Tryd.prog.wantsStandIn 9 = false by kernel_rfl)

theorem card : Rows.FnExactReadDateCardSaid :=
  Claim7.holds_tied_plain_at .later [] _ _ _ _ said (fun _ h => by cases h) (by kernel_rfl) (fun _ h => by cases h) fnExactReadDate_row_tie rfl ⟨rfl, rfl⟩ (by kernel_rfl) rfl plain (by kernel_rfl)
end Go.Proofs.YtioiaefjkmgmdaaDoor.fnExactReadDate

namespace Go.Proofs.YtioiaefjkmgmdaaDoor
theorem fnExactReadDate_holds : Rows.FnExactReadDateCardSaid := fnExactReadDate.card
#print axioms fnExactReadDate_holds
end Go.Proofs.YtioiaefjkmgmdaaDoor
