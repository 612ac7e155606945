/- At every text the program's ReadSaying answers as the model's, field by field; nothing that comes in is changed. -/
import Derived.Test.YtoofnjccpoeomaaGreatDoorCards
import Derived.Test.YtoofnjccpoeomaaGreatDoorTie
import Derived.Test.YtoofnjccpoeomaaGreatDoorVarsKit
import Derived.Test.YtoofnjccpoeomaaGreatDoorSayRdT
import Derived.Test.YtoofnjccpoeomaaGreatDoorSrB
import Derived.WalkKit
import Derived.ProofKit
import Derived.OpenShut
import Derived.ShutString
import Derived.ChangeOld
import Derived.Below
import Derived.Deep.DeepHandedRow
import Derived.Lib.LaidTab
import Derived.Lib.SmallJoins
import Derived.Deep.CutRange
namespace Go.Proofs.YtoofnjccpoeomaaGreatDoor.fnExactReadSaying
open Go.ChangeShapes Go.WideShapes Go.ChangeAt Go.RowKit
open Go.ChangeMaps (open_string shut_string)
set_option linter.unusedVariables false

theorem own : ownKnob Tryz.prog.godebug = none := by kernel_rfl
theorem laidOut : laidOutB Tryz.prog = true := by kernel_rfl
theorem g0 : Tryz.prog.globalNamed "math/bits.deBruijn32tab" = some 6 := by kernel_rfl
theorem gt0 : (Tryz.prog.globals[6]?).map (·.type) = some 173 := by kernel_rfl
theorem ce0 : Tryz.prog.cellsOf 5 = 1 := by kernel_rfl
theorem ct0 : Tryz.prog.cellsOf 173 = 32 := by kernel_rfl
theorem tab0 {W : World} (h : laidMetH Tryz.prog Rows.fnExactReadSayingRow.laid W) : Lib.TabIs Tryz.prog W "math/bits.deBruijn32tab" .u8 [0, 1, 28, 2, 29, 14, 24, 3, 30, 22, 20, 15, 25, 17, 4, 8, 31, 27, 13, 23, 21, 19, 16, 7, 26, 12, 18, 6, 11, 5, 10, 9] := by
  have h0 : laidMet Tryz.prog [("math/bits.deBruijn32tab", Rows.laid_math_bits_deBruijn32tab), ("math/bits.deBruijn64tab", Rows.laid_math_bits_deBruijn64tab), ("internal/strconv.uint64pow10", Rows.laid_internal_strconv_uint64pow10), ("loop.example/g00638/impl.digitShapes", Rows.laid_loop_example_g00638_impl_digitShapes), ("loop.example/g00638/impl.monthNames", Rows.laid_loop_example_g00638_impl_monthNames), ("loop.example/g00638/impl.monthLengths", Rows.laid_loop_example_g00638_impl_monthLengths), ("loop.example/g00638/impl.markNames", Rows.laid_loop_example_g00638_impl_markNames)] W := h
  exact Lib.tabIs_of_head (rest := [("math/bits.deBruijn64tab", Rows.laid_math_bits_deBruijn64tab), ("internal/strconv.uint64pow10", Rows.laid_internal_strconv_uint64pow10), ("loop.example/g00638/impl.digitShapes", Rows.laid_loop_example_g00638_impl_digitShapes), ("loop.example/g00638/impl.monthNames", Rows.laid_loop_example_g00638_impl_monthNames), ("loop.example/g00638/impl.monthLengths", Rows.laid_loop_example_g00638_impl_monthLengths), ("loop.example/g00638/impl.markNames", Rows.laid_loop_example_g00638_impl_markNames)]) g0 gt0 Tryz.underlying173 Tryz.underlying5 ce0 ct0 h0
theorem g1 : Tryz.prog.globalNamed "math/bits.deBruijn64tab" = some 7 := by kernel_rfl
theorem gt1 : (Tryz.prog.globals[7]?).map (·.type) = some 174 := by kernel_rfl
theorem ce1 : Tryz.prog.cellsOf 5 = 1 := by kernel_rfl
theorem ct1 : Tryz.prog.cellsOf 174 = 64 := by kernel_rfl
theorem tab1 {W : World} (h : laidMetH Tryz.prog Rows.fnExactReadSayingRow.laid W) : Lib.TabIs Tryz.prog W "math/bits.deBruijn64tab" .u8 [0, 1, 56, 2, 57, 49, 28, 3, 61, 58, 42, 50, 38, 29, 17, 4, 62, 47, 59, 36, 45, 43, 51, 22, 53, 39, 33, 30, 24, 18, 12, 5, 63, 55, 48, 27, 60, 41, 37, 16, 46, 35, 44, 21, 52, 32, 23, 11, 54, 26, 40, 15, 34, 20, 31, 10, 25, 14, 19, 9, 13, 8, 7, 6] := by
  have h0 : laidMet Tryz.prog [("math/bits.deBruijn32tab", Rows.laid_math_bits_deBruijn32tab), ("math/bits.deBruijn64tab", Rows.laid_math_bits_deBruijn64tab), ("internal/strconv.uint64pow10", Rows.laid_internal_strconv_uint64pow10), ("loop.example/g00638/impl.digitShapes", Rows.laid_loop_example_g00638_impl_digitShapes), ("loop.example/g00638/impl.monthNames", Rows.laid_loop_example_g00638_impl_monthNames), ("loop.example/g00638/impl.monthLengths", Rows.laid_loop_example_g00638_impl_monthLengths), ("loop.example/g00638/impl.markNames", Rows.laid_loop_example_g00638_impl_markNames)] W := h
  have h1 := laidMet.tail h0
  exact Lib.tabIs_of_head (rest := [("internal/strconv.uint64pow10", Rows.laid_internal_strconv_uint64pow10), ("loop.example/g00638/impl.digitShapes", Rows.laid_loop_example_g00638_impl_digitShapes), ("loop.example/g00638/impl.monthNames", Rows.laid_loop_example_g00638_impl_monthNames), ("loop.example/g00638/impl.monthLengths", Rows.laid_loop_example_g00638_impl_monthLengths), ("loop.example/g00638/impl.markNames", Rows.laid_loop_example_g00638_impl_markNames)]) g1 gt1 Tryz.underlying174 Tryz.underlying5 ce1 ct1 h1
theorem g2 : Tryz.prog.globalNamed "internal/strconv.uint64pow10" = some 5 := by kernel_rfl
theorem gt2 : (Tryz.prog.globals[5]?).map (·.type) = some 159 := by kernel_rfl
theorem ce2 : Tryz.prog.cellsOf 132 = 1 := by kernel_rfl
theorem ct2 : Tryz.prog.cellsOf 159 = 20 := by kernel_rfl
theorem tab2 {W : World} (h : laidMetH Tryz.prog Rows.fnExactReadSayingRow.laid W) : Lib.TabIs Tryz.prog W "internal/strconv.uint64pow10" .u64 [1, 10, 100, 1000, 10000, 100000, 1000000, 10000000, 100000000, 1000000000, 10000000000, 100000000000, 1000000000000, 10000000000000, 100000000000000, 1000000000000000, 10000000000000000, 100000000000000000, 1000000000000000000, 10000000000000000000] := by
  have h0 : laidMet Tryz.prog [("math/bits.deBruijn32tab", Rows.laid_math_bits_deBruijn32tab), ("math/bits.deBruijn64tab", Rows.laid_math_bits_deBruijn64tab), ("internal/strconv.uint64pow10", Rows.laid_internal_strconv_uint64pow10), ("loop.example/g00638/impl.digitShapes", Rows.laid_loop_example_g00638_impl_digitShapes), ("loop.example/g00638/impl.monthNames", Rows.laid_loop_example_g00638_impl_monthNames), ("loop.example/g00638/impl.monthLengths", Rows.laid_loop_example_g00638_impl_monthLengths), ("loop.example/g00638/impl.markNames", Rows.laid_loop_example_g00638_impl_markNames)] W := h
  have h1 := laidMet.tail h0
  have h2 := laidMet.tail h1
  exact Lib.tabIs_of_head (rest := [("loop.example/g00638/impl.digitShapes", Rows.laid_loop_example_g00638_impl_digitShapes), ("loop.example/g00638/impl.monthNames", Rows.laid_loop_example_g00638_impl_monthNames), ("loop.example/g00638/impl.monthLengths", Rows.laid_loop_example_g00638_impl_monthLengths), ("loop.example/g00638/impl.markNames", Rows.laid_loop_example_g00638_impl_markNames)]) g2 gt2 Tryz.underlying159 Tryz.underlying132 ce2 ct2 h2
theorem g3 : Tryz.prog.globalNamed "loop.example/g00638/impl.digitShapes" = some 4 := by kernel_rfl
theorem gt3 : (Tryz.prog.globals[4]?).map (·.type) = some 157 := by kernel_rfl
theorem ce3 : Tryz.prog.cellsOf 9 = 1 := by kernel_rfl
theorem ct3 : Tryz.prog.cellsOf 157 = 10 := by kernel_rfl
theorem tab3 {W : World} (h : laidMetH Tryz.prog Rows.fnExactReadSayingRow.laid W) : kit.StrIs Tryz.prog W "loop.example/g00638/impl.digitShapes" [[], [97], [97, 97], [97, 97, 97], [97, 98], [98], [98, 97], [98, 97, 97], [98, 97, 97, 97], [97, 99]] := by
  have h0 : laidMet Tryz.prog [("math/bits.deBruijn32tab", Rows.laid_math_bits_deBruijn32tab), ("math/bits.deBruijn64tab", Rows.laid_math_bits_deBruijn64tab), ("internal/strconv.uint64pow10", Rows.laid_internal_strconv_uint64pow10), ("loop.example/g00638/impl.digitShapes", Rows.laid_loop_example_g00638_impl_digitShapes), ("loop.example/g00638/impl.monthNames", Rows.laid_loop_example_g00638_impl_monthNames), ("loop.example/g00638/impl.monthLengths", Rows.laid_loop_example_g00638_impl_monthLengths), ("loop.example/g00638/impl.markNames", Rows.laid_loop_example_g00638_impl_markNames)] W := h
  have h1 := laidMet.tail h0
  have h2 := laidMet.tail h1
  have h3 := laidMet.tail h2
  exact kit.strIs_of_head (rest := [("loop.example/g00638/impl.monthNames", Rows.laid_loop_example_g00638_impl_monthNames), ("loop.example/g00638/impl.monthLengths", Rows.laid_loop_example_g00638_impl_monthLengths), ("loop.example/g00638/impl.markNames", Rows.laid_loop_example_g00638_impl_markNames)]) g3 gt3 Tryz.underlying157 Tryz.underlying9 ce3 ct3 h3
theorem g4 : Tryz.prog.globalNamed "loop.example/g00638/impl.monthNames" = some 0 := by kernel_rfl
theorem gt4 : (Tryz.prog.globals[0]?).map (·.type) = some 104 := by kernel_rfl
theorem ce4 : Tryz.prog.cellsOf 9 = 1 := by kernel_rfl
theorem ct4 : Tryz.prog.cellsOf 104 = 12 := by kernel_rfl
theorem tab4 {W : World} (h : laidMetH Tryz.prog Rows.fnExactReadSayingRow.laid W) : kit.StrIs Tryz.prog W "loop.example/g00638/impl.monthNames" [[106, 97, 110], [102, 101, 98], [109, 97, 114], [97, 112, 114], [109, 97, 121], [106, 117, 110], [106, 117, 108], [97, 117, 103], [115, 101, 112], [111, 99, 116], [110, 111, 118], [100, 101, 99]] := by
  have h0 : laidMet Tryz.prog [("math/bits.deBruijn32tab", Rows.laid_math_bits_deBruijn32tab), ("math/bits.deBruijn64tab", Rows.laid_math_bits_deBruijn64tab), ("internal/strconv.uint64pow10", Rows.laid_internal_strconv_uint64pow10), ("loop.example/g00638/impl.digitShapes", Rows.laid_loop_example_g00638_impl_digitShapes), ("loop.example/g00638/impl.monthNames", Rows.laid_loop_example_g00638_impl_monthNames), ("loop.example/g00638/impl.monthLengths", Rows.laid_loop_example_g00638_impl_monthLengths), ("loop.example/g00638/impl.markNames", Rows.laid_loop_example_g00638_impl_markNames)] W := h
  have h1 := laidMet.tail h0
  have h2 := laidMet.tail h1
  have h3 := laidMet.tail h2
  have h4 := laidMet.tail h3
  exact kit.strIs_of_head (rest := [("loop.example/g00638/impl.monthLengths", Rows.laid_loop_example_g00638_impl_monthLengths), ("loop.example/g00638/impl.markNames", Rows.laid_loop_example_g00638_impl_markNames)]) g4 gt4 Tryz.underlying104 Tryz.underlying9 ce4 ct4 h4
theorem g5 : Tryz.prog.globalNamed "loop.example/g00638/impl.monthLengths" = some 3 := by kernel_rfl
theorem gt5 : (Tryz.prog.globals[3]?).map (·.type) = some 143 := by kernel_rfl
theorem ce5 : Tryz.prog.cellsOf 3 = 1 := by kernel_rfl
theorem ct5 : Tryz.prog.cellsOf 143 = 12 := by kernel_rfl
theorem tab5 {W : World} (h : laidMetH Tryz.prog Rows.fnExactReadSayingRow.laid W) : Lib.TabIs Tryz.prog W "loop.example/g00638/impl.monthLengths" .i64 [31, 28, 31, 30, 31, 30, 31, 31, 30, 31, 30, 31] := by
  have h0 : laidMet Tryz.prog [("math/bits.deBruijn32tab", Rows.laid_math_bits_deBruijn32tab), ("math/bits.deBruijn64tab", Rows.laid_math_bits_deBruijn64tab), ("internal/strconv.uint64pow10", Rows.laid_internal_strconv_uint64pow10), ("loop.example/g00638/impl.digitShapes", Rows.laid_loop_example_g00638_impl_digitShapes), ("loop.example/g00638/impl.monthNames", Rows.laid_loop_example_g00638_impl_monthNames), ("loop.example/g00638/impl.monthLengths", Rows.laid_loop_example_g00638_impl_monthLengths), ("loop.example/g00638/impl.markNames", Rows.laid_loop_example_g00638_impl_markNames)] W := h
  have h1 := laidMet.tail h0
  have h2 := laidMet.tail h1
  have h3 := laidMet.tail h2
  have h4 := laidMet.tail h3
  have h5 := laidMet.tail h4
  exact Lib.tabIs_of_head (rest := [("loop.example/g00638/impl.markNames", Rows.laid_loop_example_g00638_impl_markNames)]) g5 gt5 Tryz.underlying143 Tryz.underlying3 ce5 ct5 h5
theorem g6 : Tryz.prog.globalNamed "loop.example/g00638/impl.markNames" = some 1 := by kernel_rfl
theorem gt6 : (Tryz.prog.globals[1]?).map (·.type) = some 105 := by kernel_rfl
theorem ce6 : Tryz.prog.cellsOf 9 = 1 := by kernel_rfl
theorem ct6 : Tryz.prog.cellsOf 105 = 3 := by kernel_rfl
theorem tab6 {W : World} (h : laidMetH Tryz.prog Rows.fnExactReadSayingRow.laid W) : kit.StrIs Tryz.prog W "loop.example/g00638/impl.markNames" [[107, 97, 108], [110, 111, 110], [105, 100]] := by
  have h0 : laidMet Tryz.prog [("math/bits.deBruijn32tab", Rows.laid_math_bits_deBruijn32tab), ("math/bits.deBruijn64tab", Rows.laid_math_bits_deBruijn64tab), ("internal/strconv.uint64pow10", Rows.laid_internal_strconv_uint64pow10), ("loop.example/g00638/impl.digitShapes", Rows.laid_loop_example_g00638_impl_digitShapes), ("loop.example/g00638/impl.monthNames", Rows.laid_loop_example_g00638_impl_monthNames), ("loop.example/g00638/impl.monthLengths", Rows.laid_loop_example_g00638_impl_monthLengths), ("loop.example/g00638/impl.markNames", Rows.laid_loop_example_g00638_impl_markNames)] W := h
  have h1 := laidMet.tail h0
  have h2 := laidMet.tail h1
  have h3 := laidMet.tail h2
  have h4 := laidMet.tail h3
  have h5 := laidMet.tail h4
  have h6 := laidMet.tail h5
  exact kit.strIs_of_head (rest := []) g6 gt6 Tryz.underlying105 Tryz.underlying9 ce6 ct6 h6

set_option maxRecDepth 100000 in
set_option maxHeartbeats 8000000 in
theorem walk (a0 : ByteArray) (w0 : a0.size ≤ maxLen) (w : World) (tP : Lib.TabIs Tryz.prog w "internal/strconv.uint64pow10" .u64 [1, 10, 100, 1000, 10000, 100000, 1000000, 10000000, 100000000, 1000000000, 10000000000, 100000000000, 1000000000000, 10000000000000, 100000000000000, 1000000000000000, 10000000000000000, 100000000000000000, 1000000000000000000, 10000000000000000000]) (tS : ctr.Shp w) (tN : ctr.Mon w) (tT : ctr.Tab w) (tM : ctr.Mrk w) :
    Calls Tryz.prog 5 #[.string a0] w fun e w' => e = .returned (.bool true) ∧ Below w.heap.size w w' := by
  rw [← ctr.pow10_eq] at tP
  unfold maxLen at w0
  by_cases hbig : 1048576 < a0.size
  · clear tS tN tT tM tP
    go_enter Tryz.func5, Tryz.ntmps5
    go_wp2
    go_ret
    exact ⟨rfl, Below.refl _ _⟩
  have KS := fun W => ctr.specReadSaying a0 W (by omega)
  have KI : ∀ W, Hid (Below w.heap.size w W) → Calls Tryz.prog 15 #[.string a0] W fun e w' => e = .returned (ctr.saidV (ctr.readSay a0)) ∧ Below W.heap.size W w' := fun W h => ctr.implReadSaying a0 W (by omega) (tT.later h.out) (ctr.Shp.later tS h.out) (ctr.Mrk.later tM h.out) (ctr.Mon.later tN h.out) (ctr.PowT.later tP h.out)
  generalize ctr.readSay a0 = q at *
  obtain ⟨⟨⟨k, m, d, ⟨a, b, c, t⟩, f, p⟩, y, so, ca⟩, ok⟩ := q
  have KS' : ∀ W, Calls Tryz.prog 14 #[.string a0] W fun e w' => e = .returned (.tuple #[.agg #[.int .i64 k, .int .i64 m, .int .i64 d, .int .i64 a, .int .i64 b, .int .i64 c, .bool t, .string f, .int .i64 p, .int .i64 y, .int .i64 so, .int .i64 ca], .bool ok]) ∧ Below W.heap.size W w' := KS
  have KI' : ∀ W, Hid (Below w.heap.size w W) → Calls Tryz.prog 15 #[.string a0] W fun e w' => e = .returned (.tuple #[.agg #[.int .i64 k, .int .i64 m, .int .i64 d, .int .i64 a, .int .i64 b, .int .i64 c, .bool t, .string f, .int .i64 p, .int .i64 y, .int .i64 so, .int .i64 ca], .bool ok]) ∧ Below W.heap.size W w' := KI
  have KE := fun W => ctr.eqSay k m d a b c t f p y so ca W
  clear tS tN tT tM tP KS KI
  go_enter Tryz.func5, Tryz.ntmps5
  go_wp2_with fail
  refine (KS' _).mono ?_
  rintro e wA ⟨rfl, hb⟩
  obtain ⟨x1, rfl⟩ := ctr.Later.of hb
  clear hb
  obtain ⟨W1, e1⟩ : ∃ W1, W1 = x1.w.alloc (.cells #[.int .i64 k, .int .i64 m, .int .i64 d, .int .i64 a, .int .i64 b, .int .i64 c, .bool t, .string f, .int .i64 p, .int .i64 y, .int .i64 so, .int .i64 ca] 38) := ⟨_, rfl⟩
  have Z1 : Hid (ctr.Blk W1 x1.w.heap.size #[.int .i64 k, .int .i64 m, .int .i64 d, .int .i64 a, .int .i64 b, .int .i64 c, .bool t, .string f, .int .i64 p, .int .i64 y, .int .i64 so, .int .i64 ca] 38) := by unfold Hid; rw [e1]; exact ctr.Blk.new _ _ _
  have B1 : Hid (Below w.heap.size w W1) := by unfold Hid; rw [e1]; exact x1.below.alloc x1.below.size _
  have E1 := ctr.hideP e1
  clear e1
  go_wp2_with fail
  rw [← E1.out]
  refine (KI' W1 B1).mono ?_
  rintro e wB ⟨rfl, hb⟩
  have Z2 : Hid (ctr.Blk wB x1.w.heap.size #[.int .i64 k, .int .i64 m, .int .i64 d, .int .i64 a, .int .i64 b, .int .i64 c, .bool t, .string f, .int .i64 p, .int .i64 y, .int .i64 so, .int .i64 ca] 38) := Z1.out.below hb Z1.out.lt
  have B2 : Hid (Below w.heap.size w wB) := B1.out.trans (hb.mono B1.out.size)
  clear hb E1
  obtain ⟨W3, e3⟩ : ∃ W3, W3 = wB.alloc (.cells #[.int .i64 k, .int .i64 m, .int .i64 d, .int .i64 a, .int .i64 b, .int .i64 c, .bool t, .string f, .int .i64 p, .int .i64 y, .int .i64 so, .int .i64 ca] 38) := ⟨_, rfl⟩
  have Z3 : Hid (ctr.Blk W3 x1.w.heap.size #[.int .i64 k, .int .i64 m, .int .i64 d, .int .i64 a, .int .i64 b, .int .i64 c, .bool t, .string f, .int .i64 p, .int .i64 y, .int .i64 so, .int .i64 ca] 38) := by unfold Hid; rw [e3]; exact Z2.out.alloc _
  have Z4 : Hid (ctr.Blk W3 wB.heap.size #[.int .i64 k, .int .i64 m, .int .i64 d, .int .i64 a, .int .i64 b, .int .i64 c, .bool t, .string f, .int .i64 p, .int .i64 y, .int .i64 so, .int .i64 ca] 38) := by unfold Hid; rw [e3]; exact ctr.Blk.new _ _ _
  have B3 : Hid (Below w.heap.size w W3) := by unfold Hid; rw [e3]; exact B2.out.alloc B2.out.size _
  have E3 := ctr.hideP e3
  clear e3
  have c0 : W3.cell? ⟨x1.w.heap.size, 0, none⟩ = some (.int .i64 k) := Z3.out.cell 0 rfl
  have d0 : W3.cell? ⟨wB.heap.size, 0, none⟩ = some (.int .i64 k) := Z4.out.cell 0 rfl
  have c1 : W3.cell? ⟨x1.w.heap.size, 1, none⟩ = some (.int .i64 m) := Z3.out.cell 1 rfl
  have d1 : W3.cell? ⟨wB.heap.size, 1, none⟩ = some (.int .i64 m) := Z4.out.cell 1 rfl
  have c2 : W3.cell? ⟨x1.w.heap.size, 2, none⟩ = some (.int .i64 d) := Z3.out.cell 2 rfl
  have d2 : W3.cell? ⟨wB.heap.size, 2, none⟩ = some (.int .i64 d) := Z4.out.cell 2 rfl
  have c3 : W3.cell? ⟨x1.w.heap.size, 3, none⟩ = some (.int .i64 a) := Z3.out.cell 3 rfl
  have d3 : W3.cell? ⟨wB.heap.size, 3, none⟩ = some (.int .i64 a) := Z4.out.cell 3 rfl
  have c4 : W3.cell? ⟨x1.w.heap.size, 4, none⟩ = some (.int .i64 b) := Z3.out.cell 4 rfl
  have d4 : W3.cell? ⟨wB.heap.size, 4, none⟩ = some (.int .i64 b) := Z4.out.cell 4 rfl
  have c5 : W3.cell? ⟨x1.w.heap.size, 5, none⟩ = some (.int .i64 c) := Z3.out.cell 5 rfl
  have d5 : W3.cell? ⟨wB.heap.size, 5, none⟩ = some (.int .i64 c) := Z4.out.cell 5 rfl
  have c6 : W3.cell? ⟨x1.w.heap.size, 6, none⟩ = some (.bool t) := Z3.out.cell 6 rfl
  have d6 : W3.cell? ⟨wB.heap.size, 6, none⟩ = some (.bool t) := Z4.out.cell 6 rfl
  have c7 : W3.cell? ⟨x1.w.heap.size, 7, none⟩ = some (.string f) := Z3.out.cell 7 rfl
  have d7 : W3.cell? ⟨wB.heap.size, 7, none⟩ = some (.string f) := Z4.out.cell 7 rfl
  have c8 : W3.cell? ⟨x1.w.heap.size, 8, none⟩ = some (.int .i64 p) := Z3.out.cell 8 rfl
  have d8 : W3.cell? ⟨wB.heap.size, 8, none⟩ = some (.int .i64 p) := Z4.out.cell 8 rfl
  have c9 : W3.cell? ⟨x1.w.heap.size, 9, none⟩ = some (.int .i64 y) := Z3.out.cell 9 rfl
  have d9 : W3.cell? ⟨wB.heap.size, 9, none⟩ = some (.int .i64 y) := Z4.out.cell 9 rfl
  have c10 : W3.cell? ⟨x1.w.heap.size, 10, none⟩ = some (.int .i64 so) := Z3.out.cell 10 rfl
  have d10 : W3.cell? ⟨wB.heap.size, 10, none⟩ = some (.int .i64 so) := Z4.out.cell 10 rfl
  have c11 : W3.cell? ⟨x1.w.heap.size, 11, none⟩ = some (.int .i64 ca) := Z3.out.cell 11 rfl
  have d11 : W3.cell? ⟨wB.heap.size, 11, none⟩ = some (.int .i64 ca) := Z4.out.cell 11 rfl
  go_upto_region 5 with fail
  rw [← E3.out]
  go_wp2_with fail
  refine (KE _).mono ?_
  rintro e wC ⟨rfl, hb⟩
  have B4 : Hid (Below w.heap.size w wC) := B3.out.trans (hb.mono B3.out.size)
  clear hb
  cases ok
  all_goals go_wp2
  all_goals go_ret
  all_goals exact ⟨rfl, B4.out⟩

theorem readable : ∀ m ∈ Rows.fnExactReadSayingSpec.vars, ∀ g t, Tryz.prog.globalNamed m = some g → (Tryz.prog.globals[g]?).map (·.type) = some t → Tryz.prog.readableRec t = true ∧ t < Tryz.prog.types.size := by
  intro m hm g t h1 h2
  have hm' : m = "loop.example/g00638/impl.digitShapes" ∨ m = "loop.example/g00638/impl.markNames" ∨ m = "loop.example/g00638/impl.monthNames" ∨ m = "loop.example/g00638/impl.monthLengths" := by simpa [Rows.fnExactReadSayingSpec] using hm
  rcases hm' with rfl | rfl | rfl | rfl
  · obtain rfl := Option.some.inj (g3.symm.trans h1)
    obtain rfl := Option.some.inj (gt3.symm.trans h2)
    exact ⟨by kernel_rfl, of_decide_eq_true (by kernel_rfl)⟩
  · obtain rfl := Option.some.inj (g6.symm.trans h1)
    obtain rfl := Option.some.inj (gt6.symm.trans h2)
    exact ⟨by kernel_rfl, of_decide_eq_true (by kernel_rfl)⟩
  · obtain rfl := Option.some.inj (g4.symm.trans h1)
    obtain rfl := Option.some.inj (gt4.symm.trans h2)
    exact ⟨by kernel_rfl, of_decide_eq_true (by kernel_rfl)⟩
  · obtain rfl := Option.some.inj (g5.symm.trans h1)
    obtain rfl := Option.some.inj (gt5.symm.trans h2)
    exact ⟨by kernel_rfl, of_decide_eq_true (by kernel_rfl)⟩

set_option maxRecDepth 100000 in
theorem contract (H : Type) (enc : TypeId × Value → H) (W : World) (base : Nat) (args : Array Value) (ds gs : List (DataW H)) (before : List MemPlace)
    (hval : ∀ (j : Nat) t v, Tryz.f5.params[j]? = some t → args[j]? = some v → Value.okWide Tryz.prog W .any base t v)
    (hW : DataW.Whole enc Tryz.prog Tryz.f5.params.toList Rows.fnExactReadSayingSpec.vars false W args.toList ds gs before) (hL : laidMetH Tryz.prog Rows.fnExactReadSayingRow.laid W) :
    Calls Tryz.prog 5 args W fun e W' => ∃ v, e = .returned v ∧ Rows.fnExactReadSayingSpec.post enc Tryz.prog Tryz.f5 false true false false W args v W' := by
  have hW' := hW
  obtain ⟨p, q, hA0, hV, rfl, hfz, hnd⟩ := hW
  have hA : DataW.TrodAll enc Tryz.prog W 0 (fun _ => true) true Tryz.f5.params.toList args.toList ds p := hA0
  rw [Tryz.params5] at hA hval
  obtain ⟨v0, vs0, d0, ds0, p0, q0, hargs, rfl, rfl, h0, r0⟩ := trodAll_cons hA
  obtain ⟨rfl, rfl, rfl⟩ := trodAll_nil r0
  obtain rfl : args = #[v0] := by cases args; simp_all
  have hk : ∀ W', Below W.heap.size W W' → DataW.TrodVars enc Tryz.prog W' (fun b => decide (b < W.heap.size)) Rows.fnExactReadSayingSpec.vars gs q := fun W' hb => kit.trodVars_kept laidOut hb readable hV (DataW.TrodVars.lt hV)
  obtain ⟨g1, g2, g3, g4, rfl⟩ : ∃ g1 g2 g3 g4, gs = [g1, g2, g3, g4] := kit.gs_four hV
  obtain ⟨a0, rfl, rfl, rfl, w0⟩ := open_string Tryz.underlying9 (hval 0 9 v0 rfl rfl) h0
  clear hA0
  refine (walk a0 w0 W (tab2 hL) (tab3 hL) (tab4 hL) (tab5 hL) (tab6 hL)).mono fun e W' ⟨he, bel⟩ => ?_
  subst he
  exact ⟨_, rfl, _, _, _, [], [], _, hW', trodAll_mk1 (shut_bool Tryz.underlying4 _), trodAll_cons_mk (shut_string Tryz.underlying9 w0) (trodAll_mk0), hk W' bel, bel.frame _, fun h => by cases h⟩

/-- A world for the witness: the settled one, each listed table holding what its initialiser lays. -/
noncomputable def laidWorld (os : Os) : World :=
  { World.holding Tryz.prog os ⟨#[], #[], []⟩ with heap := ((((((((World.holding Tryz.prog os ⟨#[], #[], []⟩).heap.modify 6 fun
      | .cells _ t frozen => .cells #[.int .u8 0, .int .u8 1, .int .u8 28, .int .u8 2, .int .u8 29, .int .u8 14, .int .u8 24, .int .u8 3, .int .u8 30, .int .u8 22, .int .u8 20, .int .u8 15, .int .u8 25, .int .u8 17, .int .u8 4, .int .u8 8, .int .u8 31, .int .u8 27, .int .u8 13, .int .u8 23, .int .u8 21, .int .u8 19, .int .u8 16, .int .u8 7, .int .u8 26, .int .u8 12, .int .u8 18, .int .u8 6, .int .u8 11, .int .u8 5, .int .u8 10, .int .u8 9] t frozen
      | o => o).modify 7 fun
      | .cells _ t frozen => .cells #[.int .u8 0, .int .u8 1, .int .u8 56, .int .u8 2, .int .u8 57, .int .u8 49, .int .u8 28, .int .u8 3, .int .u8 61, .int .u8 58, .int .u8 42, .int .u8 50, .int .u8 38, .int .u8 29, .int .u8 17, .int .u8 4, .int .u8 62, .int .u8 47, .int .u8 59, .int .u8 36, .int .u8 45, .int .u8 43, .int .u8 51, .int .u8 22, .int .u8 53, .int .u8 39, .int .u8 33, .int .u8 30, .int .u8 24, .int .u8 18, .int .u8 12, .int .u8 5, .int .u8 63, .int .u8 55, .int .u8 48, .int .u8 27, .int .u8 60, .int .u8 41, .int .u8 37, .int .u8 16, .int .u8 46, .int .u8 35, .int .u8 44, .int .u8 21, .int .u8 52, .int .u8 32, .int .u8 23, .int .u8 11, .int .u8 54, .int .u8 26, .int .u8 40, .int .u8 15, .int .u8 34, .int .u8 20, .int .u8 31, .int .u8 10, .int .u8 25, .int .u8 14, .int .u8 19, .int .u8 9, .int .u8 13, .int .u8 8, .int .u8 7, .int .u8 6] t frozen
      | o => o).modify 5 fun
      | .cells _ t frozen => .cells #[.int .u64 1, .int .u64 10, .int .u64 100, .int .u64 1000, .int .u64 10000, .int .u64 100000, .int .u64 1000000, .int .u64 10000000, .int .u64 100000000, .int .u64 1000000000, .int .u64 10000000000, .int .u64 100000000000, .int .u64 1000000000000, .int .u64 10000000000000, .int .u64 100000000000000, .int .u64 1000000000000000, .int .u64 10000000000000000, .int .u64 100000000000000000, .int .u64 1000000000000000000, .int .u64 10000000000000000000] t frozen
      | o => o).modify 4 fun
      | .cells _ t frozen => .cells #[.string ⟨#[]⟩, .string ⟨#[97]⟩, .string ⟨#[97, 97]⟩, .string ⟨#[97, 97, 97]⟩, .string ⟨#[97, 98]⟩, .string ⟨#[98]⟩, .string ⟨#[98, 97]⟩, .string ⟨#[98, 97, 97]⟩, .string ⟨#[98, 97, 97, 97]⟩, .string ⟨#[97, 99]⟩] t frozen
      | o => o).modify 0 fun
      | .cells _ t frozen => .cells #[.string ⟨#[106, 97, 110]⟩, .string ⟨#[102, 101, 98]⟩, .string ⟨#[109, 97, 114]⟩, .string ⟨#[97, 112, 114]⟩, .string ⟨#[109, 97, 121]⟩, .string ⟨#[106, 117, 110]⟩, .string ⟨#[106, 117, 108]⟩, .string ⟨#[97, 117, 103]⟩, .string ⟨#[115, 101, 112]⟩, .string ⟨#[111, 99, 116]⟩, .string ⟨#[110, 111, 118]⟩, .string ⟨#[100, 101, 99]⟩] t frozen
      | o => o).modify 3 fun
      | .cells _ t frozen => .cells #[.int .i64 31, .int .i64 28, .int .i64 31, .int .i64 30, .int .i64 31, .int .i64 30, .int .i64 31, .int .i64 31, .int .i64 30, .int .i64 31, .int .i64 30, .int .i64 31] t frozen
      | o => o).modify 1 fun
      | .cells _ t frozen => .cells #[.string ⟨#[107, 97, 108]⟩, .string ⟨#[110, 111, 110]⟩, .string ⟨#[105, 100]⟩] t frozen
      | o => o) }
theorem laid_met (os : Os) : laidMet Tryz.prog Rows.fnExactReadSayingRow.laid ((laidWorld os).forCall (fun _ _ => 0) ⟨#[], #[.string ByteArray.empty], []⟩).memory :=
  laidMet_of_run' 8 (by kernel_rfl) (by kernel_rfl)
theorem reads (os : Os) {H : Type} (enc : TypeId × Value → H) : ∃ places, DataW.whole enc Tryz.prog ((laidWorld os).forCall (fun _ _ => 0) ⟨#[], #[.string ByteArray.empty], []⟩).memory Tryz.f5.params.toList Rows.fnExactReadSayingSpec.vars false (#[.string ByteArray.empty] : Array Value).toList 8 = some ([.lit (.string [])], [Rows.laid_loop_example_g00638_impl_digitShapes, Rows.laid_loop_example_g00638_impl_markNames, Rows.laid_loop_example_g00638_impl_monthNames, Rows.laid_loop_example_g00638_impl_monthLengths], places) :=
  ⟨MemPlace.row ⟨4, 0, none⟩ 10 ++ [] ++ MemPlace.row ⟨1, 0, none⟩ 3 ++ [] ++ MemPlace.row ⟨0, 0, none⟩ 12 ++ [] ++ MemPlace.row ⟨3, 0, none⟩ 12 ++ [] ++ [], by kernel_rfl⟩

set_option maxRecDepth 100000 in
theorem lifted (os : Os) (started : os.Started) (H : Type) (enc : TypeId × Value → H) (F : Stop.Interp) :
    ReturnsInHanded {} Tryz.checked os 5 .any ((OpenSpec.ofChange Rows.fnExactReadSayingSpec).preRow enc Tryz.prog Tryz.f5 Rows.fnExactReadSayingRow.domain false Rows.fnExactReadSayingRow.laid) (((OpenSpec.ofChange Rows.fnExactReadSayingSpec).at F).post enc Tryz.prog Tryz.f5 false true false false) := by
  obtain ⟨places, hx⟩ := reads os enc
  refine returnsInHanded_of_row (C := Tryz.checked) (s := OpenSpec.ofChange Rows.fnExactReadSayingSpec) own started (by kernel_rfl) Tryz.func5
    (witness_row_at (enc := enc) (C := Tryz.checked) false (laidWorld os) #[.string ByteArray.empty] rfl (by kernel_rfl) (by kernel_rfl) (by kernel_rfl)
      (OpenSpec.preRow_of_cond 8 hx (by kernel_rfl) (fun k hk => by cases hk) (by kernel_rfl) (laid_met os))) ?_
  intro W base args ds gs before hval hW _ _ _ hL _ _
  exact contract H enc W base args ds gs before hval hW hL

theorem said : Rows.FnExactReadSayingSaid :=
  OpenClaim.holds_of_cond 5 Tryz.f5 rfl rfl rfl rfl rfl rfl rfl ⟨rfl, rfl, rfl, rfl, rfl⟩ rfl rfl rfl rfl rfl (by kernel_rfl) Tryz.func5 (by kernel_rfl)
    (of_decide_eq_true (by kernel_rfl)) (by unfold Func.isWrapper; first | (rw [if_pos (by decide +kernel)]; kernel_rfl) | (rw [if_neg (by decide +kernel)]; exact ⟨rfl, rfl⟩))
    (fun os started H enc _ F => by rw [OpenClaim.pre_eq_preRow]; exact lifted os started H enc F)

theorem plain (f : FuncId) (fn : Func) (hf : Tryz.pinned.checked.prog.funcNamed "loop.example/g00638/laws.FnExactReadSaying" = some f) (hfn : Tryz.pinned.checked.prog.funcs[f]? = some fn) :
    true = Tryz.pinned.checked.prog.looks [] ∧ ∀ (j : Nat) t, fn.params[j]? = some t → Tryz.pinned.checked.prog.wantsStandIn t = false := by
  obtain rfl : f = 5 := Option.some.inj ((show Tryz.prog.funcNamed "loop.example/g00638/laws.FnExactReadSaying" = some 5 by kernel_rfl).symm.trans hf) |>.symm
  obtain rfl : fn = Tryz.f5 := (Option.some.inj (Tryz.func5.symm.trans hfn)).symm
  refine ⟨by kernel_rfl, fun j t ht => ?_⟩
  rw [Tryz.params5] at ht
  obtain rfl : t = 9 := by simpa using Array.mem_of_getElem? ht
  exact (show Tryz.prog.wantsStandIn 9 = false by kernel_rfl)

theorem card : Rows.FnExactReadSayingCardSaid :=
  Claim7.holds_tied_plain_at .later [] _ _ _ _ said (fun _ h => by cases h) (by kernel_rfl) (fun _ h => by cases h) fnExactReadSaying_row_tie rfl ⟨rfl, rfl⟩ (by kernel_rfl) rfl plain (by kernel_rfl)
end Go.Proofs.YtoofnjccpoeomaaGreatDoor.fnExactReadSaying

namespace Go.Proofs.YtoofnjccpoeomaaGreatDoor
theorem fnExactReadSaying_holds : Rows.FnExactReadSayingCardSaid := fnExactReadSaying.card
#print axioms fnExactReadSaying_holds
end Go.Proofs.YtoofnjccpoeomaaGreatDoor
