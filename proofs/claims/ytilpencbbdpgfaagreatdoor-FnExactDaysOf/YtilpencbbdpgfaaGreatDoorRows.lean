/-
  NARROWER THAN 'FOR EVERY INPUT', by the rows' own cells (each row's printed sentence says how): FnExactReadingOf: ifaces, laid · FnExactDaysOf: ifaces, laid · FnExactShift: ifaces, laid · FnExactNextDay: ifaces, laid · FnExactRead: ifaces, laid · FnExactWhens: ifaces, laid · FnExactMarked: ifaces, laid · FnExactMarks: ifaces, laid · FnExactWrite: ifaces, laid · FnExactConcord: ifaces, laid · FnExactSame: ifaces, laid · FnExactMeet: ifaces, laid.
  DERIVED. THE GIVEN ROWS OF THIS SEAT. 12 by the template 'for every input the law returns true; each argument reads behind the call as it read before'; 0 by the template 'total and deterministic' (their statements: YtilpencbbdpgfaaGreatDoorTotals.lean).
  GIVEN WITH THE SEED: the statements are not yours to turn. If you find one false, say at which input.
  Laid BY PROGRAM, IN A SANDBOX (cutbox-rows.mjs): the forced cells as the released guide's own fill.sh prints them over the translation 8aa29be54c006b1c… (all of the seat's roots in one cut). By AI agents, Wed Nov 11 2026. No macro, syntax, notation, axiom, sorry.
-/
import Derived.Test.YtilpencbbdpgfaaGreatDoorChecked
import GoSem.Claim
import GoSem.ClaimJoined
import GoSem.ClaimMapViews
import Derived.JoinedTies
import Derived.KernelRfl
namespace Go.Proofs.YtilpencbbdpgfaaGreatDoor
/- THE CELL 'sum', in the pinned program and in every row, IS THE sha256 OF THE DUMP (.gsa) THAT YtilpencbbdpgfaaGreatDoorProg.lean LOADS. Nothing in Lean hashes anything: it is a label: what it is worth is what the hold of that sum in a sandbox is worth. -/
noncomputable def Tryz.pinned : Pinned := { name := "ytilpencbbdpgfaagreatdoor", sum := "8aa29be54c006b1c6ec1dc3630b213085096e6b3be66a6bdff6afdb5e9592658", checked := Tryz.checked }
namespace Rows
def none {H : Type} : Left H := { results := [], args := [] }

/- WHAT THE LISTED PACKAGE-LEVEL VARIABLES READ AS WHEN THE CALL BEGINS. Each datum BY PROGRAM (the guide's laid-datum.mjs) off the statement by which the dump's own 'gosem.cut.vars' lays the variable. In a bare row this is a premise. The card (YtilpencbbdpgfaaGreatDoorCards.lean) ties it to the program's text. -/
def laid_errors_errorType {H : Type} : DataW H := .iface "internal/reflectlite.rtype" (.agg [.ptr (.lit (.string [101, 114, 114, 111, 114]))])
def laid_loop_example_g00638_impl_monthLengths {H : Type} : DataW H := .agg [.lit (.int .i64 31), .lit (.int .i64 28), .lit (.int .i64 31), .lit (.int .i64 30), .lit (.int .i64 31), .lit (.int .i64 30), .lit (.int .i64 31), .lit (.int .i64 31), .lit (.int .i64 30), .lit (.int .i64 31), .lit (.int .i64 30), .lit (.int .i64 31)]
def laid_loop_example_g00638_impl_errNoTable {H : Type} : DataW H := .iface "*errors.errorString" (.ptr (.agg [.lit (.string [110, 111, 32, 116, 97, 98, 108, 101, 32, 111, 102, 32, 114, 101, 105, 103, 110, 115])]))
def laid_math_bits_deBruijn32tab {H : Type} : DataW H := .agg [.lit (.int .u8 0), .lit (.int .u8 1), .lit (.int .u8 28), .lit (.int .u8 2), .lit (.int .u8 29), .lit (.int .u8 14), .lit (.int .u8 24), .lit (.int .u8 3), .lit (.int .u8 30), .lit (.int .u8 22), .lit (.int .u8 20), .lit (.int .u8 15), .lit (.int .u8 25), .lit (.int .u8 17), .lit (.int .u8 4), .lit (.int .u8 8), .lit (.int .u8 31), .lit (.int .u8 27), .lit (.int .u8 13), .lit (.int .u8 23), .lit (.int .u8 21), .lit (.int .u8 19), .lit (.int .u8 16), .lit (.int .u8 7), .lit (.int .u8 26), .lit (.int .u8 12), .lit (.int .u8 18), .lit (.int .u8 6), .lit (.int .u8 11), .lit (.int .u8 5), .lit (.int .u8 10), .lit (.int .u8 9)]
def laid_math_bits_deBruijn64tab {H : Type} : DataW H := .agg [.lit (.int .u8 0), .lit (.int .u8 1), .lit (.int .u8 56), .lit (.int .u8 2), .lit (.int .u8 57), .lit (.int .u8 49), .lit (.int .u8 28), .lit (.int .u8 3), .lit (.int .u8 61), .lit (.int .u8 58), .lit (.int .u8 42), .lit (.int .u8 50), .lit (.int .u8 38), .lit (.int .u8 29), .lit (.int .u8 17), .lit (.int .u8 4), .lit (.int .u8 62), .lit (.int .u8 47), .lit (.int .u8 59), .lit (.int .u8 36), .lit (.int .u8 45), .lit (.int .u8 43), .lit (.int .u8 51), .lit (.int .u8 22), .lit (.int .u8 53), .lit (.int .u8 39), .lit (.int .u8 33), .lit (.int .u8 30), .lit (.int .u8 24), .lit (.int .u8 18), .lit (.int .u8 12), .lit (.int .u8 5), .lit (.int .u8 63), .lit (.int .u8 55), .lit (.int .u8 48), .lit (.int .u8 27), .lit (.int .u8 60), .lit (.int .u8 41), .lit (.int .u8 37), .lit (.int .u8 16), .lit (.int .u8 46), .lit (.int .u8 35), .lit (.int .u8 44), .lit (.int .u8 21), .lit (.int .u8 52), .lit (.int .u8 32), .lit (.int .u8 23), .lit (.int .u8 11), .lit (.int .u8 54), .lit (.int .u8 26), .lit (.int .u8 40), .lit (.int .u8 15), .lit (.int .u8 34), .lit (.int .u8 20), .lit (.int .u8 31), .lit (.int .u8 10), .lit (.int .u8 25), .lit (.int .u8 14), .lit (.int .u8 19), .lit (.int .u8 9), .lit (.int .u8 13), .lit (.int .u8 8), .lit (.int .u8 7), .lit (.int .u8 6)]
def laid_internal_strconv_uint64pow10 {H : Type} : DataW H := .agg [.lit (.int .u64 1), .lit (.int .u64 10), .lit (.int .u64 100), .lit (.int .u64 1000), .lit (.int .u64 10000), .lit (.int .u64 100000), .lit (.int .u64 1000000), .lit (.int .u64 10000000), .lit (.int .u64 100000000), .lit (.int .u64 1000000000), .lit (.int .u64 10000000000), .lit (.int .u64 100000000000), .lit (.int .u64 1000000000000), .lit (.int .u64 10000000000000), .lit (.int .u64 100000000000000), .lit (.int .u64 1000000000000000), .lit (.int .u64 10000000000000000), .lit (.int .u64 100000000000000000), .lit (.int .u64 1000000000000000000), .lit (.int .u64 10000000000000000000)]
def laid_loop_example_g00638_impl_digitShapes {H : Type} : DataW H := .agg [.lit (.string []), .lit (.string [97]), .lit (.string [97, 97]), .lit (.string [97, 97, 97]), .lit (.string [97, 98]), .lit (.string [98]), .lit (.string [98, 97]), .lit (.string [98, 97, 97]), .lit (.string [98, 97, 97, 97]), .lit (.string [97, 99])]
def laid_loop_example_g00638_impl_monthNames {H : Type} : DataW H := .agg [.lit (.string [106, 97, 110]), .lit (.string [102, 101, 98]), .lit (.string [109, 97, 114]), .lit (.string [97, 112, 114]), .lit (.string [109, 97, 121]), .lit (.string [106, 117, 110]), .lit (.string [106, 117, 108]), .lit (.string [97, 117, 103]), .lit (.string [115, 101, 112]), .lit (.string [111, 99, 116]), .lit (.string [110, 111, 118]), .lit (.string [100, 101, 99])]
def laid_loop_example_g00638_impl_markNames {H : Type} : DataW H := .agg [.lit (.string [107, 97, 108]), .lit (.string [110, 111, 110]), .lit (.string [105, 100])]

/-- 'laws.FnExactReadingOf': WHATEVER THE INPUT: true; the input reads as it did. -/
def fnExactReadingOfSpec : ChangeSpec := { name := "fnExactReadingOf", vars := ["loop.example/g00638/impl.errNoTable", "loop.example/g00638/impl.monthLengths"], fn := fun _ => fun
  | [d1, d2, g1, g2] => { results := [.lit (.bool true)], args := [d1, d2], vars := [g1, g2] }
  | _ => none }
def fnExactReadingOfRow : OpenClaim := { program := "ytilpencbbdpgfaagreatdoor", sum := "8aa29be54c006b1c6ec1dc3630b213085096e6b3be66a6bdff6afdb5e9592658", func := "loop.example/g00638/laws.FnExactReadingOf", spec := "fnExactReadingOf", inPlace := ["internal/reflectlite.ValueOf", "(internal/reflectlite.Value).Type", "(internal/reflectlite.Value).IsNil", "internal/reflectlite.TypeOf", "(internal/reflectlite.Value).Elem", "(internal/reflectlite.Value).Set"], unfollowed := true, recurses := true, named := ["errors.errorType", "loop.example/g00638/impl.errNoTable", "loop.example/g00638/impl.monthLengths"], ifaces := true, apart := false, laid := [("errors.errorType", laid_errors_errorType), ("loop.example/g00638/impl.monthLengths", laid_loop_example_g00638_impl_monthLengths), ("loop.example/g00638/impl.errNoTable", laid_loop_example_g00638_impl_errNoTable)] }
def FnExactReadingOfSaid : Prop := fnExactReadingOfRow.holds Tryz.pinned (OpenSpec.ofChange fnExactReadingOfSpec)

/-- ITS FALSE NEIGHBOUR: 'it returns false'. Refute it at one input. -/
def fnExactReadingOfWrong : ChangeSpec := { name := "fnExactReadingOf", vars := ["loop.example/g00638/impl.errNoTable", "loop.example/g00638/impl.monthLengths"], fn := fun _ => fun
  | [d1, d2, g1, g2] => { results := [.lit (.bool false)], args := [d1, d2], vars := [g1, g2] }
  | _ => none }
def FnExactReadingOfWrongFalsely : Prop := fnExactReadingOfRow.holds Tryz.pinned (OpenSpec.ofChange fnExactReadingOfWrong)

/-- 'laws.FnExactDaysOf': WHATEVER THE INPUT: true; the input reads as it did. -/
def fnExactDaysOfSpec : ChangeSpec := { name := "fnExactDaysOf", vars := ["loop.example/g00638/impl.errNoTable", "loop.example/g00638/impl.monthLengths"], fn := fun _ => fun
  | [d1, d2, g1, g2] => { results := [.lit (.bool true)], args := [d1, d2], vars := [g1, g2] }
  | _ => none }
def fnExactDaysOfRow : OpenClaim := { program := "ytilpencbbdpgfaagreatdoor", sum := "8aa29be54c006b1c6ec1dc3630b213085096e6b3be66a6bdff6afdb5e9592658", func := "loop.example/g00638/laws.FnExactDaysOf", spec := "fnExactDaysOf", inPlace := ["internal/reflectlite.ValueOf", "(internal/reflectlite.Value).Type", "(internal/reflectlite.Value).IsNil", "internal/reflectlite.TypeOf", "(internal/reflectlite.Value).Elem", "(internal/reflectlite.Value).Set"], unfollowed := true, recurses := true, named := ["errors.errorType", "loop.example/g00638/impl.errNoTable", "loop.example/g00638/impl.monthLengths"], ifaces := true, apart := false, laid := [("errors.errorType", laid_errors_errorType), ("loop.example/g00638/impl.monthLengths", laid_loop_example_g00638_impl_monthLengths), ("loop.example/g00638/impl.errNoTable", laid_loop_example_g00638_impl_errNoTable)] }
def FnExactDaysOfSaid : Prop := fnExactDaysOfRow.holds Tryz.pinned (OpenSpec.ofChange fnExactDaysOfSpec)

/-- ITS FALSE NEIGHBOUR: 'it returns false'. Refute it at one input. -/
def fnExactDaysOfWrong : ChangeSpec := { name := "fnExactDaysOf", vars := ["loop.example/g00638/impl.errNoTable", "loop.example/g00638/impl.monthLengths"], fn := fun _ => fun
  | [d1, d2, g1, g2] => { results := [.lit (.bool false)], args := [d1, d2], vars := [g1, g2] }
  | _ => none }
def FnExactDaysOfWrongFalsely : Prop := fnExactDaysOfRow.holds Tryz.pinned (OpenSpec.ofChange fnExactDaysOfWrong)

/-- 'laws.FnExactShift': WHATEVER THE INPUT: true; the input reads as it did. -/
def fnExactShiftSpec : ChangeSpec := { name := "fnExactShift", vars := ["loop.example/g00638/impl.errNoTable", "loop.example/g00638/impl.monthLengths"], fn := fun _ => fun
  | [d1, d2, g1, g2] => { results := [.lit (.bool true)], args := [d1, d2], vars := [g1, g2] }
  | _ => none }
def fnExactShiftRow : OpenClaim := { program := "ytilpencbbdpgfaagreatdoor", sum := "8aa29be54c006b1c6ec1dc3630b213085096e6b3be66a6bdff6afdb5e9592658", func := "loop.example/g00638/laws.FnExactShift", spec := "fnExactShift", inPlace := ["internal/reflectlite.ValueOf", "(internal/reflectlite.Value).Type", "(internal/reflectlite.Value).IsNil", "internal/reflectlite.TypeOf", "(internal/reflectlite.Value).Elem", "(internal/reflectlite.Value).Set"], unfollowed := true, recurses := true, named := ["errors.errorType", "loop.example/g00638/impl.errNoTable", "loop.example/g00638/impl.monthLengths"], ifaces := true, apart := false, laid := [("errors.errorType", laid_errors_errorType), ("loop.example/g00638/impl.monthLengths", laid_loop_example_g00638_impl_monthLengths), ("loop.example/g00638/impl.errNoTable", laid_loop_example_g00638_impl_errNoTable)] }
def FnExactShiftSaid : Prop := fnExactShiftRow.holds Tryz.pinned (OpenSpec.ofChange fnExactShiftSpec)

/-- ITS FALSE NEIGHBOUR: 'it returns false'. Refute it at one input. -/
def fnExactShiftWrong : ChangeSpec := { name := "fnExactShift", vars := ["loop.example/g00638/impl.errNoTable", "loop.example/g00638/impl.monthLengths"], fn := fun _ => fun
  | [d1, d2, g1, g2] => { results := [.lit (.bool false)], args := [d1, d2], vars := [g1, g2] }
  | _ => none }
def FnExactShiftWrongFalsely : Prop := fnExactShiftRow.holds Tryz.pinned (OpenSpec.ofChange fnExactShiftWrong)

/-- 'laws.FnExactNextDay': WHATEVER THE INPUT: true; the input reads as it did. -/
def fnExactNextDaySpec : ChangeSpec := { name := "fnExactNextDay", vars := ["loop.example/g00638/impl.errNoTable", "loop.example/g00638/impl.monthLengths"], fn := fun _ => fun
  | [d1, d2, g1, g2] => { results := [.lit (.bool true)], args := [d1, d2], vars := [g1, g2] }
  | _ => none }
def fnExactNextDayRow : OpenClaim := { program := "ytilpencbbdpgfaagreatdoor", sum := "8aa29be54c006b1c6ec1dc3630b213085096e6b3be66a6bdff6afdb5e9592658", func := "loop.example/g00638/laws.FnExactNextDay", spec := "fnExactNextDay", inPlace := ["internal/reflectlite.ValueOf", "(internal/reflectlite.Value).Type", "(internal/reflectlite.Value).IsNil", "internal/reflectlite.TypeOf", "(internal/reflectlite.Value).Elem", "(internal/reflectlite.Value).Set"], unfollowed := true, recurses := true, named := ["errors.errorType", "loop.example/g00638/impl.errNoTable", "loop.example/g00638/impl.monthLengths"], ifaces := true, apart := false, laid := [("errors.errorType", laid_errors_errorType), ("loop.example/g00638/impl.monthLengths", laid_loop_example_g00638_impl_monthLengths), ("loop.example/g00638/impl.errNoTable", laid_loop_example_g00638_impl_errNoTable)] }
def FnExactNextDaySaid : Prop := fnExactNextDayRow.holds Tryz.pinned (OpenSpec.ofChange fnExactNextDaySpec)

/-- ITS FALSE NEIGHBOUR: 'it returns false'. Refute it at one input. -/
def fnExactNextDayWrong : ChangeSpec := { name := "fnExactNextDay", vars := ["loop.example/g00638/impl.errNoTable", "loop.example/g00638/impl.monthLengths"], fn := fun _ => fun
  | [d1, d2, g1, g2] => { results := [.lit (.bool false)], args := [d1, d2], vars := [g1, g2] }
  | _ => none }
def FnExactNextDayWrongFalsely : Prop := fnExactNextDayRow.holds Tryz.pinned (OpenSpec.ofChange fnExactNextDayWrong)

/-- 'laws.FnExactRead': WHATEVER THE INPUT: true; the input reads as it did. -/
def fnExactReadSpec : ChangeSpec := { name := "fnExactRead", vars := ["loop.example/g00638/impl.digitShapes", "loop.example/g00638/impl.markNames", "loop.example/g00638/impl.monthNames", "loop.example/g00638/impl.monthLengths", "loop.example/g00638/impl.errNoTable"], fn := fun _ => fun
  | [d1, d2, g1, g2, g3, g4, g5] => { results := [.lit (.bool true)], args := [d1, d2], vars := [g1, g2, g3, g4, g5] }
  | _ => none }
def fnExactReadRow : OpenClaim := { program := "ytilpencbbdpgfaagreatdoor", sum := "8aa29be54c006b1c6ec1dc3630b213085096e6b3be66a6bdff6afdb5e9592658", func := "loop.example/g00638/laws.FnExactRead", spec := "fnExactRead", inPlace := ["internal/bytealg.IndexByteString", "internal/bytealg.IndexString", "internal/abi.NoEscape", "internal/bytealg.MakeNoZero", "internal/reflectlite.ValueOf", "(internal/reflectlite.Value).Type", "(internal/reflectlite.Value).IsNil", "internal/reflectlite.TypeOf", "(internal/reflectlite.Value).Elem", "(internal/reflectlite.Value).Set"], unfollowed := true, recurses := true, named := ["internal/bytealg.MaxLen", "internal/strconv.uint64pow10", "math/bits.deBruijn32tab", "math/bits.deBruijn64tab", "loop.example/g00638/impl.digitShapes", "loop.example/g00638/impl.markNames", "loop.example/g00638/impl.monthNames", "loop.example/g00638/impl.monthLengths", "errors.errorType", "loop.example/g00638/impl.errNoTable"], ifaces := true, apart := false, laid := [("math/bits.deBruijn32tab", laid_math_bits_deBruijn32tab), ("math/bits.deBruijn64tab", laid_math_bits_deBruijn64tab), ("internal/strconv.uint64pow10", laid_internal_strconv_uint64pow10), ("errors.errorType", laid_errors_errorType), ("loop.example/g00638/impl.digitShapes", laid_loop_example_g00638_impl_digitShapes), ("loop.example/g00638/impl.monthNames", laid_loop_example_g00638_impl_monthNames), ("loop.example/g00638/impl.monthLengths", laid_loop_example_g00638_impl_monthLengths), ("loop.example/g00638/impl.markNames", laid_loop_example_g00638_impl_markNames), ("loop.example/g00638/impl.errNoTable", laid_loop_example_g00638_impl_errNoTable)] }
def FnExactReadSaid : Prop := fnExactReadRow.holds Tryz.pinned (OpenSpec.ofChange fnExactReadSpec)

/-- ITS FALSE NEIGHBOUR: 'it returns false'. Refute it at one input. -/
def fnExactReadWrong : ChangeSpec := { name := "fnExactRead", vars := ["loop.example/g00638/impl.digitShapes", "loop.example/g00638/impl.markNames", "loop.example/g00638/impl.monthNames", "loop.example/g00638/impl.monthLengths", "loop.example/g00638/impl.errNoTable"], fn := fun _ => fun
  | [d1, d2, g1, g2, g3, g4, g5] => { results := [.lit (.bool false)], args := [d1, d2], vars := [g1, g2, g3, g4, g5] }
  | _ => none }
def FnExactReadWrongFalsely : Prop := fnExactReadRow.holds Tryz.pinned (OpenSpec.ofChange fnExactReadWrong)

/-- 'laws.FnExactWhens': WHATEVER THE INPUT: true; the input reads as it did. -/
def fnExactWhensSpec : ChangeSpec := { name := "fnExactWhens", vars := ["loop.example/g00638/impl.errNoTable", "loop.example/g00638/impl.monthLengths"], fn := fun _ => fun
  | [d1, d2, d3, g1, g2] => { results := [.lit (.bool true)], args := [d1, d2, d3], vars := [g1, g2] }
  | _ => none }
def fnExactWhensRow : OpenClaim := { program := "ytilpencbbdpgfaagreatdoor", sum := "8aa29be54c006b1c6ec1dc3630b213085096e6b3be66a6bdff6afdb5e9592658", func := "loop.example/g00638/laws.FnExactWhens", spec := "fnExactWhens", inPlace := ["internal/reflectlite.ValueOf", "(internal/reflectlite.Value).Type", "(internal/reflectlite.Value).IsNil", "internal/reflectlite.TypeOf", "(internal/reflectlite.Value).Elem", "(internal/reflectlite.Value).Set", "internal/bytealg.IndexByteString", "internal/bytealg.IndexString"], unfollowed := true, recurses := true, named := ["errors.errorType", "loop.example/g00638/impl.errNoTable", "loop.example/g00638/impl.monthLengths", "internal/strconv.uint64pow10", "math/bits.deBruijn32tab", "math/bits.deBruijn64tab", "internal/bytealg.MaxLen"], ifaces := true, apart := false, laid := [("math/bits.deBruijn32tab", laid_math_bits_deBruijn32tab), ("math/bits.deBruijn64tab", laid_math_bits_deBruijn64tab), ("internal/strconv.uint64pow10", laid_internal_strconv_uint64pow10), ("errors.errorType", laid_errors_errorType), ("loop.example/g00638/impl.monthLengths", laid_loop_example_g00638_impl_monthLengths), ("loop.example/g00638/impl.errNoTable", laid_loop_example_g00638_impl_errNoTable)] }
def FnExactWhensSaid : Prop := fnExactWhensRow.holds Tryz.pinned (OpenSpec.ofChange fnExactWhensSpec)

/-- ITS FALSE NEIGHBOUR: 'it returns false'. Refute it at one input. -/
def fnExactWhensWrong : ChangeSpec := { name := "fnExactWhens", vars := ["loop.example/g00638/impl.errNoTable", "loop.example/g00638/impl.monthLengths"], fn := fun _ => fun
  | [d1, d2, d3, g1, g2] => { results := [.lit (.bool false)], args := [d1, d2, d3], vars := [g1, g2] }
  | _ => none }
def FnExactWhensWrongFalsely : Prop := fnExactWhensRow.holds Tryz.pinned (OpenSpec.ofChange fnExactWhensWrong)

/-- 'laws.FnExactMarked': WHATEVER THE INPUT: true; the input reads as it did. -/
def fnExactMarkedSpec : ChangeSpec := { name := "fnExactMarked", vars := ["loop.example/g00638/impl.errNoTable", "loop.example/g00638/impl.monthLengths"], fn := fun _ => fun
  | [d1, d2, d3, d4, g1, g2] => { results := [.lit (.bool true)], args := [d1, d2, d3, d4], vars := [g1, g2] }
  | _ => none }
def fnExactMarkedRow : OpenClaim := { program := "ytilpencbbdpgfaagreatdoor", sum := "8aa29be54c006b1c6ec1dc3630b213085096e6b3be66a6bdff6afdb5e9592658", func := "loop.example/g00638/laws.FnExactMarked", spec := "fnExactMarked", inPlace := ["internal/reflectlite.ValueOf", "(internal/reflectlite.Value).Type", "(internal/reflectlite.Value).IsNil", "internal/reflectlite.TypeOf", "(internal/reflectlite.Value).Elem", "(internal/reflectlite.Value).Set", "internal/bytealg.IndexByteString", "internal/bytealg.IndexString"], unfollowed := true, recurses := true, named := ["errors.errorType", "loop.example/g00638/impl.errNoTable", "loop.example/g00638/impl.monthLengths", "internal/strconv.uint64pow10", "math/bits.deBruijn32tab", "math/bits.deBruijn64tab", "internal/bytealg.MaxLen"], ifaces := true, apart := false, laid := [("math/bits.deBruijn32tab", laid_math_bits_deBruijn32tab), ("math/bits.deBruijn64tab", laid_math_bits_deBruijn64tab), ("internal/strconv.uint64pow10", laid_internal_strconv_uint64pow10), ("errors.errorType", laid_errors_errorType), ("loop.example/g00638/impl.monthLengths", laid_loop_example_g00638_impl_monthLengths), ("loop.example/g00638/impl.errNoTable", laid_loop_example_g00638_impl_errNoTable)] }
def FnExactMarkedSaid : Prop := fnExactMarkedRow.holds Tryz.pinned (OpenSpec.ofChange fnExactMarkedSpec)

/-- ITS FALSE NEIGHBOUR: 'it returns false'. Refute it at one input. -/
def fnExactMarkedWrong : ChangeSpec := { name := "fnExactMarked", vars := ["loop.example/g00638/impl.errNoTable", "loop.example/g00638/impl.monthLengths"], fn := fun _ => fun
  | [d1, d2, d3, d4, g1, g2] => { results := [.lit (.bool false)], args := [d1, d2, d3, d4], vars := [g1, g2] }
  | _ => none }
def FnExactMarkedWrongFalsely : Prop := fnExactMarkedRow.holds Tryz.pinned (OpenSpec.ofChange fnExactMarkedWrong)

/-- 'laws.FnExactMarks': WHATEVER THE INPUT: true; the input reads as it did. -/
def fnExactMarksSpec : ChangeSpec := { name := "fnExactMarks", vars := ["loop.example/g00638/impl.errNoTable", "loop.example/g00638/impl.monthLengths"], fn := fun _ => fun
  | [d1, d2, d3, g1, g2] => { results := [.lit (.bool true)], args := [d1, d2, d3], vars := [g1, g2] }
  | _ => none }
def fnExactMarksRow : OpenClaim := { program := "ytilpencbbdpgfaagreatdoor", sum := "8aa29be54c006b1c6ec1dc3630b213085096e6b3be66a6bdff6afdb5e9592658", func := "loop.example/g00638/laws.FnExactMarks", spec := "fnExactMarks", inPlace := ["internal/reflectlite.ValueOf", "(internal/reflectlite.Value).Type", "(internal/reflectlite.Value).IsNil", "internal/reflectlite.TypeOf", "(internal/reflectlite.Value).Elem", "(internal/reflectlite.Value).Set", "internal/bytealg.IndexByteString", "internal/bytealg.IndexString"], unfollowed := true, recurses := true, named := ["errors.errorType", "loop.example/g00638/impl.errNoTable", "loop.example/g00638/impl.monthLengths", "internal/strconv.uint64pow10", "math/bits.deBruijn32tab", "math/bits.deBruijn64tab", "internal/bytealg.MaxLen"], ifaces := true, apart := false, laid := [("math/bits.deBruijn32tab", laid_math_bits_deBruijn32tab), ("math/bits.deBruijn64tab", laid_math_bits_deBruijn64tab), ("internal/strconv.uint64pow10", laid_internal_strconv_uint64pow10), ("errors.errorType", laid_errors_errorType), ("loop.example/g00638/impl.monthLengths", laid_loop_example_g00638_impl_monthLengths), ("loop.example/g00638/impl.errNoTable", laid_loop_example_g00638_impl_errNoTable)] }
def FnExactMarksSaid : Prop := fnExactMarksRow.holds Tryz.pinned (OpenSpec.ofChange fnExactMarksSpec)

/-- ITS FALSE NEIGHBOUR: 'it returns false'. Refute it at one input. -/
def fnExactMarksWrong : ChangeSpec := { name := "fnExactMarks", vars := ["loop.example/g00638/impl.errNoTable", "loop.example/g00638/impl.monthLengths"], fn := fun _ => fun
  | [d1, d2, d3, g1, g2] => { results := [.lit (.bool false)], args := [d1, d2, d3], vars := [g1, g2] }
  | _ => none }
def FnExactMarksWrongFalsely : Prop := fnExactMarksRow.holds Tryz.pinned (OpenSpec.ofChange fnExactMarksWrong)

/-- 'laws.FnExactWrite': WHATEVER THE INPUT: true; the input reads as it did. -/
def fnExactWriteSpec : ChangeSpec := { name := "fnExactWrite", vars := ["loop.example/g00638/impl.errNoTable", "loop.example/g00638/impl.monthLengths", "loop.example/g00638/impl.monthNames", "loop.example/g00638/impl.markNames", "loop.example/g00638/impl.digitShapes"], fn := fun _ => fun
  | [d1, d2, d3, g1, g2, g3, g4, g5] => { results := [.lit (.bool true)], args := [d1, d2, d3], vars := [g1, g2, g3, g4, g5] }
  | _ => none }
def fnExactWriteRow : OpenClaim := { program := "ytilpencbbdpgfaagreatdoor", sum := "8aa29be54c006b1c6ec1dc3630b213085096e6b3be66a6bdff6afdb5e9592658", func := "loop.example/g00638/laws.FnExactWrite", spec := "fnExactWrite", inPlace := ["internal/reflectlite.ValueOf", "(internal/reflectlite.Value).Type", "(internal/reflectlite.Value).IsNil", "internal/reflectlite.TypeOf", "(internal/reflectlite.Value).Elem", "(internal/reflectlite.Value).Set", "internal/bytealg.IndexByteString", "internal/bytealg.IndexString", "internal/abi.NoEscape", "internal/bytealg.MakeNoZero"], unfollowed := true, recurses := true, named := ["errors.errorType", "loop.example/g00638/impl.errNoTable", "loop.example/g00638/impl.monthLengths", "internal/strconv.uint64pow10", "math/bits.deBruijn32tab", "math/bits.deBruijn64tab", "internal/bytealg.MaxLen", "loop.example/g00638/impl.monthNames", "loop.example/g00638/impl.markNames", "loop.example/g00638/impl.digitShapes"], ifaces := true, apart := false, laid := [("math/bits.deBruijn32tab", laid_math_bits_deBruijn32tab), ("math/bits.deBruijn64tab", laid_math_bits_deBruijn64tab), ("internal/strconv.uint64pow10", laid_internal_strconv_uint64pow10), ("errors.errorType", laid_errors_errorType), ("loop.example/g00638/impl.digitShapes", laid_loop_example_g00638_impl_digitShapes), ("loop.example/g00638/impl.monthNames", laid_loop_example_g00638_impl_monthNames), ("loop.example/g00638/impl.monthLengths", laid_loop_example_g00638_impl_monthLengths), ("loop.example/g00638/impl.markNames", laid_loop_example_g00638_impl_markNames), ("loop.example/g00638/impl.errNoTable", laid_loop_example_g00638_impl_errNoTable)] }
def FnExactWriteSaid : Prop := fnExactWriteRow.holds Tryz.pinned (OpenSpec.ofChange fnExactWriteSpec)

/-- ITS FALSE NEIGHBOUR: 'it returns false'. Refute it at one input. -/
def fnExactWriteWrong : ChangeSpec := { name := "fnExactWrite", vars := ["loop.example/g00638/impl.errNoTable", "loop.example/g00638/impl.monthLengths", "loop.example/g00638/impl.monthNames", "loop.example/g00638/impl.markNames", "loop.example/g00638/impl.digitShapes"], fn := fun _ => fun
  | [d1, d2, d3, g1, g2, g3, g4, g5] => { results := [.lit (.bool false)], args := [d1, d2, d3], vars := [g1, g2, g3, g4, g5] }
  | _ => none }
def FnExactWriteWrongFalsely : Prop := fnExactWriteRow.holds Tryz.pinned (OpenSpec.ofChange fnExactWriteWrong)

/-- 'laws.FnExactConcord': WHATEVER THE INPUT: true; the input reads as it did. -/
def fnExactConcordSpec : ChangeSpec := { name := "fnExactConcord", vars := ["loop.example/g00638/impl.errNoTable", "loop.example/g00638/impl.monthLengths"], fn := fun _ => fun
  | [d1, d2, d3, d4, g1, g2] => { results := [.lit (.bool true)], args := [d1, d2, d3, d4], vars := [g1, g2] }
  | _ => none }
def fnExactConcordRow : OpenClaim := { program := "ytilpencbbdpgfaagreatdoor", sum := "8aa29be54c006b1c6ec1dc3630b213085096e6b3be66a6bdff6afdb5e9592658", func := "loop.example/g00638/laws.FnExactConcord", spec := "fnExactConcord", inPlace := ["internal/reflectlite.ValueOf", "(internal/reflectlite.Value).Type", "(internal/reflectlite.Value).IsNil", "internal/reflectlite.TypeOf", "(internal/reflectlite.Value).Elem", "(internal/reflectlite.Value).Set"], unfollowed := true, recurses := true, named := ["errors.errorType", "loop.example/g00638/impl.errNoTable", "loop.example/g00638/impl.monthLengths"], ifaces := true, apart := false, laid := [("errors.errorType", laid_errors_errorType), ("loop.example/g00638/impl.monthLengths", laid_loop_example_g00638_impl_monthLengths), ("loop.example/g00638/impl.errNoTable", laid_loop_example_g00638_impl_errNoTable)] }
def FnExactConcordSaid : Prop := fnExactConcordRow.holds Tryz.pinned (OpenSpec.ofChange fnExactConcordSpec)

/-- ITS FALSE NEIGHBOUR: 'it returns false'. Refute it at one input. -/
def fnExactConcordWrong : ChangeSpec := { name := "fnExactConcord", vars := ["loop.example/g00638/impl.errNoTable", "loop.example/g00638/impl.monthLengths"], fn := fun _ => fun
  | [d1, d2, d3, d4, g1, g2] => { results := [.lit (.bool false)], args := [d1, d2, d3, d4], vars := [g1, g2] }
  | _ => none }
def FnExactConcordWrongFalsely : Prop := fnExactConcordRow.holds Tryz.pinned (OpenSpec.ofChange fnExactConcordWrong)

/-- 'laws.FnExactSame': WHATEVER THE INPUT: true; the input reads as it did. -/
def fnExactSameSpec : ChangeSpec := { name := "fnExactSame", vars := ["loop.example/g00638/impl.errNoTable", "loop.example/g00638/impl.monthLengths"], fn := fun _ => fun
  | [d1, d2, d3, d4, g1, g2] => { results := [.lit (.bool true)], args := [d1, d2, d3, d4], vars := [g1, g2] }
  | _ => none }
def fnExactSameRow : OpenClaim := { program := "ytilpencbbdpgfaagreatdoor", sum := "8aa29be54c006b1c6ec1dc3630b213085096e6b3be66a6bdff6afdb5e9592658", func := "loop.example/g00638/laws.FnExactSame", spec := "fnExactSame", inPlace := ["internal/reflectlite.ValueOf", "(internal/reflectlite.Value).Type", "(internal/reflectlite.Value).IsNil", "internal/reflectlite.TypeOf", "(internal/reflectlite.Value).Elem", "(internal/reflectlite.Value).Set"], unfollowed := true, recurses := true, named := ["errors.errorType", "loop.example/g00638/impl.errNoTable", "loop.example/g00638/impl.monthLengths"], ifaces := true, apart := false, laid := [("errors.errorType", laid_errors_errorType), ("loop.example/g00638/impl.monthLengths", laid_loop_example_g00638_impl_monthLengths), ("loop.example/g00638/impl.errNoTable", laid_loop_example_g00638_impl_errNoTable)] }
def FnExactSameSaid : Prop := fnExactSameRow.holds Tryz.pinned (OpenSpec.ofChange fnExactSameSpec)

/-- ITS FALSE NEIGHBOUR: 'it returns false'. Refute it at one input. -/
def fnExactSameWrong : ChangeSpec := { name := "fnExactSame", vars := ["loop.example/g00638/impl.errNoTable", "loop.example/g00638/impl.monthLengths"], fn := fun _ => fun
  | [d1, d2, d3, d4, g1, g2] => { results := [.lit (.bool false)], args := [d1, d2, d3, d4], vars := [g1, g2] }
  | _ => none }
def FnExactSameWrongFalsely : Prop := fnExactSameRow.holds Tryz.pinned (OpenSpec.ofChange fnExactSameWrong)

/-- 'laws.FnExactMeet': WHATEVER THE INPUT: true; the input reads as it did. -/
def fnExactMeetSpec : ChangeSpec := { name := "fnExactMeet", vars := ["loop.example/g00638/impl.errNoTable", "loop.example/g00638/impl.monthLengths"], fn := fun _ => fun
  | [d1, d2, g1, g2] => { results := [.lit (.bool true)], args := [d1, d2], vars := [g1, g2] }
  | _ => none }
def fnExactMeetRow : OpenClaim := { program := "ytilpencbbdpgfaagreatdoor", sum := "8aa29be54c006b1c6ec1dc3630b213085096e6b3be66a6bdff6afdb5e9592658", func := "loop.example/g00638/laws.FnExactMeet", spec := "fnExactMeet", inPlace := ["internal/reflectlite.ValueOf", "(internal/reflectlite.Value).Type", "(internal/reflectlite.Value).IsNil", "internal/reflectlite.TypeOf", "(internal/reflectlite.Value).Elem", "(internal/reflectlite.Value).Set"], unfollowed := true, recurses := true, named := ["errors.errorType", "loop.example/g00638/impl.errNoTable", "loop.example/g00638/impl.monthLengths"], ifaces := true, apart := false, laid := [("errors.errorType", laid_errors_errorType), ("loop.example/g00638/impl.monthLengths", laid_loop_example_g00638_impl_monthLengths), ("loop.example/g00638/impl.errNoTable", laid_loop_example_g00638_impl_errNoTable)] }
def FnExactMeetSaid : Prop := fnExactMeetRow.holds Tryz.pinned (OpenSpec.ofChange fnExactMeetSpec)

/-- ITS FALSE NEIGHBOUR: 'it returns false'. Refute it at one input. -/
def fnExactMeetWrong : ChangeSpec := { name := "fnExactMeet", vars := ["loop.example/g00638/impl.errNoTable", "loop.example/g00638/impl.monthLengths"], fn := fun _ => fun
  | [d1, d2, g1, g2] => { results := [.lit (.bool false)], args := [d1, d2], vars := [g1, g2] }
  | _ => none }
def FnExactMeetWrongFalsely : Prop := fnExactMeetRow.holds Tryz.pinned (OpenSpec.ofChange fnExactMeetWrong)

/- THE SECOND FORM. 'bulk': how many values and letters a reading holds, each counted each time it is reached (what is shared counts as often as it is met; a slice's spare places count too). A statement '..UptoSaid' is the law's where the arguments, and the package variables that the reading takes, are together of bulk at most 1048576: NARROWER than '..Said'. Prove '..Said' where nothing that the law and all that it calls make is longer than what came in: it says more and counts as full. Else prove '..UptoSaid'. A law counts once. -/
mutual
def uptoBulk {H : Type} : DataW H → Nat
  | .lit (.string bytes) => bytes.length + 1
  | .lit _ => 1
  | .nil => 1
  | .ptr d => uptoBulk d + 1
  | .slice elems spare => uptoBulkAll elems + uptoBulkAll spare + 1
  | .agg parts => uptoBulkAll parts + 1
  | .iface _ d => uptoBulk d + 1
  | .map entries => uptoBulkEntries entries + 1
  | .held _ => 1
def uptoBulkAll {H : Type} : List (DataW H) → Nat
  | [] => 0
  | d :: r => uptoBulk d + uptoBulkAll r
def uptoBulkEntries {H : Type} : List (Lit × DataW H) → Nat
  | [] => 0
  | x :: r => uptoBulkEntry x + uptoBulkEntries r
def uptoBulkEntry {H : Type} : Lit × DataW H → Nat
  | (.string bytes, d) => bytes.length + uptoBulk d + 1
  | (_, d) => uptoBulk d + 1
 end
def uptoSmall : (H : Type) → List (DataW H) → Bool := fun _ ds => decide (uptoBulkAll ds ≤ 1048576)
def OpenSpec.upto (s : _root_.Go.ChangeSpec) : _root_.Go.OpenSpec := { _root_.Go.OpenSpec.ofChange s with cond := some uptoSmall }

/-- 'laws.FnExactReadingOf', WHERE WHAT IT READS IS OF BULK AT MOST 1048576: true; the input reads as it did. -/
def fnExactReadingOfUptoRow : OpenClaim := { program := "ytilpencbbdpgfaagreatdoor", sum := "8aa29be54c006b1c6ec1dc3630b213085096e6b3be66a6bdff6afdb5e9592658", func := "loop.example/g00638/laws.FnExactReadingOf", spec := "fnExactReadingOf", inPlace := ["internal/reflectlite.ValueOf", "(internal/reflectlite.Value).Type", "(internal/reflectlite.Value).IsNil", "internal/reflectlite.TypeOf", "(internal/reflectlite.Value).Elem", "(internal/reflectlite.Value).Set"], unfollowed := true, recurses := true, named := ["errors.errorType", "loop.example/g00638/impl.errNoTable", "loop.example/g00638/impl.monthLengths"], ifaces := true, apart := false, laid := [("errors.errorType", laid_errors_errorType), ("loop.example/g00638/impl.monthLengths", laid_loop_example_g00638_impl_monthLengths), ("loop.example/g00638/impl.errNoTable", laid_loop_example_g00638_impl_errNoTable)], narrowed := true }
def FnExactReadingOfUptoSaid : Prop := fnExactReadingOfUptoRow.holds Tryz.pinned (OpenSpec.upto fnExactReadingOfSpec)

/-- 'laws.FnExactDaysOf', WHERE WHAT IT READS IS OF BULK AT MOST 1048576: true; the input reads as it did. -/
def fnExactDaysOfUptoRow : OpenClaim := { program := "ytilpencbbdpgfaagreatdoor", sum := "8aa29be54c006b1c6ec1dc3630b213085096e6b3be66a6bdff6afdb5e9592658", func := "loop.example/g00638/laws.FnExactDaysOf", spec := "fnExactDaysOf", inPlace := ["internal/reflectlite.ValueOf", "(internal/reflectlite.Value).Type", "(internal/reflectlite.Value).IsNil", "internal/reflectlite.TypeOf", "(internal/reflectlite.Value).Elem", "(internal/reflectlite.Value).Set"], unfollowed := true, recurses := true, named := ["errors.errorType", "loop.example/g00638/impl.errNoTable", "loop.example/g00638/impl.monthLengths"], ifaces := true, apart := false, laid := [("errors.errorType", laid_errors_errorType), ("loop.example/g00638/impl.monthLengths", laid_loop_example_g00638_impl_monthLengths), ("loop.example/g00638/impl.errNoTable", laid_loop_example_g00638_impl_errNoTable)], narrowed := true }
def FnExactDaysOfUptoSaid : Prop := fnExactDaysOfUptoRow.holds Tryz.pinned (OpenSpec.upto fnExactDaysOfSpec)

/-- 'laws.FnExactShift', WHERE WHAT IT READS IS OF BULK AT MOST 1048576: true; the input reads as it did. -/
def fnExactShiftUptoRow : OpenClaim := { program := "ytilpencbbdpgfaagreatdoor", sum := "8aa29be54c006b1c6ec1dc3630b213085096e6b3be66a6bdff6afdb5e9592658", func := "loop.example/g00638/laws.FnExactShift", spec := "fnExactShift", inPlace := ["internal/reflectlite.ValueOf", "(internal/reflectlite.Value).Type", "(internal/reflectlite.Value).IsNil", "internal/reflectlite.TypeOf", "(internal/reflectlite.Value).Elem", "(internal/reflectlite.Value).Set"], unfollowed := true, recurses := true, named := ["errors.errorType", "loop.example/g00638/impl.errNoTable", "loop.example/g00638/impl.monthLengths"], ifaces := true, apart := false, laid := [("errors.errorType", laid_errors_errorType), ("loop.example/g00638/impl.monthLengths", laid_loop_example_g00638_impl_monthLengths), ("loop.example/g00638/impl.errNoTable", laid_loop_example_g00638_impl_errNoTable)], narrowed := true }
def FnExactShiftUptoSaid : Prop := fnExactShiftUptoRow.holds Tryz.pinned (OpenSpec.upto fnExactShiftSpec)

/-- 'laws.FnExactNextDay', WHERE WHAT IT READS IS OF BULK AT MOST 1048576: true; the input reads as it did. -/
def fnExactNextDayUptoRow : OpenClaim := { program := "ytilpencbbdpgfaagreatdoor", sum := "8aa29be54c006b1c6ec1dc3630b213085096e6b3be66a6bdff6afdb5e9592658", func := "loop.example/g00638/laws.FnExactNextDay", spec := "fnExactNextDay", inPlace := ["internal/reflectlite.ValueOf", "(internal/reflectlite.Value).Type", "(internal/reflectlite.Value).IsNil", "internal/reflectlite.TypeOf", "(internal/reflectlite.Value).Elem", "(internal/reflectlite.Value).Set"], unfollowed := true, recurses := true, named := ["errors.errorType", "loop.example/g00638/impl.errNoTable", "loop.example/g00638/impl.monthLengths"], ifaces := true, apart := false, laid := [("errors.errorType", laid_errors_errorType), ("loop.example/g00638/impl.monthLengths", laid_loop_example_g00638_impl_monthLengths), ("loop.example/g00638/impl.errNoTable", laid_loop_example_g00638_impl_errNoTable)], narrowed := true }
def FnExactNextDayUptoSaid : Prop := fnExactNextDayUptoRow.holds Tryz.pinned (OpenSpec.upto fnExactNextDaySpec)

/-- 'laws.FnExactRead', WHERE WHAT IT READS IS OF BULK AT MOST 1048576: true; the input reads as it did. -/
def fnExactReadUptoRow : OpenClaim := { program := "ytilpencbbdpgfaagreatdoor", sum := "8aa29be54c006b1c6ec1dc3630b213085096e6b3be66a6bdff6afdb5e9592658", func := "loop.example/g00638/laws.FnExactRead", spec := "fnExactRead", inPlace := ["internal/bytealg.IndexByteString", "internal/bytealg.IndexString", "internal/abi.NoEscape", "internal/bytealg.MakeNoZero", "internal/reflectlite.ValueOf", "(internal/reflectlite.Value).Type", "(internal/reflectlite.Value).IsNil", "internal/reflectlite.TypeOf", "(internal/reflectlite.Value).Elem", "(internal/reflectlite.Value).Set"], unfollowed := true, recurses := true, named := ["internal/bytealg.MaxLen", "internal/strconv.uint64pow10", "math/bits.deBruijn32tab", "math/bits.deBruijn64tab", "loop.example/g00638/impl.digitShapes", "loop.example/g00638/impl.markNames", "loop.example/g00638/impl.monthNames", "loop.example/g00638/impl.monthLengths", "errors.errorType", "loop.example/g00638/impl.errNoTable"], ifaces := true, apart := false, laid := [("math/bits.deBruijn32tab", laid_math_bits_deBruijn32tab), ("math/bits.deBruijn64tab", laid_math_bits_deBruijn64tab), ("internal/strconv.uint64pow10", laid_internal_strconv_uint64pow10), ("errors.errorType", laid_errors_errorType), ("loop.example/g00638/impl.digitShapes", laid_loop_example_g00638_impl_digitShapes), ("loop.example/g00638/impl.monthNames", laid_loop_example_g00638_impl_monthNames), ("loop.example/g00638/impl.monthLengths", laid_loop_example_g00638_impl_monthLengths), ("loop.example/g00638/impl.markNames", laid_loop_example_g00638_impl_markNames), ("loop.example/g00638/impl.errNoTable", laid_loop_example_g00638_impl_errNoTable)], narrowed := true }
def FnExactReadUptoSaid : Prop := fnExactReadUptoRow.holds Tryz.pinned (OpenSpec.upto fnExactReadSpec)

/-- 'laws.FnExactWhens', WHERE WHAT IT READS IS OF BULK AT MOST 1048576: true; the input reads as it did. -/
def fnExactWhensUptoRow : OpenClaim := { program := "ytilpencbbdpgfaagreatdoor", sum := "8aa29be54c006b1c6ec1dc3630b213085096e6b3be66a6bdff6afdb5e9592658", func := "loop.example/g00638/laws.FnExactWhens", spec := "fnExactWhens", inPlace := ["internal/reflectlite.ValueOf", "(internal/reflectlite.Value).Type", "(internal/reflectlite.Value).IsNil", "internal/reflectlite.TypeOf", "(internal/reflectlite.Value).Elem", "(internal/reflectlite.Value).Set", "internal/bytealg.IndexByteString", "internal/bytealg.IndexString"], unfollowed := true, recurses := true, named := ["errors.errorType", "loop.example/g00638/impl.errNoTable", "loop.example/g00638/impl.monthLengths", "internal/strconv.uint64pow10", "math/bits.deBruijn32tab", "math/bits.deBruijn64tab", "internal/bytealg.MaxLen"], ifaces := true, apart := false, laid := [("math/bits.deBruijn32tab", laid_math_bits_deBruijn32tab), ("math/bits.deBruijn64tab", laid_math_bits_deBruijn64tab), ("internal/strconv.uint64pow10", laid_internal_strconv_uint64pow10), ("errors.errorType", laid_errors_errorType), ("loop.example/g00638/impl.monthLengths", laid_loop_example_g00638_impl_monthLengths), ("loop.example/g00638/impl.errNoTable", laid_loop_example_g00638_impl_errNoTable)], narrowed := true }
def FnExactWhensUptoSaid : Prop := fnExactWhensUptoRow.holds Tryz.pinned (OpenSpec.upto fnExactWhensSpec)

/-- 'laws.FnExactMarked', WHERE WHAT IT READS IS OF BULK AT MOST 1048576: true; the input reads as it did. -/
def fnExactMarkedUptoRow : OpenClaim := { program := "ytilpencbbdpgfaagreatdoor", sum := "8aa29be54c006b1c6ec1dc3630b213085096e6b3be66a6bdff6afdb5e9592658", func := "loop.example/g00638/laws.FnExactMarked", spec := "fnExactMarked", inPlace := ["internal/reflectlite.ValueOf", "(internal/reflectlite.Value).Type", "(internal/reflectlite.Value).IsNil", "internal/reflectlite.TypeOf", "(internal/reflectlite.Value).Elem", "(internal/reflectlite.Value).Set", "internal/bytealg.IndexByteString", "internal/bytealg.IndexString"], unfollowed := true, recurses := true, named := ["errors.errorType", "loop.example/g00638/impl.errNoTable", "loop.example/g00638/impl.monthLengths", "internal/strconv.uint64pow10", "math/bits.deBruijn32tab", "math/bits.deBruijn64tab", "internal/bytealg.MaxLen"], ifaces := true, apart := false, laid := [("math/bits.deBruijn32tab", laid_math_bits_deBruijn32tab), ("math/bits.deBruijn64tab", laid_math_bits_deBruijn64tab), ("internal/strconv.uint64pow10", laid_internal_strconv_uint64pow10), ("errors.errorType", laid_errors_errorType), ("loop.example/g00638/impl.monthLengths", laid_loop_example_g00638_impl_monthLengths), ("loop.example/g00638/impl.errNoTable", laid_loop_example_g00638_impl_errNoTable)], narrowed := true }
def FnExactMarkedUptoSaid : Prop := fnExactMarkedUptoRow.holds Tryz.pinned (OpenSpec.upto fnExactMarkedSpec)

/-- 'laws.FnExactMarks', WHERE WHAT IT READS IS OF BULK AT MOST 1048576: true; the input reads as it did. -/
def fnExactMarksUptoRow : OpenClaim := { program := "ytilpencbbdpgfaagreatdoor", sum := "8aa29be54c006b1c6ec1dc3630b213085096e6b3be66a6bdff6afdb5e9592658", func := "loop.example/g00638/laws.FnExactMarks", spec := "fnExactMarks", inPlace := ["internal/reflectlite.ValueOf", "(internal/reflectlite.Value).Type", "(internal/reflectlite.Value).IsNil", "internal/reflectlite.TypeOf", "(internal/reflectlite.Value).Elem", "(internal/reflectlite.Value).Set", "internal/bytealg.IndexByteString", "internal/bytealg.IndexString"], unfollowed := true, recurses := true, named := ["errors.errorType", "loop.example/g00638/impl.errNoTable", "loop.example/g00638/impl.monthLengths", "internal/strconv.uint64pow10", "math/bits.deBruijn32tab", "math/bits.deBruijn64tab", "internal/bytealg.MaxLen"], ifaces := true, apart := false, laid := [("math/bits.deBruijn32tab", laid_math_bits_deBruijn32tab), ("math/bits.deBruijn64tab", laid_math_bits_deBruijn64tab), ("internal/strconv.uint64pow10", laid_internal_strconv_uint64pow10), ("errors.errorType", laid_errors_errorType), ("loop.example/g00638/impl.monthLengths", laid_loop_example_g00638_impl_monthLengths), ("loop.example/g00638/impl.errNoTable", laid_loop_example_g00638_impl_errNoTable)], narrowed := true }
def FnExactMarksUptoSaid : Prop := fnExactMarksUptoRow.holds Tryz.pinned (OpenSpec.upto fnExactMarksSpec)

/-- 'laws.FnExactWrite', WHERE WHAT IT READS IS OF BULK AT MOST 1048576: true; the input reads as it did. -/
def fnExactWriteUptoRow : OpenClaim := { program := "ytilpencbbdpgfaagreatdoor", sum := "8aa29be54c006b1c6ec1dc3630b213085096e6b3be66a6bdff6afdb5e9592658", func := "loop.example/g00638/laws.FnExactWrite", spec := "fnExactWrite", inPlace := ["internal/reflectlite.ValueOf", "(internal/reflectlite.Value).Type", "(internal/reflectlite.Value).IsNil", "internal/reflectlite.TypeOf", "(internal/reflectlite.Value).Elem", "(internal/reflectlite.Value).Set", "internal/bytealg.IndexByteString", "internal/bytealg.IndexString", "internal/abi.NoEscape", "internal/bytealg.MakeNoZero"], unfollowed := true, recurses := true, named := ["errors.errorType", "loop.example/g00638/impl.errNoTable", "loop.example/g00638/impl.monthLengths", "internal/strconv.uint64pow10", "math/bits.deBruijn32tab", "math/bits.deBruijn64tab", "internal/bytealg.MaxLen", "loop.example/g00638/impl.monthNames", "loop.example/g00638/impl.markNames", "loop.example/g00638/impl.digitShapes"], ifaces := true, apart := false, laid := [("math/bits.deBruijn32tab", laid_math_bits_deBruijn32tab), ("math/bits.deBruijn64tab", laid_math_bits_deBruijn64tab), ("internal/strconv.uint64pow10", laid_internal_strconv_uint64pow10), ("errors.errorType", laid_errors_errorType), ("loop.example/g00638/impl.digitShapes", laid_loop_example_g00638_impl_digitShapes), ("loop.example/g00638/impl.monthNames", laid_loop_example_g00638_impl_monthNames), ("loop.example/g00638/impl.monthLengths", laid_loop_example_g00638_impl_monthLengths), ("loop.example/g00638/impl.markNames", laid_loop_example_g00638_impl_markNames), ("loop.example/g00638/impl.errNoTable", laid_loop_example_g00638_impl_errNoTable)], narrowed := true }
def FnExactWriteUptoSaid : Prop := fnExactWriteUptoRow.holds Tryz.pinned (OpenSpec.upto fnExactWriteSpec)

/-- 'laws.FnExactConcord', WHERE WHAT IT READS IS OF BULK AT MOST 1048576: true; the input reads as it did. -/
def fnExactConcordUptoRow : OpenClaim := { program := "ytilpencbbdpgfaagreatdoor", sum := "8aa29be54c006b1c6ec1dc3630b213085096e6b3be66a6bdff6afdb5e9592658", func := "loop.example/g00638/laws.FnExactConcord", spec := "fnExactConcord", inPlace := ["internal/reflectlite.ValueOf", "(internal/reflectlite.Value).Type", "(internal/reflectlite.Value).IsNil", "internal/reflectlite.TypeOf", "(internal/reflectlite.Value).Elem", "(internal/reflectlite.Value).Set"], unfollowed := true, recurses := true, named := ["errors.errorType", "loop.example/g00638/impl.errNoTable", "loop.example/g00638/impl.monthLengths"], ifaces := true, apart := false, laid := [("errors.errorType", laid_errors_errorType), ("loop.example/g00638/impl.monthLengths", laid_loop_example_g00638_impl_monthLengths), ("loop.example/g00638/impl.errNoTable", laid_loop_example_g00638_impl_errNoTable)], narrowed := true }
def FnExactConcordUptoSaid : Prop := fnExactConcordUptoRow.holds Tryz.pinned (OpenSpec.upto fnExactConcordSpec)

/-- 'laws.FnExactSame', WHERE WHAT IT READS IS OF BULK AT MOST 1048576: true; the input reads as it did. -/
def fnExactSameUptoRow : OpenClaim := { program := "ytilpencbbdpgfaagreatdoor", sum := "8aa29be54c006b1c6ec1dc3630b213085096e6b3be66a6bdff6afdb5e9592658", func := "loop.example/g00638/laws.FnExactSame", spec := "fnExactSame", inPlace := ["internal/reflectlite.ValueOf", "(internal/reflectlite.Value).Type", "(internal/reflectlite.Value).IsNil", "internal/reflectlite.TypeOf", "(internal/reflectlite.Value).Elem", "(internal/reflectlite.Value).Set"], unfollowed := true, recurses := true, named := ["errors.errorType", "loop.example/g00638/impl.errNoTable", "loop.example/g00638/impl.monthLengths"], ifaces := true, apart := false, laid := [("errors.errorType", laid_errors_errorType), ("loop.example/g00638/impl.monthLengths", laid_loop_example_g00638_impl_monthLengths), ("loop.example/g00638/impl.errNoTable", laid_loop_example_g00638_impl_errNoTable)], narrowed := true }
def FnExactSameUptoSaid : Prop := fnExactSameUptoRow.holds Tryz.pinned (OpenSpec.upto fnExactSameSpec)

/-- 'laws.FnExactMeet', WHERE WHAT IT READS IS OF BULK AT MOST 1048576: true; the input reads as it did. -/
def fnExactMeetUptoRow : OpenClaim := { program := "ytilpencbbdpgfaagreatdoor", sum := "8aa29be54c006b1c6ec1dc3630b213085096e6b3be66a6bdff6afdb5e9592658", func := "loop.example/g00638/laws.FnExactMeet", spec := "fnExactMeet", inPlace := ["internal/reflectlite.ValueOf", "(internal/reflectlite.Value).Type", "(internal/reflectlite.Value).IsNil", "internal/reflectlite.TypeOf", "(internal/reflectlite.Value).Elem", "(internal/reflectlite.Value).Set"], unfollowed := true, recurses := true, named := ["errors.errorType", "loop.example/g00638/impl.errNoTable", "loop.example/g00638/impl.monthLengths"], ifaces := true, apart := false, laid := [("errors.errorType", laid_errors_errorType), ("loop.example/g00638/impl.monthLengths", laid_loop_example_g00638_impl_monthLengths), ("loop.example/g00638/impl.errNoTable", laid_loop_example_g00638_impl_errNoTable)], narrowed := true }
def FnExactMeetUptoSaid : Prop := fnExactMeetUptoRow.holds Tryz.pinned (OpenSpec.upto fnExactMeetSpec)

end Rows
end Go.Proofs.YtilpencbbdpgfaaGreatDoor
