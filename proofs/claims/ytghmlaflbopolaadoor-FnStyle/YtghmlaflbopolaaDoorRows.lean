/-
  NARROWER THAN 'FOR EVERY INPUT', by the rows' own cells (each row's printed sentence says how): FnStyle: laid · FnExactStyleName: laid · FnExactStyleOf: laid · FnExactYearStart: laid · FnExactYearDays: laid · FnExactStyleYear: laid · FnExactTwins: laid · FnExactYearText: laid · FnExactReadYear: laid · FnExactSolarYears: laid.
  DERIVED. THE GIVEN ROWS OF THIS SEAT. 10 by the template 'for every input the law returns true; each argument reads behind the call as it read before'; 0 by the template 'total and deterministic' (their statements: YtghmlaflbopolaaDoorTotals.lean).
  GIVEN WITH THE SEED: the statements are not yours to turn. If you find one false, say at which input.
  Laid BY PROGRAM, IN A SANDBOX (cutbox-rows.mjs): the forced cells as the released guide's own fill.sh prints them over the translation cfcb3b41e342762e… (all of the seat's roots in one cut). By AI agents, Wed Nov 11 2026. No macro, syntax, notation, axiom, sorry.
-/
import Derived.Test.YtghmlaflbopolaaDoorChecked
import GoSem.Claim
import GoSem.ClaimJoined
import GoSem.ClaimMapViews
import Derived.JoinedTies
import Derived.KernelRfl
namespace Go.Proofs.YtghmlaflbopolaaDoor
/- THE CELL 'sum', in the pinned program and in every row, IS THE sha256 OF THE DUMP (.gsa) THAT YtghmlaflbopolaaDoorProg.lean LOADS. Nothing in Lean hashes anything: it is a label: what it is worth is what the hold of that sum in a sandbox is worth. -/
noncomputable def Tryd.pinned : Pinned := { name := "ytghmlaflbopolaadoor", sum := "cfcb3b41e342762eceb0c2ad5ccc56ac9bcc7b80ca01051a3a98a5b5cf7b10c0", checked := Tryd.checked }
namespace Rows
def none {H : Type} : Left H := { results := [], args := [] }

/- WHAT THE LISTED PACKAGE-LEVEL VARIABLES READ AS WHEN THE CALL BEGINS. Each datum BY PROGRAM (the guide's laid-datum.mjs) off the statement by which the dump's own 'gosem.cut.vars' lays the variable. In a bare row this is a premise. The card (YtghmlaflbopolaaDoorCards.lean) ties it to the program's text. -/
def laid_loop_example_g00638_impl_monthLengths {H : Type} : DataW H := .agg [.lit (.int .i64 31), .lit (.int .i64 28), .lit (.int .i64 31), .lit (.int .i64 30), .lit (.int .i64 31), .lit (.int .i64 30), .lit (.int .i64 31), .lit (.int .i64 31), .lit (.int .i64 30), .lit (.int .i64 31), .lit (.int .i64 30), .lit (.int .i64 31)]
def laid_loop_example_g00638_impl_styleNames {H : Type} : DataW H := .agg [.lit (.string [106, 97, 110]), .lit (.string [109, 97, 114, 99, 104]), .lit (.string [108, 97, 100, 121]), .lit (.string [112, 105, 115, 97]), .lit (.string [101, 97, 115, 116, 101, 114]), .lit (.string [115, 101, 112, 116]), .lit (.string [121, 117, 108, 101])]
def laid_math_bits_deBruijn32tab {H : Type} : DataW H := .agg [.lit (.int .u8 0), .lit (.int .u8 1), .lit (.int .u8 28), .lit (.int .u8 2), .lit (.int .u8 29), .lit (.int .u8 14), .lit (.int .u8 24), .lit (.int .u8 3), .lit (.int .u8 30), .lit (.int .u8 22), .lit (.int .u8 20), .lit (.int .u8 15), .lit (.int .u8 25), .lit (.int .u8 17), .lit (.int .u8 4), .lit (.int .u8 8), .lit (.int .u8 31), .lit (.int .u8 27), .lit (.int .u8 13), .lit (.int .u8 23), .lit (.int .u8 21), .lit (.int .u8 19), .lit (.int .u8 16), .lit (.int .u8 7), .lit (.int .u8 26), .lit (.int .u8 12), .lit (.int .u8 18), .lit (.int .u8 6), .lit (.int .u8 11), .lit (.int .u8 5), .lit (.int .u8 10), .lit (.int .u8 9)]
def laid_math_bits_deBruijn64tab {H : Type} : DataW H := .agg [.lit (.int .u8 0), .lit (.int .u8 1), .lit (.int .u8 56), .lit (.int .u8 2), .lit (.int .u8 57), .lit (.int .u8 49), .lit (.int .u8 28), .lit (.int .u8 3), .lit (.int .u8 61), .lit (.int .u8 58), .lit (.int .u8 42), .lit (.int .u8 50), .lit (.int .u8 38), .lit (.int .u8 29), .lit (.int .u8 17), .lit (.int .u8 4), .lit (.int .u8 62), .lit (.int .u8 47), .lit (.int .u8 59), .lit (.int .u8 36), .lit (.int .u8 45), .lit (.int .u8 43), .lit (.int .u8 51), .lit (.int .u8 22), .lit (.int .u8 53), .lit (.int .u8 39), .lit (.int .u8 33), .lit (.int .u8 30), .lit (.int .u8 24), .lit (.int .u8 18), .lit (.int .u8 12), .lit (.int .u8 5), .lit (.int .u8 63), .lit (.int .u8 55), .lit (.int .u8 48), .lit (.int .u8 27), .lit (.int .u8 60), .lit (.int .u8 41), .lit (.int .u8 37), .lit (.int .u8 16), .lit (.int .u8 46), .lit (.int .u8 35), .lit (.int .u8 44), .lit (.int .u8 21), .lit (.int .u8 52), .lit (.int .u8 32), .lit (.int .u8 23), .lit (.int .u8 11), .lit (.int .u8 54), .lit (.int .u8 26), .lit (.int .u8 40), .lit (.int .u8 15), .lit (.int .u8 34), .lit (.int .u8 20), .lit (.int .u8 31), .lit (.int .u8 10), .lit (.int .u8 25), .lit (.int .u8 14), .lit (.int .u8 19), .lit (.int .u8 9), .lit (.int .u8 13), .lit (.int .u8 8), .lit (.int .u8 7), .lit (.int .u8 6)]
def laid_internal_strconv_uint64pow10 {H : Type} : DataW H := .agg [.lit (.int .u64 1), .lit (.int .u64 10), .lit (.int .u64 100), .lit (.int .u64 1000), .lit (.int .u64 10000), .lit (.int .u64 100000), .lit (.int .u64 1000000), .lit (.int .u64 10000000), .lit (.int .u64 100000000), .lit (.int .u64 1000000000), .lit (.int .u64 10000000000), .lit (.int .u64 100000000000), .lit (.int .u64 1000000000000), .lit (.int .u64 10000000000000), .lit (.int .u64 100000000000000), .lit (.int .u64 1000000000000000), .lit (.int .u64 10000000000000000), .lit (.int .u64 100000000000000000), .lit (.int .u64 1000000000000000000), .lit (.int .u64 10000000000000000000)]

/-- 'laws.FnStyle': WHATEVER THE INPUT: true; the input reads as it did. -/
def fnStyleSpec : ChangeSpec := { name := "fnStyle", vars := ["loop.example/g00638/impl.monthLengths", "loop.example/g00638/impl.styleNames"], fn := fun _ => fun
  | [d, g1, g2] => { results := [.lit (.bool true)], args := [d], vars := [g1, g2] }
  | _ => none }
def fnStyleRow : OpenClaim := { program := "ytghmlaflbopolaadoor", sum := "cfcb3b41e342762eceb0c2ad5ccc56ac9bcc7b80ca01051a3a98a5b5cf7b10c0", func := "loop.example/g00638/laws.FnStyle", spec := "fnStyle", unfollowed := true, recurses := true, named := ["loop.example/g00638/impl.monthLengths", "loop.example/g00638/impl.styleNames"], apart := false, laid := [("loop.example/g00638/impl.monthLengths", laid_loop_example_g00638_impl_monthLengths), ("loop.example/g00638/impl.styleNames", laid_loop_example_g00638_impl_styleNames)] }
def FnStyleSaid : Prop := fnStyleRow.holds Tryd.pinned (OpenSpec.ofChange fnStyleSpec)

/-- ITS FALSE NEIGHBOUR: 'it returns false'. Refute it at one input. -/
def fnStyleWrong : ChangeSpec := { name := "fnStyle", vars := ["loop.example/g00638/impl.monthLengths", "loop.example/g00638/impl.styleNames"], fn := fun _ => fun
  | [d, g1, g2] => { results := [.lit (.bool false)], args := [d], vars := [g1, g2] }
  | _ => none }
def FnStyleWrongFalsely : Prop := fnStyleRow.holds Tryd.pinned (OpenSpec.ofChange fnStyleWrong)

/-- 'laws.FnExactStyleName': WHATEVER THE INPUT: true; the input reads as it did. -/
def fnExactStyleNameSpec : ChangeSpec := { name := "fnExactStyleName", vars := ["loop.example/g00638/impl.styleNames"], fn := fun _ => fun
  | [d, g1] => { results := [.lit (.bool true)], args := [d], vars := [g1] }
  | _ => none }
def fnExactStyleNameRow : OpenClaim := { program := "ytghmlaflbopolaadoor", sum := "cfcb3b41e342762eceb0c2ad5ccc56ac9bcc7b80ca01051a3a98a5b5cf7b10c0", func := "loop.example/g00638/laws.FnExactStyleName", spec := "fnExactStyleName", named := ["loop.example/g00638/impl.styleNames"], apart := false, laid := [("loop.example/g00638/impl.styleNames", laid_loop_example_g00638_impl_styleNames)] }
def FnExactStyleNameSaid : Prop := fnExactStyleNameRow.holds Tryd.pinned (OpenSpec.ofChange fnExactStyleNameSpec)

/-- ITS FALSE NEIGHBOUR: 'it returns false'. Refute it at one input. -/
def fnExactStyleNameWrong : ChangeSpec := { name := "fnExactStyleName", vars := ["loop.example/g00638/impl.styleNames"], fn := fun _ => fun
  | [d, g1] => { results := [.lit (.bool false)], args := [d], vars := [g1] }
  | _ => none }
def FnExactStyleNameWrongFalsely : Prop := fnExactStyleNameRow.holds Tryd.pinned (OpenSpec.ofChange fnExactStyleNameWrong)

/-- 'laws.FnExactStyleOf': WHATEVER THE INPUT: true; the input reads as it did. -/
def fnExactStyleOfSpec : ChangeSpec := { name := "fnExactStyleOf", vars := ["loop.example/g00638/impl.styleNames"], fn := fun _ => fun
  | [d, g1] => { results := [.lit (.bool true)], args := [d], vars := [g1] }
  | _ => none }
def fnExactStyleOfRow : OpenClaim := { program := "ytghmlaflbopolaadoor", sum := "cfcb3b41e342762eceb0c2ad5ccc56ac9bcc7b80ca01051a3a98a5b5cf7b10c0", func := "loop.example/g00638/laws.FnExactStyleOf", spec := "fnExactStyleOf", named := ["loop.example/g00638/impl.styleNames"], apart := false, laid := [("loop.example/g00638/impl.styleNames", laid_loop_example_g00638_impl_styleNames)] }
def FnExactStyleOfSaid : Prop := fnExactStyleOfRow.holds Tryd.pinned (OpenSpec.ofChange fnExactStyleOfSpec)

/-- ITS FALSE NEIGHBOUR: 'it returns false'. Refute it at one input. -/
def fnExactStyleOfWrong : ChangeSpec := { name := "fnExactStyleOf", vars := ["loop.example/g00638/impl.styleNames"], fn := fun _ => fun
  | [d, g1] => { results := [.lit (.bool false)], args := [d], vars := [g1] }
  | _ => none }
def FnExactStyleOfWrongFalsely : Prop := fnExactStyleOfRow.holds Tryd.pinned (OpenSpec.ofChange fnExactStyleOfWrong)

/-- 'laws.FnExactYearStart': WHATEVER THE INPUT: true; the input reads as it did. -/
def fnExactYearStartSpec : ChangeSpec := { name := "fnExactYearStart", vars := ["loop.example/g00638/impl.monthLengths"], fn := fun _ => fun
  | [d1, d2, d3, g1] => { results := [.lit (.bool true)], args := [d1, d2, d3], vars := [g1] }
  | _ => none }
def fnExactYearStartRow : OpenClaim := { program := "ytghmlaflbopolaadoor", sum := "cfcb3b41e342762eceb0c2ad5ccc56ac9bcc7b80ca01051a3a98a5b5cf7b10c0", func := "loop.example/g00638/laws.FnExactYearStart", spec := "fnExactYearStart", unfollowed := true, recurses := true, named := ["loop.example/g00638/impl.monthLengths"], apart := false, laid := [("loop.example/g00638/impl.monthLengths", laid_loop_example_g00638_impl_monthLengths)] }
def FnExactYearStartSaid : Prop := fnExactYearStartRow.holds Tryd.pinned (OpenSpec.ofChange fnExactYearStartSpec)

/-- ITS FALSE NEIGHBOUR: 'it returns false'. Refute it at one input. -/
def fnExactYearStartWrong : ChangeSpec := { name := "fnExactYearStart", vars := ["loop.example/g00638/impl.monthLengths"], fn := fun _ => fun
  | [d1, d2, d3, g1] => { results := [.lit (.bool false)], args := [d1, d2, d3], vars := [g1] }
  | _ => none }
def FnExactYearStartWrongFalsely : Prop := fnExactYearStartRow.holds Tryd.pinned (OpenSpec.ofChange fnExactYearStartWrong)

/-- 'laws.FnExactYearDays': WHATEVER THE INPUT: true; the input reads as it did. -/
def fnExactYearDaysSpec : ChangeSpec := { name := "fnExactYearDays", vars := ["loop.example/g00638/impl.monthLengths"], fn := fun _ => fun
  | [d1, d2, d3, g1] => { results := [.lit (.bool true)], args := [d1, d2, d3], vars := [g1] }
  | _ => none }
def fnExactYearDaysRow : OpenClaim := { program := "ytghmlaflbopolaadoor", sum := "cfcb3b41e342762eceb0c2ad5ccc56ac9bcc7b80ca01051a3a98a5b5cf7b10c0", func := "loop.example/g00638/laws.FnExactYearDays", spec := "fnExactYearDays", unfollowed := true, recurses := true, named := ["loop.example/g00638/impl.monthLengths"], apart := false, laid := [("loop.example/g00638/impl.monthLengths", laid_loop_example_g00638_impl_monthLengths)] }
def FnExactYearDaysSaid : Prop := fnExactYearDaysRow.holds Tryd.pinned (OpenSpec.ofChange fnExactYearDaysSpec)

/-- ITS FALSE NEIGHBOUR: 'it returns false'. Refute it at one input. -/
def fnExactYearDaysWrong : ChangeSpec := { name := "fnExactYearDays", vars := ["loop.example/g00638/impl.monthLengths"], fn := fun _ => fun
  | [d1, d2, d3, g1] => { results := [.lit (.bool false)], args := [d1, d2, d3], vars := [g1] }
  | _ => none }
def FnExactYearDaysWrongFalsely : Prop := fnExactYearDaysRow.holds Tryd.pinned (OpenSpec.ofChange fnExactYearDaysWrong)

/-- 'laws.FnExactStyleYear': WHATEVER THE INPUT: true; the input reads as it did. -/
def fnExactStyleYearSpec : ChangeSpec := { name := "fnExactStyleYear", vars := ["loop.example/g00638/impl.monthLengths"], fn := fun _ => fun
  | [d1, d2, d3, g1] => { results := [.lit (.bool true)], args := [d1, d2, d3], vars := [g1] }
  | _ => none }
def fnExactStyleYearRow : OpenClaim := { program := "ytghmlaflbopolaadoor", sum := "cfcb3b41e342762eceb0c2ad5ccc56ac9bcc7b80ca01051a3a98a5b5cf7b10c0", func := "loop.example/g00638/laws.FnExactStyleYear", spec := "fnExactStyleYear", unfollowed := true, recurses := true, named := ["loop.example/g00638/impl.monthLengths"], apart := false, laid := [("loop.example/g00638/impl.monthLengths", laid_loop_example_g00638_impl_monthLengths)] }
def FnExactStyleYearSaid : Prop := fnExactStyleYearRow.holds Tryd.pinned (OpenSpec.ofChange fnExactStyleYearSpec)

/-- ITS FALSE NEIGHBOUR: 'it returns false'. Refute it at one input. -/
def fnExactStyleYearWrong : ChangeSpec := { name := "fnExactStyleYear", vars := ["loop.example/g00638/impl.monthLengths"], fn := fun _ => fun
  | [d1, d2, d3, g1] => { results := [.lit (.bool false)], args := [d1, d2, d3], vars := [g1] }
  | _ => none }
def FnExactStyleYearWrongFalsely : Prop := fnExactStyleYearRow.holds Tryd.pinned (OpenSpec.ofChange fnExactStyleYearWrong)

/-- 'laws.FnExactTwins': WHATEVER THE INPUT: true; the input reads as it did. -/
def fnExactTwinsSpec : ChangeSpec := { name := "fnExactTwins", vars := ["loop.example/g00638/impl.monthLengths"], fn := fun _ => fun
  | [d1, d2, d3, g1] => { results := [.lit (.bool true)], args := [d1, d2, d3], vars := [g1] }
  | _ => none }
def fnExactTwinsRow : OpenClaim := { program := "ytghmlaflbopolaadoor", sum := "cfcb3b41e342762eceb0c2ad5ccc56ac9bcc7b80ca01051a3a98a5b5cf7b10c0", func := "loop.example/g00638/laws.FnExactTwins", spec := "fnExactTwins", unfollowed := true, recurses := true, named := ["loop.example/g00638/impl.monthLengths"], apart := false, laid := [("loop.example/g00638/impl.monthLengths", laid_loop_example_g00638_impl_monthLengths)] }
def FnExactTwinsSaid : Prop := fnExactTwinsRow.holds Tryd.pinned (OpenSpec.ofChange fnExactTwinsSpec)

/-- ITS FALSE NEIGHBOUR: 'it returns false'. Refute it at one input. -/
def fnExactTwinsWrong : ChangeSpec := { name := "fnExactTwins", vars := ["loop.example/g00638/impl.monthLengths"], fn := fun _ => fun
  | [d1, d2, d3, g1] => { results := [.lit (.bool false)], args := [d1, d2, d3], vars := [g1] }
  | _ => none }
def FnExactTwinsWrongFalsely : Prop := fnExactTwinsRow.holds Tryd.pinned (OpenSpec.ofChange fnExactTwinsWrong)

/-- 'laws.FnExactYearText': WHATEVER THE INPUT: true; the input reads as it did. -/
def fnExactYearTextSpec : ChangeSpec := { name := "fnExactYearText", fn := fun _ => fun
  | [d1, d2] => { results := [.lit (.bool true)], args := [d1, d2] }
  | _ => none }
def fnExactYearTextRow : OpenClaim := { program := "ytghmlaflbopolaadoor", sum := "cfcb3b41e342762eceb0c2ad5ccc56ac9bcc7b80ca01051a3a98a5b5cf7b10c0", func := "loop.example/g00638/laws.FnExactYearText", spec := "fnExactYearText", named := ["internal/strconv.uint64pow10", "math/bits.deBruijn32tab", "math/bits.deBruijn64tab"], apart := false, laid := [("math/bits.deBruijn32tab", laid_math_bits_deBruijn32tab), ("math/bits.deBruijn64tab", laid_math_bits_deBruijn64tab), ("internal/strconv.uint64pow10", laid_internal_strconv_uint64pow10)] }
def FnExactYearTextSaid : Prop := fnExactYearTextRow.holds Tryd.pinned (OpenSpec.ofChange fnExactYearTextSpec)

/-- ITS FALSE NEIGHBOUR: 'it returns false'. Refute it at one input. -/
def fnExactYearTextWrong : ChangeSpec := { name := "fnExactYearText", fn := fun _ => fun
  | [d1, d2] => { results := [.lit (.bool false)], args := [d1, d2] }
  | _ => none }
def FnExactYearTextWrongFalsely : Prop := fnExactYearTextRow.holds Tryd.pinned (OpenSpec.ofChange fnExactYearTextWrong)

/-- 'laws.FnExactReadYear': WHATEVER THE INPUT: true; the input reads as it did. -/
def fnExactReadYearSpec : ChangeSpec := { name := "fnExactReadYear", fn := fun _ => fun
  | [d] => { results := [.lit (.bool true)], args := [d] }
  | _ => none }
def fnExactReadYearRow : OpenClaim := { program := "ytghmlaflbopolaadoor", sum := "cfcb3b41e342762eceb0c2ad5ccc56ac9bcc7b80ca01051a3a98a5b5cf7b10c0", func := "loop.example/g00638/laws.FnExactReadYear", spec := "fnExactReadYear", inPlace := ["internal/bytealg.IndexByteString", "internal/bytealg.IndexString"], named := ["internal/bytealg.MaxLen", "internal/strconv.uint64pow10", "math/bits.deBruijn32tab", "math/bits.deBruijn64tab"], apart := false, laid := [("math/bits.deBruijn32tab", laid_math_bits_deBruijn32tab), ("math/bits.deBruijn64tab", laid_math_bits_deBruijn64tab), ("internal/strconv.uint64pow10", laid_internal_strconv_uint64pow10)] }
def FnExactReadYearSaid : Prop := fnExactReadYearRow.holds Tryd.pinned (OpenSpec.ofChange fnExactReadYearSpec)

/-- ITS FALSE NEIGHBOUR: 'it returns false'. Refute it at one input. -/
def fnExactReadYearWrong : ChangeSpec := { name := "fnExactReadYear", fn := fun _ => fun
  | [d] => { results := [.lit (.bool false)], args := [d] }
  | _ => none }
def FnExactReadYearWrongFalsely : Prop := fnExactReadYearRow.holds Tryd.pinned (OpenSpec.ofChange fnExactReadYearWrong)

/-- 'laws.FnExactSolarYears': WHATEVER THE INPUT: true; the input reads as it did. -/
def fnExactSolarYearsSpec : ChangeSpec := { name := "fnExactSolarYears", vars := ["loop.example/g00638/impl.monthLengths"], fn := fun _ => fun
  | [d1, d2, d3, d4, d5, g1] => { results := [.lit (.bool true)], args := [d1, d2, d3, d4, d5], vars := [g1] }
  | _ => none }
def fnExactSolarYearsRow : OpenClaim := { program := "ytghmlaflbopolaadoor", sum := "cfcb3b41e342762eceb0c2ad5ccc56ac9bcc7b80ca01051a3a98a5b5cf7b10c0", func := "loop.example/g00638/laws.FnExactSolarYears", spec := "fnExactSolarYears", unfollowed := true, recurses := true, named := ["loop.example/g00638/impl.monthLengths"], apart := false, laid := [("loop.example/g00638/impl.monthLengths", laid_loop_example_g00638_impl_monthLengths)] }
def FnExactSolarYearsSaid : Prop := fnExactSolarYearsRow.holds Tryd.pinned (OpenSpec.ofChange fnExactSolarYearsSpec)

/-- ITS FALSE NEIGHBOUR: 'it returns false'. Refute it at one input. -/
def fnExactSolarYearsWrong : ChangeSpec := { name := "fnExactSolarYears", vars := ["loop.example/g00638/impl.monthLengths"], fn := fun _ => fun
  | [d1, d2, d3, d4, d5, g1] => { results := [.lit (.bool false)], args := [d1, d2, d3, d4, d5], vars := [g1] }
  | _ => none }
def FnExactSolarYearsWrongFalsely : Prop := fnExactSolarYearsRow.holds Tryd.pinned (OpenSpec.ofChange fnExactSolarYearsWrong)

/- THE SECOND FORM. 'bulk': how many values and letters a reading holds, each counted each time it is reached (what is shared counts as often as it is met; a slice's spare places count too). A statement '..UptoSaid' is the law's where the arguments, and the package variables that the reading takes, are together of bulk at most 1048576: NARROWER than '..Said'. Prove '..Said' where nothing that the law and all that it calls make is longer than what came in: it says more and counts as full. Else prove '..UptoSaid'. A law counts once. -/
mutual
def uptoBulk {H : Type} : DataW H → Nat
  | .lit (.string bytes) => bytes.length + 1
  | .lit _ => 1
  | .nil => 1
  | .ptr d => uptoBulk d + 1
  | .slice elems spare => uptoBulkAll elems + uptoBulkAll spare + 1
  | .agg parts => uptoBulkAll parts + 1
  | .iface _ d => uptoBulk d + 1
  | .map entries => uptoBulkEntries entries + 1
  | .held _ => 1
def uptoBulkAll {H : Type} : List (DataW H) → Nat
  | [] => 0
  | d :: r => uptoBulk d + uptoBulkAll r
def uptoBulkEntries {H : Type} : List (Lit × DataW H) → Nat
  | [] => 0
  | x :: r => uptoBulkEntry x + uptoBulkEntries r
def uptoBulkEntry {H : Type} : Lit × DataW H → Nat
  | (.string bytes, d) => bytes.length + uptoBulk d + 1
  | (_, d) => uptoBulk d + 1
 end
def uptoSmall : (H : Type) → List (DataW H) → Bool := fun _ ds => decide (uptoBulkAll ds ≤ 1048576)
def OpenSpec.upto (s : _root_.Go.ChangeSpec) : _root_.Go.OpenSpec := { _root_.Go.OpenSpec.ofChange s with cond := some uptoSmall }

/-- 'laws.FnStyle', WHERE WHAT IT READS IS OF BULK AT MOST 1048576: true; the input reads as it did. -/
def fnStyleUptoRow : OpenClaim := { program := "ytghmlaflbopolaadoor", sum := "cfcb3b41e342762eceb0c2ad5ccc56ac9bcc7b80ca01051a3a98a5b5cf7b10c0", func := "loop.example/g00638/laws.FnStyle", spec := "fnStyle", unfollowed := true, recurses := true, named := ["loop.example/g00638/impl.monthLengths", "loop.example/g00638/impl.styleNames"], apart := false, laid := [("loop.example/g00638/impl.monthLengths", laid_loop_example_g00638_impl_monthLengths), ("loop.example/g00638/impl.styleNames", laid_loop_example_g00638_impl_styleNames)], narrowed := true }
def FnStyleUptoSaid : Prop := fnStyleUptoRow.holds Tryd.pinned (OpenSpec.upto fnStyleSpec)

/-- 'laws.FnExactStyleName', WHERE WHAT IT READS IS OF BULK AT MOST 1048576: true; the input reads as it did. -/
def fnExactStyleNameUptoRow : OpenClaim := { program := "ytghmlaflbopolaadoor", sum := "cfcb3b41e342762eceb0c2ad5ccc56ac9bcc7b80ca01051a3a98a5b5cf7b10c0", func := "loop.example/g00638/laws.FnExactStyleName", spec := "fnExactStyleName", named := ["loop.example/g00638/impl.styleNames"], apart := false, laid := [("loop.example/g00638/impl.styleNames", laid_loop_example_g00638_impl_styleNames)], narrowed := true }
def FnExactStyleNameUptoSaid : Prop := fnExactStyleNameUptoRow.holds Tryd.pinned (OpenSpec.upto fnExactStyleNameSpec)

/-- 'laws.FnExactStyleOf', WHERE WHAT IT READS IS OF BULK AT MOST 1048576: true; the input reads as it did. -/
def fnExactStyleOfUptoRow : OpenClaim := { program := "ytghmlaflbopolaadoor", sum := "cfcb3b41e342762eceb0c2ad5ccc56ac9bcc7b80ca01051a3a98a5b5cf7b10c0", func := "loop.example/g00638/laws.FnExactStyleOf", spec := "fnExactStyleOf", named := ["loop.example/g00638/impl.styleNames"], apart := false, laid := [("loop.example/g00638/impl.styleNames", laid_loop_example_g00638_impl_styleNames)], narrowed := true }
def FnExactStyleOfUptoSaid : Prop := fnExactStyleOfUptoRow.holds Tryd.pinned (OpenSpec.upto fnExactStyleOfSpec)

/-- 'laws.FnExactYearStart', WHERE WHAT IT READS IS OF BULK AT MOST 1048576: true; the input reads as it did. -/
def fnExactYearStartUptoRow : OpenClaim := { program := "ytghmlaflbopolaadoor", sum := "cfcb3b41e342762eceb0c2ad5ccc56ac9bcc7b80ca01051a3a98a5b5cf7b10c0", func := "loop.example/g00638/laws.FnExactYearStart", spec := "fnExactYearStart", unfollowed := true, recurses := true, named := ["loop.example/g00638/impl.monthLengths"], apart := false, laid := [("loop.example/g00638/impl.monthLengths", laid_loop_example_g00638_impl_monthLengths)], narrowed := true }
def FnExactYearStartUptoSaid : Prop := fnExactYearStartUptoRow.holds Tryd.pinned (OpenSpec.upto fnExactYearStartSpec)

/-- 'laws.FnExactYearDays', WHERE WHAT IT READS IS OF BULK AT MOST 1048576: true; the input reads as it did. -/
def fnExactYearDaysUptoRow : OpenClaim := { program := "ytghmlaflbopolaadoor", sum := "cfcb3b41e342762eceb0c2ad5ccc56ac9bcc7b80ca01051a3a98a5b5cf7b10c0", func := "loop.example/g00638/laws.FnExactYearDays", spec := "fnExactYearDays", unfollowed := true, recurses := true, named := ["loop.example/g00638/impl.monthLengths"], apart := false, laid := [("loop.example/g00638/impl.monthLengths", laid_loop_example_g00638_impl_monthLengths)], narrowed := true }
def FnExactYearDaysUptoSaid : Prop := fnExactYearDaysUptoRow.holds Tryd.pinned (OpenSpec.upto fnExactYearDaysSpec)

/-- 'laws.FnExactStyleYear', WHERE WHAT IT READS IS OF BULK AT MOST 1048576: true; the input reads as it did. -/
def fnExactStyleYearUptoRow : OpenClaim := { program := "ytghmlaflbopolaadoor", sum := "cfcb3b41e342762eceb0c2ad5ccc56ac9bcc7b80ca01051a3a98a5b5cf7b10c0", func := "loop.example/g00638/laws.FnExactStyleYear", spec := "fnExactStyleYear", unfollowed := true, recurses := true, named := ["loop.example/g00638/impl.monthLengths"], apart := false, laid := [("loop.example/g00638/impl.monthLengths", laid_loop_example_g00638_impl_monthLengths)], narrowed := true }
def FnExactStyleYearUptoSaid : Prop := fnExactStyleYearUptoRow.holds Tryd.pinned (OpenSpec.upto fnExactStyleYearSpec)

/-- 'laws.FnExactTwins', WHERE WHAT IT READS IS OF BULK AT MOST 1048576: true; the input reads as it did. -/
def fnExactTwinsUptoRow : OpenClaim := { program := "ytghmlaflbopolaadoor", sum := "cfcb3b41e342762eceb0c2ad5ccc56ac9bcc7b80ca01051a3a98a5b5cf7b10c0", func := "loop.example/g00638/laws.FnExactTwins", spec := "fnExactTwins", unfollowed := true, recurses := true, named := ["loop.example/g00638/impl.monthLengths"], apart := false, laid := [("loop.example/g00638/impl.monthLengths", laid_loop_example_g00638_impl_monthLengths)], narrowed := true }
def FnExactTwinsUptoSaid : Prop := fnExactTwinsUptoRow.holds Tryd.pinned (OpenSpec.upto fnExactTwinsSpec)

/-- 'laws.FnExactYearText', WHERE WHAT IT READS IS OF BULK AT MOST 1048576: true; the input reads as it did. -/
def fnExactYearTextUptoRow : OpenClaim := { program := "ytghmlaflbopolaadoor", sum := "cfcb3b41e342762eceb0c2ad5ccc56ac9bcc7b80ca01051a3a98a5b5cf7b10c0", func := "loop.example/g00638/laws.FnExactYearText", spec := "fnExactYearText", named := ["internal/strconv.uint64pow10", "math/bits.deBruijn32tab", "math/bits.deBruijn64tab"], apart := false, laid := [("math/bits.deBruijn32tab", laid_math_bits_deBruijn32tab), ("math/bits.deBruijn64tab", laid_math_bits_deBruijn64tab), ("internal/strconv.uint64pow10", laid_internal_strconv_uint64pow10)], narrowed := true }
def FnExactYearTextUptoSaid : Prop := fnExactYearTextUptoRow.holds Tryd.pinned (OpenSpec.upto fnExactYearTextSpec)

/-- 'laws.FnExactReadYear', WHERE WHAT IT READS IS OF BULK AT MOST 1048576: true; the input reads as it did. -/
def fnExactReadYearUptoRow : OpenClaim := { program := "ytghmlaflbopolaadoor", sum := "cfcb3b41e342762eceb0c2ad5ccc56ac9bcc7b80ca01051a3a98a5b5cf7b10c0", func := "loop.example/g00638/laws.FnExactReadYear", spec := "fnExactReadYear", inPlace := ["internal/bytealg.IndexByteString", "internal/bytealg.IndexString"], named := ["internal/bytealg.MaxLen", "internal/strconv.uint64pow10", "math/bits.deBruijn32tab", "math/bits.deBruijn64tab"], apart := false, laid := [("math/bits.deBruijn32tab", laid_math_bits_deBruijn32tab), ("math/bits.deBruijn64tab", laid_math_bits_deBruijn64tab), ("internal/strconv.uint64pow10", laid_internal_strconv_uint64pow10)], narrowed := true }
def FnExactReadYearUptoSaid : Prop := fnExactReadYearUptoRow.holds Tryd.pinned (OpenSpec.upto fnExactReadYearSpec)

/-- 'laws.FnExactSolarYears', WHERE WHAT IT READS IS OF BULK AT MOST 1048576: true; the input reads as it did. -/
def fnExactSolarYearsUptoRow : OpenClaim := { program := "ytghmlaflbopolaadoor", sum := "cfcb3b41e342762eceb0c2ad5ccc56ac9bcc7b80ca01051a3a98a5b5cf7b10c0", func := "loop.example/g00638/laws.FnExactSolarYears", spec := "fnExactSolarYears", unfollowed := true, recurses := true, named := ["loop.example/g00638/impl.monthLengths"], apart := false, laid := [("loop.example/g00638/impl.monthLengths", laid_loop_example_g00638_impl_monthLengths)], narrowed := true }
def FnExactSolarYearsUptoSaid : Prop := fnExactSolarYearsUptoRow.holds Tryd.pinned (OpenSpec.upto fnExactSolarYearsSpec)

end Rows
end Go.Proofs.YtghmlaflbopolaaDoor
