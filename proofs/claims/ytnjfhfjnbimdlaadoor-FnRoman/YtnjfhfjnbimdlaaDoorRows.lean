/-
  NARROWER THAN 'FOR EVERY INPUT', by the rows' own cells (each row's printed sentence says how): FnSolar: laid · FnRoman: laid · FnExactRomanOf: laid · FnExactDayOfRoman: laid · FnExactRomanText: laid · FnExactReadRoman: laid.
  DERIVED. THE GIVEN ROWS OF THIS SEAT. 6 by the template 'for every input the law returns true; each argument reads behind the call as it read before'; 0 by the template 'total and deterministic' (their statements: YtnjfhfjnbimdlaaDoorTotals.lean).
  GIVEN WITH THE SEED: the statements are not yours to turn. If you find one false, say at which input.
  Laid BY PROGRAM, IN A SANDBOX (cutbox-rows.mjs): the forced cells as the released guide's own fill.sh prints them over the translation b6df2f7b499564f4… (all of the seat's roots in one cut). By AI agents, Wed Nov 11 2026. No macro, syntax, notation, axiom, sorry.
-/
import Derived.Test.YtnjfhfjnbimdlaaDoorChecked
import GoSem.Claim
import GoSem.ClaimJoined
import GoSem.ClaimMapViews
import Derived.JoinedTies
import Derived.KernelRfl
namespace Go.Proofs.YtnjfhfjnbimdlaaDoor
/- THE CELL 'sum', in the pinned program and in every row, IS THE sha256 OF THE DUMP (.gsa) THAT YtnjfhfjnbimdlaaDoorProg.lean LOADS. Nothing in Lean hashes anything: it is a label: what it is worth is what the hold of that sum in a sandbox is worth. -/
noncomputable def Tryd.pinned : Pinned := { name := "ytnjfhfjnbimdlaadoor", sum := "b6df2f7b499564f40d343b95b1b8c6b1ae27fbf01dcafda04d460ef7bffdf741", checked := Tryd.checked }
namespace Rows
def none {H : Type} : Left H := { results := [], args := [] }

/- WHAT THE LISTED PACKAGE-LEVEL VARIABLES READ AS WHEN THE CALL BEGINS. Each datum BY PROGRAM (the guide's laid-datum.mjs) off the statement by which the dump's own 'gosem.cut.vars' lays the variable. In a bare row this is a premise. The card (YtnjfhfjnbimdlaaDoorCards.lean) ties it to the program's text. -/
def laid_loop_example_g00638_impl_monthLengths {H : Type} : DataW H := .agg [.lit (.int .i64 31), .lit (.int .i64 28), .lit (.int .i64 31), .lit (.int .i64 30), .lit (.int .i64 31), .lit (.int .i64 30), .lit (.int .i64 31), .lit (.int .i64 31), .lit (.int .i64 30), .lit (.int .i64 31), .lit (.int .i64 30), .lit (.int .i64 31)]
def laid_loop_example_g00638_impl_digitShapes {H : Type} : DataW H := .agg [.lit (.string []), .lit (.string [97]), .lit (.string [97, 97]), .lit (.string [97, 97, 97]), .lit (.string [97, 98]), .lit (.string [98]), .lit (.string [98, 97]), .lit (.string [98, 97, 97]), .lit (.string [98, 97, 97, 97]), .lit (.string [97, 99])]
def laid_loop_example_g00638_impl_monthNames {H : Type} : DataW H := .agg [.lit (.string [106, 97, 110]), .lit (.string [102, 101, 98]), .lit (.string [109, 97, 114]), .lit (.string [97, 112, 114]), .lit (.string [109, 97, 121]), .lit (.string [106, 117, 110]), .lit (.string [106, 117, 108]), .lit (.string [97, 117, 103]), .lit (.string [115, 101, 112]), .lit (.string [111, 99, 116]), .lit (.string [110, 111, 118]), .lit (.string [100, 101, 99])]
def laid_loop_example_g00638_impl_markNames {H : Type} : DataW H := .agg [.lit (.string [107, 97, 108]), .lit (.string [110, 111, 110]), .lit (.string [105, 100])]

/-- 'laws.FnSolar': WHATEVER THE INPUT: true; the input reads as it did. -/
def fnSolarSpec : ChangeSpec := { name := "fnSolar", vars := ["loop.example/g00638/impl.monthLengths"], fn := fun _ => fun
  | [d, g1] => { results := [.lit (.bool true)], args := [d], vars := [g1] }
  | _ => none }
def fnSolarRow : OpenClaim := { program := "ytnjfhfjnbimdlaadoor", sum := "b6df2f7b499564f40d343b95b1b8c6b1ae27fbf01dcafda04d460ef7bffdf741", func := "loop.example/g00638/laws.FnSolar", spec := "fnSolar", unfollowed := true, recurses := true, named := ["loop.example/g00638/impl.monthLengths"], apart := false, laid := [("loop.example/g00638/impl.monthLengths", laid_loop_example_g00638_impl_monthLengths)] }
def FnSolarSaid : Prop := fnSolarRow.holds Tryd.pinned (OpenSpec.ofChange fnSolarSpec)

/-- ITS FALSE NEIGHBOUR: 'it returns false'. Refute it at one input. -/
def fnSolarWrong : ChangeSpec := { name := "fnSolar", vars := ["loop.example/g00638/impl.monthLengths"], fn := fun _ => fun
  | [d, g1] => { results := [.lit (.bool false)], args := [d], vars := [g1] }
  | _ => none }
def FnSolarWrongFalsely : Prop := fnSolarRow.holds Tryd.pinned (OpenSpec.ofChange fnSolarWrong)

/-- 'laws.FnRoman': WHATEVER THE INPUT: true; the input reads as it did. -/
def fnRomanSpec : ChangeSpec := { name := "fnRoman", vars := ["loop.example/g00638/impl.monthLengths", "loop.example/g00638/impl.markNames", "loop.example/g00638/impl.digitShapes", "loop.example/g00638/impl.monthNames"], fn := fun _ => fun
  | [d, g1, g2, g3, g4] => { results := [.lit (.bool true)], args := [d], vars := [g1, g2, g3, g4] }
  | _ => none }
def fnRomanRow : OpenClaim := { program := "ytnjfhfjnbimdlaadoor", sum := "b6df2f7b499564f40d343b95b1b8c6b1ae27fbf01dcafda04d460ef7bffdf741", func := "loop.example/g00638/laws.FnRoman", spec := "fnRoman", inPlace := ["internal/abi.NoEscape", "internal/bytealg.MakeNoZero"], unfollowed := true, recurses := true, named := ["loop.example/g00638/impl.monthLengths", "loop.example/g00638/impl.markNames", "loop.example/g00638/impl.digitShapes", "loop.example/g00638/impl.monthNames"], apart := false, laid := [("loop.example/g00638/impl.digitShapes", laid_loop_example_g00638_impl_digitShapes), ("loop.example/g00638/impl.monthNames", laid_loop_example_g00638_impl_monthNames), ("loop.example/g00638/impl.monthLengths", laid_loop_example_g00638_impl_monthLengths), ("loop.example/g00638/impl.markNames", laid_loop_example_g00638_impl_markNames)] }
def FnRomanSaid : Prop := fnRomanRow.holds Tryd.pinned (OpenSpec.ofChange fnRomanSpec)

/-- ITS FALSE NEIGHBOUR: 'it returns false'. Refute it at one input. -/
def fnRomanWrong : ChangeSpec := { name := "fnRoman", vars := ["loop.example/g00638/impl.monthLengths", "loop.example/g00638/impl.markNames", "loop.example/g00638/impl.digitShapes", "loop.example/g00638/impl.monthNames"], fn := fun _ => fun
  | [d, g1, g2, g3, g4] => { results := [.lit (.bool false)], args := [d], vars := [g1, g2, g3, g4] }
  | _ => none }
def FnRomanWrongFalsely : Prop := fnRomanRow.holds Tryd.pinned (OpenSpec.ofChange fnRomanWrong)

/-- 'laws.FnExactRomanOf': WHATEVER THE INPUT: true; the input reads as it did. -/
def fnExactRomanOfSpec : ChangeSpec := { name := "fnExactRomanOf", vars := ["loop.example/g00638/impl.monthLengths"], fn := fun _ => fun
  | [d, g1] => { results := [.lit (.bool true)], args := [d], vars := [g1] }
  | _ => none }
def fnExactRomanOfRow : OpenClaim := { program := "ytnjfhfjnbimdlaadoor", sum := "b6df2f7b499564f40d343b95b1b8c6b1ae27fbf01dcafda04d460ef7bffdf741", func := "loop.example/g00638/laws.FnExactRomanOf", spec := "fnExactRomanOf", unfollowed := true, recurses := true, named := ["loop.example/g00638/impl.monthLengths"], apart := false, laid := [("loop.example/g00638/impl.monthLengths", laid_loop_example_g00638_impl_monthLengths)] }
def FnExactRomanOfSaid : Prop := fnExactRomanOfRow.holds Tryd.pinned (OpenSpec.ofChange fnExactRomanOfSpec)

/-- ITS FALSE NEIGHBOUR: 'it returns false'. Refute it at one input. -/
def fnExactRomanOfWrong : ChangeSpec := { name := "fnExactRomanOf", vars := ["loop.example/g00638/impl.monthLengths"], fn := fun _ => fun
  | [d, g1] => { results := [.lit (.bool false)], args := [d], vars := [g1] }
  | _ => none }
def FnExactRomanOfWrongFalsely : Prop := fnExactRomanOfRow.holds Tryd.pinned (OpenSpec.ofChange fnExactRomanOfWrong)

/-- 'laws.FnExactDayOfRoman': WHATEVER THE INPUT: true; the input reads as it did. -/
def fnExactDayOfRomanSpec : ChangeSpec := { name := "fnExactDayOfRoman", vars := ["loop.example/g00638/impl.monthLengths"], fn := fun _ => fun
  | [d1, d2, d3, g1] => { results := [.lit (.bool true)], args := [d1, d2, d3], vars := [g1] }
  | _ => none }
def fnExactDayOfRomanRow : OpenClaim := { program := "ytnjfhfjnbimdlaadoor", sum := "b6df2f7b499564f40d343b95b1b8c6b1ae27fbf01dcafda04d460ef7bffdf741", func := "loop.example/g00638/laws.FnExactDayOfRoman", spec := "fnExactDayOfRoman", unfollowed := true, recurses := true, named := ["loop.example/g00638/impl.monthLengths"], apart := false, laid := [("loop.example/g00638/impl.monthLengths", laid_loop_example_g00638_impl_monthLengths)] }
def FnExactDayOfRomanSaid : Prop := fnExactDayOfRomanRow.holds Tryd.pinned (OpenSpec.ofChange fnExactDayOfRomanSpec)

/-- ITS FALSE NEIGHBOUR: 'it returns false'. Refute it at one input. -/
def fnExactDayOfRomanWrong : ChangeSpec := { name := "fnExactDayOfRoman", vars := ["loop.example/g00638/impl.monthLengths"], fn := fun _ => fun
  | [d1, d2, d3, g1] => { results := [.lit (.bool false)], args := [d1, d2, d3], vars := [g1] }
  | _ => none }
def FnExactDayOfRomanWrongFalsely : Prop := fnExactDayOfRomanRow.holds Tryd.pinned (OpenSpec.ofChange fnExactDayOfRomanWrong)

/-- 'laws.FnExactRomanText': WHATEVER THE INPUT: true; the input reads as it did. -/
def fnExactRomanTextSpec : ChangeSpec := { name := "fnExactRomanText", vars := ["loop.example/g00638/impl.markNames", "loop.example/g00638/impl.monthLengths", "loop.example/g00638/impl.digitShapes", "loop.example/g00638/impl.monthNames"], fn := fun _ => fun
  | [d, g1, g2, g3, g4] => { results := [.lit (.bool true)], args := [d], vars := [g1, g2, g3, g4] }
  | _ => none }
def fnExactRomanTextRow : OpenClaim := { program := "ytnjfhfjnbimdlaadoor", sum := "b6df2f7b499564f40d343b95b1b8c6b1ae27fbf01dcafda04d460ef7bffdf741", func := "loop.example/g00638/laws.FnExactRomanText", spec := "fnExactRomanText", inPlace := ["internal/abi.NoEscape", "internal/bytealg.MakeNoZero"], unfollowed := true, recurses := true, named := ["loop.example/g00638/impl.markNames", "loop.example/g00638/impl.monthLengths", "loop.example/g00638/impl.digitShapes", "loop.example/g00638/impl.monthNames"], apart := false, laid := [("loop.example/g00638/impl.digitShapes", laid_loop_example_g00638_impl_digitShapes), ("loop.example/g00638/impl.monthNames", laid_loop_example_g00638_impl_monthNames), ("loop.example/g00638/impl.monthLengths", laid_loop_example_g00638_impl_monthLengths), ("loop.example/g00638/impl.markNames", laid_loop_example_g00638_impl_markNames)] }
def FnExactRomanTextSaid : Prop := fnExactRomanTextRow.holds Tryd.pinned (OpenSpec.ofChange fnExactRomanTextSpec)

/-- ITS FALSE NEIGHBOUR: 'it returns false'. Refute it at one input. -/
def fnExactRomanTextWrong : ChangeSpec := { name := "fnExactRomanText", vars := ["loop.example/g00638/impl.markNames", "loop.example/g00638/impl.monthLengths", "loop.example/g00638/impl.digitShapes", "loop.example/g00638/impl.monthNames"], fn := fun _ => fun
  | [d, g1, g2, g3, g4] => { results := [.lit (.bool false)], args := [d], vars := [g1, g2, g3, g4] }
  | _ => none }
def FnExactRomanTextWrongFalsely : Prop := fnExactRomanTextRow.holds Tryd.pinned (OpenSpec.ofChange fnExactRomanTextWrong)

/-- 'laws.FnExactReadRoman': WHATEVER THE INPUT: true; the input reads as it did. -/
def fnExactReadRomanSpec : ChangeSpec := { name := "fnExactReadRoman", vars := ["loop.example/g00638/impl.digitShapes", "loop.example/g00638/impl.markNames", "loop.example/g00638/impl.monthNames", "loop.example/g00638/impl.monthLengths"], fn := fun _ => fun
  | [d, g1, g2, g3, g4] => { results := [.lit (.bool true)], args := [d], vars := [g1, g2, g3, g4] }
  | _ => none }
def fnExactReadRomanRow : OpenClaim := { program := "ytnjfhfjnbimdlaadoor", sum := "b6df2f7b499564f40d343b95b1b8c6b1ae27fbf01dcafda04d460ef7bffdf741", func := "loop.example/g00638/laws.FnExactReadRoman", spec := "fnExactReadRoman", inPlace := ["internal/abi.NoEscape", "internal/bytealg.MakeNoZero"], unfollowed := true, recurses := true, named := ["loop.example/g00638/impl.digitShapes", "loop.example/g00638/impl.markNames", "loop.example/g00638/impl.monthNames", "loop.example/g00638/impl.monthLengths"], apart := false, laid := [("loop.example/g00638/impl.digitShapes", laid_loop_example_g00638_impl_digitShapes), ("loop.example/g00638/impl.monthNames", laid_loop_example_g00638_impl_monthNames), ("loop.example/g00638/impl.monthLengths", laid_loop_example_g00638_impl_monthLengths), ("loop.example/g00638/impl.markNames", laid_loop_example_g00638_impl_markNames)] }
def FnExactReadRomanSaid : Prop := fnExactReadRomanRow.holds Tryd.pinned (OpenSpec.ofChange fnExactReadRomanSpec)

/-- ITS FALSE NEIGHBOUR: 'it returns false'. Refute it at one input. -/
def fnExactReadRomanWrong : ChangeSpec := { name := "fnExactReadRoman", vars := ["loop.example/g00638/impl.digitShapes", "loop.example/g00638/impl.markNames", "loop.example/g00638/impl.monthNames", "loop.example/g00638/impl.monthLengths"], fn := fun _ => fun
  | [d, g1, g2, g3, g4] => { results := [.lit (.bool false)], args := [d], vars := [g1, g2, g3, g4] }
  | _ => none }
def FnExactReadRomanWrongFalsely : Prop := fnExactReadRomanRow.holds Tryd.pinned (OpenSpec.ofChange fnExactReadRomanWrong)

/- THE SECOND FORM. 'bulk': how many values and letters a reading holds, each counted each time it is reached (what is shared counts as often as it is met; a slice's spare places count too). A statement '..UptoSaid' is the law's where the arguments, and the package variables that the reading takes, are together of bulk at most 1048576: NARROWER than '..Said'. Prove '..Said' where nothing that the law and all that it calls make is longer than what came in: it says more and counts as full. Else prove '..UptoSaid'. A law counts once. -/
mutual
def uptoBulk {H : Type} : DataW H → Nat
  | .lit (.string bytes) => bytes.length + 1
  | .lit _ => 1
  | .nil => 1
  | .ptr d => uptoBulk d + 1
  | .slice elems spare => uptoBulkAll elems + uptoBulkAll spare + 1
  | .agg parts => uptoBulkAll parts + 1
  | .iface _ d => uptoBulk d + 1
  | .map entries => uptoBulkEntries entries + 1
  | .held _ => 1
def uptoBulkAll {H : Type} : List (DataW H) → Nat
  | [] => 0
  | d :: r => uptoBulk d + uptoBulkAll r
def uptoBulkEntries {H : Type} : List (Lit × DataW H) → Nat
  | [] => 0
  | x :: r => uptoBulkEntry x + uptoBulkEntries r
def uptoBulkEntry {H : Type} : Lit × DataW H → Nat
  | (.string bytes, d) => bytes.length + uptoBulk d + 1
  | (_, d) => uptoBulk d + 1
 end
def uptoSmall : (H : Type) → List (DataW H) → Bool := fun _ ds => decide (uptoBulkAll ds ≤ 1048576)
def OpenSpec.upto (s : _root_.Go.ChangeSpec) : _root_.Go.OpenSpec := { _root_.Go.OpenSpec.ofChange s with cond := some uptoSmall }

/-- 'laws.FnSolar', WHERE WHAT IT READS IS OF BULK AT MOST 1048576: true; the input reads as it did. -/
def fnSolarUptoRow : OpenClaim := { program := "ytnjfhfjnbimdlaadoor", sum := "b6df2f7b499564f40d343b95b1b8c6b1ae27fbf01dcafda04d460ef7bffdf741", func := "loop.example/g00638/laws.FnSolar", spec := "fnSolar", unfollowed := true, recurses := true, named := ["loop.example/g00638/impl.monthLengths"], apart := false, laid := [("loop.example/g00638/impl.monthLengths", laid_loop_example_g00638_impl_monthLengths)], narrowed := true }
def FnSolarUptoSaid : Prop := fnSolarUptoRow.holds Tryd.pinned (OpenSpec.upto fnSolarSpec)

/-- 'laws.FnRoman', WHERE WHAT IT READS IS OF BULK AT MOST 1048576: true; the input reads as it did. -/
def fnRomanUptoRow : OpenClaim := { program := "ytnjfhfjnbimdlaadoor", sum := "b6df2f7b499564f40d343b95b1b8c6b1ae27fbf01dcafda04d460ef7bffdf741", func := "loop.example/g00638/laws.FnRoman", spec := "fnRoman", inPlace := ["internal/abi.NoEscape", "internal/bytealg.MakeNoZero"], unfollowed := true, recurses := true, named := ["loop.example/g00638/impl.monthLengths", "loop.example/g00638/impl.markNames", "loop.example/g00638/impl.digitShapes", "loop.example/g00638/impl.monthNames"], apart := false, laid := [("loop.example/g00638/impl.digitShapes", laid_loop_example_g00638_impl_digitShapes), ("loop.example/g00638/impl.monthNames", laid_loop_example_g00638_impl_monthNames), ("loop.example/g00638/impl.monthLengths", laid_loop_example_g00638_impl_monthLengths), ("loop.example/g00638/impl.markNames", laid_loop_example_g00638_impl_markNames)], narrowed := true }
def FnRomanUptoSaid : Prop := fnRomanUptoRow.holds Tryd.pinned (OpenSpec.upto fnRomanSpec)

/-- 'laws.FnExactRomanOf', WHERE WHAT IT READS IS OF BULK AT MOST 1048576: true; the input reads as it did. -/
def fnExactRomanOfUptoRow : OpenClaim := { program := "ytnjfhfjnbimdlaadoor", sum := "b6df2f7b499564f40d343b95b1b8c6b1ae27fbf01dcafda04d460ef7bffdf741", func := "loop.example/g00638/laws.FnExactRomanOf", spec := "fnExactRomanOf", unfollowed := true, recurses := true, named := ["loop.example/g00638/impl.monthLengths"], apart := false, laid := [("loop.example/g00638/impl.monthLengths", laid_loop_example_g00638_impl_monthLengths)], narrowed := true }
def FnExactRomanOfUptoSaid : Prop := fnExactRomanOfUptoRow.holds Tryd.pinned (OpenSpec.upto fnExactRomanOfSpec)

/-- 'laws.FnExactDayOfRoman', WHERE WHAT IT READS IS OF BULK AT MOST 1048576: true; the input reads as it did. -/
def fnExactDayOfRomanUptoRow : OpenClaim := { program := "ytnjfhfjnbimdlaadoor", sum := "b6df2f7b499564f40d343b95b1b8c6b1ae27fbf01dcafda04d460ef7bffdf741", func := "loop.example/g00638/laws.FnExactDayOfRoman", spec := "fnExactDayOfRoman", unfollowed := true, recurses := true, named := ["loop.example/g00638/impl.monthLengths"], apart := false, laid := [("loop.example/g00638/impl.monthLengths", laid_loop_example_g00638_impl_monthLengths)], narrowed := true }
def FnExactDayOfRomanUptoSaid : Prop := fnExactDayOfRomanUptoRow.holds Tryd.pinned (OpenSpec.upto fnExactDayOfRomanSpec)

/-- 'laws.FnExactRomanText', WHERE WHAT IT READS IS OF BULK AT MOST 1048576: true; the input reads as it did. -/
def fnExactRomanTextUptoRow : OpenClaim := { program := "ytnjfhfjnbimdlaadoor", sum := "b6df2f7b499564f40d343b95b1b8c6b1ae27fbf01dcafda04d460ef7bffdf741", func := "loop.example/g00638/laws.FnExactRomanText", spec := "fnExactRomanText", inPlace := ["internal/abi.NoEscape", "internal/bytealg.MakeNoZero"], unfollowed := true, recurses := true, named := ["loop.example/g00638/impl.markNames", "loop.example/g00638/impl.monthLengths", "loop.example/g00638/impl.digitShapes", "loop.example/g00638/impl.monthNames"], apart := false, laid := [("loop.example/g00638/impl.digitShapes", laid_loop_example_g00638_impl_digitShapes), ("loop.example/g00638/impl.monthNames", laid_loop_example_g00638_impl_monthNames), ("loop.example/g00638/impl.monthLengths", laid_loop_example_g00638_impl_monthLengths), ("loop.example/g00638/impl.markNames", laid_loop_example_g00638_impl_markNames)], narrowed := true }
def FnExactRomanTextUptoSaid : Prop := fnExactRomanTextUptoRow.holds Tryd.pinned (OpenSpec.upto fnExactRomanTextSpec)

/-- 'laws.FnExactReadRoman', WHERE WHAT IT READS IS OF BULK AT MOST 1048576: true; the input reads as it did. -/
def fnExactReadRomanUptoRow : OpenClaim := { program := "ytnjfhfjnbimdlaadoor", sum := "b6df2f7b499564f40d343b95b1b8c6b1ae27fbf01dcafda04d460ef7bffdf741", func := "loop.example/g00638/laws.FnExactReadRoman", spec := "fnExactReadRoman", inPlace := ["internal/abi.NoEscape", "internal/bytealg.MakeNoZero"], unfollowed := true, recurses := true, named := ["loop.example/g00638/impl.digitShapes", "loop.example/g00638/impl.markNames", "loop.example/g00638/impl.monthNames", "loop.example/g00638/impl.monthLengths"], apart := false, laid := [("loop.example/g00638/impl.digitShapes", laid_loop_example_g00638_impl_digitShapes), ("loop.example/g00638/impl.monthNames", laid_loop_example_g00638_impl_monthNames), ("loop.example/g00638/impl.monthLengths", laid_loop_example_g00638_impl_monthLengths), ("loop.example/g00638/impl.markNames", laid_loop_example_g00638_impl_markNames)], narrowed := true }
def FnExactReadRomanUptoSaid : Prop := fnExactReadRomanUptoRow.holds Tryd.pinned (OpenSpec.upto fnExactReadRomanSpec)

end Rows
end Go.Proofs.YtnjfhfjnbimdlaaDoor
