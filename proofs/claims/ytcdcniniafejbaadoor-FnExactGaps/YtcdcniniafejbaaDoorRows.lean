/-
  NARROWER THAN 'FOR EVERY INPUT', by the rows' own cells (each row's printed sentence says how): FnExactReignsOk: ifaces, laid · FnExactReignYear: laid · FnExactReignDays: laid · FnExactReadReign: laid · FnExactGaps: ifaces, laid · FnExactLastYear: laid.
  DERIVED. THE GIVEN ROWS OF THIS SEAT. 6 by the template 'for every input the law returns true; each argument reads behind the call as it read before'; 0 by the template 'total and deterministic' (their statements: YtcdcniniafejbaaDoorTotals.lean).
  GIVEN WITH THE SEED: the statements are not yours to turn. If you find one false, say at which input.
  Laid BY PROGRAM, IN A SANDBOX (cutbox-rows.mjs): the forced cells as the released guide's own fill.sh prints them over the translation ab7f3dba028af255… (all of the seat's roots in one cut). By AI agents, Wed Nov 11 2026. No macro, syntax, notation, axiom, sorry.
-/
import Derived.Test.YtcdcniniafejbaaDoorChecked
import GoSem.Claim
import GoSem.ClaimJoined
import GoSem.ClaimMapViews
import Derived.JoinedTies
import Derived.KernelRfl
namespace Go.Proofs.YtcdcniniafejbaaDoor
/- THE CELL 'sum', in the pinned program and in every row, IS THE sha256 OF THE DUMP (.gsa) THAT YtcdcniniafejbaaDoorProg.lean LOADS. Nothing in Lean hashes anything: it is a label: what it is worth is what the hold of that sum in a sandbox is worth. -/
noncomputable def Tryd.pinned : Pinned := { name := "ytcdcniniafejbaadoor", sum := "ab7f3dba028af255dd1fc8c653cb69eae607c7d77342f62156d25e1e9b847450", checked := Tryd.checked }
namespace Rows
def none {H : Type} : Left H := { results := [], args := [] }

/- WHAT THE LISTED PACKAGE-LEVEL VARIABLES READ AS WHEN THE CALL BEGINS. Each datum BY PROGRAM (the guide's laid-datum.mjs) off the statement by which the dump's own 'gosem.cut.vars' lays the variable. In a bare row this is a premise. The card (YtcdcniniafejbaaDoorCards.lean) ties it to the program's text. -/
def laid_loop_example_g00638_impl_monthLengths {H : Type} : DataW H := .agg [.lit (.int .i64 31), .lit (.int .i64 28), .lit (.int .i64 31), .lit (.int .i64 30), .lit (.int .i64 31), .lit (.int .i64 30), .lit (.int .i64 31), .lit (.int .i64 31), .lit (.int .i64 30), .lit (.int .i64 31), .lit (.int .i64 30), .lit (.int .i64 31)]
def laid_loop_example_g00638_impl_errNoTable {H : Type} : DataW H := .iface "*errors.errorString" (.ptr (.agg [.lit (.string [110, 111, 32, 116, 97, 98, 108, 101, 32, 111, 102, 32, 114, 101, 105, 103, 110, 115])]))
def laid_loop_example_g00638_impl_digitShapes {H : Type} : DataW H := .agg [.lit (.string []), .lit (.string [97]), .lit (.string [97, 97]), .lit (.string [97, 97, 97]), .lit (.string [97, 98]), .lit (.string [98]), .lit (.string [98, 97]), .lit (.string [98, 97, 97]), .lit (.string [98, 97, 97, 97]), .lit (.string [97, 99])]

/-- 'laws.FnExactReignsOk': WHATEVER THE INPUT: true; the input reads as it did. -/
def fnExactReignsOkSpec : ChangeSpec := { name := "fnExactReignsOk", vars := ["loop.example/g00638/impl.errNoTable", "loop.example/g00638/impl.monthLengths"], fn := fun _ => fun
  | [d, g1, g2] => { results := [.lit (.bool true)], args := [d], vars := [g1, g2] }
  | _ => none }
def fnExactReignsOkRow : OpenClaim := { program := "ytcdcniniafejbaadoor", sum := "ab7f3dba028af255dd1fc8c653cb69eae607c7d77342f62156d25e1e9b847450", func := "loop.example/g00638/laws.FnExactReignsOk", spec := "fnExactReignsOk", inPlace := ["internal/reflectlite.TypeOf"], unfollowed := true, recurses := true, named := ["loop.example/g00638/impl.errNoTable", "loop.example/g00638/impl.monthLengths"], ifaces := true, apart := false, laid := [("loop.example/g00638/impl.monthLengths", laid_loop_example_g00638_impl_monthLengths), ("loop.example/g00638/impl.errNoTable", laid_loop_example_g00638_impl_errNoTable)] }
def FnExactReignsOkSaid : Prop := fnExactReignsOkRow.holds Tryd.pinned (OpenSpec.ofChange fnExactReignsOkSpec)

/-- ITS FALSE NEIGHBOUR: 'it returns false'. Refute it at one input. -/
def fnExactReignsOkWrong : ChangeSpec := { name := "fnExactReignsOk", vars := ["loop.example/g00638/impl.errNoTable", "loop.example/g00638/impl.monthLengths"], fn := fun _ => fun
  | [d, g1, g2] => { results := [.lit (.bool false)], args := [d], vars := [g1, g2] }
  | _ => none }
def FnExactReignsOkWrongFalsely : Prop := fnExactReignsOkRow.holds Tryd.pinned (OpenSpec.ofChange fnExactReignsOkWrong)

/-- 'laws.FnExactReignYear': WHATEVER THE INPUT: true; the input reads as it did. -/
def fnExactReignYearSpec : ChangeSpec := { name := "fnExactReignYear", vars := ["loop.example/g00638/impl.monthLengths"], fn := fun _ => fun
  | [d1, d2, d3, d4, d5, g1] => { results := [.lit (.bool true)], args := [d1, d2, d3, d4, d5], vars := [g1] }
  | _ => none }
def fnExactReignYearRow : OpenClaim := { program := "ytcdcniniafejbaadoor", sum := "ab7f3dba028af255dd1fc8c653cb69eae607c7d77342f62156d25e1e9b847450", func := "loop.example/g00638/laws.FnExactReignYear", spec := "fnExactReignYear", unfollowed := true, recurses := true, named := ["loop.example/g00638/impl.monthLengths"], apart := false, laid := [("loop.example/g00638/impl.monthLengths", laid_loop_example_g00638_impl_monthLengths)] }
def FnExactReignYearSaid : Prop := fnExactReignYearRow.holds Tryd.pinned (OpenSpec.ofChange fnExactReignYearSpec)

/-- ITS FALSE NEIGHBOUR: 'it returns false'. Refute it at one input. -/
def fnExactReignYearWrong : ChangeSpec := { name := "fnExactReignYear", vars := ["loop.example/g00638/impl.monthLengths"], fn := fun _ => fun
  | [d1, d2, d3, d4, d5, g1] => { results := [.lit (.bool false)], args := [d1, d2, d3, d4, d5], vars := [g1] }
  | _ => none }
def FnExactReignYearWrongFalsely : Prop := fnExactReignYearRow.holds Tryd.pinned (OpenSpec.ofChange fnExactReignYearWrong)

/-- 'laws.FnExactReignDays': WHATEVER THE INPUT: true; the input reads as it did. -/
def fnExactReignDaysSpec : ChangeSpec := { name := "fnExactReignDays", vars := ["loop.example/g00638/impl.monthLengths"], fn := fun _ => fun
  | [d1, d2, d3, d4, d5, g1] => { results := [.lit (.bool true)], args := [d1, d2, d3, d4, d5], vars := [g1] }
  | _ => none }
def fnExactReignDaysRow : OpenClaim := { program := "ytcdcniniafejbaadoor", sum := "ab7f3dba028af255dd1fc8c653cb69eae607c7d77342f62156d25e1e9b847450", func := "loop.example/g00638/laws.FnExactReignDays", spec := "fnExactReignDays", unfollowed := true, recurses := true, named := ["loop.example/g00638/impl.monthLengths"], apart := false, laid := [("loop.example/g00638/impl.monthLengths", laid_loop_example_g00638_impl_monthLengths)] }
def FnExactReignDaysSaid : Prop := fnExactReignDaysRow.holds Tryd.pinned (OpenSpec.ofChange fnExactReignDaysSpec)

/-- ITS FALSE NEIGHBOUR: 'it returns false'. Refute it at one input. -/
def fnExactReignDaysWrong : ChangeSpec := { name := "fnExactReignDays", vars := ["loop.example/g00638/impl.monthLengths"], fn := fun _ => fun
  | [d1, d2, d3, d4, d5, g1] => { results := [.lit (.bool false)], args := [d1, d2, d3, d4, d5], vars := [g1] }
  | _ => none }
def FnExactReignDaysWrongFalsely : Prop := fnExactReignDaysRow.holds Tryd.pinned (OpenSpec.ofChange fnExactReignDaysWrong)

/-- 'laws.FnExactReadReign': WHATEVER THE INPUT: true; the input reads as it did. -/
def fnExactReadReignSpec : ChangeSpec := { name := "fnExactReadReign", vars := ["loop.example/g00638/impl.digitShapes"], fn := fun _ => fun
  | [d1, d2, g1] => { results := [.lit (.bool true)], args := [d1, d2], vars := [g1] }
  | _ => none }
def fnExactReadReignRow : OpenClaim := { program := "ytcdcniniafejbaadoor", sum := "ab7f3dba028af255dd1fc8c653cb69eae607c7d77342f62156d25e1e9b847450", func := "loop.example/g00638/laws.FnExactReadReign", spec := "fnExactReadReign", inPlace := ["internal/bytealg.IndexByteString", "internal/bytealg.IndexString", "internal/abi.NoEscape", "internal/bytealg.MakeNoZero"], named := ["internal/bytealg.MaxLen", "loop.example/g00638/impl.digitShapes"], apart := false, laid := [("loop.example/g00638/impl.digitShapes", laid_loop_example_g00638_impl_digitShapes)] }
def FnExactReadReignSaid : Prop := fnExactReadReignRow.holds Tryd.pinned (OpenSpec.ofChange fnExactReadReignSpec)

/-- ITS FALSE NEIGHBOUR: 'it returns false'. Refute it at one input. -/
def fnExactReadReignWrong : ChangeSpec := { name := "fnExactReadReign", vars := ["loop.example/g00638/impl.digitShapes"], fn := fun _ => fun
  | [d1, d2, g1] => { results := [.lit (.bool false)], args := [d1, d2], vars := [g1] }
  | _ => none }
def FnExactReadReignWrongFalsely : Prop := fnExactReadReignRow.holds Tryd.pinned (OpenSpec.ofChange fnExactReadReignWrong)

/-- 'laws.FnExactGaps': WHATEVER THE INPUT: true; the input reads as it did. -/
def fnExactGapsSpec : ChangeSpec := { name := "fnExactGaps", vars := ["loop.example/g00638/impl.errNoTable", "loop.example/g00638/impl.monthLengths"], fn := fun _ => fun
  | [d1, d2, d3, g1, g2] => { results := [.lit (.bool true)], args := [d1, d2, d3], vars := [g1, g2] }
  | _ => none }
def fnExactGapsRow : OpenClaim := { program := "ytcdcniniafejbaadoor", sum := "ab7f3dba028af255dd1fc8c653cb69eae607c7d77342f62156d25e1e9b847450", func := "loop.example/g00638/laws.FnExactGaps", spec := "fnExactGaps", inPlace := ["internal/reflectlite.TypeOf"], unfollowed := true, recurses := true, named := ["loop.example/g00638/impl.errNoTable", "loop.example/g00638/impl.monthLengths"], ifaces := true, apart := false, laid := [("loop.example/g00638/impl.monthLengths", laid_loop_example_g00638_impl_monthLengths), ("loop.example/g00638/impl.errNoTable", laid_loop_example_g00638_impl_errNoTable)] }
def FnExactGapsSaid : Prop := fnExactGapsRow.holds Tryd.pinned (OpenSpec.ofChange fnExactGapsSpec)

/-- ITS FALSE NEIGHBOUR: 'it returns false'. Refute it at one input. -/
def fnExactGapsWrong : ChangeSpec := { name := "fnExactGaps", vars := ["loop.example/g00638/impl.errNoTable", "loop.example/g00638/impl.monthLengths"], fn := fun _ => fun
  | [d1, d2, d3, g1, g2] => { results := [.lit (.bool false)], args := [d1, d2, d3], vars := [g1, g2] }
  | _ => none }
def FnExactGapsWrongFalsely : Prop := fnExactGapsRow.holds Tryd.pinned (OpenSpec.ofChange fnExactGapsWrong)

/-- 'laws.FnExactLastYear': WHATEVER THE INPUT: true; the input reads as it did. -/
def fnExactLastYearSpec : ChangeSpec := { name := "fnExactLastYear", vars := ["loop.example/g00638/impl.monthLengths"], fn := fun _ => fun
  | [d1, d2, d3, d4, g1] => { results := [.lit (.bool true)], args := [d1, d2, d3, d4], vars := [g1] }
  | _ => none }
def fnExactLastYearRow : OpenClaim := { program := "ytcdcniniafejbaadoor", sum := "ab7f3dba028af255dd1fc8c653cb69eae607c7d77342f62156d25e1e9b847450", func := "loop.example/g00638/laws.FnExactLastYear", spec := "fnExactLastYear", unfollowed := true, recurses := true, named := ["loop.example/g00638/impl.monthLengths"], apart := false, laid := [("loop.example/g00638/impl.monthLengths", laid_loop_example_g00638_impl_monthLengths)] }
def FnExactLastYearSaid : Prop := fnExactLastYearRow.holds Tryd.pinned (OpenSpec.ofChange fnExactLastYearSpec)

/-- ITS FALSE NEIGHBOUR: 'it returns false'. Refute it at one input. -/
def fnExactLastYearWrong : ChangeSpec := { name := "fnExactLastYear", vars := ["loop.example/g00638/impl.monthLengths"], fn := fun _ => fun
  | [d1, d2, d3, d4, g1] => { results := [.lit (.bool false)], args := [d1, d2, d3, d4], vars := [g1] }
  | _ => none }
def FnExactLastYearWrongFalsely : Prop := fnExactLastYearRow.holds Tryd.pinned (OpenSpec.ofChange fnExactLastYearWrong)

/- THE SECOND FORM. 'bulk': how many values and letters a reading holds, each counted each time it is reached (what is shared counts as often as it is met; a slice's spare places count too). A statement '..UptoSaid' is the law's where the arguments, and the package variables that the reading takes, are together of bulk at most 1048576: NARROWER than '..Said'. Prove '..Said' where nothing that the law and all that it calls make is longer than what came in: it says more and counts as full. Else prove '..UptoSaid'. A law counts once. -/
mutual
def uptoBulk {H : Type} : DataW H → Nat
  | .lit (.string bytes) => bytes.length + 1
  | .lit _ => 1
  | .nil => 1
  | .ptr d => uptoBulk d + 1
  | .slice elems spare => uptoBulkAll elems + uptoBulkAll spare + 1
  | .agg parts => uptoBulkAll parts + 1
  | .iface _ d => uptoBulk d + 1
  | .map entries => uptoBulkEntries entries + 1
  | .held _ => 1
def uptoBulkAll {H : Type} : List (DataW H) → Nat
  | [] => 0
  | d :: r => uptoBulk d + uptoBulkAll r
def uptoBulkEntries {H : Type} : List (Lit × DataW H) → Nat
  | [] => 0
  | x :: r => uptoBulkEntry x + uptoBulkEntries r
def uptoBulkEntry {H : Type} : Lit × DataW H → Nat
  | (.string bytes, d) => bytes.length + uptoBulk d + 1
  | (_, d) => uptoBulk d + 1
 end
def uptoSmall : (H : Type) → List (DataW H) → Bool := fun _ ds => decide (uptoBulkAll ds ≤ 1048576)
def OpenSpec.upto (s : _root_.Go.ChangeSpec) : _root_.Go.OpenSpec := { _root_.Go.OpenSpec.ofChange s with cond := some uptoSmall }

/-- 'laws.FnExactReignsOk', WHERE WHAT IT READS IS OF BULK AT MOST 1048576: true; the input reads as it did. -/
def fnExactReignsOkUptoRow : OpenClaim := { program := "ytcdcniniafejbaadoor", sum := "ab7f3dba028af255dd1fc8c653cb69eae607c7d77342f62156d25e1e9b847450", func := "loop.example/g00638/laws.FnExactReignsOk", spec := "fnExactReignsOk", inPlace := ["internal/reflectlite.TypeOf"], unfollowed := true, recurses := true, named := ["loop.example/g00638/impl.errNoTable", "loop.example/g00638/impl.monthLengths"], ifaces := true, apart := false, laid := [("loop.example/g00638/impl.monthLengths", laid_loop_example_g00638_impl_monthLengths), ("loop.example/g00638/impl.errNoTable", laid_loop_example_g00638_impl_errNoTable)], narrowed := true }
def FnExactReignsOkUptoSaid : Prop := fnExactReignsOkUptoRow.holds Tryd.pinned (OpenSpec.upto fnExactReignsOkSpec)

/-- 'laws.FnExactReignYear', WHERE WHAT IT READS IS OF BULK AT MOST 1048576: true; the input reads as it did. -/
def fnExactReignYearUptoRow : OpenClaim := { program := "ytcdcniniafejbaadoor", sum := "ab7f3dba028af255dd1fc8c653cb69eae607c7d77342f62156d25e1e9b847450", func := "loop.example/g00638/laws.FnExactReignYear", spec := "fnExactReignYear", unfollowed := true, recurses := true, named := ["loop.example/g00638/impl.monthLengths"], apart := false, laid := [("loop.example/g00638/impl.monthLengths", laid_loop_example_g00638_impl_monthLengths)], narrowed := true }
def FnExactReignYearUptoSaid : Prop := fnExactReignYearUptoRow.holds Tryd.pinned (OpenSpec.upto fnExactReignYearSpec)

/-- 'laws.FnExactReignDays', WHERE WHAT IT READS IS OF BULK AT MOST 1048576: true; the input reads as it did. -/
def fnExactReignDaysUptoRow : OpenClaim := { program := "ytcdcniniafejbaadoor", sum := "ab7f3dba028af255dd1fc8c653cb69eae607c7d77342f62156d25e1e9b847450", func := "loop.example/g00638/laws.FnExactReignDays", spec := "fnExactReignDays", unfollowed := true, recurses := true, named := ["loop.example/g00638/impl.monthLengths"], apart := false, laid := [("loop.example/g00638/impl.monthLengths", laid_loop_example_g00638_impl_monthLengths)], narrowed := true }
def FnExactReignDaysUptoSaid : Prop := fnExactReignDaysUptoRow.holds Tryd.pinned (OpenSpec.upto fnExactReignDaysSpec)

/-- 'laws.FnExactReadReign', WHERE WHAT IT READS IS OF BULK AT MOST 1048576: true; the input reads as it did. -/
def fnExactReadReignUptoRow : OpenClaim := { program := "ytcdcniniafejbaadoor", sum := "ab7f3dba028af255dd1fc8c653cb69eae607c7d77342f62156d25e1e9b847450", func := "loop.example/g00638/laws.FnExactReadReign", spec := "fnExactReadReign", inPlace := ["internal/bytealg.IndexByteString", "internal/bytealg.IndexString", "internal/abi.NoEscape", "internal/bytealg.MakeNoZero"], named := ["internal/bytealg.MaxLen", "loop.example/g00638/impl.digitShapes"], apart := false, laid := [("loop.example/g00638/impl.digitShapes", laid_loop_example_g00638_impl_digitShapes)], narrowed := true }
def FnExactReadReignUptoSaid : Prop := fnExactReadReignUptoRow.holds Tryd.pinned (OpenSpec.upto fnExactReadReignSpec)

/-- 'laws.FnExactGaps', WHERE WHAT IT READS IS OF BULK AT MOST 1048576: true; the input reads as it did. -/
def fnExactGapsUptoRow : OpenClaim := { program := "ytcdcniniafejbaadoor", sum := "ab7f3dba028af255dd1fc8c653cb69eae607c7d77342f62156d25e1e9b847450", func := "loop.example/g00638/laws.FnExactGaps", spec := "fnExactGaps", inPlace := ["internal/reflectlite.TypeOf"], unfollowed := true, recurses := true, named := ["loop.example/g00638/impl.errNoTable", "loop.example/g00638/impl.monthLengths"], ifaces := true, apart := false, laid := [("loop.example/g00638/impl.monthLengths", laid_loop_example_g00638_impl_monthLengths), ("loop.example/g00638/impl.errNoTable", laid_loop_example_g00638_impl_errNoTable)], narrowed := true }
def FnExactGapsUptoSaid : Prop := fnExactGapsUptoRow.holds Tryd.pinned (OpenSpec.upto fnExactGapsSpec)

/-- 'laws.FnExactLastYear', WHERE WHAT IT READS IS OF BULK AT MOST 1048576: true; the input reads as it did. -/
def fnExactLastYearUptoRow : OpenClaim := { program := "ytcdcniniafejbaadoor", sum := "ab7f3dba028af255dd1fc8c653cb69eae607c7d77342f62156d25e1e9b847450", func := "loop.example/g00638/laws.FnExactLastYear", spec := "fnExactLastYear", unfollowed := true, recurses := true, named := ["loop.example/g00638/impl.monthLengths"], apart := false, laid := [("loop.example/g00638/impl.monthLengths", laid_loop_example_g00638_impl_monthLengths)], narrowed := true }
def FnExactLastYearUptoSaid : Prop := fnExactLastYearUptoRow.holds Tryd.pinned (OpenSpec.upto fnExactLastYearSpec)

end Rows
end Go.Proofs.YtcdcniniafejbaaDoor
