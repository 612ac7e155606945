/-
  NARROWER THAN 'FOR EVERY INPUT', by the rows' own cells (each row's printed sentence says how): FnRegime: ifaces, laid · FnExactRegimeOk: ifaces, laid · FnExactChanges: ifaces, laid.
  DERIVED. THE GIVEN ROWS OF THIS SEAT. 3 by the template 'for every input the law returns true; each argument reads behind the call as it read before'; 0 by the template 'total and deterministic' (their statements: YtkinapfoigibcaaGreatDoorTotals.lean).
  GIVEN WITH THE SEED: the statements are not yours to turn. If you find one false, say at which input.
  Laid BY PROGRAM, IN A SANDBOX (cutbox-rows.mjs): the forced cells as the released guide's own fill.sh prints them over the translation 4cdf69df41ee1581… (all of the seat's roots in one cut). By AI agents, Wed Nov 11 2026. No macro, syntax, notation, axiom, sorry.
-/
import Derived.Test.YtkinapfoigibcaaGreatDoorChecked
import GoSem.Claim
import GoSem.ClaimJoined
import GoSem.ClaimMapViews
import Derived.JoinedTies
import Derived.KernelRfl
namespace Go.Proofs.YtkinapfoigibcaaGreatDoor
/- THE CELL 'sum', in the pinned program and in every row, IS THE sha256 OF THE DUMP (.gsa) THAT YtkinapfoigibcaaGreatDoorProg.lean LOADS. Nothing in Lean hashes anything: it is a label: what it is worth is what the hold of that sum in a sandbox is worth. -/
noncomputable def Tryz.pinned : Pinned := { name := "ytkinapfoigibcaagreatdoor", sum := "4cdf69df41ee1581f1039de51215f5d46f1166b6873c8873c5c6b6f5942bf504", checked := Tryz.checked }
namespace Rows
def none {H : Type} : Left H := { results := [], args := [] }

/- WHAT THE LISTED PACKAGE-LEVEL VARIABLES READ AS WHEN THE CALL BEGINS. Each datum BY PROGRAM (the guide's laid-datum.mjs) off the statement by which the dump's own 'gosem.cut.vars' lays the variable. In a bare row this is a premise. The card (YtkinapfoigibcaaGreatDoorCards.lean) ties it to the program's text. -/
def laid_errors_errorType {H : Type} : DataW H := .iface "internal/reflectlite.rtype" (.agg [.ptr (.lit (.string [101, 114, 114, 111, 114]))])
def laid_loop_example_g00638_impl_monthLengths {H : Type} : DataW H := .agg [.lit (.int .i64 31), .lit (.int .i64 28), .lit (.int .i64 31), .lit (.int .i64 30), .lit (.int .i64 31), .lit (.int .i64 30), .lit (.int .i64 31), .lit (.int .i64 31), .lit (.int .i64 30), .lit (.int .i64 31), .lit (.int .i64 30), .lit (.int .i64 31)]
def laid_loop_example_g00638_impl_errNoTable {H : Type} : DataW H := .iface "*errors.errorString" (.ptr (.agg [.lit (.string [110, 111, 32, 116, 97, 98, 108, 101, 32, 111, 102, 32, 114, 101, 105, 103, 110, 115])]))

/-- 'laws.FnRegime': WHATEVER THE INPUT: true; the input reads as it did. -/
def fnRegimeSpec : ChangeSpec := { name := "fnRegime", vars := ["loop.example/g00638/impl.errNoTable", "loop.example/g00638/impl.monthLengths"], fn := fun _ => fun
  | [d, g1, g2] => { results := [.lit (.bool true)], args := [d], vars := [g1, g2] }
  | _ => none }
def fnRegimeRow : OpenClaim := { program := "ytkinapfoigibcaagreatdoor", sum := "4cdf69df41ee1581f1039de51215f5d46f1166b6873c8873c5c6b6f5942bf504", func := "loop.example/g00638/laws.FnRegime", spec := "fnRegime", inPlace := ["internal/reflectlite.ValueOf", "(internal/reflectlite.Value).Type", "(internal/reflectlite.Value).IsNil", "internal/reflectlite.TypeOf", "(internal/reflectlite.Value).Elem", "(internal/reflectlite.Value).Set"], unfollowed := true, recurses := true, named := ["errors.errorType", "loop.example/g00638/impl.errNoTable", "loop.example/g00638/impl.monthLengths"], ifaces := true, apart := false, laid := [("errors.errorType", laid_errors_errorType), ("loop.example/g00638/impl.monthLengths", laid_loop_example_g00638_impl_monthLengths), ("loop.example/g00638/impl.errNoTable", laid_loop_example_g00638_impl_errNoTable)] }
def FnRegimeSaid : Prop := fnRegimeRow.holds Tryz.pinned (OpenSpec.ofChange fnRegimeSpec)

/-- ITS FALSE NEIGHBOUR: 'it returns false'. Refute it at one input. -/
def fnRegimeWrong : ChangeSpec := { name := "fnRegime", vars := ["loop.example/g00638/impl.errNoTable", "loop.example/g00638/impl.monthLengths"], fn := fun _ => fun
  | [d, g1, g2] => { results := [.lit (.bool false)], args := [d], vars := [g1, g2] }
  | _ => none }
def FnRegimeWrongFalsely : Prop := fnRegimeRow.holds Tryz.pinned (OpenSpec.ofChange fnRegimeWrong)

/-- 'laws.FnExactRegimeOk': WHATEVER THE INPUT: true; the input reads as it did. -/
def fnExactRegimeOkSpec : ChangeSpec := { name := "fnExactRegimeOk", vars := ["loop.example/g00638/impl.errNoTable", "loop.example/g00638/impl.monthLengths"], fn := fun _ => fun
  | [d, g1, g2] => { results := [.lit (.bool true)], args := [d], vars := [g1, g2] }
  | _ => none }
def fnExactRegimeOkRow : OpenClaim := { program := "ytkinapfoigibcaagreatdoor", sum := "4cdf69df41ee1581f1039de51215f5d46f1166b6873c8873c5c6b6f5942bf504", func := "loop.example/g00638/laws.FnExactRegimeOk", spec := "fnExactRegimeOk", inPlace := ["internal/reflectlite.ValueOf", "(internal/reflectlite.Value).Type", "(internal/reflectlite.Value).IsNil", "internal/reflectlite.TypeOf", "(internal/reflectlite.Value).Elem", "(internal/reflectlite.Value).Set"], unfollowed := true, recurses := true, named := ["errors.errorType", "loop.example/g00638/impl.errNoTable", "loop.example/g00638/impl.monthLengths"], ifaces := true, apart := false, laid := [("errors.errorType", laid_errors_errorType), ("loop.example/g00638/impl.monthLengths", laid_loop_example_g00638_impl_monthLengths), ("loop.example/g00638/impl.errNoTable", laid_loop_example_g00638_impl_errNoTable)] }
def FnExactRegimeOkSaid : Prop := fnExactRegimeOkRow.holds Tryz.pinned (OpenSpec.ofChange fnExactRegimeOkSpec)

/-- ITS FALSE NEIGHBOUR: 'it returns false'. Refute it at one input. -/
def fnExactRegimeOkWrong : ChangeSpec := { name := "fnExactRegimeOk", vars := ["loop.example/g00638/impl.errNoTable", "loop.example/g00638/impl.monthLengths"], fn := fun _ => fun
  | [d, g1, g2] => { results := [.lit (.bool false)], args := [d], vars := [g1, g2] }
  | _ => none }
def FnExactRegimeOkWrongFalsely : Prop := fnExactRegimeOkRow.holds Tryz.pinned (OpenSpec.ofChange fnExactRegimeOkWrong)

/-- 'laws.FnExactChanges': WHATEVER THE INPUT: true; the input reads as it did. -/
def fnExactChangesSpec : ChangeSpec := { name := "fnExactChanges", vars := ["loop.example/g00638/impl.errNoTable", "loop.example/g00638/impl.monthLengths"], fn := fun _ => fun
  | [d, g1, g2] => { results := [.lit (.bool true)], args := [d], vars := [g1, g2] }
  | _ => none }
def fnExactChangesRow : OpenClaim := { program := "ytkinapfoigibcaagreatdoor", sum := "4cdf69df41ee1581f1039de51215f5d46f1166b6873c8873c5c6b6f5942bf504", func := "loop.example/g00638/laws.FnExactChanges", spec := "fnExactChanges", inPlace := ["internal/reflectlite.ValueOf", "(internal/reflectlite.Value).Type", "(internal/reflectlite.Value).IsNil", "internal/reflectlite.TypeOf", "(internal/reflectlite.Value).Elem", "(internal/reflectlite.Value).Set"], unfollowed := true, recurses := true, named := ["errors.errorType", "loop.example/g00638/impl.errNoTable", "loop.example/g00638/impl.monthLengths"], ifaces := true, apart := false, laid := [("errors.errorType", laid_errors_errorType), ("loop.example/g00638/impl.monthLengths", laid_loop_example_g00638_impl_monthLengths), ("loop.example/g00638/impl.errNoTable", laid_loop_example_g00638_impl_errNoTable)] }
def FnExactChangesSaid : Prop := fnExactChangesRow.holds Tryz.pinned (OpenSpec.ofChange fnExactChangesSpec)

/-- ITS FALSE NEIGHBOUR: 'it returns false'. Refute it at one input. -/
def fnExactChangesWrong : ChangeSpec := { name := "fnExactChanges", vars := ["loop.example/g00638/impl.errNoTable", "loop.example/g00638/impl.monthLengths"], fn := fun _ => fun
  | [d, g1, g2] => { results := [.lit (.bool false)], args := [d], vars := [g1, g2] }
  | _ => none }
def FnExactChangesWrongFalsely : Prop := fnExactChangesRow.holds Tryz.pinned (OpenSpec.ofChange fnExactChangesWrong)

/- THE SECOND FORM. 'bulk': how many values and letters a reading holds, each counted each time it is reached (what is shared counts as often as it is met; a slice's spare places count too). A statement '..UptoSaid' is the law's where the arguments, and the package variables that the reading takes, are together of bulk at most 1048576: NARROWER than '..Said'. Prove '..Said' where nothing that the law and all that it calls make is longer than what came in: it says more and counts as full. Else prove '..UptoSaid'. A law counts once. -/
mutual
def uptoBulk {H : Type} : DataW H → Nat
  | .lit (.string bytes) => bytes.length + 1
  | .lit _ => 1
  | .nil => 1
  | .ptr d => uptoBulk d + 1
  | .slice elems spare => uptoBulkAll elems + uptoBulkAll spare + 1
  | .agg parts => uptoBulkAll parts + 1
  | .iface _ d => uptoBulk d + 1
  | .map entries => uptoBulkEntries entries + 1
  | .held _ => 1
def uptoBulkAll {H : Type} : List (DataW H) → Nat
  | [] => 0
  | d :: r => uptoBulk d + uptoBulkAll r
def uptoBulkEntries {H : Type} : List (Lit × DataW H) → Nat
  | [] => 0
  | x :: r => uptoBulkEntry x + uptoBulkEntries r
def uptoBulkEntry {H : Type} : Lit × DataW H → Nat
  | (.string bytes, d) => bytes.length + uptoBulk d + 1
  | (_, d) => uptoBulk d + 1
 end
def uptoSmall : (H : Type) → List (DataW H) → Bool := fun _ ds => decide (uptoBulkAll ds ≤ 1048576)
def OpenSpec.upto (s : _root_.Go.ChangeSpec) : _root_.Go.OpenSpec := { _root_.Go.OpenSpec.ofChange s with cond := some uptoSmall }

/-- 'laws.FnRegime', WHERE WHAT IT READS IS OF BULK AT MOST 1048576: true; the input reads as it did. -/
def fnRegimeUptoRow : OpenClaim := { program := "ytkinapfoigibcaagreatdoor", sum := "4cdf69df41ee1581f1039de51215f5d46f1166b6873c8873c5c6b6f5942bf504", func := "loop.example/g00638/laws.FnRegime", spec := "fnRegime", inPlace := ["internal/reflectlite.ValueOf", "(internal/reflectlite.Value).Type", "(internal/reflectlite.Value).IsNil", "internal/reflectlite.TypeOf", "(internal/reflectlite.Value).Elem", "(internal/reflectlite.Value).Set"], unfollowed := true, recurses := true, named := ["errors.errorType", "loop.example/g00638/impl.errNoTable", "loop.example/g00638/impl.monthLengths"], ifaces := true, apart := false, laid := [("errors.errorType", laid_errors_errorType), ("loop.example/g00638/impl.monthLengths", laid_loop_example_g00638_impl_monthLengths), ("loop.example/g00638/impl.errNoTable", laid_loop_example_g00638_impl_errNoTable)], narrowed := true }
def FnRegimeUptoSaid : Prop := fnRegimeUptoRow.holds Tryz.pinned (OpenSpec.upto fnRegimeSpec)

/-- 'laws.FnExactRegimeOk', WHERE WHAT IT READS IS OF BULK AT MOST 1048576: true; the input reads as it did. -/
def fnExactRegimeOkUptoRow : OpenClaim := { program := "ytkinapfoigibcaagreatdoor", sum := "4cdf69df41ee1581f1039de51215f5d46f1166b6873c8873c5c6b6f5942bf504", func := "loop.example/g00638/laws.FnExactRegimeOk", spec := "fnExactRegimeOk", inPlace := ["internal/reflectlite.ValueOf", "(internal/reflectlite.Value).Type", "(internal/reflectlite.Value).IsNil", "internal/reflectlite.TypeOf", "(internal/reflectlite.Value).Elem", "(internal/reflectlite.Value).Set"], unfollowed := true, recurses := true, named := ["errors.errorType", "loop.example/g00638/impl.errNoTable", "loop.example/g00638/impl.monthLengths"], ifaces := true, apart := false, laid := [("errors.errorType", laid_errors_errorType), ("loop.example/g00638/impl.monthLengths", laid_loop_example_g00638_impl_monthLengths), ("loop.example/g00638/impl.errNoTable", laid_loop_example_g00638_impl_errNoTable)], narrowed := true }
def FnExactRegimeOkUptoSaid : Prop := fnExactRegimeOkUptoRow.holds Tryz.pinned (OpenSpec.upto fnExactRegimeOkSpec)

/-- 'laws.FnExactChanges', WHERE WHAT IT READS IS OF BULK AT MOST 1048576: true; the input reads as it did. -/
def fnExactChangesUptoRow : OpenClaim := { program := "ytkinapfoigibcaagreatdoor", sum := "4cdf69df41ee1581f1039de51215f5d46f1166b6873c8873c5c6b6f5942bf504", func := "loop.example/g00638/laws.FnExactChanges", spec := "fnExactChanges", inPlace := ["internal/reflectlite.ValueOf", "(internal/reflectlite.Value).Type", "(internal/reflectlite.Value).IsNil", "internal/reflectlite.TypeOf", "(internal/reflectlite.Value).Elem", "(internal/reflectlite.Value).Set"], unfollowed := true, recurses := true, named := ["errors.errorType", "loop.example/g00638/impl.errNoTable", "loop.example/g00638/impl.monthLengths"], ifaces := true, apart := false, laid := [("errors.errorType", laid_errors_errorType), ("loop.example/g00638/impl.monthLengths", laid_loop_example_g00638_impl_monthLengths), ("loop.example/g00638/impl.errNoTable", laid_loop_example_g00638_impl_errNoTable)], narrowed := true }
def FnExactChangesUptoSaid : Prop := fnExactChangesUptoRow.holds Tryz.pinned (OpenSpec.upto fnExactChangesSpec)

end Rows
end Go.Proofs.YtkinapfoigibcaaGreatDoor
