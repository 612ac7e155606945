/-
  NARROWER THAN 'FOR EVERY INPUT', by the rows' own cells (each row's printed sentence says how): FnReign: ifaces, laid · FnExactReignText: ifaces, laid.
  DERIVED. THE GIVEN ROWS OF THIS SEAT. 2 by the template 'for every input the law returns true; each argument reads behind the call as it read before'; 0 by the template 'total and deterministic' (their statements: YtcdcniniafejbaaGreatDoorTotals.lean).
  GIVEN WITH THE SEED: the statements are not yours to turn. If you find one false, say at which input.
  Laid BY PROGRAM, IN A SANDBOX (cutbox-rows.mjs): the forced cells as the released guide's own fill.sh prints them over the translation aadb875a8c82a89e… (all of the seat's roots in one cut). By AI agents, Wed Nov 11 2026. No macro, syntax, notation, axiom, sorry.
-/
import Derived.Test.YtcdcniniafejbaaGreatDoorChecked
import GoSem.Claim
import GoSem.ClaimJoined
import GoSem.ClaimMapViews
import Derived.JoinedTies
import Derived.KernelRfl
namespace Go.Proofs.YtcdcniniafejbaaGreatDoor
/- THE CELL 'sum', in the pinned program and in every row, IS THE sha256 OF THE DUMP (.gsa) THAT YtcdcniniafejbaaGreatDoorProg.lean LOADS. Nothing in Lean hashes anything: it is a label: what it is worth is what the hold of that sum in a sandbox is worth. -/
noncomputable def Tryz.pinned : Pinned := { name := "ytcdcniniafejbaagreatdoor", sum := "aadb875a8c82a89eca3021b7d384298d1f6610ba3bf2f8c482adada3825f6fda", checked := Tryz.checked }
namespace Rows
def none {H : Type} : Left H := { results := [], args := [] }

/- WHAT THE LISTED PACKAGE-LEVEL VARIABLES READ AS WHEN THE CALL BEGINS. Each datum BY PROGRAM (the guide's laid-datum.mjs) off the statement by which the dump's own 'gosem.cut.vars' lays the variable. In a bare row this is a premise. The card (YtcdcniniafejbaaGreatDoorCards.lean) ties it to the program's text. -/
def laid_loop_example_g00638_impl_digitShapes {H : Type} : DataW H := .agg [.lit (.string []), .lit (.string [97]), .lit (.string [97, 97]), .lit (.string [97, 97, 97]), .lit (.string [97, 98]), .lit (.string [98]), .lit (.string [98, 97]), .lit (.string [98, 97, 97]), .lit (.string [98, 97, 97, 97]), .lit (.string [97, 99])]
def laid_loop_example_g00638_impl_monthLengths {H : Type} : DataW H := .agg [.lit (.int .i64 31), .lit (.int .i64 28), .lit (.int .i64 31), .lit (.int .i64 30), .lit (.int .i64 31), .lit (.int .i64 30), .lit (.int .i64 31), .lit (.int .i64 31), .lit (.int .i64 30), .lit (.int .i64 31), .lit (.int .i64 30), .lit (.int .i64 31)]
def laid_loop_example_g00638_impl_errNoTable {H : Type} : DataW H := .iface "*errors.errorString" (.ptr (.agg [.lit (.string [110, 111, 32, 116, 97, 98, 108, 101, 32, 111, 102, 32, 114, 101, 105, 103, 110, 115])]))

/-- 'laws.FnReign': WHATEVER THE INPUT: true; the input reads as it did. -/
def fnReignSpec : ChangeSpec := { name := "fnReign", vars := ["loop.example/g00638/impl.monthLengths", "loop.example/g00638/impl.errNoTable", "loop.example/g00638/impl.digitShapes"], fn := fun _ => fun
  | [d, g1, g2, g3] => { results := [.lit (.bool true)], args := [d], vars := [g1, g2, g3] }
  | _ => none }
def fnReignRow : OpenClaim := { program := "ytcdcniniafejbaagreatdoor", sum := "aadb875a8c82a89eca3021b7d384298d1f6610ba3bf2f8c482adada3825f6fda", func := "loop.example/g00638/laws.FnReign", spec := "fnReign", inPlace := ["internal/reflectlite.TypeOf", "internal/abi.NoEscape", "internal/bytealg.MakeNoZero", "internal/bytealg.IndexByteString", "internal/bytealg.IndexString"], unfollowed := true, recurses := true, named := ["loop.example/g00638/impl.monthLengths", "loop.example/g00638/impl.errNoTable", "loop.example/g00638/impl.digitShapes", "internal/bytealg.MaxLen"], ifaces := true, apart := false, laid := [("loop.example/g00638/impl.digitShapes", laid_loop_example_g00638_impl_digitShapes), ("loop.example/g00638/impl.monthLengths", laid_loop_example_g00638_impl_monthLengths), ("loop.example/g00638/impl.errNoTable", laid_loop_example_g00638_impl_errNoTable)] }
def FnReignSaid : Prop := fnReignRow.holds Tryz.pinned (OpenSpec.ofChange fnReignSpec)

/-- ITS FALSE NEIGHBOUR: 'it returns false'. Refute it at one input. -/
def fnReignWrong : ChangeSpec := { name := "fnReign", vars := ["loop.example/g00638/impl.monthLengths", "loop.example/g00638/impl.errNoTable", "loop.example/g00638/impl.digitShapes"], fn := fun _ => fun
  | [d, g1, g2, g3] => { results := [.lit (.bool false)], args := [d], vars := [g1, g2, g3] }
  | _ => none }
def FnReignWrongFalsely : Prop := fnReignRow.holds Tryz.pinned (OpenSpec.ofChange fnReignWrong)

/-- 'laws.FnExactReignText': WHATEVER THE INPUT: true; the input reads as it did. -/
def fnExactReignTextSpec : ChangeSpec := { name := "fnExactReignText", vars := ["loop.example/g00638/impl.errNoTable", "loop.example/g00638/impl.monthLengths", "loop.example/g00638/impl.digitShapes"], fn := fun _ => fun
  | [d1, d2, d3, d4, d5, g1, g2, g3] => { results := [.lit (.bool true)], args := [d1, d2, d3, d4, d5], vars := [g1, g2, g3] }
  | _ => none }
def fnExactReignTextRow : OpenClaim := { program := "ytcdcniniafejbaagreatdoor", sum := "aadb875a8c82a89eca3021b7d384298d1f6610ba3bf2f8c482adada3825f6fda", func := "loop.example/g00638/laws.FnExactReignText", spec := "fnExactReignText", inPlace := ["internal/reflectlite.TypeOf", "internal/abi.NoEscape", "internal/bytealg.MakeNoZero"], unfollowed := true, recurses := true, named := ["loop.example/g00638/impl.errNoTable", "loop.example/g00638/impl.monthLengths", "loop.example/g00638/impl.digitShapes"], ifaces := true, apart := false, laid := [("loop.example/g00638/impl.digitShapes", laid_loop_example_g00638_impl_digitShapes), ("loop.example/g00638/impl.monthLengths", laid_loop_example_g00638_impl_monthLengths), ("loop.example/g00638/impl.errNoTable", laid_loop_example_g00638_impl_errNoTable)] }
def FnExactReignTextSaid : Prop := fnExactReignTextRow.holds Tryz.pinned (OpenSpec.ofChange fnExactReignTextSpec)

/-- ITS FALSE NEIGHBOUR: 'it returns false'. Refute it at one input. -/
def fnExactReignTextWrong : ChangeSpec := { name := "fnExactReignText", vars := ["loop.example/g00638/impl.errNoTable", "loop.example/g00638/impl.monthLengths", "loop.example/g00638/impl.digitShapes"], fn := fun _ => fun
  | [d1, d2, d3, d4, d5, g1, g2, g3] => { results := [.lit (.bool false)], args := [d1, d2, d3, d4, d5], vars := [g1, g2, g3] }
  | _ => none }
def FnExactReignTextWrongFalsely : Prop := fnExactReignTextRow.holds Tryz.pinned (OpenSpec.ofChange fnExactReignTextWrong)

/- THE SECOND FORM. 'bulk': how many values and letters a reading holds, each counted each time it is reached (what is shared counts as often as it is met; a slice's spare places count too). A statement '..UptoSaid' is the law's where the arguments, and the package variables that the reading takes, are together of bulk at most 1048576: NARROWER than '..Said'. Prove '..Said' where nothing that the law and all that it calls make is longer than what came in: it says more and counts as full. Else prove '..UptoSaid'. A law counts once. -/
mutual
def uptoBulk {H : Type} : DataW H → Nat
  | .lit (.string bytes) => bytes.length + 1
  | .lit _ => 1
  | .nil => 1
  | .ptr d => uptoBulk d + 1
  | .slice elems spare => uptoBulkAll elems + uptoBulkAll spare + 1
  | .agg parts => uptoBulkAll parts + 1
  | .iface _ d => uptoBulk d + 1
  | .map entries => uptoBulkEntries entries + 1
  | .held _ => 1
def uptoBulkAll {H : Type} : List (DataW H) → Nat
  | [] => 0
  | d :: r => uptoBulk d + uptoBulkAll r
def uptoBulkEntries {H : Type} : List (Lit × DataW H) → Nat
  | [] => 0
  | x :: r => uptoBulkEntry x + uptoBulkEntries r
def uptoBulkEntry {H : Type} : Lit × DataW H → Nat
  | (.string bytes, d) => bytes.length + uptoBulk d + 1
  | (_, d) => uptoBulk d + 1
 end
def uptoSmall : (H : Type) → List (DataW H) → Bool := fun _ ds => decide (uptoBulkAll ds ≤ 1048576)
def OpenSpec.upto (s : _root_.Go.ChangeSpec) : _root_.Go.OpenSpec := { _root_.Go.OpenSpec.ofChange s with cond := some uptoSmall }

/-- 'laws.FnReign', WHERE WHAT IT READS IS OF BULK AT MOST 1048576: true; the input reads as it did. -/
def fnReignUptoRow : OpenClaim := { program := "ytcdcniniafejbaagreatdoor", sum := "aadb875a8c82a89eca3021b7d384298d1f6610ba3bf2f8c482adada3825f6fda", func := "loop.example/g00638/laws.FnReign", spec := "fnReign", inPlace := ["internal/reflectlite.TypeOf", "internal/abi.NoEscape", "internal/bytealg.MakeNoZero", "internal/bytealg.IndexByteString", "internal/bytealg.IndexString"], unfollowed := true, recurses := true, named := ["loop.example/g00638/impl.monthLengths", "loop.example/g00638/impl.errNoTable", "loop.example/g00638/impl.digitShapes", "internal/bytealg.MaxLen"], ifaces := true, apart := false, laid := [("loop.example/g00638/impl.digitShapes", laid_loop_example_g00638_impl_digitShapes), ("loop.example/g00638/impl.monthLengths", laid_loop_example_g00638_impl_monthLengths), ("loop.example/g00638/impl.errNoTable", laid_loop_example_g00638_impl_errNoTable)], narrowed := true }
def FnReignUptoSaid : Prop := fnReignUptoRow.holds Tryz.pinned (OpenSpec.upto fnReignSpec)

/-- 'laws.FnExactReignText', WHERE WHAT IT READS IS OF BULK AT MOST 1048576: true; the input reads as it did. -/
def fnExactReignTextUptoRow : OpenClaim := { program := "ytcdcniniafejbaagreatdoor", sum := "aadb875a8c82a89eca3021b7d384298d1f6610ba3bf2f8c482adada3825f6fda", func := "loop.example/g00638/laws.FnExactReignText", spec := "fnExactReignText", inPlace := ["internal/reflectlite.TypeOf", "internal/abi.NoEscape", "internal/bytealg.MakeNoZero"], unfollowed := true, recurses := true, named := ["loop.example/g00638/impl.errNoTable", "loop.example/g00638/impl.monthLengths", "loop.example/g00638/impl.digitShapes"], ifaces := true, apart := false, laid := [("loop.example/g00638/impl.digitShapes", laid_loop_example_g00638_impl_digitShapes), ("loop.example/g00638/impl.monthLengths", laid_loop_example_g00638_impl_monthLengths), ("loop.example/g00638/impl.errNoTable", laid_loop_example_g00638_impl_errNoTable)], narrowed := true }
def FnExactReignTextUptoSaid : Prop := fnExactReignTextUptoRow.holds Tryz.pinned (OpenSpec.upto fnExactReignTextSpec)

end Rows
end Go.Proofs.YtcdcniniafejbaaGreatDoor
