/-
  NARROWER THAN 'FOR EVERY INPUT', by the rows' own cells (each row's printed sentence says how): FnExactMeans: ifaces, laid · FnExactSame: ifaces, laid · FnExactLost: ifaces, laid · FnExactConcord: ifaces, laid.
  DERIVED. THE GIVEN ROWS OF THIS SEAT. 4 by the template 'for every input the law returns true; each argument reads behind the call as it read before'; 0 by the template 'total and deterministic' (their statements: YtdgolaaheakfoaaGreatDoorTotals.lean).
  GIVEN WITH THE SEED: the statements are not yours to turn. If you find one false, say at which input.
  Laid BY PROGRAM, IN A SANDBOX (cutbox-rows.mjs): the forced cells as the released guide's own fill.sh prints them over the translation 1b6e11dcea592102… (all of the seat's roots in one cut). By AI agents, Wed Nov 11 2026. No macro, syntax, notation, axiom, sorry.
-/
import Derived.Test.YtdgolaaheakfoaaGreatDoorChecked
import GoSem.Claim
import GoSem.ClaimJoined
import GoSem.ClaimMapViews
import Derived.JoinedTies
import Derived.KernelRfl
namespace Go.Proofs.YtdgolaaheakfoaaGreatDoor
/- THE CELL 'sum', in the pinned program and in every row, IS THE sha256 OF THE DUMP (.gsa) THAT YtdgolaaheakfoaaGreatDoorProg.lean LOADS. Nothing in Lean hashes anything: it is a label: what it is worth is what the hold of that sum in a sandbox is worth. -/
noncomputable def Tryz.pinned : Pinned := { name := "ytdgolaaheakfoaagreatdoor", sum := "1b6e11dcea5921026c1ec68cbdf56f166c839dd57bdba7b48de2ba403324437c", checked := Tryz.checked }
namespace Rows
def none {H : Type} : Left H := { results := [], args := [] }

/- WHAT THE LISTED PACKAGE-LEVEL VARIABLES READ AS WHEN THE CALL BEGINS. Each datum BY PROGRAM (the guide's laid-datum.mjs) off the statement by which the dump's own 'gosem.cut.vars' lays the variable. In a bare row this is a premise. The card (YtdgolaaheakfoaaGreatDoorCards.lean) ties it to the program's text. -/
def laid_errors_errorType {H : Type} : DataW H := .iface "internal/reflectlite.rtype" (.agg [.ptr (.lit (.string [101, 114, 114, 111, 114]))])
def laid_loop_example_g00638_impl_errNoTable {H : Type} : DataW H := .iface "*errors.errorString" (.ptr (.agg [.lit (.string [110, 111, 32, 116, 97, 98, 108, 101, 32, 111, 102, 32, 114, 101, 105, 103, 110, 115])]))
def laid_loop_example_g00638_impl_monthLengths {H : Type} : DataW H := .agg [.lit (.int .i64 31), .lit (.int .i64 28), .lit (.int .i64 31), .lit (.int .i64 30), .lit (.int .i64 31), .lit (.int .i64 30), .lit (.int .i64 31), .lit (.int .i64 31), .lit (.int .i64 30), .lit (.int .i64 31), .lit (.int .i64 30), .lit (.int .i64 31)]

/-- 'laws.FnExactMeans': WHATEVER THE INPUT: true; the input reads as it did. -/
def fnExactMeansSpec : ChangeSpec := { name := "fnExactMeans", vars := ["loop.example/g00638/impl.errNoTable", "loop.example/g00638/impl.monthLengths"], fn := fun _ => fun
  | [d1, d2, d3, g1, g2] => { results := [.lit (.bool true)], args := [d1, d2, d3], vars := [g1, g2] }
  | _ => none }
def fnExactMeansRow : OpenClaim := { program := "ytdgolaaheakfoaagreatdoor", sum := "1b6e11dcea5921026c1ec68cbdf56f166c839dd57bdba7b48de2ba403324437c", func := "loop.example/g00638/laws.FnExactMeans", spec := "fnExactMeans", inPlace := ["internal/reflectlite.ValueOf", "(internal/reflectlite.Value).Type", "(internal/reflectlite.Value).IsNil", "internal/reflectlite.TypeOf", "(internal/reflectlite.Value).Elem", "(internal/reflectlite.Value).Set"], unfollowed := true, recurses := true, named := ["errors.errorType", "loop.example/g00638/impl.errNoTable", "loop.example/g00638/impl.monthLengths"], ifaces := true, apart := false, laid := [("errors.errorType", laid_errors_errorType), ("loop.example/g00638/impl.errNoTable", laid_loop_example_g00638_impl_errNoTable), ("loop.example/g00638/impl.monthLengths", laid_loop_example_g00638_impl_monthLengths)] }
def FnExactMeansSaid : Prop := fnExactMeansRow.holds Tryz.pinned (OpenSpec.ofChange fnExactMeansSpec)

/-- ITS FALSE NEIGHBOUR: 'it returns false'. Refute it at one input. -/
def fnExactMeansWrong : ChangeSpec := { name := "fnExactMeans", vars := ["loop.example/g00638/impl.errNoTable", "loop.example/g00638/impl.monthLengths"], fn := fun _ => fun
  | [d1, d2, d3, g1, g2] => { results := [.lit (.bool false)], args := [d1, d2, d3], vars := [g1, g2] }
  | _ => none }
def FnExactMeansWrongFalsely : Prop := fnExactMeansRow.holds Tryz.pinned (OpenSpec.ofChange fnExactMeansWrong)

/-- 'laws.FnExactSame': WHATEVER THE INPUT: true; the input reads as it did. -/
def fnExactSameSpec : ChangeSpec := { name := "fnExactSame", vars := ["loop.example/g00638/impl.errNoTable", "loop.example/g00638/impl.monthLengths"], fn := fun _ => fun
  | [d1, d2, d3, d4, g1, g2] => { results := [.lit (.bool true)], args := [d1, d2, d3, d4], vars := [g1, g2] }
  | _ => none }
def fnExactSameRow : OpenClaim := { program := "ytdgolaaheakfoaagreatdoor", sum := "1b6e11dcea5921026c1ec68cbdf56f166c839dd57bdba7b48de2ba403324437c", func := "loop.example/g00638/laws.FnExactSame", spec := "fnExactSame", inPlace := ["internal/reflectlite.ValueOf", "(internal/reflectlite.Value).Type", "(internal/reflectlite.Value).IsNil", "internal/reflectlite.TypeOf", "(internal/reflectlite.Value).Elem", "(internal/reflectlite.Value).Set"], unfollowed := true, recurses := true, named := ["errors.errorType", "loop.example/g00638/impl.errNoTable", "loop.example/g00638/impl.monthLengths"], ifaces := true, apart := false, laid := [("errors.errorType", laid_errors_errorType), ("loop.example/g00638/impl.errNoTable", laid_loop_example_g00638_impl_errNoTable), ("loop.example/g00638/impl.monthLengths", laid_loop_example_g00638_impl_monthLengths)] }
def FnExactSameSaid : Prop := fnExactSameRow.holds Tryz.pinned (OpenSpec.ofChange fnExactSameSpec)

/-- ITS FALSE NEIGHBOUR: 'it returns false'. Refute it at one input. -/
def fnExactSameWrong : ChangeSpec := { name := "fnExactSame", vars := ["loop.example/g00638/impl.errNoTable", "loop.example/g00638/impl.monthLengths"], fn := fun _ => fun
  | [d1, d2, d3, d4, g1, g2] => { results := [.lit (.bool false)], args := [d1, d2, d3, d4], vars := [g1, g2] }
  | _ => none }
def FnExactSameWrongFalsely : Prop := fnExactSameRow.holds Tryz.pinned (OpenSpec.ofChange fnExactSameWrong)

/-- 'laws.FnExactLost': WHATEVER THE INPUT: true; the input reads as it did. -/
def fnExactLostSpec : ChangeSpec := { name := "fnExactLost", vars := ["loop.example/g00638/impl.errNoTable", "loop.example/g00638/impl.monthLengths"], fn := fun _ => fun
  | [d1, d2, g1, g2] => { results := [.lit (.bool true)], args := [d1, d2], vars := [g1, g2] }
  | _ => none }
def fnExactLostRow : OpenClaim := { program := "ytdgolaaheakfoaagreatdoor", sum := "1b6e11dcea5921026c1ec68cbdf56f166c839dd57bdba7b48de2ba403324437c", func := "loop.example/g00638/laws.FnExactLost", spec := "fnExactLost", inPlace := ["internal/reflectlite.ValueOf", "(internal/reflectlite.Value).Type", "(internal/reflectlite.Value).IsNil", "internal/reflectlite.TypeOf", "(internal/reflectlite.Value).Elem", "(internal/reflectlite.Value).Set"], unfollowed := true, recurses := true, named := ["errors.errorType", "loop.example/g00638/impl.errNoTable", "loop.example/g00638/impl.monthLengths"], ifaces := true, apart := false, laid := [("errors.errorType", laid_errors_errorType), ("loop.example/g00638/impl.errNoTable", laid_loop_example_g00638_impl_errNoTable), ("loop.example/g00638/impl.monthLengths", laid_loop_example_g00638_impl_monthLengths)] }
def FnExactLostSaid : Prop := fnExactLostRow.holds Tryz.pinned (OpenSpec.ofChange fnExactLostSpec)

/-- ITS FALSE NEIGHBOUR: 'it returns false'. Refute it at one input. -/
def fnExactLostWrong : ChangeSpec := { name := "fnExactLost", vars := ["loop.example/g00638/impl.errNoTable", "loop.example/g00638/impl.monthLengths"], fn := fun _ => fun
  | [d1, d2, g1, g2] => { results := [.lit (.bool false)], args := [d1, d2], vars := [g1, g2] }
  | _ => none }
def FnExactLostWrongFalsely : Prop := fnExactLostRow.holds Tryz.pinned (OpenSpec.ofChange fnExactLostWrong)

/-- 'laws.FnExactConcord': WHATEVER THE INPUT: true; the input reads as it did. -/
def fnExactConcordSpec : ChangeSpec := { name := "fnExactConcord", vars := ["loop.example/g00638/impl.errNoTable", "loop.example/g00638/impl.monthLengths"], fn := fun _ => fun
  | [d1, d2, d3, d4, g1, g2] => { results := [.lit (.bool true)], args := [d1, d2, d3, d4], vars := [g1, g2] }
  | _ => none }
def fnExactConcordRow : OpenClaim := { program := "ytdgolaaheakfoaagreatdoor", sum := "1b6e11dcea5921026c1ec68cbdf56f166c839dd57bdba7b48de2ba403324437c", func := "loop.example/g00638/laws.FnExactConcord", spec := "fnExactConcord", inPlace := ["internal/reflectlite.ValueOf", "(internal/reflectlite.Value).Type", "(internal/reflectlite.Value).IsNil", "internal/reflectlite.TypeOf", "(internal/reflectlite.Value).Elem", "(internal/reflectlite.Value).Set"], unfollowed := true, recurses := true, named := ["errors.errorType", "loop.example/g00638/impl.errNoTable", "loop.example/g00638/impl.monthLengths"], ifaces := true, apart := false, laid := [("errors.errorType", laid_errors_errorType), ("loop.example/g00638/impl.errNoTable", laid_loop_example_g00638_impl_errNoTable), ("loop.example/g00638/impl.monthLengths", laid_loop_example_g00638_impl_monthLengths)] }
def FnExactConcordSaid : Prop := fnExactConcordRow.holds Tryz.pinned (OpenSpec.ofChange fnExactConcordSpec)

/-- ITS FALSE NEIGHBOUR: 'it returns false'. Refute it at one input. -/
def fnExactConcordWrong : ChangeSpec := { name := "fnExactConcord", vars := ["loop.example/g00638/impl.errNoTable", "loop.example/g00638/impl.monthLengths"], fn := fun _ => fun
  | [d1, d2, d3, d4, g1, g2] => { results := [.lit (.bool false)], args := [d1, d2, d3, d4], vars := [g1, g2] }
  | _ => none }
def FnExactConcordWrongFalsely : Prop := fnExactConcordRow.holds Tryz.pinned (OpenSpec.ofChange fnExactConcordWrong)

/- THE SECOND FORM. 'bulk': how many values and letters a reading holds, each counted each time it is reached (what is shared counts as often as it is met; a slice's spare places count too). A statement '..UptoSaid' is the law's where the arguments, and the package variables that the reading takes, are together of bulk at most 1048576: NARROWER than '..Said'. Prove '..Said' where nothing that the law and all that it calls make is longer than what came in: it says more and counts as full. Else prove '..UptoSaid'. A law counts once. -/
mutual
def uptoBulk {H : Type} : DataW H → Nat
  | .lit (.string bytes) => bytes.length + 1
  | .lit _ => 1
  | .nil => 1
  | .ptr d => uptoBulk d + 1
  | .slice elems spare => uptoBulkAll elems + uptoBulkAll spare + 1
  | .agg parts => uptoBulkAll parts + 1
  | .iface _ d => uptoBulk d + 1
  | .map entries => uptoBulkEntries entries + 1
  | .held _ => 1
def uptoBulkAll {H : Type} : List (DataW H) → Nat
  | [] => 0
  | d :: r => uptoBulk d + uptoBulkAll r
def uptoBulkEntries {H : Type} : List (Lit × DataW H) → Nat
  | [] => 0
  | x :: r => uptoBulkEntry x + uptoBulkEntries r
def uptoBulkEntry {H : Type} : Lit × DataW H → Nat
  | (.string bytes, d) => bytes.length + uptoBulk d + 1
  | (_, d) => uptoBulk d + 1
 end
def uptoSmall : (H : Type) → List (DataW H) → Bool := fun _ ds => decide (uptoBulkAll ds ≤ 1048576)
def OpenSpec.upto (s : _root_.Go.ChangeSpec) : _root_.Go.OpenSpec := { _root_.Go.OpenSpec.ofChange s with cond := some uptoSmall }

/-- 'laws.FnExactMeans', WHERE WHAT IT READS IS OF BULK AT MOST 1048576: true; the input reads as it did. -/
def fnExactMeansUptoRow : OpenClaim := { program := "ytdgolaaheakfoaagreatdoor", sum := "1b6e11dcea5921026c1ec68cbdf56f166c839dd57bdba7b48de2ba403324437c", func := "loop.example/g00638/laws.FnExactMeans", spec := "fnExactMeans", inPlace := ["internal/reflectlite.ValueOf", "(internal/reflectlite.Value).Type", "(internal/reflectlite.Value).IsNil", "internal/reflectlite.TypeOf", "(internal/reflectlite.Value).Elem", "(internal/reflectlite.Value).Set"], unfollowed := true, recurses := true, named := ["errors.errorType", "loop.example/g00638/impl.errNoTable", "loop.example/g00638/impl.monthLengths"], ifaces := true, apart := false, laid := [("errors.errorType", laid_errors_errorType), ("loop.example/g00638/impl.errNoTable", laid_loop_example_g00638_impl_errNoTable), ("loop.example/g00638/impl.monthLengths", laid_loop_example_g00638_impl_monthLengths)], narrowed := true }
def FnExactMeansUptoSaid : Prop := fnExactMeansUptoRow.holds Tryz.pinned (OpenSpec.upto fnExactMeansSpec)

/-- 'laws.FnExactSame', WHERE WHAT IT READS IS OF BULK AT MOST 1048576: true; the input reads as it did. -/
def fnExactSameUptoRow : OpenClaim := { program := "ytdgolaaheakfoaagreatdoor", sum := "1b6e11dcea5921026c1ec68cbdf56f166c839dd57bdba7b48de2ba403324437c", func := "loop.example/g00638/laws.FnExactSame", spec := "fnExactSame", inPlace := ["internal/reflectlite.ValueOf", "(internal/reflectlite.Value).Type", "(internal/reflectlite.Value).IsNil", "internal/reflectlite.TypeOf", "(internal/reflectlite.Value).Elem", "(internal/reflectlite.Value).Set"], unfollowed := true, recurses := true, named := ["errors.errorType", "loop.example/g00638/impl.errNoTable", "loop.example/g00638/impl.monthLengths"], ifaces := true, apart := false, laid := [("errors.errorType", laid_errors_errorType), ("loop.example/g00638/impl.errNoTable", laid_loop_example_g00638_impl_errNoTable), ("loop.example/g00638/impl.monthLengths", laid_loop_example_g00638_impl_monthLengths)], narrowed := true }
def FnExactSameUptoSaid : Prop := fnExactSameUptoRow.holds Tryz.pinned (OpenSpec.upto fnExactSameSpec)

/-- 'laws.FnExactLost', WHERE WHAT IT READS IS OF BULK AT MOST 1048576: true; the input reads as it did. -/
def fnExactLostUptoRow : OpenClaim := { program := "ytdgolaaheakfoaagreatdoor", sum := "1b6e11dcea5921026c1ec68cbdf56f166c839dd57bdba7b48de2ba403324437c", func := "loop.example/g00638/laws.FnExactLost", spec := "fnExactLost", inPlace := ["internal/reflectlite.ValueOf", "(internal/reflectlite.Value).Type", "(internal/reflectlite.Value).IsNil", "internal/reflectlite.TypeOf", "(internal/reflectlite.Value).Elem", "(internal/reflectlite.Value).Set"], unfollowed := true, recurses := true, named := ["errors.errorType", "loop.example/g00638/impl.errNoTable", "loop.example/g00638/impl.monthLengths"], ifaces := true, apart := false, laid := [("errors.errorType", laid_errors_errorType), ("loop.example/g00638/impl.errNoTable", laid_loop_example_g00638_impl_errNoTable), ("loop.example/g00638/impl.monthLengths", laid_loop_example_g00638_impl_monthLengths)], narrowed := true }
def FnExactLostUptoSaid : Prop := fnExactLostUptoRow.holds Tryz.pinned (OpenSpec.upto fnExactLostSpec)

/-- 'laws.FnExactConcord', WHERE WHAT IT READS IS OF BULK AT MOST 1048576: true; the input reads as it did. -/
def fnExactConcordUptoRow : OpenClaim := { program := "ytdgolaaheakfoaagreatdoor", sum := "1b6e11dcea5921026c1ec68cbdf56f166c839dd57bdba7b48de2ba403324437c", func := "loop.example/g00638/laws.FnExactConcord", spec := "fnExactConcord", inPlace := ["internal/reflectlite.ValueOf", "(internal/reflectlite.Value).Type", "(internal/reflectlite.Value).IsNil", "internal/reflectlite.TypeOf", "(internal/reflectlite.Value).Elem", "(internal/reflectlite.Value).Set"], unfollowed := true, recurses := true, named := ["errors.errorType", "loop.example/g00638/impl.errNoTable", "loop.example/g00638/impl.monthLengths"], ifaces := true, apart := false, laid := [("errors.errorType", laid_errors_errorType), ("loop.example/g00638/impl.errNoTable", laid_loop_example_g00638_impl_errNoTable), ("loop.example/g00638/impl.monthLengths", laid_loop_example_g00638_impl_monthLengths)], narrowed := true }
def FnExactConcordUptoSaid : Prop := fnExactConcordUptoRow.holds Tryz.pinned (OpenSpec.upto fnExactConcordSpec)

end Rows
end Go.Proofs.YtdgolaaheakfoaaGreatDoor
