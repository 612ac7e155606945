/-
  NARROWER THAN 'FOR EVERY INPUT', by the rows' own cells (each row's printed sentence says how): FnEaster: laid · FnExactEpact: laid · FnExactFullMoon: laid · FnExactEasterTable: laid · FnExactEaster: laid · FnExactLetter: laid · FnExactEasterDays: laid · FnExactMoves: laid.
  DERIVED. THE GIVEN ROWS OF THIS SEAT. 8 by the template 'for every input the law returns true; each argument reads behind the call as it read before'; 0 by the template 'total and deterministic' (their statements: YthpfpijkgggodaaDoorTotals.lean).
  GIVEN WITH THE SEED: the statements are not yours to turn. If you find one false, say at which input.
  Laid BY PROGRAM, IN A SANDBOX (cutbox-rows.mjs): the forced cells as the released guide's own fill.sh prints them over the translation 3db3502df2931e89… (all of the seat's roots in one cut). By AI agents, Wed Nov 11 2026. No macro, syntax, notation, axiom, sorry.
-/
import Derived.Test.YthpfpijkgggodaaDoorChecked
import GoSem.Claim
import GoSem.ClaimJoined
import GoSem.ClaimMapViews
import Derived.JoinedTies
import Derived.KernelRfl
namespace Go.Proofs.YthpfpijkgggodaaDoor
/- THE CELL 'sum', in the pinned program and in every row, IS THE sha256 OF THE DUMP (.gsa) THAT YthpfpijkgggodaaDoorProg.lean LOADS. Nothing in Lean hashes anything: it is a label: what it is worth is what the hold of that sum in a sandbox is worth. -/
noncomputable def Tryd.pinned : Pinned := { name := "ythpfpijkgggodaadoor", sum := "3db3502df2931e89d1fdeba0aa26fe569bff10de8941425107276c83d083328e", checked := Tryd.checked }
namespace Rows
def none {H : Type} : Left H := { results := [], args := [] }

/- WHAT THE LISTED PACKAGE-LEVEL VARIABLES READ AS WHEN THE CALL BEGINS. Each datum BY PROGRAM (the guide's laid-datum.mjs) off the statement by which the dump's own 'gosem.cut.vars' lays the variable. In a bare row this is a premise. The card (YthpfpijkgggodaaDoorCards.lean) ties it to the program's text. -/
def laid_loop_example_g00638_impl_monthLengths {H : Type} : DataW H := .agg [.lit (.int .i64 31), .lit (.int .i64 28), .lit (.int .i64 31), .lit (.int .i64 30), .lit (.int .i64 31), .lit (.int .i64 30), .lit (.int .i64 31), .lit (.int .i64 31), .lit (.int .i64 30), .lit (.int .i64 31), .lit (.int .i64 30), .lit (.int .i64 31)]

/-- 'laws.FnEaster': WHATEVER THE INPUT: true; the input reads as it did. -/
def fnEasterSpec : ChangeSpec := { name := "fnEaster", vars := ["loop.example/g00638/impl.monthLengths"], fn := fun _ => fun
  | [d, g1] => { results := [.lit (.bool true)], args := [d], vars := [g1] }
  | _ => none }
def fnEasterRow : OpenClaim := { program := "ythpfpijkgggodaadoor", sum := "3db3502df2931e89d1fdeba0aa26fe569bff10de8941425107276c83d083328e", func := "loop.example/g00638/laws.FnEaster", spec := "fnEaster", unfollowed := true, recurses := true, named := ["loop.example/g00638/impl.monthLengths"], apart := false, laid := [("loop.example/g00638/impl.monthLengths", laid_loop_example_g00638_impl_monthLengths)] }
def FnEasterSaid : Prop := fnEasterRow.holds Tryd.pinned (OpenSpec.ofChange fnEasterSpec)

/-- ITS FALSE NEIGHBOUR: 'it returns false'. Refute it at one input. -/
def fnEasterWrong : ChangeSpec := { name := "fnEaster", vars := ["loop.example/g00638/impl.monthLengths"], fn := fun _ => fun
  | [d, g1] => { results := [.lit (.bool false)], args := [d], vars := [g1] }
  | _ => none }
def FnEasterWrongFalsely : Prop := fnEasterRow.holds Tryd.pinned (OpenSpec.ofChange fnEasterWrong)

/-- 'laws.FnExactEpact': WHATEVER THE INPUT: true; the input reads as it did. -/
def fnExactEpactSpec : ChangeSpec := { name := "fnExactEpact", vars := ["loop.example/g00638/impl.monthLengths"], fn := fun _ => fun
  | [d1, d2, g1] => { results := [.lit (.bool true)], args := [d1, d2], vars := [g1] }
  | _ => none }
def fnExactEpactRow : OpenClaim := { program := "ythpfpijkgggodaadoor", sum := "3db3502df2931e89d1fdeba0aa26fe569bff10de8941425107276c83d083328e", func := "loop.example/g00638/laws.FnExactEpact", spec := "fnExactEpact", unfollowed := true, recurses := true, named := ["loop.example/g00638/impl.monthLengths"], apart := false, laid := [("loop.example/g00638/impl.monthLengths", laid_loop_example_g00638_impl_monthLengths)] }
def FnExactEpactSaid : Prop := fnExactEpactRow.holds Tryd.pinned (OpenSpec.ofChange fnExactEpactSpec)

/-- ITS FALSE NEIGHBOUR: 'it returns false'. Refute it at one input. -/
def fnExactEpactWrong : ChangeSpec := { name := "fnExactEpact", vars := ["loop.example/g00638/impl.monthLengths"], fn := fun _ => fun
  | [d1, d2, g1] => { results := [.lit (.bool false)], args := [d1, d2], vars := [g1] }
  | _ => none }
def FnExactEpactWrongFalsely : Prop := fnExactEpactRow.holds Tryd.pinned (OpenSpec.ofChange fnExactEpactWrong)

/-- 'laws.FnExactFullMoon': WHATEVER THE INPUT: true; the input reads as it did. -/
def fnExactFullMoonSpec : ChangeSpec := { name := "fnExactFullMoon", vars := ["loop.example/g00638/impl.monthLengths"], fn := fun _ => fun
  | [d1, d2, g1] => { results := [.lit (.bool true)], args := [d1, d2], vars := [g1] }
  | _ => none }
def fnExactFullMoonRow : OpenClaim := { program := "ythpfpijkgggodaadoor", sum := "3db3502df2931e89d1fdeba0aa26fe569bff10de8941425107276c83d083328e", func := "loop.example/g00638/laws.FnExactFullMoon", spec := "fnExactFullMoon", unfollowed := true, recurses := true, named := ["loop.example/g00638/impl.monthLengths"], apart := false, laid := [("loop.example/g00638/impl.monthLengths", laid_loop_example_g00638_impl_monthLengths)] }
def FnExactFullMoonSaid : Prop := fnExactFullMoonRow.holds Tryd.pinned (OpenSpec.ofChange fnExactFullMoonSpec)

/-- ITS FALSE NEIGHBOUR: 'it returns false'. Refute it at one input. -/
def fnExactFullMoonWrong : ChangeSpec := { name := "fnExactFullMoon", vars := ["loop.example/g00638/impl.monthLengths"], fn := fun _ => fun
  | [d1, d2, g1] => { results := [.lit (.bool false)], args := [d1, d2], vars := [g1] }
  | _ => none }
def FnExactFullMoonWrongFalsely : Prop := fnExactFullMoonRow.holds Tryd.pinned (OpenSpec.ofChange fnExactFullMoonWrong)

/-- 'laws.FnExactEasterTable': WHATEVER THE INPUT: true; the input reads as it did. -/
def fnExactEasterTableSpec : ChangeSpec := { name := "fnExactEasterTable", vars := ["loop.example/g00638/impl.monthLengths"], fn := fun _ => fun
  | [d1, d2, g1] => { results := [.lit (.bool true)], args := [d1, d2], vars := [g1] }
  | _ => none }
def fnExactEasterTableRow : OpenClaim := { program := "ythpfpijkgggodaadoor", sum := "3db3502df2931e89d1fdeba0aa26fe569bff10de8941425107276c83d083328e", func := "loop.example/g00638/laws.FnExactEasterTable", spec := "fnExactEasterTable", unfollowed := true, recurses := true, named := ["loop.example/g00638/impl.monthLengths"], apart := false, laid := [("loop.example/g00638/impl.monthLengths", laid_loop_example_g00638_impl_monthLengths)] }
def FnExactEasterTableSaid : Prop := fnExactEasterTableRow.holds Tryd.pinned (OpenSpec.ofChange fnExactEasterTableSpec)

/-- ITS FALSE NEIGHBOUR: 'it returns false'. Refute it at one input. -/
def fnExactEasterTableWrong : ChangeSpec := { name := "fnExactEasterTable", vars := ["loop.example/g00638/impl.monthLengths"], fn := fun _ => fun
  | [d1, d2, g1] => { results := [.lit (.bool false)], args := [d1, d2], vars := [g1] }
  | _ => none }
def FnExactEasterTableWrongFalsely : Prop := fnExactEasterTableRow.holds Tryd.pinned (OpenSpec.ofChange fnExactEasterTableWrong)

/-- 'laws.FnExactEaster': WHATEVER THE INPUT: true; the input reads as it did. -/
def fnExactEasterSpec : ChangeSpec := { name := "fnExactEaster", vars := ["loop.example/g00638/impl.monthLengths"], fn := fun _ => fun
  | [d1, d2, g1] => { results := [.lit (.bool true)], args := [d1, d2], vars := [g1] }
  | _ => none }
def fnExactEasterRow : OpenClaim := { program := "ythpfpijkgggodaadoor", sum := "3db3502df2931e89d1fdeba0aa26fe569bff10de8941425107276c83d083328e", func := "loop.example/g00638/laws.FnExactEaster", spec := "fnExactEaster", unfollowed := true, recurses := true, named := ["loop.example/g00638/impl.monthLengths"], apart := false, laid := [("loop.example/g00638/impl.monthLengths", laid_loop_example_g00638_impl_monthLengths)] }
def FnExactEasterSaid : Prop := fnExactEasterRow.holds Tryd.pinned (OpenSpec.ofChange fnExactEasterSpec)

/-- ITS FALSE NEIGHBOUR: 'it returns false'. Refute it at one input. -/
def fnExactEasterWrong : ChangeSpec := { name := "fnExactEaster", vars := ["loop.example/g00638/impl.monthLengths"], fn := fun _ => fun
  | [d1, d2, g1] => { results := [.lit (.bool false)], args := [d1, d2], vars := [g1] }
  | _ => none }
def FnExactEasterWrongFalsely : Prop := fnExactEasterRow.holds Tryd.pinned (OpenSpec.ofChange fnExactEasterWrong)

/-- 'laws.FnExactLetter': WHATEVER THE INPUT: true; the input reads as it did. -/
def fnExactLetterSpec : ChangeSpec := { name := "fnExactLetter", vars := ["loop.example/g00638/impl.monthLengths"], fn := fun _ => fun
  | [d1, d2, g1] => { results := [.lit (.bool true)], args := [d1, d2], vars := [g1] }
  | _ => none }
def fnExactLetterRow : OpenClaim := { program := "ythpfpijkgggodaadoor", sum := "3db3502df2931e89d1fdeba0aa26fe569bff10de8941425107276c83d083328e", func := "loop.example/g00638/laws.FnExactLetter", spec := "fnExactLetter", unfollowed := true, recurses := true, named := ["loop.example/g00638/impl.monthLengths"], apart := false, laid := [("loop.example/g00638/impl.monthLengths", laid_loop_example_g00638_impl_monthLengths)] }
def FnExactLetterSaid : Prop := fnExactLetterRow.holds Tryd.pinned (OpenSpec.ofChange fnExactLetterSpec)

/-- ITS FALSE NEIGHBOUR: 'it returns false'. Refute it at one input. -/
def fnExactLetterWrong : ChangeSpec := { name := "fnExactLetter", vars := ["loop.example/g00638/impl.monthLengths"], fn := fun _ => fun
  | [d1, d2, g1] => { results := [.lit (.bool false)], args := [d1, d2], vars := [g1] }
  | _ => none }
def FnExactLetterWrongFalsely : Prop := fnExactLetterRow.holds Tryd.pinned (OpenSpec.ofChange fnExactLetterWrong)

/-- 'laws.FnExactEasterDays': WHATEVER THE INPUT: true; the input reads as it did. -/
def fnExactEasterDaysSpec : ChangeSpec := { name := "fnExactEasterDays", vars := ["loop.example/g00638/impl.monthLengths"], fn := fun _ => fun
  | [d1, d2, g1] => { results := [.lit (.bool true)], args := [d1, d2], vars := [g1] }
  | _ => none }
def fnExactEasterDaysRow : OpenClaim := { program := "ythpfpijkgggodaadoor", sum := "3db3502df2931e89d1fdeba0aa26fe569bff10de8941425107276c83d083328e", func := "loop.example/g00638/laws.FnExactEasterDays", spec := "fnExactEasterDays", unfollowed := true, recurses := true, named := ["loop.example/g00638/impl.monthLengths"], apart := false, laid := [("loop.example/g00638/impl.monthLengths", laid_loop_example_g00638_impl_monthLengths)] }
def FnExactEasterDaysSaid : Prop := fnExactEasterDaysRow.holds Tryd.pinned (OpenSpec.ofChange fnExactEasterDaysSpec)

/-- ITS FALSE NEIGHBOUR: 'it returns false'. Refute it at one input. -/
def fnExactEasterDaysWrong : ChangeSpec := { name := "fnExactEasterDays", vars := ["loop.example/g00638/impl.monthLengths"], fn := fun _ => fun
  | [d1, d2, g1] => { results := [.lit (.bool false)], args := [d1, d2], vars := [g1] }
  | _ => none }
def FnExactEasterDaysWrongFalsely : Prop := fnExactEasterDaysRow.holds Tryd.pinned (OpenSpec.ofChange fnExactEasterDaysWrong)

/-- 'laws.FnExactMoves': WHATEVER THE INPUT: true; the input reads as it did. -/
def fnExactMovesSpec : ChangeSpec := { name := "fnExactMoves", vars := ["loop.example/g00638/impl.monthLengths"], fn := fun _ => fun
  | [d1, d2, d3, g1] => { results := [.lit (.bool true)], args := [d1, d2, d3], vars := [g1] }
  | _ => none }
def fnExactMovesRow : OpenClaim := { program := "ythpfpijkgggodaadoor", sum := "3db3502df2931e89d1fdeba0aa26fe569bff10de8941425107276c83d083328e", func := "loop.example/g00638/laws.FnExactMoves", spec := "fnExactMoves", unfollowed := true, recurses := true, named := ["loop.example/g00638/impl.monthLengths"], apart := false, laid := [("loop.example/g00638/impl.monthLengths", laid_loop_example_g00638_impl_monthLengths)] }
def FnExactMovesSaid : Prop := fnExactMovesRow.holds Tryd.pinned (OpenSpec.ofChange fnExactMovesSpec)

/-- ITS FALSE NEIGHBOUR: 'it returns false'. Refute it at one input. -/
def fnExactMovesWrong : ChangeSpec := { name := "fnExactMoves", vars := ["loop.example/g00638/impl.monthLengths"], fn := fun _ => fun
  | [d1, d2, d3, g1] => { results := [.lit (.bool false)], args := [d1, d2, d3], vars := [g1] }
  | _ => none }
def FnExactMovesWrongFalsely : Prop := fnExactMovesRow.holds Tryd.pinned (OpenSpec.ofChange fnExactMovesWrong)

/- THE SECOND FORM. 'bulk': how many values and letters a reading holds, each counted each time it is reached (what is shared counts as often as it is met; a slice's spare places count too). A statement '..UptoSaid' is the law's where the arguments, and the package variables that the reading takes, are together of bulk at most 1048576: NARROWER than '..Said'. Prove '..Said' where nothing that the law and all that it calls make is longer than what came in: it says more and counts as full. Else prove '..UptoSaid'. A law counts once. -/
mutual
def uptoBulk {H : Type} : DataW H → Nat
  | .lit (.string bytes) => bytes.length + 1
  | .lit _ => 1
  | .nil => 1
  | .ptr d => uptoBulk d + 1
  | .slice elems spare => uptoBulkAll elems + uptoBulkAll spare + 1
  | .agg parts => uptoBulkAll parts + 1
  | .iface _ d => uptoBulk d + 1
  | .map entries => uptoBulkEntries entries + 1
  | .held _ => 1
def uptoBulkAll {H : Type} : List (DataW H) → Nat
  | [] => 0
  | d :: r => uptoBulk d + uptoBulkAll r
def uptoBulkEntries {H : Type} : List (Lit × DataW H) → Nat
  | [] => 0
  | x :: r => uptoBulkEntry x + uptoBulkEntries r
def uptoBulkEntry {H : Type} : Lit × DataW H → Nat
  | (.string bytes, d) => bytes.length + uptoBulk d + 1
  | (_, d) => uptoBulk d + 1
 end
def uptoSmall : (H : Type) → List (DataW H) → Bool := fun _ ds => decide (uptoBulkAll ds ≤ 1048576)
def OpenSpec.upto (s : _root_.Go.ChangeSpec) : _root_.Go.OpenSpec := { _root_.Go.OpenSpec.ofChange s with cond := some uptoSmall }

/-- 'laws.FnEaster', WHERE WHAT IT READS IS OF BULK AT MOST 1048576: true; the input reads as it did. -/
def fnEasterUptoRow : OpenClaim := { program := "ythpfpijkgggodaadoor", sum := "3db3502df2931e89d1fdeba0aa26fe569bff10de8941425107276c83d083328e", func := "loop.example/g00638/laws.FnEaster", spec := "fnEaster", unfollowed := true, recurses := true, named := ["loop.example/g00638/impl.monthLengths"], apart := false, laid := [("loop.example/g00638/impl.monthLengths", laid_loop_example_g00638_impl_monthLengths)], narrowed := true }
def FnEasterUptoSaid : Prop := fnEasterUptoRow.holds Tryd.pinned (OpenSpec.upto fnEasterSpec)

/-- 'laws.FnExactEpact', WHERE WHAT IT READS IS OF BULK AT MOST 1048576: true; the input reads as it did. -/
def fnExactEpactUptoRow : OpenClaim := { program := "ythpfpijkgggodaadoor", sum := "3db3502df2931e89d1fdeba0aa26fe569bff10de8941425107276c83d083328e", func := "loop.example/g00638/laws.FnExactEpact", spec := "fnExactEpact", unfollowed := true, recurses := true, named := ["loop.example/g00638/impl.monthLengths"], apart := false, laid := [("loop.example/g00638/impl.monthLengths", laid_loop_example_g00638_impl_monthLengths)], narrowed := true }
def FnExactEpactUptoSaid : Prop := fnExactEpactUptoRow.holds Tryd.pinned (OpenSpec.upto fnExactEpactSpec)

/-- 'laws.FnExactFullMoon', WHERE WHAT IT READS IS OF BULK AT MOST 1048576: true; the input reads as it did. -/
def fnExactFullMoonUptoRow : OpenClaim := { program := "ythpfpijkgggodaadoor", sum := "3db3502df2931e89d1fdeba0aa26fe569bff10de8941425107276c83d083328e", func := "loop.example/g00638/laws.FnExactFullMoon", spec := "fnExactFullMoon", unfollowed := true, recurses := true, named := ["loop.example/g00638/impl.monthLengths"], apart := false, laid := [("loop.example/g00638/impl.monthLengths", laid_loop_example_g00638_impl_monthLengths)], narrowed := true }
def FnExactFullMoonUptoSaid : Prop := fnExactFullMoonUptoRow.holds Tryd.pinned (OpenSpec.upto fnExactFullMoonSpec)

/-- 'laws.FnExactEasterTable', WHERE WHAT IT READS IS OF BULK AT MOST 1048576: true; the input reads as it did. -/
def fnExactEasterTableUptoRow : OpenClaim := { program := "ythpfpijkgggodaadoor", sum := "3db3502df2931e89d1fdeba0aa26fe569bff10de8941425107276c83d083328e", func := "loop.example/g00638/laws.FnExactEasterTable", spec := "fnExactEasterTable", unfollowed := true, recurses := true, named := ["loop.example/g00638/impl.monthLengths"], apart := false, laid := [("loop.example/g00638/impl.monthLengths", laid_loop_example_g00638_impl_monthLengths)], narrowed := true }
def FnExactEasterTableUptoSaid : Prop := fnExactEasterTableUptoRow.holds Tryd.pinned (OpenSpec.upto fnExactEasterTableSpec)

/-- 'laws.FnExactEaster', WHERE WHAT IT READS IS OF BULK AT MOST 1048576: true; the input reads as it did. -/
def fnExactEasterUptoRow : OpenClaim := { program := "ythpfpijkgggodaadoor", sum := "3db3502df2931e89d1fdeba0aa26fe569bff10de8941425107276c83d083328e", func := "loop.example/g00638/laws.FnExactEaster", spec := "fnExactEaster", unfollowed := true, recurses := true, named := ["loop.example/g00638/impl.monthLengths"], apart := false, laid := [("loop.example/g00638/impl.monthLengths", laid_loop_example_g00638_impl_monthLengths)], narrowed := true }
def FnExactEasterUptoSaid : Prop := fnExactEasterUptoRow.holds Tryd.pinned (OpenSpec.upto fnExactEasterSpec)

/-- 'laws.FnExactLetter', WHERE WHAT IT READS IS OF BULK AT MOST 1048576: true; the input reads as it did. -/
def fnExactLetterUptoRow : OpenClaim := { program := "ythpfpijkgggodaadoor", sum := "3db3502df2931e89d1fdeba0aa26fe569bff10de8941425107276c83d083328e", func := "loop.example/g00638/laws.FnExactLetter", spec := "fnExactLetter", unfollowed := true, recurses := true, named := ["loop.example/g00638/impl.monthLengths"], apart := false, laid := [("loop.example/g00638/impl.monthLengths", laid_loop_example_g00638_impl_monthLengths)], narrowed := true }
def FnExactLetterUptoSaid : Prop := fnExactLetterUptoRow.holds Tryd.pinned (OpenSpec.upto fnExactLetterSpec)

/-- 'laws.FnExactEasterDays', WHERE WHAT IT READS IS OF BULK AT MOST 1048576: true; the input reads as it did. -/
def fnExactEasterDaysUptoRow : OpenClaim := { program := "ythpfpijkgggodaadoor", sum := "3db3502df2931e89d1fdeba0aa26fe569bff10de8941425107276c83d083328e", func := "loop.example/g00638/laws.FnExactEasterDays", spec := "fnExactEasterDays", unfollowed := true, recurses := true, named := ["loop.example/g00638/impl.monthLengths"], apart := false, laid := [("loop.example/g00638/impl.monthLengths", laid_loop_example_g00638_impl_monthLengths)], narrowed := true }
def FnExactEasterDaysUptoSaid : Prop := fnExactEasterDaysUptoRow.holds Tryd.pinned (OpenSpec.upto fnExactEasterDaysSpec)

/-- 'laws.FnExactMoves', WHERE WHAT IT READS IS OF BULK AT MOST 1048576: true; the input reads as it did. -/
def fnExactMovesUptoRow : OpenClaim := { program := "ythpfpijkgggodaadoor", sum := "3db3502df2931e89d1fdeba0aa26fe569bff10de8941425107276c83d083328e", func := "loop.example/g00638/laws.FnExactMoves", spec := "fnExactMoves", unfollowed := true, recurses := true, named := ["loop.example/g00638/impl.monthLengths"], apart := false, laid := [("loop.example/g00638/impl.monthLengths", laid_loop_example_g00638_impl_monthLengths)], narrowed := true }
def FnExactMovesUptoSaid : Prop := fnExactMovesUptoRow.holds Tryd.pinned (OpenSpec.upto fnExactMovesSpec)

end Rows
end Go.Proofs.YthpfpijkgggodaaDoor
