/-
  NARROWER THAN 'FOR EVERY INPUT', by the rows' own cells (each row's printed sentence says how): FnSolar: laid · FnWeek: laid · FnEaster: laid · FnExactDayOf: laid · FnExactDayInYear: laid · FnExactApart: laid · FnExactCompareDates: laid · FnExactFullMoon: laid · FnExactEasterTable: laid · FnExactEaster: laid · FnExactLetter: laid.
  DERIVED. THE GIVEN ROWS OF THIS SEAT. 11 by the template 'for every input the law returns true; each argument reads behind the call as it read before'; 0 by the template 'total and deterministic' (their statements: YtckjcaloofjeoaaDoorTotals.lean).
  GIVEN WITH THE SEED: the statements are not yours to turn. If you find one false, say at which input.
  Laid BY PROGRAM, IN A SANDBOX (cutbox-rows.mjs): the forced cells as the released guide's own fill.sh prints them over the translation c4a01629b6b02370… (all of the seat's roots in one cut). By AI agents, Wed Nov 11 2026. No macro, syntax, notation, axiom, sorry.
-/
import Derived.Test.YtckjcaloofjeoaaDoorChecked
import GoSem.Claim
import GoSem.ClaimJoined
import GoSem.ClaimMapViews
import Derived.JoinedTies
import Derived.KernelRfl
namespace Go.Proofs.YtckjcaloofjeoaaDoor
/- THE CELL 'sum', in the pinned program and in every row, IS THE sha256 OF THE DUMP (.gsa) THAT YtckjcaloofjeoaaDoorProg.lean LOADS. Nothing in Lean hashes anything: it is a label: what it is worth is what the hold of that sum in a sandbox is worth. -/
noncomputable def Tryd.pinned : Pinned := { name := "ytckjcaloofjeoaadoor", sum := "c4a01629b6b02370fbeef690a8c900261e4750912fa57bec0b37f1bfa61af2ae", checked := Tryd.checked }
namespace Rows
def none {H : Type} : Left H := { results := [], args := [] }

/- WHAT THE LISTED PACKAGE-LEVEL VARIABLES READ AS WHEN THE CALL BEGINS. Each datum BY PROGRAM (the guide's laid-datum.mjs) off the statement by which the dump's own 'gosem.cut.vars' lays the variable. In a bare row this is a premise. The card (YtckjcaloofjeoaaDoorCards.lean) ties it to the program's text. -/
def laid_loop_example_g00638_impl_monthLengths {H : Type} : DataW H := .agg [.lit (.int .i64 31), .lit (.int .i64 28), .lit (.int .i64 31), .lit (.int .i64 30), .lit (.int .i64 31), .lit (.int .i64 30), .lit (.int .i64 31), .lit (.int .i64 31), .lit (.int .i64 30), .lit (.int .i64 31), .lit (.int .i64 30), .lit (.int .i64 31)]
def laid_loop_example_g00638_impl_weekdayNames {H : Type} : DataW H := .agg [.lit (.string [115, 117, 110]), .lit (.string [109, 111, 110]), .lit (.string [116, 117, 101]), .lit (.string [119, 101, 100]), .lit (.string [116, 104, 117]), .lit (.string [102, 114, 105]), .lit (.string [115, 97, 116])]

/-- 'laws.FnSolar': WHATEVER THE INPUT: true; the input reads as it did. -/
def fnSolarSpec : ChangeSpec := { name := "fnSolar", vars := ["loop.example/g00638/impl.monthLengths"], fn := fun _ => fun
  | [d, g1] => { results := [.lit (.bool true)], args := [d], vars := [g1] }
  | _ => none }
def fnSolarRow : OpenClaim := { program := "ytckjcaloofjeoaadoor", sum := "c4a01629b6b02370fbeef690a8c900261e4750912fa57bec0b37f1bfa61af2ae", func := "loop.example/g00638/laws.FnSolar", spec := "fnSolar", unfollowed := true, recurses := true, named := ["loop.example/g00638/impl.monthLengths"], apart := false, laid := [("loop.example/g00638/impl.monthLengths", laid_loop_example_g00638_impl_monthLengths)] }
def FnSolarSaid : Prop := fnSolarRow.holds Tryd.pinned (OpenSpec.ofChange fnSolarSpec)

/-- ITS FALSE NEIGHBOUR: 'it returns false'. Refute it at one input. -/
def fnSolarWrong : ChangeSpec := { name := "fnSolar", vars := ["loop.example/g00638/impl.monthLengths"], fn := fun _ => fun
  | [d, g1] => { results := [.lit (.bool false)], args := [d], vars := [g1] }
  | _ => none }
def FnSolarWrongFalsely : Prop := fnSolarRow.holds Tryd.pinned (OpenSpec.ofChange fnSolarWrong)

/-- 'laws.FnWeek': WHATEVER THE INPUT: true; the input reads as it did. -/
def fnWeekSpec : ChangeSpec := { name := "fnWeek", vars := ["loop.example/g00638/impl.monthLengths", "loop.example/g00638/impl.weekdayNames"], fn := fun _ => fun
  | [d, g1, g2] => { results := [.lit (.bool true)], args := [d], vars := [g1, g2] }
  | _ => none }
def fnWeekRow : OpenClaim := { program := "ytckjcaloofjeoaadoor", sum := "c4a01629b6b02370fbeef690a8c900261e4750912fa57bec0b37f1bfa61af2ae", func := "loop.example/g00638/laws.FnWeek", spec := "fnWeek", unfollowed := true, recurses := true, named := ["loop.example/g00638/impl.monthLengths", "loop.example/g00638/impl.weekdayNames"], apart := false, laid := [("loop.example/g00638/impl.monthLengths", laid_loop_example_g00638_impl_monthLengths), ("loop.example/g00638/impl.weekdayNames", laid_loop_example_g00638_impl_weekdayNames)] }
def FnWeekSaid : Prop := fnWeekRow.holds Tryd.pinned (OpenSpec.ofChange fnWeekSpec)

/-- ITS FALSE NEIGHBOUR: 'it returns false'. Refute it at one input. -/
def fnWeekWrong : ChangeSpec := { name := "fnWeek", vars := ["loop.example/g00638/impl.monthLengths", "loop.example/g00638/impl.weekdayNames"], fn := fun _ => fun
  | [d, g1, g2] => { results := [.lit (.bool false)], args := [d], vars := [g1, g2] }
  | _ => none }
def FnWeekWrongFalsely : Prop := fnWeekRow.holds Tryd.pinned (OpenSpec.ofChange fnWeekWrong)

/-- 'laws.FnEaster': WHATEVER THE INPUT: true; the input reads as it did. -/
def fnEasterSpec : ChangeSpec := { name := "fnEaster", vars := ["loop.example/g00638/impl.monthLengths"], fn := fun _ => fun
  | [d, g1] => { results := [.lit (.bool true)], args := [d], vars := [g1] }
  | _ => none }
def fnEasterRow : OpenClaim := { program := "ytckjcaloofjeoaadoor", sum := "c4a01629b6b02370fbeef690a8c900261e4750912fa57bec0b37f1bfa61af2ae", func := "loop.example/g00638/laws.FnEaster", spec := "fnEaster", unfollowed := true, recurses := true, named := ["loop.example/g00638/impl.monthLengths"], apart := false, laid := [("loop.example/g00638/impl.monthLengths", laid_loop_example_g00638_impl_monthLengths)] }
def FnEasterSaid : Prop := fnEasterRow.holds Tryd.pinned (OpenSpec.ofChange fnEasterSpec)

/-- ITS FALSE NEIGHBOUR: 'it returns false'. Refute it at one input. -/
def fnEasterWrong : ChangeSpec := { name := "fnEaster", vars := ["loop.example/g00638/impl.monthLengths"], fn := fun _ => fun
  | [d, g1] => { results := [.lit (.bool false)], args := [d], vars := [g1] }
  | _ => none }
def FnEasterWrongFalsely : Prop := fnEasterRow.holds Tryd.pinned (OpenSpec.ofChange fnEasterWrong)

/-- 'laws.FnExactDayOf': WHATEVER THE INPUT: true; the input reads as it did. -/
def fnExactDayOfSpec : ChangeSpec := { name := "fnExactDayOf", vars := ["loop.example/g00638/impl.monthLengths"], fn := fun _ => fun
  | [d, g1] => { results := [.lit (.bool true)], args := [d], vars := [g1] }
  | _ => none }
def fnExactDayOfRow : OpenClaim := { program := "ytckjcaloofjeoaadoor", sum := "c4a01629b6b02370fbeef690a8c900261e4750912fa57bec0b37f1bfa61af2ae", func := "loop.example/g00638/laws.FnExactDayOf", spec := "fnExactDayOf", unfollowed := true, recurses := true, named := ["loop.example/g00638/impl.monthLengths"], apart := false, laid := [("loop.example/g00638/impl.monthLengths", laid_loop_example_g00638_impl_monthLengths)] }
def FnExactDayOfSaid : Prop := fnExactDayOfRow.holds Tryd.pinned (OpenSpec.ofChange fnExactDayOfSpec)

/-- ITS FALSE NEIGHBOUR: 'it returns false'. Refute it at one input. -/
def fnExactDayOfWrong : ChangeSpec := { name := "fnExactDayOf", vars := ["loop.example/g00638/impl.monthLengths"], fn := fun _ => fun
  | [d, g1] => { results := [.lit (.bool false)], args := [d], vars := [g1] }
  | _ => none }
def FnExactDayOfWrongFalsely : Prop := fnExactDayOfRow.holds Tryd.pinned (OpenSpec.ofChange fnExactDayOfWrong)

/-- 'laws.FnExactDayInYear': WHATEVER THE INPUT: true; the input reads as it did. -/
def fnExactDayInYearSpec : ChangeSpec := { name := "fnExactDayInYear", vars := ["loop.example/g00638/impl.monthLengths"], fn := fun _ => fun
  | [d, g1] => { results := [.lit (.bool true)], args := [d], vars := [g1] }
  | _ => none }
def fnExactDayInYearRow : OpenClaim := { program := "ytckjcaloofjeoaadoor", sum := "c4a01629b6b02370fbeef690a8c900261e4750912fa57bec0b37f1bfa61af2ae", func := "loop.example/g00638/laws.FnExactDayInYear", spec := "fnExactDayInYear", unfollowed := true, recurses := true, named := ["loop.example/g00638/impl.monthLengths"], apart := false, laid := [("loop.example/g00638/impl.monthLengths", laid_loop_example_g00638_impl_monthLengths)] }
def FnExactDayInYearSaid : Prop := fnExactDayInYearRow.holds Tryd.pinned (OpenSpec.ofChange fnExactDayInYearSpec)

/-- ITS FALSE NEIGHBOUR: 'it returns false'. Refute it at one input. -/
def fnExactDayInYearWrong : ChangeSpec := { name := "fnExactDayInYear", vars := ["loop.example/g00638/impl.monthLengths"], fn := fun _ => fun
  | [d, g1] => { results := [.lit (.bool false)], args := [d], vars := [g1] }
  | _ => none }
def FnExactDayInYearWrongFalsely : Prop := fnExactDayInYearRow.holds Tryd.pinned (OpenSpec.ofChange fnExactDayInYearWrong)

/-- 'laws.FnExactApart': WHATEVER THE INPUT: true; the input reads as it did. -/
def fnExactApartSpec : ChangeSpec := { name := "fnExactApart", vars := ["loop.example/g00638/impl.monthLengths"], fn := fun _ => fun
  | [d1, d2, d3, g1] => { results := [.lit (.bool true)], args := [d1, d2, d3], vars := [g1] }
  | _ => none }
def fnExactApartRow : OpenClaim := { program := "ytckjcaloofjeoaadoor", sum := "c4a01629b6b02370fbeef690a8c900261e4750912fa57bec0b37f1bfa61af2ae", func := "loop.example/g00638/laws.FnExactApart", spec := "fnExactApart", unfollowed := true, recurses := true, named := ["loop.example/g00638/impl.monthLengths"], apart := false, laid := [("loop.example/g00638/impl.monthLengths", laid_loop_example_g00638_impl_monthLengths)] }
def FnExactApartSaid : Prop := fnExactApartRow.holds Tryd.pinned (OpenSpec.ofChange fnExactApartSpec)

/-- ITS FALSE NEIGHBOUR: 'it returns false'. Refute it at one input. -/
def fnExactApartWrong : ChangeSpec := { name := "fnExactApart", vars := ["loop.example/g00638/impl.monthLengths"], fn := fun _ => fun
  | [d1, d2, d3, g1] => { results := [.lit (.bool false)], args := [d1, d2, d3], vars := [g1] }
  | _ => none }
def FnExactApartWrongFalsely : Prop := fnExactApartRow.holds Tryd.pinned (OpenSpec.ofChange fnExactApartWrong)

/-- 'laws.FnExactCompareDates': WHATEVER THE INPUT: true; the input reads as it did. -/
def fnExactCompareDatesSpec : ChangeSpec := { name := "fnExactCompareDates", vars := ["loop.example/g00638/impl.monthLengths"], fn := fun _ => fun
  | [d1, d2, g1] => { results := [.lit (.bool true)], args := [d1, d2], vars := [g1] }
  | _ => none }
def fnExactCompareDatesRow : OpenClaim := { program := "ytckjcaloofjeoaadoor", sum := "c4a01629b6b02370fbeef690a8c900261e4750912fa57bec0b37f1bfa61af2ae", func := "loop.example/g00638/laws.FnExactCompareDates", spec := "fnExactCompareDates", unfollowed := true, recurses := true, named := ["loop.example/g00638/impl.monthLengths"], apart := false, laid := [("loop.example/g00638/impl.monthLengths", laid_loop_example_g00638_impl_monthLengths)] }
def FnExactCompareDatesSaid : Prop := fnExactCompareDatesRow.holds Tryd.pinned (OpenSpec.ofChange fnExactCompareDatesSpec)

/-- ITS FALSE NEIGHBOUR: 'it returns false'. Refute it at one input. -/
def fnExactCompareDatesWrong : ChangeSpec := { name := "fnExactCompareDates", vars := ["loop.example/g00638/impl.monthLengths"], fn := fun _ => fun
  | [d1, d2, g1] => { results := [.lit (.bool false)], args := [d1, d2], vars := [g1] }
  | _ => none }
def FnExactCompareDatesWrongFalsely : Prop := fnExactCompareDatesRow.holds Tryd.pinned (OpenSpec.ofChange fnExactCompareDatesWrong)

/-- 'laws.FnExactFullMoon': WHATEVER THE INPUT: true; the input reads as it did. -/
def fnExactFullMoonSpec : ChangeSpec := { name := "fnExactFullMoon", vars := ["loop.example/g00638/impl.monthLengths"], fn := fun _ => fun
  | [d1, d2, g1] => { results := [.lit (.bool true)], args := [d1, d2], vars := [g1] }
  | _ => none }
def fnExactFullMoonRow : OpenClaim := { program := "ytckjcaloofjeoaadoor", sum := "c4a01629b6b02370fbeef690a8c900261e4750912fa57bec0b37f1bfa61af2ae", func := "loop.example/g00638/laws.FnExactFullMoon", spec := "fnExactFullMoon", unfollowed := true, recurses := true, named := ["loop.example/g00638/impl.monthLengths"], apart := false, laid := [("loop.example/g00638/impl.monthLengths", laid_loop_example_g00638_impl_monthLengths)] }
def FnExactFullMoonSaid : Prop := fnExactFullMoonRow.holds Tryd.pinned (OpenSpec.ofChange fnExactFullMoonSpec)

/-- ITS FALSE NEIGHBOUR: 'it returns false'. Refute it at one input. -/
def fnExactFullMoonWrong : ChangeSpec := { name := "fnExactFullMoon", vars := ["loop.example/g00638/impl.monthLengths"], fn := fun _ => fun
  | [d1, d2, g1] => { results := [.lit (.bool false)], args := [d1, d2], vars := [g1] }
  | _ => none }
def FnExactFullMoonWrongFalsely : Prop := fnExactFullMoonRow.holds Tryd.pinned (OpenSpec.ofChange fnExactFullMoonWrong)

/-- 'laws.FnExactEasterTable': WHATEVER THE INPUT: true; the input reads as it did. -/
def fnExactEasterTableSpec : ChangeSpec := { name := "fnExactEasterTable", vars := ["loop.example/g00638/impl.monthLengths"], fn := fun _ => fun
  | [d1, d2, g1] => { results := [.lit (.bool true)], args := [d1, d2], vars := [g1] }
  | _ => none }
def fnExactEasterTableRow : OpenClaim := { program := "ytckjcaloofjeoaadoor", sum := "c4a01629b6b02370fbeef690a8c900261e4750912fa57bec0b37f1bfa61af2ae", func := "loop.example/g00638/laws.FnExactEasterTable", spec := "fnExactEasterTable", unfollowed := true, recurses := true, named := ["loop.example/g00638/impl.monthLengths"], apart := false, laid := [("loop.example/g00638/impl.monthLengths", laid_loop_example_g00638_impl_monthLengths)] }
def FnExactEasterTableSaid : Prop := fnExactEasterTableRow.holds Tryd.pinned (OpenSpec.ofChange fnExactEasterTableSpec)

/-- ITS FALSE NEIGHBOUR: 'it returns false'. Refute it at one input. -/
def fnExactEasterTableWrong : ChangeSpec := { name := "fnExactEasterTable", vars := ["loop.example/g00638/impl.monthLengths"], fn := fun _ => fun
  | [d1, d2, g1] => { results := [.lit (.bool false)], args := [d1, d2], vars := [g1] }
  | _ => none }
def FnExactEasterTableWrongFalsely : Prop := fnExactEasterTableRow.holds Tryd.pinned (OpenSpec.ofChange fnExactEasterTableWrong)

/-- 'laws.FnExactEaster': WHATEVER THE INPUT: true; the input reads as it did. -/
def fnExactEasterSpec : ChangeSpec := { name := "fnExactEaster", vars := ["loop.example/g00638/impl.monthLengths"], fn := fun _ => fun
  | [d1, d2, g1] => { results := [.lit (.bool true)], args := [d1, d2], vars := [g1] }
  | _ => none }
def fnExactEasterRow : OpenClaim := { program := "ytckjcaloofjeoaadoor", sum := "c4a01629b6b02370fbeef690a8c900261e4750912fa57bec0b37f1bfa61af2ae", func := "loop.example/g00638/laws.FnExactEaster", spec := "fnExactEaster", unfollowed := true, recurses := true, named := ["loop.example/g00638/impl.monthLengths"], apart := false, laid := [("loop.example/g00638/impl.monthLengths", laid_loop_example_g00638_impl_monthLengths)] }
def FnExactEasterSaid : Prop := fnExactEasterRow.holds Tryd.pinned (OpenSpec.ofChange fnExactEasterSpec)

/-- ITS FALSE NEIGHBOUR: 'it returns false'. Refute it at one input. -/
def fnExactEasterWrong : ChangeSpec := { name := "fnExactEaster", vars := ["loop.example/g00638/impl.monthLengths"], fn := fun _ => fun
  | [d1, d2, g1] => { results := [.lit (.bool false)], args := [d1, d2], vars := [g1] }
  | _ => none }
def FnExactEasterWrongFalsely : Prop := fnExactEasterRow.holds Tryd.pinned (OpenSpec.ofChange fnExactEasterWrong)

/-- 'laws.FnExactLetter': WHATEVER THE INPUT: true; the input reads as it did. -/
def fnExactLetterSpec : ChangeSpec := { name := "fnExactLetter", vars := ["loop.example/g00638/impl.monthLengths"], fn := fun _ => fun
  | [d1, d2, g1] => { results := [.lit (.bool true)], args := [d1, d2], vars := [g1] }
  | _ => none }
def fnExactLetterRow : OpenClaim := { program := "ytckjcaloofjeoaadoor", sum := "c4a01629b6b02370fbeef690a8c900261e4750912fa57bec0b37f1bfa61af2ae", func := "loop.example/g00638/laws.FnExactLetter", spec := "fnExactLetter", unfollowed := true, recurses := true, named := ["loop.example/g00638/impl.monthLengths"], apart := false, laid := [("loop.example/g00638/impl.monthLengths", laid_loop_example_g00638_impl_monthLengths)] }
def FnExactLetterSaid : Prop := fnExactLetterRow.holds Tryd.pinned (OpenSpec.ofChange fnExactLetterSpec)

/-- ITS FALSE NEIGHBOUR: 'it returns false'. Refute it at one input. -/
def fnExactLetterWrong : ChangeSpec := { name := "fnExactLetter", vars := ["loop.example/g00638/impl.monthLengths"], fn := fun _ => fun
  | [d1, d2, g1] => { results := [.lit (.bool false)], args := [d1, d2], vars := [g1] }
  | _ => none }
def FnExactLetterWrongFalsely : Prop := fnExactLetterRow.holds Tryd.pinned (OpenSpec.ofChange fnExactLetterWrong)

/- THE SECOND FORM. 'bulk': how many values and letters a reading holds, each counted each time it is reached (what is shared counts as often as it is met; a slice's spare places count too). A statement '..UptoSaid' is the law's where the arguments, and the package variables that the reading takes, are together of bulk at most 1048576: NARROWER than '..Said'. Prove '..Said' where nothing that the law and all that it calls make is longer than what came in: it says more and counts as full. Else prove '..UptoSaid'. A law counts once. -/
mutual
def uptoBulk {H : Type} : DataW H → Nat
  | .lit (.string bytes) => bytes.length + 1
  | .lit _ => 1
  | .nil => 1
  | .ptr d => uptoBulk d + 1
  | .slice elems spare => uptoBulkAll elems + uptoBulkAll spare + 1
  | .agg parts => uptoBulkAll parts + 1
  | .iface _ d => uptoBulk d + 1
  | .map entries => uptoBulkEntries entries + 1
  | .held _ => 1
def uptoBulkAll {H : Type} : List (DataW H) → Nat
  | [] => 0
  | d :: r => uptoBulk d + uptoBulkAll r
def uptoBulkEntries {H : Type} : List (Lit × DataW H) → Nat
  | [] => 0
  | x :: r => uptoBulkEntry x + uptoBulkEntries r
def uptoBulkEntry {H : Type} : Lit × DataW H → Nat
  | (.string bytes, d) => bytes.length + uptoBulk d + 1
  | (_, d) => uptoBulk d + 1
 end
def uptoSmall : (H : Type) → List (DataW H) → Bool := fun _ ds => decide (uptoBulkAll ds ≤ 1048576)
def OpenSpec.upto (s : _root_.Go.ChangeSpec) : _root_.Go.OpenSpec := { _root_.Go.OpenSpec.ofChange s with cond := some uptoSmall }

/-- 'laws.FnSolar', WHERE WHAT IT READS IS OF BULK AT MOST 1048576: true; the input reads as it did. -/
def fnSolarUptoRow : OpenClaim := { program := "ytckjcaloofjeoaadoor", sum := "c4a01629b6b02370fbeef690a8c900261e4750912fa57bec0b37f1bfa61af2ae", func := "loop.example/g00638/laws.FnSolar", spec := "fnSolar", unfollowed := true, recurses := true, named := ["loop.example/g00638/impl.monthLengths"], apart := false, laid := [("loop.example/g00638/impl.monthLengths", laid_loop_example_g00638_impl_monthLengths)], narrowed := true }
def FnSolarUptoSaid : Prop := fnSolarUptoRow.holds Tryd.pinned (OpenSpec.upto fnSolarSpec)

/-- 'laws.FnWeek', WHERE WHAT IT READS IS OF BULK AT MOST 1048576: true; the input reads as it did. -/
def fnWeekUptoRow : OpenClaim := { program := "ytckjcaloofjeoaadoor", sum := "c4a01629b6b02370fbeef690a8c900261e4750912fa57bec0b37f1bfa61af2ae", func := "loop.example/g00638/laws.FnWeek", spec := "fnWeek", unfollowed := true, recurses := true, named := ["loop.example/g00638/impl.monthLengths", "loop.example/g00638/impl.weekdayNames"], apart := false, laid := [("loop.example/g00638/impl.monthLengths", laid_loop_example_g00638_impl_monthLengths), ("loop.example/g00638/impl.weekdayNames", laid_loop_example_g00638_impl_weekdayNames)], narrowed := true }
def FnWeekUptoSaid : Prop := fnWeekUptoRow.holds Tryd.pinned (OpenSpec.upto fnWeekSpec)

/-- 'laws.FnEaster', WHERE WHAT IT READS IS OF BULK AT MOST 1048576: true; the input reads as it did. -/
def fnEasterUptoRow : OpenClaim := { program := "ytckjcaloofjeoaadoor", sum := "c4a01629b6b02370fbeef690a8c900261e4750912fa57bec0b37f1bfa61af2ae", func := "loop.example/g00638/laws.FnEaster", spec := "fnEaster", unfollowed := true, recurses := true, named := ["loop.example/g00638/impl.monthLengths"], apart := false, laid := [("loop.example/g00638/impl.monthLengths", laid_loop_example_g00638_impl_monthLengths)], narrowed := true }
def FnEasterUptoSaid : Prop := fnEasterUptoRow.holds Tryd.pinned (OpenSpec.upto fnEasterSpec)

/-- 'laws.FnExactDayOf', WHERE WHAT IT READS IS OF BULK AT MOST 1048576: true; the input reads as it did. -/
def fnExactDayOfUptoRow : OpenClaim := { program := "ytckjcaloofjeoaadoor", sum := "c4a01629b6b02370fbeef690a8c900261e4750912fa57bec0b37f1bfa61af2ae", func := "loop.example/g00638/laws.FnExactDayOf", spec := "fnExactDayOf", unfollowed := true, recurses := true, named := ["loop.example/g00638/impl.monthLengths"], apart := false, laid := [("loop.example/g00638/impl.monthLengths", laid_loop_example_g00638_impl_monthLengths)], narrowed := true }
def FnExactDayOfUptoSaid : Prop := fnExactDayOfUptoRow.holds Tryd.pinned (OpenSpec.upto fnExactDayOfSpec)

/-- 'laws.FnExactDayInYear', WHERE WHAT IT READS IS OF BULK AT MOST 1048576: true; the input reads as it did. -/
def fnExactDayInYearUptoRow : OpenClaim := { program := "ytckjcaloofjeoaadoor", sum := "c4a01629b6b02370fbeef690a8c900261e4750912fa57bec0b37f1bfa61af2ae", func := "loop.example/g00638/laws.FnExactDayInYear", spec := "fnExactDayInYear", unfollowed := true, recurses := true, named := ["loop.example/g00638/impl.monthLengths"], apart := false, laid := [("loop.example/g00638/impl.monthLengths", laid_loop_example_g00638_impl_monthLengths)], narrowed := true }
def FnExactDayInYearUptoSaid : Prop := fnExactDayInYearUptoRow.holds Tryd.pinned (OpenSpec.upto fnExactDayInYearSpec)

/-- 'laws.FnExactApart', WHERE WHAT IT READS IS OF BULK AT MOST 1048576: true; the input reads as it did. -/
def fnExactApartUptoRow : OpenClaim := { program := "ytckjcaloofjeoaadoor", sum := "c4a01629b6b02370fbeef690a8c900261e4750912fa57bec0b37f1bfa61af2ae", func := "loop.example/g00638/laws.FnExactApart", spec := "fnExactApart", unfollowed := true, recurses := true, named := ["loop.example/g00638/impl.monthLengths"], apart := false, laid := [("loop.example/g00638/impl.monthLengths", laid_loop_example_g00638_impl_monthLengths)], narrowed := true }
def FnExactApartUptoSaid : Prop := fnExactApartUptoRow.holds Tryd.pinned (OpenSpec.upto fnExactApartSpec)

/-- 'laws.FnExactCompareDates', WHERE WHAT IT READS IS OF BULK AT MOST 1048576: true; the input reads as it did. -/
def fnExactCompareDatesUptoRow : OpenClaim := { program := "ytckjcaloofjeoaadoor", sum := "c4a01629b6b02370fbeef690a8c900261e4750912fa57bec0b37f1bfa61af2ae", func := "loop.example/g00638/laws.FnExactCompareDates", spec := "fnExactCompareDates", unfollowed := true, recurses := true, named := ["loop.example/g00638/impl.monthLengths"], apart := false, laid := [("loop.example/g00638/impl.monthLengths", laid_loop_example_g00638_impl_monthLengths)], narrowed := true }
def FnExactCompareDatesUptoSaid : Prop := fnExactCompareDatesUptoRow.holds Tryd.pinned (OpenSpec.upto fnExactCompareDatesSpec)

/-- 'laws.FnExactFullMoon', WHERE WHAT IT READS IS OF BULK AT MOST 1048576: true; the input reads as it did. -/
def fnExactFullMoonUptoRow : OpenClaim := { program := "ytckjcaloofjeoaadoor", sum := "c4a01629b6b02370fbeef690a8c900261e4750912fa57bec0b37f1bfa61af2ae", func := "loop.example/g00638/laws.FnExactFullMoon", spec := "fnExactFullMoon", unfollowed := true, recurses := true, named := ["loop.example/g00638/impl.monthLengths"], apart := false, laid := [("loop.example/g00638/impl.monthLengths", laid_loop_example_g00638_impl_monthLengths)], narrowed := true }
def FnExactFullMoonUptoSaid : Prop := fnExactFullMoonUptoRow.holds Tryd.pinned (OpenSpec.upto fnExactFullMoonSpec)

/-- 'laws.FnExactEasterTable', WHERE WHAT IT READS IS OF BULK AT MOST 1048576: true; the input reads as it did. -/
def fnExactEasterTableUptoRow : OpenClaim := { program := "ytckjcaloofjeoaadoor", sum := "c4a01629b6b02370fbeef690a8c900261e4750912fa57bec0b37f1bfa61af2ae", func := "loop.example/g00638/laws.FnExactEasterTable", spec := "fnExactEasterTable", unfollowed := true, recurses := true, named := ["loop.example/g00638/impl.monthLengths"], apart := false, laid := [("loop.example/g00638/impl.monthLengths", laid_loop_example_g00638_impl_monthLengths)], narrowed := true }
def FnExactEasterTableUptoSaid : Prop := fnExactEasterTableUptoRow.holds Tryd.pinned (OpenSpec.upto fnExactEasterTableSpec)

/-- 'laws.FnExactEaster', WHERE WHAT IT READS IS OF BULK AT MOST 1048576: true; the input reads as it did. -/
def fnExactEasterUptoRow : OpenClaim := { program := "ytckjcaloofjeoaadoor", sum := "c4a01629b6b02370fbeef690a8c900261e4750912fa57bec0b37f1bfa61af2ae", func := "loop.example/g00638/laws.FnExactEaster", spec := "fnExactEaster", unfollowed := true, recurses := true, named := ["loop.example/g00638/impl.monthLengths"], apart := false, laid := [("loop.example/g00638/impl.monthLengths", laid_loop_example_g00638_impl_monthLengths)], narrowed := true }
def FnExactEasterUptoSaid : Prop := fnExactEasterUptoRow.holds Tryd.pinned (OpenSpec.upto fnExactEasterSpec)

/-- 'laws.FnExactLetter', WHERE WHAT IT READS IS OF BULK AT MOST 1048576: true; the input reads as it did. -/
def fnExactLetterUptoRow : OpenClaim := { program := "ytckjcaloofjeoaadoor", sum := "c4a01629b6b02370fbeef690a8c900261e4750912fa57bec0b37f1bfa61af2ae", func := "loop.example/g00638/laws.FnExactLetter", spec := "fnExactLetter", unfollowed := true, recurses := true, named := ["loop.example/g00638/impl.monthLengths"], apart := false, laid := [("loop.example/g00638/impl.monthLengths", laid_loop_example_g00638_impl_monthLengths)], narrowed := true }
def FnExactLetterUptoSaid : Prop := fnExactLetterUptoRow.holds Tryd.pinned (OpenSpec.upto fnExactLetterSpec)

end Rows
end Go.Proofs.YtckjcaloofjeoaaDoor
