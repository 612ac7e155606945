/-
  NARROWER THAN 'FOR EVERY INPUT', by the rows' own cells (each row's printed sentence says how): FnWeek: laid · FnExactMonthDays: laid · FnExactDateOk: laid · FnExactDayOf: laid · FnExactDateOf: laid · FnExactWeekdayName: laid · FnExactDayInYear: laid · FnExactApart: laid · FnExactCompareDates: laid.
  DERIVED. THE GIVEN ROWS OF THIS SEAT. 9 by the template 'for every input the law returns true; each argument reads behind the call as it read before'; 0 by the template 'total and deterministic' (their statements: YteejnegimmmpkaaDoorTotals.lean).
  GIVEN WITH THE SEED: the statements are not yours to turn. If you find one false, say at which input.
  Laid BY PROGRAM, IN A SANDBOX (cutbox-rows.mjs): the forced cells as the released guide's own fill.sh prints them over the translation f532d9fc735efdf6… (all of the seat's roots in one cut). By AI agents, Wed Nov 11 2026. No macro, syntax, notation, axiom, sorry.
-/
import Derived.Test.YteejnegimmmpkaaDoorChecked
import GoSem.Claim
import GoSem.ClaimJoined
import GoSem.ClaimMapViews
import Derived.JoinedTies
import Derived.KernelRfl
namespace Go.Proofs.YteejnegimmmpkaaDoor
/- THE CELL 'sum', in the pinned program and in every row, IS THE sha256 OF THE DUMP (.gsa) THAT YteejnegimmmpkaaDoorProg.lean LOADS. Nothing in Lean hashes anything: it is a label: what it is worth is what the hold of that sum in a sandbox is worth. -/
noncomputable def Tryd.pinned : Pinned := { name := "yteejnegimmmpkaadoor", sum := "f532d9fc735efdf6c74b0b4e415f49f8f716a0dfd0099a4bb4f0aa805858a0f1", checked := Tryd.checked }
namespace Rows
def none {H : Type} : Left H := { results := [], args := [] }

/- WHAT THE LISTED PACKAGE-LEVEL VARIABLES READ AS WHEN THE CALL BEGINS. Each datum BY PROGRAM (the guide's laid-datum.mjs) off the statement by which the dump's own 'gosem.cut.vars' lays the variable. In a bare row this is a premise. The card (YteejnegimmmpkaaDoorCards.lean) ties it to the program's text. -/
def laid_loop_example_g00638_impl_monthLengths {H : Type} : DataW H := .agg [.lit (.int .i64 31), .lit (.int .i64 28), .lit (.int .i64 31), .lit (.int .i64 30), .lit (.int .i64 31), .lit (.int .i64 30), .lit (.int .i64 31), .lit (.int .i64 31), .lit (.int .i64 30), .lit (.int .i64 31), .lit (.int .i64 30), .lit (.int .i64 31)]
def laid_loop_example_g00638_impl_weekdayNames {H : Type} : DataW H := .agg [.lit (.string [115, 117, 110]), .lit (.string [109, 111, 110]), .lit (.string [116, 117, 101]), .lit (.string [119, 101, 100]), .lit (.string [116, 104, 117]), .lit (.string [102, 114, 105]), .lit (.string [115, 97, 116])]

/-- 'laws.FnWeek': WHATEVER THE INPUT: true; the input reads as it did. -/
def fnWeekSpec : ChangeSpec := { name := "fnWeek", vars := ["loop.example/g00638/impl.monthLengths", "loop.example/g00638/impl.weekdayNames"], fn := fun _ => fun
  | [d, g1, g2] => { results := [.lit (.bool true)], args := [d], vars := [g1, g2] }
  | _ => none }
def fnWeekRow : OpenClaim := { program := "yteejnegimmmpkaadoor", sum := "f532d9fc735efdf6c74b0b4e415f49f8f716a0dfd0099a4bb4f0aa805858a0f1", func := "loop.example/g00638/laws.FnWeek", spec := "fnWeek", unfollowed := true, recurses := true, named := ["loop.example/g00638/impl.monthLengths", "loop.example/g00638/impl.weekdayNames"], apart := false, laid := [("loop.example/g00638/impl.monthLengths", laid_loop_example_g00638_impl_monthLengths), ("loop.example/g00638/impl.weekdayNames", laid_loop_example_g00638_impl_weekdayNames)] }
def FnWeekSaid : Prop := fnWeekRow.holds Tryd.pinned (OpenSpec.ofChange fnWeekSpec)

/-- ITS FALSE NEIGHBOUR: 'it returns false'. Refute it at one input. -/
def fnWeekWrong : ChangeSpec := { name := "fnWeek", vars := ["loop.example/g00638/impl.monthLengths", "loop.example/g00638/impl.weekdayNames"], fn := fun _ => fun
  | [d, g1, g2] => { results := [.lit (.bool false)], args := [d], vars := [g1, g2] }
  | _ => none }
def FnWeekWrongFalsely : Prop := fnWeekRow.holds Tryd.pinned (OpenSpec.ofChange fnWeekWrong)

/-- 'laws.FnExactMonthDays': WHATEVER THE INPUT: true; the input reads as it did. -/
def fnExactMonthDaysSpec : ChangeSpec := { name := "fnExactMonthDays", vars := ["loop.example/g00638/impl.monthLengths"], fn := fun _ => fun
  | [d1, d2, d3, g1] => { results := [.lit (.bool true)], args := [d1, d2, d3], vars := [g1] }
  | _ => none }
def fnExactMonthDaysRow : OpenClaim := { program := "yteejnegimmmpkaadoor", sum := "f532d9fc735efdf6c74b0b4e415f49f8f716a0dfd0099a4bb4f0aa805858a0f1", func := "loop.example/g00638/laws.FnExactMonthDays", spec := "fnExactMonthDays", unfollowed := true, recurses := true, named := ["loop.example/g00638/impl.monthLengths"], apart := false, laid := [("loop.example/g00638/impl.monthLengths", laid_loop_example_g00638_impl_monthLengths)] }
def FnExactMonthDaysSaid : Prop := fnExactMonthDaysRow.holds Tryd.pinned (OpenSpec.ofChange fnExactMonthDaysSpec)

/-- ITS FALSE NEIGHBOUR: 'it returns false'. Refute it at one input. -/
def fnExactMonthDaysWrong : ChangeSpec := { name := "fnExactMonthDays", vars := ["loop.example/g00638/impl.monthLengths"], fn := fun _ => fun
  | [d1, d2, d3, g1] => { results := [.lit (.bool false)], args := [d1, d2, d3], vars := [g1] }
  | _ => none }
def FnExactMonthDaysWrongFalsely : Prop := fnExactMonthDaysRow.holds Tryd.pinned (OpenSpec.ofChange fnExactMonthDaysWrong)

/-- 'laws.FnExactDateOk': WHATEVER THE INPUT: true; the input reads as it did. -/
def fnExactDateOkSpec : ChangeSpec := { name := "fnExactDateOk", vars := ["loop.example/g00638/impl.monthLengths"], fn := fun _ => fun
  | [d, g1] => { results := [.lit (.bool true)], args := [d], vars := [g1] }
  | _ => none }
def fnExactDateOkRow : OpenClaim := { program := "yteejnegimmmpkaadoor", sum := "f532d9fc735efdf6c74b0b4e415f49f8f716a0dfd0099a4bb4f0aa805858a0f1", func := "loop.example/g00638/laws.FnExactDateOk", spec := "fnExactDateOk", unfollowed := true, recurses := true, named := ["loop.example/g00638/impl.monthLengths"], apart := false, laid := [("loop.example/g00638/impl.monthLengths", laid_loop_example_g00638_impl_monthLengths)] }
def FnExactDateOkSaid : Prop := fnExactDateOkRow.holds Tryd.pinned (OpenSpec.ofChange fnExactDateOkSpec)

/-- ITS FALSE NEIGHBOUR: 'it returns false'. Refute it at one input. -/
def fnExactDateOkWrong : ChangeSpec := { name := "fnExactDateOk", vars := ["loop.example/g00638/impl.monthLengths"], fn := fun _ => fun
  | [d, g1] => { results := [.lit (.bool false)], args := [d], vars := [g1] }
  | _ => none }
def FnExactDateOkWrongFalsely : Prop := fnExactDateOkRow.holds Tryd.pinned (OpenSpec.ofChange fnExactDateOkWrong)

/-- 'laws.FnExactDayOf': WHATEVER THE INPUT: true; the input reads as it did. -/
def fnExactDayOfSpec : ChangeSpec := { name := "fnExactDayOf", vars := ["loop.example/g00638/impl.monthLengths"], fn := fun _ => fun
  | [d, g1] => { results := [.lit (.bool true)], args := [d], vars := [g1] }
  | _ => none }
def fnExactDayOfRow : OpenClaim := { program := "yteejnegimmmpkaadoor", sum := "f532d9fc735efdf6c74b0b4e415f49f8f716a0dfd0099a4bb4f0aa805858a0f1", func := "loop.example/g00638/laws.FnExactDayOf", spec := "fnExactDayOf", unfollowed := true, recurses := true, named := ["loop.example/g00638/impl.monthLengths"], apart := false, laid := [("loop.example/g00638/impl.monthLengths", laid_loop_example_g00638_impl_monthLengths)] }
def FnExactDayOfSaid : Prop := fnExactDayOfRow.holds Tryd.pinned (OpenSpec.ofChange fnExactDayOfSpec)

/-- ITS FALSE NEIGHBOUR: 'it returns false'. Refute it at one input. -/
def fnExactDayOfWrong : ChangeSpec := { name := "fnExactDayOf", vars := ["loop.example/g00638/impl.monthLengths"], fn := fun _ => fun
  | [d, g1] => { results := [.lit (.bool false)], args := [d], vars := [g1] }
  | _ => none }
def FnExactDayOfWrongFalsely : Prop := fnExactDayOfRow.holds Tryd.pinned (OpenSpec.ofChange fnExactDayOfWrong)

/-- 'laws.FnExactDateOf': WHATEVER THE INPUT: true; the input reads as it did. -/
def fnExactDateOfSpec : ChangeSpec := { name := "fnExactDateOf", vars := ["loop.example/g00638/impl.monthLengths"], fn := fun _ => fun
  | [d1, d2, g1] => { results := [.lit (.bool true)], args := [d1, d2], vars := [g1] }
  | _ => none }
def fnExactDateOfRow : OpenClaim := { program := "yteejnegimmmpkaadoor", sum := "f532d9fc735efdf6c74b0b4e415f49f8f716a0dfd0099a4bb4f0aa805858a0f1", func := "loop.example/g00638/laws.FnExactDateOf", spec := "fnExactDateOf", unfollowed := true, recurses := true, named := ["loop.example/g00638/impl.monthLengths"], apart := false, laid := [("loop.example/g00638/impl.monthLengths", laid_loop_example_g00638_impl_monthLengths)] }
def FnExactDateOfSaid : Prop := fnExactDateOfRow.holds Tryd.pinned (OpenSpec.ofChange fnExactDateOfSpec)

/-- ITS FALSE NEIGHBOUR: 'it returns false'. Refute it at one input. -/
def fnExactDateOfWrong : ChangeSpec := { name := "fnExactDateOf", vars := ["loop.example/g00638/impl.monthLengths"], fn := fun _ => fun
  | [d1, d2, g1] => { results := [.lit (.bool false)], args := [d1, d2], vars := [g1] }
  | _ => none }
def FnExactDateOfWrongFalsely : Prop := fnExactDateOfRow.holds Tryd.pinned (OpenSpec.ofChange fnExactDateOfWrong)

/-- 'laws.FnExactWeekdayName': WHATEVER THE INPUT: true; the input reads as it did. -/
def fnExactWeekdayNameSpec : ChangeSpec := { name := "fnExactWeekdayName", vars := ["loop.example/g00638/impl.weekdayNames"], fn := fun _ => fun
  | [d, g1] => { results := [.lit (.bool true)], args := [d], vars := [g1] }
  | _ => none }
def fnExactWeekdayNameRow : OpenClaim := { program := "yteejnegimmmpkaadoor", sum := "f532d9fc735efdf6c74b0b4e415f49f8f716a0dfd0099a4bb4f0aa805858a0f1", func := "loop.example/g00638/laws.FnExactWeekdayName", spec := "fnExactWeekdayName", named := ["loop.example/g00638/impl.weekdayNames"], apart := false, laid := [("loop.example/g00638/impl.weekdayNames", laid_loop_example_g00638_impl_weekdayNames)] }
def FnExactWeekdayNameSaid : Prop := fnExactWeekdayNameRow.holds Tryd.pinned (OpenSpec.ofChange fnExactWeekdayNameSpec)

/-- ITS FALSE NEIGHBOUR: 'it returns false'. Refute it at one input. -/
def fnExactWeekdayNameWrong : ChangeSpec := { name := "fnExactWeekdayName", vars := ["loop.example/g00638/impl.weekdayNames"], fn := fun _ => fun
  | [d, g1] => { results := [.lit (.bool false)], args := [d], vars := [g1] }
  | _ => none }
def FnExactWeekdayNameWrongFalsely : Prop := fnExactWeekdayNameRow.holds Tryd.pinned (OpenSpec.ofChange fnExactWeekdayNameWrong)

/-- 'laws.FnExactDayInYear': WHATEVER THE INPUT: true; the input reads as it did. -/
def fnExactDayInYearSpec : ChangeSpec := { name := "fnExactDayInYear", vars := ["loop.example/g00638/impl.monthLengths"], fn := fun _ => fun
  | [d, g1] => { results := [.lit (.bool true)], args := [d], vars := [g1] }
  | _ => none }
def fnExactDayInYearRow : OpenClaim := { program := "yteejnegimmmpkaadoor", sum := "f532d9fc735efdf6c74b0b4e415f49f8f716a0dfd0099a4bb4f0aa805858a0f1", func := "loop.example/g00638/laws.FnExactDayInYear", spec := "fnExactDayInYear", unfollowed := true, recurses := true, named := ["loop.example/g00638/impl.monthLengths"], apart := false, laid := [("loop.example/g00638/impl.monthLengths", laid_loop_example_g00638_impl_monthLengths)] }
def FnExactDayInYearSaid : Prop := fnExactDayInYearRow.holds Tryd.pinned (OpenSpec.ofChange fnExactDayInYearSpec)

/-- ITS FALSE NEIGHBOUR: 'it returns false'. Refute it at one input. -/
def fnExactDayInYearWrong : ChangeSpec := { name := "fnExactDayInYear", vars := ["loop.example/g00638/impl.monthLengths"], fn := fun _ => fun
  | [d, g1] => { results := [.lit (.bool false)], args := [d], vars := [g1] }
  | _ => none }
def FnExactDayInYearWrongFalsely : Prop := fnExactDayInYearRow.holds Tryd.pinned (OpenSpec.ofChange fnExactDayInYearWrong)

/-- 'laws.FnExactApart': WHATEVER THE INPUT: true; the input reads as it did. -/
def fnExactApartSpec : ChangeSpec := { name := "fnExactApart", vars := ["loop.example/g00638/impl.monthLengths"], fn := fun _ => fun
  | [d1, d2, d3, g1] => { results := [.lit (.bool true)], args := [d1, d2, d3], vars := [g1] }
  | _ => none }
def fnExactApartRow : OpenClaim := { program := "yteejnegimmmpkaadoor", sum := "f532d9fc735efdf6c74b0b4e415f49f8f716a0dfd0099a4bb4f0aa805858a0f1", func := "loop.example/g00638/laws.FnExactApart", spec := "fnExactApart", unfollowed := true, recurses := true, named := ["loop.example/g00638/impl.monthLengths"], apart := false, laid := [("loop.example/g00638/impl.monthLengths", laid_loop_example_g00638_impl_monthLengths)] }
def FnExactApartSaid : Prop := fnExactApartRow.holds Tryd.pinned (OpenSpec.ofChange fnExactApartSpec)

/-- ITS FALSE NEIGHBOUR: 'it returns false'. Refute it at one input. -/
def fnExactApartWrong : ChangeSpec := { name := "fnExactApart", vars := ["loop.example/g00638/impl.monthLengths"], fn := fun _ => fun
  | [d1, d2, d3, g1] => { results := [.lit (.bool false)], args := [d1, d2, d3], vars := [g1] }
  | _ => none }
def FnExactApartWrongFalsely : Prop := fnExactApartRow.holds Tryd.pinned (OpenSpec.ofChange fnExactApartWrong)

/-- 'laws.FnExactCompareDates': WHATEVER THE INPUT: true; the input reads as it did. -/
def fnExactCompareDatesSpec : ChangeSpec := { name := "fnExactCompareDates", vars := ["loop.example/g00638/impl.monthLengths"], fn := fun _ => fun
  | [d1, d2, g1] => { results := [.lit (.bool true)], args := [d1, d2], vars := [g1] }
  | _ => none }
def fnExactCompareDatesRow : OpenClaim := { program := "yteejnegimmmpkaadoor", sum := "f532d9fc735efdf6c74b0b4e415f49f8f716a0dfd0099a4bb4f0aa805858a0f1", func := "loop.example/g00638/laws.FnExactCompareDates", spec := "fnExactCompareDates", unfollowed := true, recurses := true, named := ["loop.example/g00638/impl.monthLengths"], apart := false, laid := [("loop.example/g00638/impl.monthLengths", laid_loop_example_g00638_impl_monthLengths)] }
def FnExactCompareDatesSaid : Prop := fnExactCompareDatesRow.holds Tryd.pinned (OpenSpec.ofChange fnExactCompareDatesSpec)

/-- ITS FALSE NEIGHBOUR: 'it returns false'. Refute it at one input. -/
def fnExactCompareDatesWrong : ChangeSpec := { name := "fnExactCompareDates", vars := ["loop.example/g00638/impl.monthLengths"], fn := fun _ => fun
  | [d1, d2, g1] => { results := [.lit (.bool false)], args := [d1, d2], vars := [g1] }
  | _ => none }
def FnExactCompareDatesWrongFalsely : Prop := fnExactCompareDatesRow.holds Tryd.pinned (OpenSpec.ofChange fnExactCompareDatesWrong)

/- THE SECOND FORM. 'bulk': how many values and letters a reading holds, each counted each time it is reached (what is shared counts as often as it is met; a slice's spare places count too). A statement '..UptoSaid' is the law's where the arguments, and the package variables that the reading takes, are together of bulk at most 1048576: NARROWER than '..Said'. Prove '..Said' where nothing that the law and all that it calls make is longer than what came in: it says more and counts as full. Else prove '..UptoSaid'. A law counts once. -/
mutual
def uptoBulk {H : Type} : DataW H → Nat
  | .lit (.string bytes) => bytes.length + 1
  | .lit _ => 1
  | .nil => 1
  | .ptr d => uptoBulk d + 1
  | .slice elems spare => uptoBulkAll elems + uptoBulkAll spare + 1
  | .agg parts => uptoBulkAll parts + 1
  | .iface _ d => uptoBulk d + 1
  | .map entries => uptoBulkEntries entries + 1
  | .held _ => 1
def uptoBulkAll {H : Type} : List (DataW H) → Nat
  | [] => 0
  | d :: r => uptoBulk d + uptoBulkAll r
def uptoBulkEntries {H : Type} : List (Lit × DataW H) → Nat
  | [] => 0
  | x :: r => uptoBulkEntry x + uptoBulkEntries r
def uptoBulkEntry {H : Type} : Lit × DataW H → Nat
  | (.string bytes, d) => bytes.length + uptoBulk d + 1
  | (_, d) => uptoBulk d + 1
 end
def uptoSmall : (H : Type) → List (DataW H) → Bool := fun _ ds => decide (uptoBulkAll ds ≤ 1048576)
def OpenSpec.upto (s : _root_.Go.ChangeSpec) : _root_.Go.OpenSpec := { _root_.Go.OpenSpec.ofChange s with cond := some uptoSmall }

/-- 'laws.FnWeek', WHERE WHAT IT READS IS OF BULK AT MOST 1048576: true; the input reads as it did. -/
def fnWeekUptoRow : OpenClaim := { program := "yteejnegimmmpkaadoor", sum := "f532d9fc735efdf6c74b0b4e415f49f8f716a0dfd0099a4bb4f0aa805858a0f1", func := "loop.example/g00638/laws.FnWeek", spec := "fnWeek", unfollowed := true, recurses := true, named := ["loop.example/g00638/impl.monthLengths", "loop.example/g00638/impl.weekdayNames"], apart := false, laid := [("loop.example/g00638/impl.monthLengths", laid_loop_example_g00638_impl_monthLengths), ("loop.example/g00638/impl.weekdayNames", laid_loop_example_g00638_impl_weekdayNames)], narrowed := true }
def FnWeekUptoSaid : Prop := fnWeekUptoRow.holds Tryd.pinned (OpenSpec.upto fnWeekSpec)

/-- 'laws.FnExactMonthDays', WHERE WHAT IT READS IS OF BULK AT MOST 1048576: true; the input reads as it did. -/
def fnExactMonthDaysUptoRow : OpenClaim := { program := "yteejnegimmmpkaadoor", sum := "f532d9fc735efdf6c74b0b4e415f49f8f716a0dfd0099a4bb4f0aa805858a0f1", func := "loop.example/g00638/laws.FnExactMonthDays", spec := "fnExactMonthDays", unfollowed := true, recurses := true, named := ["loop.example/g00638/impl.monthLengths"], apart := false, laid := [("loop.example/g00638/impl.monthLengths", laid_loop_example_g00638_impl_monthLengths)], narrowed := true }
def FnExactMonthDaysUptoSaid : Prop := fnExactMonthDaysUptoRow.holds Tryd.pinned (OpenSpec.upto fnExactMonthDaysSpec)

/-- 'laws.FnExactDateOk', WHERE WHAT IT READS IS OF BULK AT MOST 1048576: true; the input reads as it did. -/
def fnExactDateOkUptoRow : OpenClaim := { program := "yteejnegimmmpkaadoor", sum := "f532d9fc735efdf6c74b0b4e415f49f8f716a0dfd0099a4bb4f0aa805858a0f1", func := "loop.example/g00638/laws.FnExactDateOk", spec := "fnExactDateOk", unfollowed := true, recurses := true, named := ["loop.example/g00638/impl.monthLengths"], apart := false, laid := [("loop.example/g00638/impl.monthLengths", laid_loop_example_g00638_impl_monthLengths)], narrowed := true }
def FnExactDateOkUptoSaid : Prop := fnExactDateOkUptoRow.holds Tryd.pinned (OpenSpec.upto fnExactDateOkSpec)

/-- 'laws.FnExactDayOf', WHERE WHAT IT READS IS OF BULK AT MOST 1048576: true; the input reads as it did. -/
def fnExactDayOfUptoRow : OpenClaim := { program := "yteejnegimmmpkaadoor", sum := "f532d9fc735efdf6c74b0b4e415f49f8f716a0dfd0099a4bb4f0aa805858a0f1", func := "loop.example/g00638/laws.FnExactDayOf", spec := "fnExactDayOf", unfollowed := true, recurses := true, named := ["loop.example/g00638/impl.monthLengths"], apart := false, laid := [("loop.example/g00638/impl.monthLengths", laid_loop_example_g00638_impl_monthLengths)], narrowed := true }
def FnExactDayOfUptoSaid : Prop := fnExactDayOfUptoRow.holds Tryd.pinned (OpenSpec.upto fnExactDayOfSpec)

/-- 'laws.FnExactDateOf', WHERE WHAT IT READS IS OF BULK AT MOST 1048576: true; the input reads as it did. -/
def fnExactDateOfUptoRow : OpenClaim := { program := "yteejnegimmmpkaadoor", sum := "f532d9fc735efdf6c74b0b4e415f49f8f716a0dfd0099a4bb4f0aa805858a0f1", func := "loop.example/g00638/laws.FnExactDateOf", spec := "fnExactDateOf", unfollowed := true, recurses := true, named := ["loop.example/g00638/impl.monthLengths"], apart := false, laid := [("loop.example/g00638/impl.monthLengths", laid_loop_example_g00638_impl_monthLengths)], narrowed := true }
def FnExactDateOfUptoSaid : Prop := fnExactDateOfUptoRow.holds Tryd.pinned (OpenSpec.upto fnExactDateOfSpec)

/-- 'laws.FnExactWeekdayName', WHERE WHAT IT READS IS OF BULK AT MOST 1048576: true; the input reads as it did. -/
def fnExactWeekdayNameUptoRow : OpenClaim := { program := "yteejnegimmmpkaadoor", sum := "f532d9fc735efdf6c74b0b4e415f49f8f716a0dfd0099a4bb4f0aa805858a0f1", func := "loop.example/g00638/laws.FnExactWeekdayName", spec := "fnExactWeekdayName", named := ["loop.example/g00638/impl.weekdayNames"], apart := false, laid := [("loop.example/g00638/impl.weekdayNames", laid_loop_example_g00638_impl_weekdayNames)], narrowed := true }
def FnExactWeekdayNameUptoSaid : Prop := fnExactWeekdayNameUptoRow.holds Tryd.pinned (OpenSpec.upto fnExactWeekdayNameSpec)

/-- 'laws.FnExactDayInYear', WHERE WHAT IT READS IS OF BULK AT MOST 1048576: true; the input reads as it did. -/
def fnExactDayInYearUptoRow : OpenClaim := { program := "yteejnegimmmpkaadoor", sum := "f532d9fc735efdf6c74b0b4e415f49f8f716a0dfd0099a4bb4f0aa805858a0f1", func := "loop.example/g00638/laws.FnExactDayInYear", spec := "fnExactDayInYear", unfollowed := true, recurses := true, named := ["loop.example/g00638/impl.monthLengths"], apart := false, laid := [("loop.example/g00638/impl.monthLengths", laid_loop_example_g00638_impl_monthLengths)], narrowed := true }
def FnExactDayInYearUptoSaid : Prop := fnExactDayInYearUptoRow.holds Tryd.pinned (OpenSpec.upto fnExactDayInYearSpec)

/-- 'laws.FnExactApart', WHERE WHAT IT READS IS OF BULK AT MOST 1048576: true; the input reads as it did. -/
def fnExactApartUptoRow : OpenClaim := { program := "yteejnegimmmpkaadoor", sum := "f532d9fc735efdf6c74b0b4e415f49f8f716a0dfd0099a4bb4f0aa805858a0f1", func := "loop.example/g00638/laws.FnExactApart", spec := "fnExactApart", unfollowed := true, recurses := true, named := ["loop.example/g00638/impl.monthLengths"], apart := false, laid := [("loop.example/g00638/impl.monthLengths", laid_loop_example_g00638_impl_monthLengths)], narrowed := true }
def FnExactApartUptoSaid : Prop := fnExactApartUptoRow.holds Tryd.pinned (OpenSpec.upto fnExactApartSpec)

/-- 'laws.FnExactCompareDates', WHERE WHAT IT READS IS OF BULK AT MOST 1048576: true; the input reads as it did. -/
def fnExactCompareDatesUptoRow : OpenClaim := { program := "yteejnegimmmpkaadoor", sum := "f532d9fc735efdf6c74b0b4e415f49f8f716a0dfd0099a4bb4f0aa805858a0f1", func := "loop.example/g00638/laws.FnExactCompareDates", spec := "fnExactCompareDates", unfollowed := true, recurses := true, named := ["loop.example/g00638/impl.monthLengths"], apart := false, laid := [("loop.example/g00638/impl.monthLengths", laid_loop_example_g00638_impl_monthLengths)], narrowed := true }
def FnExactCompareDatesUptoSaid : Prop := fnExactCompareDatesUptoRow.holds Tryd.pinned (OpenSpec.upto fnExactCompareDatesSpec)

end Rows
end Go.Proofs.YteejnegimmmpkaaDoor
