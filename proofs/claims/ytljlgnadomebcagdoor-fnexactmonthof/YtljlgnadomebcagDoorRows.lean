/-
  NARROWER THAN 'FOR EVERY INPUT', by the rows' own cells (each row's printed sentence says how): FnExactMonthName: laid · FnExactMonthOf: laid.
  DERIVED. THE GIVEN ROWS OF THIS SEAT. 2 by the template 'for every input the law returns true; each argument reads behind the call as it read before'; 0 by the template 'total and deterministic' (their statements: YtljlgnadomebcagDoorTotals.lean).
  GIVEN WITH THE SEED: the statements are not yours to turn. If you find one false, say at which input.
  Laid BY PROGRAM, IN A SANDBOX (cutbox-rows.mjs): the forced cells as the released guide's own fill.sh prints them over the translation 8651eeb47902eb35… (all of the seat's roots in one cut). By AI agents, Wed Nov 11 2026. No macro, syntax, notation, axiom, sorry.
-/
import Derived.Test.YtljlgnadomebcagDoorChecked
import GoSem.Claim
import GoSem.ClaimJoined
import GoSem.ClaimMapViews
import Derived.JoinedTies
import Derived.KernelRfl
namespace Go.Proofs.YtljlgnadomebcagDoor
/- THE CELL 'sum', in the pinned program and in every row, IS THE sha256 OF THE DUMP (.gsa) THAT YtljlgnadomebcagDoorProg.lean LOADS. Nothing in Lean hashes anything: it is a label: what it is worth is what the hold of that sum in a sandbox is worth. -/
noncomputable def Tryd.pinned : Pinned := { name := "ytljlgnadomebcagdoor", sum := "8651eeb47902eb3571d576d11c994873f113f25b4784e60d2b414c0e1e9ddec0", checked := Tryd.checked }
namespace Rows
def none {H : Type} : Left H := { results := [], args := [] }

/- WHAT THE LISTED PACKAGE-LEVEL VARIABLES READ AS WHEN THE CALL BEGINS. Each datum BY PROGRAM (the guide's laid-datum.mjs) off the statement by which the dump's own 'gosem.cut.vars' lays the variable. In a bare row this is a premise. The card (YtljlgnadomebcagDoorCards.lean) ties it to the program's text. -/
def laid_loop_example_g00638_impl_monthNames {H : Type} : DataW H := .agg [.lit (.string [106, 97, 110]), .lit (.string [102, 101, 98]), .lit (.string [109, 97, 114]), .lit (.string [97, 112, 114]), .lit (.string [109, 97, 121]), .lit (.string [106, 117, 110]), .lit (.string [106, 117, 108]), .lit (.string [97, 117, 103]), .lit (.string [115, 101, 112]), .lit (.string [111, 99, 116]), .lit (.string [110, 111, 118]), .lit (.string [100, 101, 99])]

/-- 'laws.FnExactMonthName': WHATEVER THE INPUT: true; the input reads as it did. -/
def fnExactMonthNameSpec : ChangeSpec := { name := "fnExactMonthName", vars := ["loop.example/g00638/impl.monthNames"], fn := fun _ => fun
  | [d, g1] => { results := [.lit (.bool true)], args := [d], vars := [g1] }
  | _ => none }
def fnExactMonthNameRow : OpenClaim := { program := "ytljlgnadomebcagdoor", sum := "8651eeb47902eb3571d576d11c994873f113f25b4784e60d2b414c0e1e9ddec0", func := "loop.example/g00638/laws.FnExactMonthName", spec := "fnExactMonthName", named := ["loop.example/g00638/impl.monthNames"], apart := false, laid := [("loop.example/g00638/impl.monthNames", laid_loop_example_g00638_impl_monthNames)] }
def FnExactMonthNameSaid : Prop := fnExactMonthNameRow.holds Tryd.pinned (OpenSpec.ofChange fnExactMonthNameSpec)

/-- ITS FALSE NEIGHBOUR: 'it returns false'. Refute it at one input. -/
def fnExactMonthNameWrong : ChangeSpec := { name := "fnExactMonthName", vars := ["loop.example/g00638/impl.monthNames"], fn := fun _ => fun
  | [d, g1] => { results := [.lit (.bool false)], args := [d], vars := [g1] }
  | _ => none }
def FnExactMonthNameWrongFalsely : Prop := fnExactMonthNameRow.holds Tryd.pinned (OpenSpec.ofChange fnExactMonthNameWrong)

/-- 'laws.FnExactMonthOf': WHATEVER THE INPUT: true; the input reads as it did. -/
def fnExactMonthOfSpec : ChangeSpec := { name := "fnExactMonthOf", vars := ["loop.example/g00638/impl.monthNames"], fn := fun _ => fun
  | [d, g1] => { results := [.lit (.bool true)], args := [d], vars := [g1] }
  | _ => none }
def fnExactMonthOfRow : OpenClaim := { program := "ytljlgnadomebcagdoor", sum := "8651eeb47902eb3571d576d11c994873f113f25b4784e60d2b414c0e1e9ddec0", func := "loop.example/g00638/laws.FnExactMonthOf", spec := "fnExactMonthOf", named := ["loop.example/g00638/impl.monthNames"], apart := false, laid := [("loop.example/g00638/impl.monthNames", laid_loop_example_g00638_impl_monthNames)] }
def FnExactMonthOfSaid : Prop := fnExactMonthOfRow.holds Tryd.pinned (OpenSpec.ofChange fnExactMonthOfSpec)

/-- ITS FALSE NEIGHBOUR: 'it returns false'. Refute it at one input. -/
def fnExactMonthOfWrong : ChangeSpec := { name := "fnExactMonthOf", vars := ["loop.example/g00638/impl.monthNames"], fn := fun _ => fun
  | [d, g1] => { results := [.lit (.bool false)], args := [d], vars := [g1] }
  | _ => none }
def FnExactMonthOfWrongFalsely : Prop := fnExactMonthOfRow.holds Tryd.pinned (OpenSpec.ofChange fnExactMonthOfWrong)

/- THE SECOND FORM. 'bulk': how many values and letters a reading holds, each counted each time it is reached (what is shared counts as often as it is met; a slice's spare places count too). A statement '..UptoSaid' is the law's where the arguments, and the package variables that the reading takes, are together of bulk at most 1048576: NARROWER than '..Said'. Prove '..Said' where nothing that the law and all that it calls make is longer than what came in: it says more and counts as full. Else prove '..UptoSaid'. A law counts once. -/
mutual
def uptoBulk {H : Type} : DataW H → Nat
  | .lit (.string bytes) => bytes.length + 1
  | .lit _ => 1
  | .nil => 1
  | .ptr d => uptoBulk d + 1
  | .slice elems spare => uptoBulkAll elems + uptoBulkAll spare + 1
  | .agg parts => uptoBulkAll parts + 1
  | .iface _ d => uptoBulk d + 1
  | .map entries => uptoBulkEntries entries + 1
  | .held _ => 1
def uptoBulkAll {H : Type} : List (DataW H) → Nat
  | [] => 0
  | d :: r => uptoBulk d + uptoBulkAll r
def uptoBulkEntries {H : Type} : List (Lit × DataW H) → Nat
  | [] => 0
  | x :: r => uptoBulkEntry x + uptoBulkEntries r
def uptoBulkEntry {H : Type} : Lit × DataW H → Nat
  | (.string bytes, d) => bytes.length + uptoBulk d + 1
  | (_, d) => uptoBulk d + 1
 end
def uptoSmall : (H : Type) → List (DataW H) → Bool := fun _ ds => decide (uptoBulkAll ds ≤ 1048576)
def OpenSpec.upto (s : _root_.Go.ChangeSpec) : _root_.Go.OpenSpec := { _root_.Go.OpenSpec.ofChange s with cond := some uptoSmall }

/-- 'laws.FnExactMonthName', WHERE WHAT IT READS IS OF BULK AT MOST 1048576: true; the input reads as it did. -/
def fnExactMonthNameUptoRow : OpenClaim := { program := "ytljlgnadomebcagdoor", sum := "8651eeb47902eb3571d576d11c994873f113f25b4784e60d2b414c0e1e9ddec0", func := "loop.example/g00638/laws.FnExactMonthName", spec := "fnExactMonthName", named := ["loop.example/g00638/impl.monthNames"], apart := false, laid := [("loop.example/g00638/impl.monthNames", laid_loop_example_g00638_impl_monthNames)], narrowed := true }
def FnExactMonthNameUptoSaid : Prop := fnExactMonthNameUptoRow.holds Tryd.pinned (OpenSpec.upto fnExactMonthNameSpec)

/-- 'laws.FnExactMonthOf', WHERE WHAT IT READS IS OF BULK AT MOST 1048576: true; the input reads as it did. -/
def fnExactMonthOfUptoRow : OpenClaim := { program := "ytljlgnadomebcagdoor", sum := "8651eeb47902eb3571d576d11c994873f113f25b4784e60d2b414c0e1e9ddec0", func := "loop.example/g00638/laws.FnExactMonthOf", spec := "fnExactMonthOf", named := ["loop.example/g00638/impl.monthNames"], apart := false, laid := [("loop.example/g00638/impl.monthNames", laid_loop_example_g00638_impl_monthNames)], narrowed := true }
def FnExactMonthOfUptoSaid : Prop := fnExactMonthOfUptoRow.holds Tryd.pinned (OpenSpec.upto fnExactMonthOfSpec)

end Rows
end Go.Proofs.YtljlgnadomebcagDoor
