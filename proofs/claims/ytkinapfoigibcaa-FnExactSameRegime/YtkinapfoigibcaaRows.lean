/-
  No cell of these rows narrows 'for every input' (looked for: loops, veiled, ifaces, maps, wideKeys, modest, calm, conditions, laid).
  DERIVED. THE GIVEN ROWS OF THIS SEAT. 5 by the template 'for every input the law returns true; each argument reads behind the call as it read before'; 0 by the template 'total and deterministic' (their statements: YtkinapfoigibcaaTotals.lean).
  GIVEN WITH THE SEED: the statements are not yours to turn. If you find one false, say at which input.
  Laid BY PROGRAM, IN A SANDBOX (cutbox-rows.mjs): the forced cells as the released guide's own fill.sh prints them over the translation 34eb5f6c9e49b956… (all of the seat's roots in one cut). By AI agents, Wed Nov 11 2026. No macro, syntax, notation, axiom, sorry.
-/
import Derived.Test.YtkinapfoigibcaaChecked
import GoSem.Claim
import GoSem.ClaimJoined
import GoSem.ClaimMapViews
import Derived.JoinedTies
import Derived.KernelRfl
namespace Go.Proofs.Ytkinapfoigibcaa
/- THE CELL 'sum', in the pinned program and in every row, IS THE sha256 OF THE DUMP (.gsa) THAT YtkinapfoigibcaaProg.lean LOADS. Nothing in Lean hashes anything: it is a label: what it is worth is what the hold of that sum in a sandbox is worth. -/
noncomputable def Try.pinned : Pinned := { name := "ytkinapfoigibcaa", sum := "34eb5f6c9e49b9560ca166c1a95595c27ff105f3c0bfcbd7f792a7cef98b7b2a", checked := Try.checked }
namespace Rows
def none {H : Type} : Left H := { results := [], args := [] }

/-- 'laws.FnExactSegmentOk': WHATEVER THE INPUT: true; the input reads as it did. -/
def fnExactSegmentOkSpec : ChangeSpec := { name := "fnExactSegmentOk", fn := fun _ => fun
  | [d] => { results := [.lit (.bool true)], args := [d] }
  | _ => none }
def fnExactSegmentOkRow : OpenClaim := { program := "ytkinapfoigibcaa", sum := "34eb5f6c9e49b9560ca166c1a95595c27ff105f3c0bfcbd7f792a7cef98b7b2a", func := "loop.example/g00638/laws.FnExactSegmentOk", spec := "fnExactSegmentOk", apart := false }
def FnExactSegmentOkSaid : Prop := fnExactSegmentOkRow.holds Try.pinned (OpenSpec.ofChange fnExactSegmentOkSpec)

/-- ITS FALSE NEIGHBOUR: 'it returns false'. Refute it at one input. -/
def fnExactSegmentOkWrong : ChangeSpec := { name := "fnExactSegmentOk", fn := fun _ => fun
  | [d] => { results := [.lit (.bool false)], args := [d] }
  | _ => none }
def FnExactSegmentOkWrongFalsely : Prop := fnExactSegmentOkRow.holds Try.pinned (OpenSpec.ofChange fnExactSegmentOkWrong)

/-- 'laws.FnExactSorted': WHATEVER THE INPUT: true; the input reads as it did. -/
def fnExactSortedSpec : ChangeSpec := { name := "fnExactSorted", fn := fun _ => fun
  | [d] => { results := [.lit (.bool true)], args := [d] }
  | _ => none }
def fnExactSortedRow : OpenClaim := { program := "ytkinapfoigibcaa", sum := "34eb5f6c9e49b9560ca166c1a95595c27ff105f3c0bfcbd7f792a7cef98b7b2a", func := "loop.example/g00638/laws.FnExactSorted", spec := "fnExactSorted", unfollowed := true, recurses := true, apart := false }
def FnExactSortedSaid : Prop := fnExactSortedRow.holds Try.pinned (OpenSpec.ofChange fnExactSortedSpec)

/-- ITS FALSE NEIGHBOUR: 'it returns false'. Refute it at one input. -/
def fnExactSortedWrong : ChangeSpec := { name := "fnExactSorted", fn := fun _ => fun
  | [d] => { results := [.lit (.bool false)], args := [d] }
  | _ => none }
def FnExactSortedWrongFalsely : Prop := fnExactSortedRow.holds Try.pinned (OpenSpec.ofChange fnExactSortedWrong)

/-- 'laws.FnExactSegAt': WHATEVER THE INPUT: true; the input reads as it did. -/
def fnExactSegAtSpec : ChangeSpec := { name := "fnExactSegAt", fn := fun _ => fun
  | [d1, d2] => { results := [.lit (.bool true)], args := [d1, d2] }
  | _ => none }
def fnExactSegAtRow : OpenClaim := { program := "ytkinapfoigibcaa", sum := "34eb5f6c9e49b9560ca166c1a95595c27ff105f3c0bfcbd7f792a7cef98b7b2a", func := "loop.example/g00638/laws.FnExactSegAt", spec := "fnExactSegAt", unfollowed := true, recurses := true, apart := false }
def FnExactSegAtSaid : Prop := fnExactSegAtRow.holds Try.pinned (OpenSpec.ofChange fnExactSegAtSpec)

/-- ITS FALSE NEIGHBOUR: 'it returns false'. Refute it at one input. -/
def fnExactSegAtWrong : ChangeSpec := { name := "fnExactSegAt", fn := fun _ => fun
  | [d1, d2] => { results := [.lit (.bool false)], args := [d1, d2] }
  | _ => none }
def FnExactSegAtWrongFalsely : Prop := fnExactSegAtRow.holds Try.pinned (OpenSpec.ofChange fnExactSegAtWrong)

/-- 'laws.FnExactPatchAt': WHATEVER THE INPUT: true; the input reads as it did. -/
def fnExactPatchAtSpec : ChangeSpec := { name := "fnExactPatchAt", fn := fun _ => fun
  | [d1, d2] => { results := [.lit (.bool true)], args := [d1, d2] }
  | _ => none }
def fnExactPatchAtRow : OpenClaim := { program := "ytkinapfoigibcaa", sum := "34eb5f6c9e49b9560ca166c1a95595c27ff105f3c0bfcbd7f792a7cef98b7b2a", func := "loop.example/g00638/laws.FnExactPatchAt", spec := "fnExactPatchAt", unfollowed := true, recurses := true, apart := false }
def FnExactPatchAtSaid : Prop := fnExactPatchAtRow.holds Try.pinned (OpenSpec.ofChange fnExactPatchAtSpec)

/-- ITS FALSE NEIGHBOUR: 'it returns false'. Refute it at one input. -/
def fnExactPatchAtWrong : ChangeSpec := { name := "fnExactPatchAt", fn := fun _ => fun
  | [d1, d2] => { results := [.lit (.bool false)], args := [d1, d2] }
  | _ => none }
def FnExactPatchAtWrongFalsely : Prop := fnExactPatchAtRow.holds Try.pinned (OpenSpec.ofChange fnExactPatchAtWrong)

/-- 'laws.FnExactSameRegime': WHATEVER THE INPUT: true; the input reads as it did. -/
def fnExactSameRegimeSpec : ChangeSpec := { name := "fnExactSameRegime", fn := fun _ => fun
  | [d1, d2] => { results := [.lit (.bool true)], args := [d1, d2] }
  | _ => none }
def fnExactSameRegimeRow : OpenClaim := { program := "ytkinapfoigibcaa", sum := "34eb5f6c9e49b9560ca166c1a95595c27ff105f3c0bfcbd7f792a7cef98b7b2a", func := "loop.example/g00638/laws.FnExactSameRegime", spec := "fnExactSameRegime", apart := false }
def FnExactSameRegimeSaid : Prop := fnExactSameRegimeRow.holds Try.pinned (OpenSpec.ofChange fnExactSameRegimeSpec)

/-- ITS FALSE NEIGHBOUR: 'it returns false'. Refute it at one input. -/
def fnExactSameRegimeWrong : ChangeSpec := { name := "fnExactSameRegime", fn := fun _ => fun
  | [d1, d2] => { results := [.lit (.bool false)], args := [d1, d2] }
  | _ => none }
def FnExactSameRegimeWrongFalsely : Prop := fnExactSameRegimeRow.holds Try.pinned (OpenSpec.ofChange fnExactSameRegimeWrong)

/- THE SECOND FORM. 'bulk': how many values and letters a reading holds, each counted each time it is reached (what is shared counts as often as it is met; a slice's spare places count too). A statement '..UptoSaid' is the law's where the arguments, and the package variables that the reading takes, are together of bulk at most 1048576: NARROWER than '..Said'. Prove '..Said' where nothing that the law and all that it calls make is longer than what came in: it says more and counts as full. Else prove '..UptoSaid'. A law counts once. -/
mutual
def uptoBulk {H : Type} : DataW H → Nat
  | .lit (.string bytes) => bytes.length + 1
  | .lit _ => 1
  | .nil => 1
  | .ptr d => uptoBulk d + 1
  | .slice elems spare => uptoBulkAll elems + uptoBulkAll spare + 1
  | .agg parts => uptoBulkAll parts + 1
  | .iface _ d => uptoBulk d + 1
  | .map entries => uptoBulkEntries entries + 1
  | .held _ => 1
def uptoBulkAll {H : Type} : List (DataW H) → Nat
  | [] => 0
  | d :: r => uptoBulk d + uptoBulkAll r
def uptoBulkEntries {H : Type} : List (Lit × DataW H) → Nat
  | [] => 0
  | x :: r => uptoBulkEntry x + uptoBulkEntries r
def uptoBulkEntry {H : Type} : Lit × DataW H → Nat
  | (.string bytes, d) => bytes.length + uptoBulk d + 1
  | (_, d) => uptoBulk d + 1
 end
def uptoSmall : (H : Type) → List (DataW H) → Bool := fun _ ds => decide (uptoBulkAll ds ≤ 1048576)
def OpenSpec.upto (s : _root_.Go.ChangeSpec) : _root_.Go.OpenSpec := { _root_.Go.OpenSpec.ofChange s with cond := some uptoSmall }

/-- 'laws.FnExactSegmentOk', WHERE WHAT IT READS IS OF BULK AT MOST 1048576: true; the input reads as it did. -/
def fnExactSegmentOkUptoRow : OpenClaim := { program := "ytkinapfoigibcaa", sum := "34eb5f6c9e49b9560ca166c1a95595c27ff105f3c0bfcbd7f792a7cef98b7b2a", func := "loop.example/g00638/laws.FnExactSegmentOk", spec := "fnExactSegmentOk", apart := false, narrowed := true }
def FnExactSegmentOkUptoSaid : Prop := fnExactSegmentOkUptoRow.holds Try.pinned (OpenSpec.upto fnExactSegmentOkSpec)

/-- 'laws.FnExactSorted', WHERE WHAT IT READS IS OF BULK AT MOST 1048576: true; the input reads as it did. -/
def fnExactSortedUptoRow : OpenClaim := { program := "ytkinapfoigibcaa", sum := "34eb5f6c9e49b9560ca166c1a95595c27ff105f3c0bfcbd7f792a7cef98b7b2a", func := "loop.example/g00638/laws.FnExactSorted", spec := "fnExactSorted", unfollowed := true, recurses := true, apart := false, narrowed := true }
def FnExactSortedUptoSaid : Prop := fnExactSortedUptoRow.holds Try.pinned (OpenSpec.upto fnExactSortedSpec)

/-- 'laws.FnExactSegAt', WHERE WHAT IT READS IS OF BULK AT MOST 1048576: true; the input reads as it did. -/
def fnExactSegAtUptoRow : OpenClaim := { program := "ytkinapfoigibcaa", sum := "34eb5f6c9e49b9560ca166c1a95595c27ff105f3c0bfcbd7f792a7cef98b7b2a", func := "loop.example/g00638/laws.FnExactSegAt", spec := "fnExactSegAt", unfollowed := true, recurses := true, apart := false, narrowed := true }
def FnExactSegAtUptoSaid : Prop := fnExactSegAtUptoRow.holds Try.pinned (OpenSpec.upto fnExactSegAtSpec)

/-- 'laws.FnExactPatchAt', WHERE WHAT IT READS IS OF BULK AT MOST 1048576: true; the input reads as it did. -/
def fnExactPatchAtUptoRow : OpenClaim := { program := "ytkinapfoigibcaa", sum := "34eb5f6c9e49b9560ca166c1a95595c27ff105f3c0bfcbd7f792a7cef98b7b2a", func := "loop.example/g00638/laws.FnExactPatchAt", spec := "fnExactPatchAt", unfollowed := true, recurses := true, apart := false, narrowed := true }
def FnExactPatchAtUptoSaid : Prop := fnExactPatchAtUptoRow.holds Try.pinned (OpenSpec.upto fnExactPatchAtSpec)

/-- 'laws.FnExactSameRegime', WHERE WHAT IT READS IS OF BULK AT MOST 1048576: true; the input reads as it did. -/
def fnExactSameRegimeUptoRow : OpenClaim := { program := "ytkinapfoigibcaa", sum := "34eb5f6c9e49b9560ca166c1a95595c27ff105f3c0bfcbd7f792a7cef98b7b2a", func := "loop.example/g00638/laws.FnExactSameRegime", spec := "fnExactSameRegime", apart := false, narrowed := true }
def FnExactSameRegimeUptoSaid : Prop := fnExactSameRegimeUptoRow.holds Try.pinned (OpenSpec.upto fnExactSameRegimeSpec)

end Rows
end Go.Proofs.Ytkinapfoigibcaa
