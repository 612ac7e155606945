/-
  No cell of these rows narrows 'for every input' (looked for: loops, veiled, ifaces, maps, wideKeys, modest, calm, conditions, laid).
  DERIVED. THE GIVEN ROWS OF THIS SEAT. 3 by the template 'for every input the law returns true; each argument reads behind the call as it read before'; 0 by the template 'total and deterministic' (their statements: YtifekkehbaegiaaTotals.lean).
  GIVEN WITH THE SEED: the statements are not yours to turn. If you find one false, say at which input.
  Laid BY PROGRAM, IN A SANDBOX (cutbox-rows.mjs): the forced cells as the released guide's own fill.sh prints them over the translation aa6f78899f1cf101… (all of the seat's roots in one cut). By AI agents, Wed Nov 11 2026. No macro, syntax, notation, axiom, sorry.
-/
import Derived.Test.YtifekkehbaegiaaChecked
import GoSem.Claim
import GoSem.ClaimJoined
import GoSem.ClaimMapViews
import Derived.JoinedTies
import Derived.KernelRfl
namespace Go.Proofs.Ytifekkehbaegiaa
/- THE CELL 'sum', in the pinned program and in every row, IS THE sha256 OF THE DUMP (.gsa) THAT YtifekkehbaegiaaProg.lean LOADS. Nothing in Lean hashes anything: it is a label: what it is worth is what the hold of that sum in a sandbox is worth. -/
noncomputable def Try.pinned : Pinned := { name := "ytifekkehbaegiaa", sum := "aa6f78899f1cf101a40d8e4763700078b4c6855f83d1327fb3dfb7a6f2bb0138", checked := Try.checked }
namespace Rows
def none {H : Type} : Left H := { results := [], args := [] }

/-- 'laws.FnExactEraOk': WHATEVER THE INPUT: true; the input reads as it did. -/
def fnExactEraOkSpec : ChangeSpec := { name := "fnExactEraOk", fn := fun _ => fun
  | [d] => { results := [.lit (.bool true)], args := [d] }
  | _ => none }
def fnExactEraOkRow : OpenClaim := { program := "ytifekkehbaegiaa", sum := "aa6f78899f1cf101a40d8e4763700078b4c6855f83d1327fb3dfb7a6f2bb0138", func := "loop.example/g00638/laws.FnExactEraOk", spec := "fnExactEraOk", apart := false }
def FnExactEraOkSaid : Prop := fnExactEraOkRow.holds Try.pinned (OpenSpec.ofChange fnExactEraOkSpec)

/-- ITS FALSE NEIGHBOUR: 'it returns false'. Refute it at one input. -/
def fnExactEraOkWrong : ChangeSpec := { name := "fnExactEraOk", fn := fun _ => fun
  | [d] => { results := [.lit (.bool false)], args := [d] }
  | _ => none }
def FnExactEraOkWrongFalsely : Prop := fnExactEraOkRow.holds Try.pinned (OpenSpec.ofChange fnExactEraOkWrong)

/-- 'laws.FnExactEras': WHATEVER THE INPUT: true; the input reads as it did. -/
def fnExactErasSpec : ChangeSpec := { name := "fnExactEras", fn := fun _ => fun
  | [] => { results := [.lit (.bool true)], args := [] }
  | _ => none }
def fnExactErasRow : OpenClaim := { program := "ytifekkehbaegiaa", sum := "aa6f78899f1cf101a40d8e4763700078b4c6855f83d1327fb3dfb7a6f2bb0138", func := "loop.example/g00638/laws.FnExactEras", spec := "fnExactEras", apart := false }
def FnExactErasSaid : Prop := fnExactErasRow.holds Try.pinned (OpenSpec.ofChange fnExactErasSpec)

/-- ITS FALSE NEIGHBOUR: 'it returns false'. Refute it at one input. -/
def fnExactErasWrong : ChangeSpec := { name := "fnExactEras", fn := fun _ => fun
  | [] => { results := [.lit (.bool false)], args := [] }
  | _ => none }
def FnExactErasWrongFalsely : Prop := fnExactErasRow.holds Try.pinned (OpenSpec.ofChange fnExactErasWrong)

/-- 'laws.FnExactFindEra': WHATEVER THE INPUT: true; the input reads as it did. -/
def fnExactFindEraSpec : ChangeSpec := { name := "fnExactFindEra", fn := fun _ => fun
  | [d] => { results := [.lit (.bool true)], args := [d] }
  | _ => none }
def fnExactFindEraRow : OpenClaim := { program := "ytifekkehbaegiaa", sum := "aa6f78899f1cf101a40d8e4763700078b4c6855f83d1327fb3dfb7a6f2bb0138", func := "loop.example/g00638/laws.FnExactFindEra", spec := "fnExactFindEra", apart := false }
def FnExactFindEraSaid : Prop := fnExactFindEraRow.holds Try.pinned (OpenSpec.ofChange fnExactFindEraSpec)

/-- ITS FALSE NEIGHBOUR: 'it returns false'. Refute it at one input. -/
def fnExactFindEraWrong : ChangeSpec := { name := "fnExactFindEra", fn := fun _ => fun
  | [d] => { results := [.lit (.bool false)], args := [d] }
  | _ => none }
def FnExactFindEraWrongFalsely : Prop := fnExactFindEraRow.holds Try.pinned (OpenSpec.ofChange fnExactFindEraWrong)

/- THE SECOND FORM. 'bulk': how many values and letters a reading holds, each counted each time it is reached (what is shared counts as often as it is met; a slice's spare places count too). A statement '..UptoSaid' is the law's where the arguments, and the package variables that the reading takes, are together of bulk at most 1048576: NARROWER than '..Said'. Prove '..Said' where nothing that the law and all that it calls make is longer than what came in: it says more and counts as full. Else prove '..UptoSaid'. A law counts once. -/
mutual
def uptoBulk {H : Type} : DataW H → Nat
  | .lit (.string bytes) => bytes.length + 1
  | .lit _ => 1
  | .nil => 1
  | .ptr d => uptoBulk d + 1
  | .slice elems spare => uptoBulkAll elems + uptoBulkAll spare + 1
  | .agg parts => uptoBulkAll parts + 1
  | .iface _ d => uptoBulk d + 1
  | .map entries => uptoBulkEntries entries + 1
  | .held _ => 1
def uptoBulkAll {H : Type} : List (DataW H) → Nat
  | [] => 0
  | d :: r => uptoBulk d + uptoBulkAll r
def uptoBulkEntries {H : Type} : List (Lit × DataW H) → Nat
  | [] => 0
  | x :: r => uptoBulkEntry x + uptoBulkEntries r
def uptoBulkEntry {H : Type} : Lit × DataW H → Nat
  | (.string bytes, d) => bytes.length + uptoBulk d + 1
  | (_, d) => uptoBulk d + 1
 end
def uptoSmall : (H : Type) → List (DataW H) → Bool := fun _ ds => decide (uptoBulkAll ds ≤ 1048576)
def OpenSpec.upto (s : _root_.Go.ChangeSpec) : _root_.Go.OpenSpec := { _root_.Go.OpenSpec.ofChange s with cond := some uptoSmall }

/-- 'laws.FnExactEraOk', WHERE WHAT IT READS IS OF BULK AT MOST 1048576: true; the input reads as it did. -/
def fnExactEraOkUptoRow : OpenClaim := { program := "ytifekkehbaegiaa", sum := "aa6f78899f1cf101a40d8e4763700078b4c6855f83d1327fb3dfb7a6f2bb0138", func := "loop.example/g00638/laws.FnExactEraOk", spec := "fnExactEraOk", apart := false, narrowed := true }
def FnExactEraOkUptoSaid : Prop := fnExactEraOkUptoRow.holds Try.pinned (OpenSpec.upto fnExactEraOkSpec)

/-- 'laws.FnExactEras', WHERE WHAT IT READS IS OF BULK AT MOST 1048576: true; the input reads as it did. -/
def fnExactErasUptoRow : OpenClaim := { program := "ytifekkehbaegiaa", sum := "aa6f78899f1cf101a40d8e4763700078b4c6855f83d1327fb3dfb7a6f2bb0138", func := "loop.example/g00638/laws.FnExactEras", spec := "fnExactEras", apart := false, narrowed := true }
def FnExactErasUptoSaid : Prop := fnExactErasUptoRow.holds Try.pinned (OpenSpec.upto fnExactErasSpec)

/-- 'laws.FnExactFindEra', WHERE WHAT IT READS IS OF BULK AT MOST 1048576: true; the input reads as it did. -/
def fnExactFindEraUptoRow : OpenClaim := { program := "ytifekkehbaegiaa", sum := "aa6f78899f1cf101a40d8e4763700078b4c6855f83d1327fb3dfb7a6f2bb0138", func := "loop.example/g00638/laws.FnExactFindEra", spec := "fnExactFindEra", apart := false, narrowed := true }
def FnExactFindEraUptoSaid : Prop := fnExactFindEraUptoRow.holds Try.pinned (OpenSpec.upto fnExactFindEraSpec)

end Rows
end Go.Proofs.Ytifekkehbaegiaa
