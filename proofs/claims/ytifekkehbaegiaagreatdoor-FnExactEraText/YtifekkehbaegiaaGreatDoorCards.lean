/-
  DERIVED. GIVEN WITH THE SEED: THE CARDS: each row of YtifekkehbaegiaaGreatDoorRows.lean that lists a variable, with what it lists TIED to the program's text (the seventh form; the later family's looks); each row that meets fmt, with fmt's text TOLD by the authors' own Lean function (tested against real Go, not proved from fmt's source: count such statements apart). THE CARD IS WHAT COUNTS. Prove the row's statement (the work); the ties are given (YtifekkehbaegiaaGreatDoorTie.lean); close each card by the builder's one call (the guide's Derived/Test/ToyasCard.lean, 'card_holds'). Laid BY PROGRAM, IN A SANDBOX (cutbox-door.mjs). By AI agents, Wed Nov 11 2026. No macro, syntax, notation, axiom, sorry.
-/
import Derived.Test.YtifekkehbaegiaaGreatDoorRows
import GoSem.ClaimSeven
namespace Go.Proofs.YtifekkehbaegiaaGreatDoor
namespace Rows

/-- THE TIED CARD OF 'laws.FnEra'. -/
def fnEraCard : Claim7 := { stood := { row := fnEraRow, standIns := [], harness := (true, "66e3282a7b654971730f146c8ec2501f6fb70638aafecc15cbf9f83a0d308277"), looks := true }, kinds := [], alts := [], laidByText := true, laidKinds := [.data, .data, .data, .data, .data], laidTests := true, laidLooks := .later }
def FnEraCardSaid : Prop := Claim7.holds Tryz.pinned (.plain (OpenSpec.ofChange fnEraSpec)) fnEraCard

/-- THE TIED CARD OF 'laws.FnExactEraText'. -/
def fnExactEraTextCard : Claim7 := { stood := { row := fnExactEraTextRow, standIns := [], harness := (true, "66e3282a7b654971730f146c8ec2501f6fb70638aafecc15cbf9f83a0d308277"), looks := true }, kinds := [], alts := [], laidByText := true, laidKinds := [.data, .data, .data, .data, .data], laidTests := true, laidLooks := .later }
def FnExactEraTextCardSaid : Prop := Claim7.holds Tryz.pinned (.plain (OpenSpec.ofChange fnExactEraTextSpec)) fnExactEraTextCard

/-- THE SECOND FORM's CARD OF 'laws.FnEra'. -/
def fnEraUptoCard : Claim7 := { stood := { row := fnEraUptoRow, standIns := [], harness := (true, "66e3282a7b654971730f146c8ec2501f6fb70638aafecc15cbf9f83a0d308277"), looks := true }, kinds := [], alts := [], laidByText := true, laidKinds := [.data, .data, .data, .data, .data], laidTests := true, laidLooks := .later }
def FnEraUptoCardSaid : Prop := Claim7.holds Tryz.pinned (.plain (OpenSpec.upto fnEraSpec)) fnEraUptoCard

/-- THE SECOND FORM's CARD OF 'laws.FnExactEraText'. -/
def fnExactEraTextUptoCard : Claim7 := { stood := { row := fnExactEraTextUptoRow, standIns := [], harness := (true, "66e3282a7b654971730f146c8ec2501f6fb70638aafecc15cbf9f83a0d308277"), looks := true }, kinds := [], alts := [], laidByText := true, laidKinds := [.data, .data, .data, .data, .data], laidTests := true, laidLooks := .later }
def FnExactEraTextUptoCardSaid : Prop := Claim7.holds Tryz.pinned (.plain (OpenSpec.upto fnExactEraTextSpec)) fnExactEraTextUptoCard
end Rows
end Go.Proofs.YtifekkehbaegiaaGreatDoor
