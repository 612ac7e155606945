/-
  DERIVED. GIVEN WITH THE SEED: THE CARDS: each row of YtifekkehbaegiaaDoorRows.lean that lists a variable, with what it lists TIED to the program's text (the seventh form; the later family's looks); each row that meets fmt, with fmt's text TOLD by the authors' own Lean function (tested against real Go, not proved from fmt's source: count such statements apart). THE CARD IS WHAT COUNTS. Prove the row's statement (the work); the ties are given (YtifekkehbaegiaaDoorTie.lean); close each card by the builder's one call (the guide's Derived/Test/ToyasCard.lean, 'card_holds'). Laid BY PROGRAM, IN A SANDBOX (cutbox-door.mjs). By AI agents, Wed Nov 11 2026. No macro, syntax, notation, axiom, sorry.
-/
import Derived.Test.YtifekkehbaegiaaDoorRows
import GoSem.ClaimSeven
namespace Go.Proofs.YtifekkehbaegiaaDoor
namespace Rows

/-- THE TIED CARD OF 'laws.FnExactEraYear'. -/
def fnExactEraYearCard : Claim7 := { stood := { row := fnExactEraYearRow, standIns := [], harness := (true, "6c9bbf23b874ff5ab2a3b972ea37e6bd37ebda752e63814af2f45e7dc9602993"), looks := true }, kinds := [], alts := [], laidByText := true, laidKinds := [.data], laidTests := true, laidLooks := .later }
def FnExactEraYearCardSaid : Prop := Claim7.holds Tryd.pinned (.plain (OpenSpec.ofChange fnExactEraYearSpec)) fnExactEraYearCard

/-- THE TIED CARD OF 'laws.FnExactEraSpan'. -/
def fnExactEraSpanCard : Claim7 := { stood := { row := fnExactEraSpanRow, standIns := [], harness := (true, "6c9bbf23b874ff5ab2a3b972ea37e6bd37ebda752e63814af2f45e7dc9602993"), looks := true }, kinds := [], alts := [], laidByText := true, laidKinds := [.data], laidTests := true, laidLooks := .later }
def FnExactEraSpanCardSaid : Prop := Claim7.holds Tryd.pinned (.plain (OpenSpec.ofChange fnExactEraSpanSpec)) fnExactEraSpanCard

/-- THE TIED CARD OF 'laws.FnExactEraDays'. -/
def fnExactEraDaysCard : Claim7 := { stood := { row := fnExactEraDaysRow, standIns := [], harness := (true, "6c9bbf23b874ff5ab2a3b972ea37e6bd37ebda752e63814af2f45e7dc9602993"), looks := true }, kinds := [], alts := [], laidByText := true, laidKinds := [.data], laidTests := true, laidLooks := .later }
def FnExactEraDaysCardSaid : Prop := Claim7.holds Tryd.pinned (.plain (OpenSpec.ofChange fnExactEraDaysSpec)) fnExactEraDaysCard

/-- THE SECOND FORM's CARD OF 'laws.FnExactEraYear'. -/
def fnExactEraYearUptoCard : Claim7 := { stood := { row := fnExactEraYearUptoRow, standIns := [], harness := (true, "6c9bbf23b874ff5ab2a3b972ea37e6bd37ebda752e63814af2f45e7dc9602993"), looks := true }, kinds := [], alts := [], laidByText := true, laidKinds := [.data], laidTests := true, laidLooks := .later }
def FnExactEraYearUptoCardSaid : Prop := Claim7.holds Tryd.pinned (.plain (OpenSpec.upto fnExactEraYearSpec)) fnExactEraYearUptoCard

/-- THE SECOND FORM's CARD OF 'laws.FnExactEraSpan'. -/
def fnExactEraSpanUptoCard : Claim7 := { stood := { row := fnExactEraSpanUptoRow, standIns := [], harness := (true, "6c9bbf23b874ff5ab2a3b972ea37e6bd37ebda752e63814af2f45e7dc9602993"), looks := true }, kinds := [], alts := [], laidByText := true, laidKinds := [.data], laidTests := true, laidLooks := .later }
def FnExactEraSpanUptoCardSaid : Prop := Claim7.holds Tryd.pinned (.plain (OpenSpec.upto fnExactEraSpanSpec)) fnExactEraSpanUptoCard

/-- THE SECOND FORM's CARD OF 'laws.FnExactEraDays'. -/
def fnExactEraDaysUptoCard : Claim7 := { stood := { row := fnExactEraDaysUptoRow, standIns := [], harness := (true, "6c9bbf23b874ff5ab2a3b972ea37e6bd37ebda752e63814af2f45e7dc9602993"), looks := true }, kinds := [], alts := [], laidByText := true, laidKinds := [.data], laidTests := true, laidLooks := .later }
def FnExactEraDaysUptoCardSaid : Prop := Claim7.holds Tryd.pinned (.plain (OpenSpec.upto fnExactEraDaysSpec)) fnExactEraDaysUptoCard
end Rows
end Go.Proofs.YtifekkehbaegiaaDoor
