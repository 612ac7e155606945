/-
  DERIVED. GIVEN WITH THE SEED: THE CARDS: each row of YtkinapfoigibcaaGreatDoorRows.lean that lists a variable, with what it lists TIED to the program's text (the seventh form; the later family's looks); each row that meets fmt, with fmt's text TOLD by the authors' own Lean function (tested against real Go, not proved from fmt's source: count such statements apart). THE CARD IS WHAT COUNTS. Prove the row's statement (the work); the ties are given (YtkinapfoigibcaaGreatDoorTie.lean); close each card by the builder's one call (the guide's Derived/Test/ToyasCard.lean, 'card_holds'). Laid BY PROGRAM, IN A SANDBOX (cutbox-door.mjs). By AI agents, Wed Nov 11 2026. No macro, syntax, notation, axiom, sorry.
-/
import Derived.Test.YtkinapfoigibcaaGreatDoorRows
import GoSem.ClaimSeven
namespace Go.Proofs.YtkinapfoigibcaaGreatDoor
namespace Rows

/-- THE TIED CARD OF 'laws.FnRegime'. -/
def fnRegimeCard : Claim7 := { stood := { row := fnRegimeRow, standIns := [], harness := (true, "ef74d7e28fc75ef3a85729f82e28bbe78f840596e1e24c23eb56c41120b631d8"), looks := true }, kinds := [], alts := [], laidByText := true, laidKinds := [.handle, .data, .sentinel], laidTests := true, laidLooks := .later }
def FnRegimeCardSaid : Prop := Claim7.holds Tryz.pinned (.plain (OpenSpec.ofChange fnRegimeSpec)) fnRegimeCard

/-- THE TIED CARD OF 'laws.FnExactRegimeOk'. -/
def fnExactRegimeOkCard : Claim7 := { stood := { row := fnExactRegimeOkRow, standIns := [], harness := (true, "ef74d7e28fc75ef3a85729f82e28bbe78f840596e1e24c23eb56c41120b631d8"), looks := true }, kinds := [], alts := [], laidByText := true, laidKinds := [.handle, .data, .sentinel], laidTests := true, laidLooks := .later }
def FnExactRegimeOkCardSaid : Prop := Claim7.holds Tryz.pinned (.plain (OpenSpec.ofChange fnExactRegimeOkSpec)) fnExactRegimeOkCard

/-- THE TIED CARD OF 'laws.FnExactChanges'. -/
def fnExactChangesCard : Claim7 := { stood := { row := fnExactChangesRow, standIns := [], harness := (true, "ef74d7e28fc75ef3a85729f82e28bbe78f840596e1e24c23eb56c41120b631d8"), looks := true }, kinds := [], alts := [], laidByText := true, laidKinds := [.handle, .data, .sentinel], laidTests := true, laidLooks := .later }
def FnExactChangesCardSaid : Prop := Claim7.holds Tryz.pinned (.plain (OpenSpec.ofChange fnExactChangesSpec)) fnExactChangesCard

/-- THE SECOND FORM's CARD OF 'laws.FnRegime'. -/
def fnRegimeUptoCard : Claim7 := { stood := { row := fnRegimeUptoRow, standIns := [], harness := (true, "ef74d7e28fc75ef3a85729f82e28bbe78f840596e1e24c23eb56c41120b631d8"), looks := true }, kinds := [], alts := [], laidByText := true, laidKinds := [.handle, .data, .sentinel], laidTests := true, laidLooks := .later }
def FnRegimeUptoCardSaid : Prop := Claim7.holds Tryz.pinned (.plain (OpenSpec.upto fnRegimeSpec)) fnRegimeUptoCard

/-- THE SECOND FORM's CARD OF 'laws.FnExactRegimeOk'. -/
def fnExactRegimeOkUptoCard : Claim7 := { stood := { row := fnExactRegimeOkUptoRow, standIns := [], harness := (true, "ef74d7e28fc75ef3a85729f82e28bbe78f840596e1e24c23eb56c41120b631d8"), looks := true }, kinds := [], alts := [], laidByText := true, laidKinds := [.handle, .data, .sentinel], laidTests := true, laidLooks := .later }
def FnExactRegimeOkUptoCardSaid : Prop := Claim7.holds Tryz.pinned (.plain (OpenSpec.upto fnExactRegimeOkSpec)) fnExactRegimeOkUptoCard

/-- THE SECOND FORM's CARD OF 'laws.FnExactChanges'. -/
def fnExactChangesUptoCard : Claim7 := { stood := { row := fnExactChangesUptoRow, standIns := [], harness := (true, "ef74d7e28fc75ef3a85729f82e28bbe78f840596e1e24c23eb56c41120b631d8"), looks := true }, kinds := [], alts := [], laidByText := true, laidKinds := [.handle, .data, .sentinel], laidTests := true, laidLooks := .later }
def FnExactChangesUptoCardSaid : Prop := Claim7.holds Tryz.pinned (.plain (OpenSpec.upto fnExactChangesSpec)) fnExactChangesUptoCard
end Rows
end Go.Proofs.YtkinapfoigibcaaGreatDoor
