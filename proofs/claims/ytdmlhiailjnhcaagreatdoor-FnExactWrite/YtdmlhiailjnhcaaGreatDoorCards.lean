/-
  DERIVED. GIVEN WITH THE SEED: THE CARDS: each row of YtdmlhiailjnhcaaGreatDoorRows.lean that lists a variable, with what it lists TIED to the program's text (the seventh form; the later family's looks); each row that meets fmt, with fmt's text TOLD by the authors' own Lean function (tested against real Go, not proved from fmt's source: count such statements apart). THE CARD IS WHAT COUNTS. Prove the row's statement (the work); the ties are given (YtdmlhiailjnhcaaGreatDoorTie.lean); close each card by the builder's one call (the guide's Derived/Test/ToyasCard.lean, 'card_holds'). Laid BY PROGRAM, IN A SANDBOX (cutbox-door.mjs). By AI agents, Wed Nov 11 2026. No macro, syntax, notation, axiom, sorry.
-/
import Derived.Test.YtdmlhiailjnhcaaGreatDoorRows
import GoSem.ClaimSeven
namespace Go.Proofs.YtdmlhiailjnhcaaGreatDoor
namespace Rows

/-- THE TIED CARD OF 'laws.FnExactWhens'. -/
def fnExactWhensCard : Claim7 := { stood := { row := fnExactWhensRow, standIns := [], harness := (true, "761ad25f6f31aab6151ae1311724b7e77d8503c73ee2ad5bee6ea4f9f806a01f"), looks := true }, kinds := [], alts := [], laidByText := true, laidKinds := [.handle, .sentinel, .data, .data, .data, .data], laidTests := true, laidLooks := .later }
def FnExactWhensCardSaid : Prop := Claim7.holds Tryz.pinned (.plain (OpenSpec.ofChange fnExactWhensSpec)) fnExactWhensCard

/-- THE TIED CARD OF 'laws.FnExactMarked'. -/
def fnExactMarkedCard : Claim7 := { stood := { row := fnExactMarkedRow, standIns := [], harness := (true, "761ad25f6f31aab6151ae1311724b7e77d8503c73ee2ad5bee6ea4f9f806a01f"), looks := true }, kinds := [], alts := [], laidByText := true, laidKinds := [.handle, .sentinel, .data, .data, .data, .data], laidTests := true, laidLooks := .later }
def FnExactMarkedCardSaid : Prop := Claim7.holds Tryz.pinned (.plain (OpenSpec.ofChange fnExactMarkedSpec)) fnExactMarkedCard

/-- THE TIED CARD OF 'laws.FnExactMarks'. -/
def fnExactMarksCard : Claim7 := { stood := { row := fnExactMarksRow, standIns := [], harness := (true, "761ad25f6f31aab6151ae1311724b7e77d8503c73ee2ad5bee6ea4f9f806a01f"), looks := true }, kinds := [], alts := [], laidByText := true, laidKinds := [.handle, .sentinel, .data, .data, .data, .data], laidTests := true, laidLooks := .later }
def FnExactMarksCardSaid : Prop := Claim7.holds Tryz.pinned (.plain (OpenSpec.ofChange fnExactMarksSpec)) fnExactMarksCard

/-- THE TIED CARD OF 'laws.FnExactWrite'. -/
def fnExactWriteCard : Claim7 := { stood := { row := fnExactWriteRow, standIns := [], harness := (true, "761ad25f6f31aab6151ae1311724b7e77d8503c73ee2ad5bee6ea4f9f806a01f"), looks := true }, kinds := [], alts := [], laidByText := true, laidKinds := [.handle, .sentinel, .data, .data, .data, .data, .data, .data, .data], laidTests := true, laidLooks := .later }
def FnExactWriteCardSaid : Prop := Claim7.holds Tryz.pinned (.plain (OpenSpec.ofChange fnExactWriteSpec)) fnExactWriteCard

/-- THE TIED CARD OF 'laws.FnExactAll'. -/
def fnExactAllCard : Claim7 := { stood := { row := fnExactAllRow, standIns := [], harness := (true, "761ad25f6f31aab6151ae1311724b7e77d8503c73ee2ad5bee6ea4f9f806a01f"), looks := true }, kinds := [], alts := [], laidByText := true, laidKinds := [.handle, .sentinel, .data, .data, .data, .data, .data, .data, .data], laidTests := true, laidLooks := .later }
def FnExactAllCardSaid : Prop := Claim7.holds Tryz.pinned (.plain (OpenSpec.ofChange fnExactAllSpec)) fnExactAllCard

/-- THE TIED CARD OF 'laws.FnExactDoubtful'. -/
def fnExactDoubtfulCard : Claim7 := { stood := { row := fnExactDoubtfulRow, standIns := [], harness := (true, "761ad25f6f31aab6151ae1311724b7e77d8503c73ee2ad5bee6ea4f9f806a01f"), looks := true }, kinds := [], alts := [], laidByText := true, laidKinds := [.handle, .sentinel, .data, .data, .data, .data], laidTests := true, laidLooks := .later }
def FnExactDoubtfulCardSaid : Prop := Claim7.holds Tryz.pinned (.plain (OpenSpec.ofChange fnExactDoubtfulSpec)) fnExactDoubtfulCard

/-- THE SECOND FORM's CARD OF 'laws.FnExactWhens'. -/
def fnExactWhensUptoCard : Claim7 := { stood := { row := fnExactWhensUptoRow, standIns := [], harness := (true, "761ad25f6f31aab6151ae1311724b7e77d8503c73ee2ad5bee6ea4f9f806a01f"), looks := true }, kinds := [], alts := [], laidByText := true, laidKinds := [.handle, .sentinel, .data, .data, .data, .data], laidTests := true, laidLooks := .later }
def FnExactWhensUptoCardSaid : Prop := Claim7.holds Tryz.pinned (.plain (OpenSpec.upto fnExactWhensSpec)) fnExactWhensUptoCard

/-- THE SECOND FORM's CARD OF 'laws.FnExactMarked'. -/
def fnExactMarkedUptoCard : Claim7 := { stood := { row := fnExactMarkedUptoRow, standIns := [], harness := (true, "761ad25f6f31aab6151ae1311724b7e77d8503c73ee2ad5bee6ea4f9f806a01f"), looks := true }, kinds := [], alts := [], laidByText := true, laidKinds := [.handle, .sentinel, .data, .data, .data, .data], laidTests := true, laidLooks := .later }
def FnExactMarkedUptoCardSaid : Prop := Claim7.holds Tryz.pinned (.plain (OpenSpec.upto fnExactMarkedSpec)) fnExactMarkedUptoCard

/-- THE SECOND FORM's CARD OF 'laws.FnExactMarks'. -/
def fnExactMarksUptoCard : Claim7 := { stood := { row := fnExactMarksUptoRow, standIns := [], harness := (true, "761ad25f6f31aab6151ae1311724b7e77d8503c73ee2ad5bee6ea4f9f806a01f"), looks := true }, kinds := [], alts := [], laidByText := true, laidKinds := [.handle, .sentinel, .data, .data, .data, .data], laidTests := true, laidLooks := .later }
def FnExactMarksUptoCardSaid : Prop := Claim7.holds Tryz.pinned (.plain (OpenSpec.upto fnExactMarksSpec)) fnExactMarksUptoCard

/-- THE SECOND FORM's CARD OF 'laws.FnExactWrite'. -/
def fnExactWriteUptoCard : Claim7 := { stood := { row := fnExactWriteUptoRow, standIns := [], harness := (true, "761ad25f6f31aab6151ae1311724b7e77d8503c73ee2ad5bee6ea4f9f806a01f"), looks := true }, kinds := [], alts := [], laidByText := true, laidKinds := [.handle, .sentinel, .data, .data, .data, .data, .data, .data, .data], laidTests := true, laidLooks := .later }
def FnExactWriteUptoCardSaid : Prop := Claim7.holds Tryz.pinned (.plain (OpenSpec.upto fnExactWriteSpec)) fnExactWriteUptoCard

/-- THE SECOND FORM's CARD OF 'laws.FnExactAll'. -/
def fnExactAllUptoCard : Claim7 := { stood := { row := fnExactAllUptoRow, standIns := [], harness := (true, "761ad25f6f31aab6151ae1311724b7e77d8503c73ee2ad5bee6ea4f9f806a01f"), looks := true }, kinds := [], alts := [], laidByText := true, laidKinds := [.handle, .sentinel, .data, .data, .data, .data, .data, .data, .data], laidTests := true, laidLooks := .later }
def FnExactAllUptoCardSaid : Prop := Claim7.holds Tryz.pinned (.plain (OpenSpec.upto fnExactAllSpec)) fnExactAllUptoCard

/-- THE SECOND FORM's CARD OF 'laws.FnExactDoubtful'. -/
def fnExactDoubtfulUptoCard : Claim7 := { stood := { row := fnExactDoubtfulUptoRow, standIns := [], harness := (true, "761ad25f6f31aab6151ae1311724b7e77d8503c73ee2ad5bee6ea4f9f806a01f"), looks := true }, kinds := [], alts := [], laidByText := true, laidKinds := [.handle, .sentinel, .data, .data, .data, .data], laidTests := true, laidLooks := .later }
def FnExactDoubtfulUptoCardSaid : Prop := Claim7.holds Tryz.pinned (.plain (OpenSpec.upto fnExactDoubtfulSpec)) fnExactDoubtfulUptoCard
end Rows
end Go.Proofs.YtdmlhiailjnhcaaGreatDoor
