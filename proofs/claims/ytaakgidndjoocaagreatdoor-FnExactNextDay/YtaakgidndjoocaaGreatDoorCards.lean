/-
  DERIVED. GIVEN WITH THE SEED: THE CARDS: each row of YtaakgidndjoocaaGreatDoorRows.lean that lists a variable, with what it lists TIED to the program's text (the seventh form; the later family's looks); each row that meets fmt, with fmt's text TOLD by the authors' own Lean function (tested against real Go, not proved from fmt's source: count such statements apart). THE CARD IS WHAT COUNTS. Prove the row's statement (the work); the ties are given (YtaakgidndjoocaaGreatDoorTie.lean); close each card by the builder's one call (the guide's Derived/Test/ToyasCard.lean, 'card_holds'). Laid BY PROGRAM, IN A SANDBOX (cutbox-door.mjs). By AI agents, Wed Nov 11 2026. No macro, syntax, notation, axiom, sorry.
-/
import Derived.Test.YtaakgidndjoocaaGreatDoorRows
import GoSem.ClaimSeven
namespace Go.Proofs.YtaakgidndjoocaaGreatDoor
namespace Rows

/-- THE TIED CARD OF 'laws.FnExactReadingOf'. -/
def fnExactReadingOfCard : Claim7 := { stood := { row := fnExactReadingOfRow, standIns := [], harness := (true, "c9ca7ab81cb009960eedaac4b2b2c8c8fd5a30aa9cfda76aa526565138dd0c6c"), looks := true }, kinds := [], alts := [], laidByText := true, laidKinds := [.handle, .data, .sentinel], laidTests := true, laidLooks := .later }
def FnExactReadingOfCardSaid : Prop := Claim7.holds Tryz.pinned (.plain (OpenSpec.ofChange fnExactReadingOfSpec)) fnExactReadingOfCard

/-- THE TIED CARD OF 'laws.FnExactDaysOf'. -/
def fnExactDaysOfCard : Claim7 := { stood := { row := fnExactDaysOfRow, standIns := [], harness := (true, "c9ca7ab81cb009960eedaac4b2b2c8c8fd5a30aa9cfda76aa526565138dd0c6c"), looks := true }, kinds := [], alts := [], laidByText := true, laidKinds := [.handle, .data, .sentinel], laidTests := true, laidLooks := .later }
def FnExactDaysOfCardSaid : Prop := Claim7.holds Tryz.pinned (.plain (OpenSpec.ofChange fnExactDaysOfSpec)) fnExactDaysOfCard

/-- THE TIED CARD OF 'laws.FnExactMonth'. -/
def fnExactMonthCard : Claim7 := { stood := { row := fnExactMonthRow, standIns := [], harness := (true, "c9ca7ab81cb009960eedaac4b2b2c8c8fd5a30aa9cfda76aa526565138dd0c6c"), looks := true }, kinds := [], alts := [], laidByText := true, laidKinds := [.handle, .data, .sentinel], laidTests := true, laidLooks := .later }
def FnExactMonthCardSaid : Prop := Claim7.holds Tryz.pinned (.plain (OpenSpec.ofChange fnExactMonthSpec)) fnExactMonthCard

/-- THE TIED CARD OF 'laws.FnExactShift'. -/
def fnExactShiftCard : Claim7 := { stood := { row := fnExactShiftRow, standIns := [], harness := (true, "c9ca7ab81cb009960eedaac4b2b2c8c8fd5a30aa9cfda76aa526565138dd0c6c"), looks := true }, kinds := [], alts := [], laidByText := true, laidKinds := [.handle, .data, .sentinel], laidTests := true, laidLooks := .later }
def FnExactShiftCardSaid : Prop := Claim7.holds Tryz.pinned (.plain (OpenSpec.ofChange fnExactShiftSpec)) fnExactShiftCard

/-- THE TIED CARD OF 'laws.FnExactNextDay'. -/
def fnExactNextDayCard : Claim7 := { stood := { row := fnExactNextDayRow, standIns := [], harness := (true, "c9ca7ab81cb009960eedaac4b2b2c8c8fd5a30aa9cfda76aa526565138dd0c6c"), looks := true }, kinds := [], alts := [], laidByText := true, laidKinds := [.handle, .data, .sentinel], laidTests := true, laidLooks := .later }
def FnExactNextDayCardSaid : Prop := Claim7.holds Tryz.pinned (.plain (OpenSpec.ofChange fnExactNextDaySpec)) fnExactNextDayCard

/-- THE TIED CARD OF 'laws.FnExactMeans'. -/
def fnExactMeansCard : Claim7 := { stood := { row := fnExactMeansRow, standIns := [], harness := (true, "c9ca7ab81cb009960eedaac4b2b2c8c8fd5a30aa9cfda76aa526565138dd0c6c"), looks := true }, kinds := [], alts := [], laidByText := true, laidKinds := [.handle, .data, .sentinel], laidTests := true, laidLooks := .later }
def FnExactMeansCardSaid : Prop := Claim7.holds Tryz.pinned (.plain (OpenSpec.ofChange fnExactMeansSpec)) fnExactMeansCard

/-- THE TIED CARD OF 'laws.FnExactDaysSaid'. -/
def fnExactDaysSaidCard : Claim7 := { stood := { row := fnExactDaysSaidRow, standIns := [], harness := (true, "c9ca7ab81cb009960eedaac4b2b2c8c8fd5a30aa9cfda76aa526565138dd0c6c"), looks := true }, kinds := [], alts := [], laidByText := true, laidKinds := [.handle, .data, .sentinel], laidTests := true, laidLooks := .later }
def FnExactDaysSaidCardSaid : Prop := Claim7.holds Tryz.pinned (.plain (OpenSpec.ofChange fnExactDaysSaidSpec)) fnExactDaysSaidCard

/-- THE TIED CARD OF 'laws.FnExactRead'. -/
def fnExactReadCard : Claim7 := { stood := { row := fnExactReadRow, standIns := [], harness := (true, "c9ca7ab81cb009960eedaac4b2b2c8c8fd5a30aa9cfda76aa526565138dd0c6c"), looks := true }, kinds := [], alts := [], laidByText := true, laidKinds := [.data, .data, .data, .handle, .data, .data, .data, .data, .sentinel], laidTests := true, laidLooks := .later }
def FnExactReadCardSaid : Prop := Claim7.holds Tryz.pinned (.plain (OpenSpec.ofChange fnExactReadSpec)) fnExactReadCard

/-- THE SECOND FORM's CARD OF 'laws.FnExactReadingOf'. -/
def fnExactReadingOfUptoCard : Claim7 := { stood := { row := fnExactReadingOfUptoRow, standIns := [], harness := (true, "c9ca7ab81cb009960eedaac4b2b2c8c8fd5a30aa9cfda76aa526565138dd0c6c"), looks := true }, kinds := [], alts := [], laidByText := true, laidKinds := [.handle, .data, .sentinel], laidTests := true, laidLooks := .later }
def FnExactReadingOfUptoCardSaid : Prop := Claim7.holds Tryz.pinned (.plain (OpenSpec.upto fnExactReadingOfSpec)) fnExactReadingOfUptoCard

/-- THE SECOND FORM's CARD OF 'laws.FnExactDaysOf'. -/
def fnExactDaysOfUptoCard : Claim7 := { stood := { row := fnExactDaysOfUptoRow, standIns := [], harness := (true, "c9ca7ab81cb009960eedaac4b2b2c8c8fd5a30aa9cfda76aa526565138dd0c6c"), looks := true }, kinds := [], alts := [], laidByText := true, laidKinds := [.handle, .data, .sentinel], laidTests := true, laidLooks := .later }
def FnExactDaysOfUptoCardSaid : Prop := Claim7.holds Tryz.pinned (.plain (OpenSpec.upto fnExactDaysOfSpec)) fnExactDaysOfUptoCard

/-- THE SECOND FORM's CARD OF 'laws.FnExactMonth'. -/
def fnExactMonthUptoCard : Claim7 := { stood := { row := fnExactMonthUptoRow, standIns := [], harness := (true, "c9ca7ab81cb009960eedaac4b2b2c8c8fd5a30aa9cfda76aa526565138dd0c6c"), looks := true }, kinds := [], alts := [], laidByText := true, laidKinds := [.handle, .data, .sentinel], laidTests := true, laidLooks := .later }
def FnExactMonthUptoCardSaid : Prop := Claim7.holds Tryz.pinned (.plain (OpenSpec.upto fnExactMonthSpec)) fnExactMonthUptoCard

/-- THE SECOND FORM's CARD OF 'laws.FnExactShift'. -/
def fnExactShiftUptoCard : Claim7 := { stood := { row := fnExactShiftUptoRow, standIns := [], harness := (true, "c9ca7ab81cb009960eedaac4b2b2c8c8fd5a30aa9cfda76aa526565138dd0c6c"), looks := true }, kinds := [], alts := [], laidByText := true, laidKinds := [.handle, .data, .sentinel], laidTests := true, laidLooks := .later }
def FnExactShiftUptoCardSaid : Prop := Claim7.holds Tryz.pinned (.plain (OpenSpec.upto fnExactShiftSpec)) fnExactShiftUptoCard

/-- THE SECOND FORM's CARD OF 'laws.FnExactNextDay'. -/
def fnExactNextDayUptoCard : Claim7 := { stood := { row := fnExactNextDayUptoRow, standIns := [], harness := (true, "c9ca7ab81cb009960eedaac4b2b2c8c8fd5a30aa9cfda76aa526565138dd0c6c"), looks := true }, kinds := [], alts := [], laidByText := true, laidKinds := [.handle, .data, .sentinel], laidTests := true, laidLooks := .later }
def FnExactNextDayUptoCardSaid : Prop := Claim7.holds Tryz.pinned (.plain (OpenSpec.upto fnExactNextDaySpec)) fnExactNextDayUptoCard

/-- THE SECOND FORM's CARD OF 'laws.FnExactMeans'. -/
def fnExactMeansUptoCard : Claim7 := { stood := { row := fnExactMeansUptoRow, standIns := [], harness := (true, "c9ca7ab81cb009960eedaac4b2b2c8c8fd5a30aa9cfda76aa526565138dd0c6c"), looks := true }, kinds := [], alts := [], laidByText := true, laidKinds := [.handle, .data, .sentinel], laidTests := true, laidLooks := .later }
def FnExactMeansUptoCardSaid : Prop := Claim7.holds Tryz.pinned (.plain (OpenSpec.upto fnExactMeansSpec)) fnExactMeansUptoCard

/-- THE SECOND FORM's CARD OF 'laws.FnExactDaysSaid'. -/
def fnExactDaysSaidUptoCard : Claim7 := { stood := { row := fnExactDaysSaidUptoRow, standIns := [], harness := (true, "c9ca7ab81cb009960eedaac4b2b2c8c8fd5a30aa9cfda76aa526565138dd0c6c"), looks := true }, kinds := [], alts := [], laidByText := true, laidKinds := [.handle, .data, .sentinel], laidTests := true, laidLooks := .later }
def FnExactDaysSaidUptoCardSaid : Prop := Claim7.holds Tryz.pinned (.plain (OpenSpec.upto fnExactDaysSaidSpec)) fnExactDaysSaidUptoCard

/-- THE SECOND FORM's CARD OF 'laws.FnExactRead'. -/
def fnExactReadUptoCard : Claim7 := { stood := { row := fnExactReadUptoRow, standIns := [], harness := (true, "c9ca7ab81cb009960eedaac4b2b2c8c8fd5a30aa9cfda76aa526565138dd0c6c"), looks := true }, kinds := [], alts := [], laidByText := true, laidKinds := [.data, .data, .data, .handle, .data, .data, .data, .data, .sentinel], laidTests := true, laidLooks := .later }
def FnExactReadUptoCardSaid : Prop := Claim7.holds Tryz.pinned (.plain (OpenSpec.upto fnExactReadSpec)) fnExactReadUptoCard
end Rows
end Go.Proofs.YtaakgidndjoocaaGreatDoor
