/-
  DERIVED. GIVEN WITH THE SEED: THE CARDS: each row of YtilpencbbdpgfaaGreatDoorRows.lean that lists a variable, with what it lists TIED to the program's text (the seventh form; the later family's looks); each row that meets fmt, with fmt's text TOLD by the authors' own Lean function (tested against real Go, not proved from fmt's source: count such statements apart). THE CARD IS WHAT COUNTS. Prove the row's statement (the work); the ties are given (YtilpencbbdpgfaaGreatDoorTie.lean); close each card by the builder's one call (the guide's Derived/Test/ToyasCard.lean, 'card_holds'). Laid BY PROGRAM, IN A SANDBOX (cutbox-door.mjs). By AI agents, Wed Nov 11 2026. No macro, syntax, notation, axiom, sorry.
-/
import Derived.Test.YtilpencbbdpgfaaGreatDoorRows
import GoSem.ClaimSeven
namespace Go.Proofs.YtilpencbbdpgfaaGreatDoor
namespace Rows

/-- THE TIED CARD OF 'laws.FnExactReadingOf'. -/
def fnExactReadingOfCard : Claim7 := { stood := { row := fnExactReadingOfRow, standIns := [], harness := (true, "173b41b08ee1ae10981a36fc2fdf0e32333858a43107a9054ce86f7876580b1a"), looks := true }, kinds := [], alts := [], laidByText := true, laidKinds := [.handle, .data, .sentinel], laidTests := true, laidLooks := .later }
def FnExactReadingOfCardSaid : Prop := Claim7.holds Tryz.pinned (.plain (OpenSpec.ofChange fnExactReadingOfSpec)) fnExactReadingOfCard

/-- THE TIED CARD OF 'laws.FnExactDaysOf'. -/
def fnExactDaysOfCard : Claim7 := { stood := { row := fnExactDaysOfRow, standIns := [], harness := (true, "173b41b08ee1ae10981a36fc2fdf0e32333858a43107a9054ce86f7876580b1a"), looks := true }, kinds := [], alts := [], laidByText := true, laidKinds := [.handle, .data, .sentinel], laidTests := true, laidLooks := .later }
def FnExactDaysOfCardSaid : Prop := Claim7.holds Tryz.pinned (.plain (OpenSpec.ofChange fnExactDaysOfSpec)) fnExactDaysOfCard

/-- THE TIED CARD OF 'laws.FnExactShift'. -/
def fnExactShiftCard : Claim7 := { stood := { row := fnExactShiftRow, standIns := [], harness := (true, "173b41b08ee1ae10981a36fc2fdf0e32333858a43107a9054ce86f7876580b1a"), looks := true }, kinds := [], alts := [], laidByText := true, laidKinds := [.handle, .data, .sentinel], laidTests := true, laidLooks := .later }
def FnExactShiftCardSaid : Prop := Claim7.holds Tryz.pinned (.plain (OpenSpec.ofChange fnExactShiftSpec)) fnExactShiftCard

/-- THE TIED CARD OF 'laws.FnExactNextDay'. -/
def fnExactNextDayCard : Claim7 := { stood := { row := fnExactNextDayRow, standIns := [], harness := (true, "173b41b08ee1ae10981a36fc2fdf0e32333858a43107a9054ce86f7876580b1a"), looks := true }, kinds := [], alts := [], laidByText := true, laidKinds := [.handle, .data, .sentinel], laidTests := true, laidLooks := .later }
def FnExactNextDayCardSaid : Prop := Claim7.holds Tryz.pinned (.plain (OpenSpec.ofChange fnExactNextDaySpec)) fnExactNextDayCard

/-- THE TIED CARD OF 'laws.FnExactRead'. -/
def fnExactReadCard : Claim7 := { stood := { row := fnExactReadRow, standIns := [], harness := (true, "173b41b08ee1ae10981a36fc2fdf0e32333858a43107a9054ce86f7876580b1a"), looks := true }, kinds := [], alts := [], laidByText := true, laidKinds := [.data, .data, .data, .handle, .data, .data, .data, .data, .sentinel], laidTests := true, laidLooks := .later }
def FnExactReadCardSaid : Prop := Claim7.holds Tryz.pinned (.plain (OpenSpec.ofChange fnExactReadSpec)) fnExactReadCard

/-- THE TIED CARD OF 'laws.FnExactWhens'. -/
def fnExactWhensCard : Claim7 := { stood := { row := fnExactWhensRow, standIns := [], harness := (true, "173b41b08ee1ae10981a36fc2fdf0e32333858a43107a9054ce86f7876580b1a"), looks := true }, kinds := [], alts := [], laidByText := true, laidKinds := [.data, .data, .data, .handle, .data, .sentinel], laidTests := true, laidLooks := .later }
def FnExactWhensCardSaid : Prop := Claim7.holds Tryz.pinned (.plain (OpenSpec.ofChange fnExactWhensSpec)) fnExactWhensCard

/-- THE TIED CARD OF 'laws.FnExactMarked'. -/
def fnExactMarkedCard : Claim7 := { stood := { row := fnExactMarkedRow, standIns := [], harness := (true, "173b41b08ee1ae10981a36fc2fdf0e32333858a43107a9054ce86f7876580b1a"), looks := true }, kinds := [], alts := [], laidByText := true, laidKinds := [.data, .data, .data, .handle, .data, .sentinel], laidTests := true, laidLooks := .later }
def FnExactMarkedCardSaid : Prop := Claim7.holds Tryz.pinned (.plain (OpenSpec.ofChange fnExactMarkedSpec)) fnExactMarkedCard

/-- THE TIED CARD OF 'laws.FnExactMarks'. -/
def fnExactMarksCard : Claim7 := { stood := { row := fnExactMarksRow, standIns := [], harness := (true, "173b41b08ee1ae10981a36fc2fdf0e32333858a43107a9054ce86f7876580b1a"), looks := true }, kinds := [], alts := [], laidByText := true, laidKinds := [.data, .data, .data, .handle, .data, .sentinel], laidTests := true, laidLooks := .later }
def FnExactMarksCardSaid : Prop := Claim7.holds Tryz.pinned (.plain (OpenSpec.ofChange fnExactMarksSpec)) fnExactMarksCard

/-- THE TIED CARD OF 'laws.FnExactWrite'. -/
def fnExactWriteCard : Claim7 := { stood := { row := fnExactWriteRow, standIns := [], harness := (true, "173b41b08ee1ae10981a36fc2fdf0e32333858a43107a9054ce86f7876580b1a"), looks := true }, kinds := [], alts := [], laidByText := true, laidKinds := [.data, .data, .data, .handle, .data, .data, .data, .data, .sentinel], laidTests := true, laidLooks := .later }
def FnExactWriteCardSaid : Prop := Claim7.holds Tryz.pinned (.plain (OpenSpec.ofChange fnExactWriteSpec)) fnExactWriteCard

/-- THE TIED CARD OF 'laws.FnExactConcord'. -/
def fnExactConcordCard : Claim7 := { stood := { row := fnExactConcordRow, standIns := [], harness := (true, "173b41b08ee1ae10981a36fc2fdf0e32333858a43107a9054ce86f7876580b1a"), looks := true }, kinds := [], alts := [], laidByText := true, laidKinds := [.handle, .data, .sentinel], laidTests := true, laidLooks := .later }
def FnExactConcordCardSaid : Prop := Claim7.holds Tryz.pinned (.plain (OpenSpec.ofChange fnExactConcordSpec)) fnExactConcordCard

/-- THE TIED CARD OF 'laws.FnExactSame'. -/
def fnExactSameCard : Claim7 := { stood := { row := fnExactSameRow, standIns := [], harness := (true, "173b41b08ee1ae10981a36fc2fdf0e32333858a43107a9054ce86f7876580b1a"), looks := true }, kinds := [], alts := [], laidByText := true, laidKinds := [.handle, .data, .sentinel], laidTests := true, laidLooks := .later }
def FnExactSameCardSaid : Prop := Claim7.holds Tryz.pinned (.plain (OpenSpec.ofChange fnExactSameSpec)) fnExactSameCard

/-- THE TIED CARD OF 'laws.FnExactMeet'. -/
def fnExactMeetCard : Claim7 := { stood := { row := fnExactMeetRow, standIns := [], harness := (true, "173b41b08ee1ae10981a36fc2fdf0e32333858a43107a9054ce86f7876580b1a"), looks := true }, kinds := [], alts := [], laidByText := true, laidKinds := [.handle, .data, .sentinel], laidTests := true, laidLooks := .later }
def FnExactMeetCardSaid : Prop := Claim7.holds Tryz.pinned (.plain (OpenSpec.ofChange fnExactMeetSpec)) fnExactMeetCard

/-- THE SECOND FORM's CARD OF 'laws.FnExactReadingOf'. -/
def fnExactReadingOfUptoCard : Claim7 := { stood := { row := fnExactReadingOfUptoRow, standIns := [], harness := (true, "173b41b08ee1ae10981a36fc2fdf0e32333858a43107a9054ce86f7876580b1a"), looks := true }, kinds := [], alts := [], laidByText := true, laidKinds := [.handle, .data, .sentinel], laidTests := true, laidLooks := .later }
def FnExactReadingOfUptoCardSaid : Prop := Claim7.holds Tryz.pinned (.plain (OpenSpec.upto fnExactReadingOfSpec)) fnExactReadingOfUptoCard

/-- THE SECOND FORM's CARD OF 'laws.FnExactDaysOf'. -/
def fnExactDaysOfUptoCard : Claim7 := { stood := { row := fnExactDaysOfUptoRow, standIns := [], harness := (true, "173b41b08ee1ae10981a36fc2fdf0e32333858a43107a9054ce86f7876580b1a"), looks := true }, kinds := [], alts := [], laidByText := true, laidKinds := [.handle, .data, .sentinel], laidTests := true, laidLooks := .later }
def FnExactDaysOfUptoCardSaid : Prop := Claim7.holds Tryz.pinned (.plain (OpenSpec.upto fnExactDaysOfSpec)) fnExactDaysOfUptoCard

/-- THE SECOND FORM's CARD OF 'laws.FnExactShift'. -/
def fnExactShiftUptoCard : Claim7 := { stood := { row := fnExactShiftUptoRow, standIns := [], harness := (true, "173b41b08ee1ae10981a36fc2fdf0e32333858a43107a9054ce86f7876580b1a"), looks := true }, kinds := [], alts := [], laidByText := true, laidKinds := [.handle, .data, .sentinel], laidTests := true, laidLooks := .later }
def FnExactShiftUptoCardSaid : Prop := Claim7.holds Tryz.pinned (.plain (OpenSpec.upto fnExactShiftSpec)) fnExactShiftUptoCard

/-- THE SECOND FORM's CARD OF 'laws.FnExactNextDay'. -/
def fnExactNextDayUptoCard : Claim7 := { stood := { row := fnExactNextDayUptoRow, standIns := [], harness := (true, "173b41b08ee1ae10981a36fc2fdf0e32333858a43107a9054ce86f7876580b1a"), looks := true }, kinds := [], alts := [], laidByText := true, laidKinds := [.handle, .data, .sentinel], laidTests := true, laidLooks := .later }
def FnExactNextDayUptoCardSaid : Prop := Claim7.holds Tryz.pinned (.plain (OpenSpec.upto fnExactNextDaySpec)) fnExactNextDayUptoCard

/-- THE SECOND FORM's CARD OF 'laws.FnExactRead'. -/
def fnExactReadUptoCard : Claim7 := { stood := { row := fnExactReadUptoRow, standIns := [], harness := (true, "173b41b08ee1ae10981a36fc2fdf0e32333858a43107a9054ce86f7876580b1a"), looks := true }, kinds := [], alts := [], laidByText := true, laidKinds := [.data, .data, .data, .handle, .data, .data, .data, .data, .sentinel], laidTests := true, laidLooks := .later }
def FnExactReadUptoCardSaid : Prop := Claim7.holds Tryz.pinned (.plain (OpenSpec.upto fnExactReadSpec)) fnExactReadUptoCard

/-- THE SECOND FORM's CARD OF 'laws.FnExactWhens'. -/
def fnExactWhensUptoCard : Claim7 := { stood := { row := fnExactWhensUptoRow, standIns := [], harness := (true, "173b41b08ee1ae10981a36fc2fdf0e32333858a43107a9054ce86f7876580b1a"), looks := true }, kinds := [], alts := [], laidByText := true, laidKinds := [.data, .data, .data, .handle, .data, .sentinel], laidTests := true, laidLooks := .later }
def FnExactWhensUptoCardSaid : Prop := Claim7.holds Tryz.pinned (.plain (OpenSpec.upto fnExactWhensSpec)) fnExactWhensUptoCard

/-- THE SECOND FORM's CARD OF 'laws.FnExactMarked'. -/
def fnExactMarkedUptoCard : Claim7 := { stood := { row := fnExactMarkedUptoRow, standIns := [], harness := (true, "173b41b08ee1ae10981a36fc2fdf0e32333858a43107a9054ce86f7876580b1a"), looks := true }, kinds := [], alts := [], laidByText := true, laidKinds := [.data, .data, .data, .handle, .data, .sentinel], laidTests := true, laidLooks := .later }
def FnExactMarkedUptoCardSaid : Prop := Claim7.holds Tryz.pinned (.plain (OpenSpec.upto fnExactMarkedSpec)) fnExactMarkedUptoCard

/-- THE SECOND FORM's CARD OF 'laws.FnExactMarks'. -/
def fnExactMarksUptoCard : Claim7 := { stood := { row := fnExactMarksUptoRow, standIns := [], harness := (true, "173b41b08ee1ae10981a36fc2fdf0e32333858a43107a9054ce86f7876580b1a"), looks := true }, kinds := [], alts := [], laidByText := true, laidKinds := [.data, .data, .data, .handle, .data, .sentinel], laidTests := true, laidLooks := .later }
def FnExactMarksUptoCardSaid : Prop := Claim7.holds Tryz.pinned (.plain (OpenSpec.upto fnExactMarksSpec)) fnExactMarksUptoCard

/-- THE SECOND FORM's CARD OF 'laws.FnExactWrite'. -/
def fnExactWriteUptoCard : Claim7 := { stood := { row := fnExactWriteUptoRow, standIns := [], harness := (true, "173b41b08ee1ae10981a36fc2fdf0e32333858a43107a9054ce86f7876580b1a"), looks := true }, kinds := [], alts := [], laidByText := true, laidKinds := [.data, .data, .data, .handle, .data, .data, .data, .data, .sentinel], laidTests := true, laidLooks := .later }
def FnExactWriteUptoCardSaid : Prop := Claim7.holds Tryz.pinned (.plain (OpenSpec.upto fnExactWriteSpec)) fnExactWriteUptoCard

/-- THE SECOND FORM's CARD OF 'laws.FnExactConcord'. -/
def fnExactConcordUptoCard : Claim7 := { stood := { row := fnExactConcordUptoRow, standIns := [], harness := (true, "173b41b08ee1ae10981a36fc2fdf0e32333858a43107a9054ce86f7876580b1a"), looks := true }, kinds := [], alts := [], laidByText := true, laidKinds := [.handle, .data, .sentinel], laidTests := true, laidLooks := .later }
def FnExactConcordUptoCardSaid : Prop := Claim7.holds Tryz.pinned (.plain (OpenSpec.upto fnExactConcordSpec)) fnExactConcordUptoCard

/-- THE SECOND FORM's CARD OF 'laws.FnExactSame'. -/
def fnExactSameUptoCard : Claim7 := { stood := { row := fnExactSameUptoRow, standIns := [], harness := (true, "173b41b08ee1ae10981a36fc2fdf0e32333858a43107a9054ce86f7876580b1a"), looks := true }, kinds := [], alts := [], laidByText := true, laidKinds := [.handle, .data, .sentinel], laidTests := true, laidLooks := .later }
def FnExactSameUptoCardSaid : Prop := Claim7.holds Tryz.pinned (.plain (OpenSpec.upto fnExactSameSpec)) fnExactSameUptoCard

/-- THE SECOND FORM's CARD OF 'laws.FnExactMeet'. -/
def fnExactMeetUptoCard : Claim7 := { stood := { row := fnExactMeetUptoRow, standIns := [], harness := (true, "173b41b08ee1ae10981a36fc2fdf0e32333858a43107a9054ce86f7876580b1a"), looks := true }, kinds := [], alts := [], laidByText := true, laidKinds := [.handle, .data, .sentinel], laidTests := true, laidLooks := .later }
def FnExactMeetUptoCardSaid : Prop := Claim7.holds Tryz.pinned (.plain (OpenSpec.upto fnExactMeetSpec)) fnExactMeetUptoCard
end Rows
end Go.Proofs.YtilpencbbdpgfaaGreatDoor
