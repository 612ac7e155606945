/-
  DERIVED. GIVEN WITH THE SEED: THE CARDS: each row of YtckjcaloofjeoaaDoorRows.lean that lists a variable, with what it lists TIED to the program's text (the seventh form; the later family's looks); each row that meets fmt, with fmt's text TOLD by the authors' own Lean function (tested against real Go, not proved from fmt's source: count such statements apart). THE CARD IS WHAT COUNTS. Prove the row's statement (the work); the ties are given (YtckjcaloofjeoaaDoorTie.lean); close each card by the builder's one call (the guide's Derived/Test/ToyasCard.lean, 'card_holds'). Laid BY PROGRAM, IN A SANDBOX (cutbox-door.mjs). By AI agents, Wed Nov 11 2026. No macro, syntax, notation, axiom, sorry.
-/
import Derived.Test.YtckjcaloofjeoaaDoorRows
import GoSem.ClaimSeven
namespace Go.Proofs.YtckjcaloofjeoaaDoor
namespace Rows

/-- THE TIED CARD OF 'laws.FnSolar'. -/
def fnSolarCard : Claim7 := { stood := { row := fnSolarRow, standIns := [], harness := (true, "2fccc7fee9c61bb881b09192b4a6bbcf5c5e6cda69c1cba98d110eaab674f6d3"), looks := true }, kinds := [], alts := [], laidByText := true, laidKinds := [.data], laidTests := true, laidLooks := .later }
def FnSolarCardSaid : Prop := Claim7.holds Tryd.pinned (.plain (OpenSpec.ofChange fnSolarSpec)) fnSolarCard

/-- THE TIED CARD OF 'laws.FnWeek'. -/
def fnWeekCard : Claim7 := { stood := { row := fnWeekRow, standIns := [], harness := (true, "2fccc7fee9c61bb881b09192b4a6bbcf5c5e6cda69c1cba98d110eaab674f6d3"), looks := true }, kinds := [], alts := [], laidByText := true, laidKinds := [.data, .data], laidTests := true, laidLooks := .later }
def FnWeekCardSaid : Prop := Claim7.holds Tryd.pinned (.plain (OpenSpec.ofChange fnWeekSpec)) fnWeekCard

/-- THE TIED CARD OF 'laws.FnEaster'. -/
def fnEasterCard : Claim7 := { stood := { row := fnEasterRow, standIns := [], harness := (true, "2fccc7fee9c61bb881b09192b4a6bbcf5c5e6cda69c1cba98d110eaab674f6d3"), looks := true }, kinds := [], alts := [], laidByText := true, laidKinds := [.data], laidTests := true, laidLooks := .later }
def FnEasterCardSaid : Prop := Claim7.holds Tryd.pinned (.plain (OpenSpec.ofChange fnEasterSpec)) fnEasterCard

/-- THE TIED CARD OF 'laws.FnExactDayOf'. -/
def fnExactDayOfCard : Claim7 := { stood := { row := fnExactDayOfRow, standIns := [], harness := (true, "2fccc7fee9c61bb881b09192b4a6bbcf5c5e6cda69c1cba98d110eaab674f6d3"), looks := true }, kinds := [], alts := [], laidByText := true, laidKinds := [.data], laidTests := true, laidLooks := .later }
def FnExactDayOfCardSaid : Prop := Claim7.holds Tryd.pinned (.plain (OpenSpec.ofChange fnExactDayOfSpec)) fnExactDayOfCard

/-- THE TIED CARD OF 'laws.FnExactDayInYear'. -/
def fnExactDayInYearCard : Claim7 := { stood := { row := fnExactDayInYearRow, standIns := [], harness := (true, "2fccc7fee9c61bb881b09192b4a6bbcf5c5e6cda69c1cba98d110eaab674f6d3"), looks := true }, kinds := [], alts := [], laidByText := true, laidKinds := [.data], laidTests := true, laidLooks := .later }
def FnExactDayInYearCardSaid : Prop := Claim7.holds Tryd.pinned (.plain (OpenSpec.ofChange fnExactDayInYearSpec)) fnExactDayInYearCard

/-- THE TIED CARD OF 'laws.FnExactApart'. -/
def fnExactApartCard : Claim7 := { stood := { row := fnExactApartRow, standIns := [], harness := (true, "2fccc7fee9c61bb881b09192b4a6bbcf5c5e6cda69c1cba98d110eaab674f6d3"), looks := true }, kinds := [], alts := [], laidByText := true, laidKinds := [.data], laidTests := true, laidLooks := .later }
def FnExactApartCardSaid : Prop := Claim7.holds Tryd.pinned (.plain (OpenSpec.ofChange fnExactApartSpec)) fnExactApartCard

/-- THE TIED CARD OF 'laws.FnExactCompareDates'. -/
def fnExactCompareDatesCard : Claim7 := { stood := { row := fnExactCompareDatesRow, standIns := [], harness := (true, "2fccc7fee9c61bb881b09192b4a6bbcf5c5e6cda69c1cba98d110eaab674f6d3"), looks := true }, kinds := [], alts := [], laidByText := true, laidKinds := [.data], laidTests := true, laidLooks := .later }
def FnExactCompareDatesCardSaid : Prop := Claim7.holds Tryd.pinned (.plain (OpenSpec.ofChange fnExactCompareDatesSpec)) fnExactCompareDatesCard

/-- THE TIED CARD OF 'laws.FnExactFullMoon'. -/
def fnExactFullMoonCard : Claim7 := { stood := { row := fnExactFullMoonRow, standIns := [], harness := (true, "2fccc7fee9c61bb881b09192b4a6bbcf5c5e6cda69c1cba98d110eaab674f6d3"), looks := true }, kinds := [], alts := [], laidByText := true, laidKinds := [.data], laidTests := true, laidLooks := .later }
def FnExactFullMoonCardSaid : Prop := Claim7.holds Tryd.pinned (.plain (OpenSpec.ofChange fnExactFullMoonSpec)) fnExactFullMoonCard

/-- THE TIED CARD OF 'laws.FnExactEasterTable'. -/
def fnExactEasterTableCard : Claim7 := { stood := { row := fnExactEasterTableRow, standIns := [], harness := (true, "2fccc7fee9c61bb881b09192b4a6bbcf5c5e6cda69c1cba98d110eaab674f6d3"), looks := true }, kinds := [], alts := [], laidByText := true, laidKinds := [.data], laidTests := true, laidLooks := .later }
def FnExactEasterTableCardSaid : Prop := Claim7.holds Tryd.pinned (.plain (OpenSpec.ofChange fnExactEasterTableSpec)) fnExactEasterTableCard

/-- THE TIED CARD OF 'laws.FnExactEaster'. -/
def fnExactEasterCard : Claim7 := { stood := { row := fnExactEasterRow, standIns := [], harness := (true, "2fccc7fee9c61bb881b09192b4a6bbcf5c5e6cda69c1cba98d110eaab674f6d3"), looks := true }, kinds := [], alts := [], laidByText := true, laidKinds := [.data], laidTests := true, laidLooks := .later }
def FnExactEasterCardSaid : Prop := Claim7.holds Tryd.pinned (.plain (OpenSpec.ofChange fnExactEasterSpec)) fnExactEasterCard

/-- THE TIED CARD OF 'laws.FnExactLetter'. -/
def fnExactLetterCard : Claim7 := { stood := { row := fnExactLetterRow, standIns := [], harness := (true, "2fccc7fee9c61bb881b09192b4a6bbcf5c5e6cda69c1cba98d110eaab674f6d3"), looks := true }, kinds := [], alts := [], laidByText := true, laidKinds := [.data], laidTests := true, laidLooks := .later }
def FnExactLetterCardSaid : Prop := Claim7.holds Tryd.pinned (.plain (OpenSpec.ofChange fnExactLetterSpec)) fnExactLetterCard

/-- THE SECOND FORM's CARD OF 'laws.FnSolar'. -/
def fnSolarUptoCard : Claim7 := { stood := { row := fnSolarUptoRow, standIns := [], harness := (true, "2fccc7fee9c61bb881b09192b4a6bbcf5c5e6cda69c1cba98d110eaab674f6d3"), looks := true }, kinds := [], alts := [], laidByText := true, laidKinds := [.data], laidTests := true, laidLooks := .later }
def FnSolarUptoCardSaid : Prop := Claim7.holds Tryd.pinned (.plain (OpenSpec.upto fnSolarSpec)) fnSolarUptoCard

/-- THE SECOND FORM's CARD OF 'laws.FnWeek'. -/
def fnWeekUptoCard : Claim7 := { stood := { row := fnWeekUptoRow, standIns := [], harness := (true, "2fccc7fee9c61bb881b09192b4a6bbcf5c5e6cda69c1cba98d110eaab674f6d3"), looks := true }, kinds := [], alts := [], laidByText := true, laidKinds := [.data, .data], laidTests := true, laidLooks := .later }
def FnWeekUptoCardSaid : Prop := Claim7.holds Tryd.pinned (.plain (OpenSpec.upto fnWeekSpec)) fnWeekUptoCard

/-- THE SECOND FORM's CARD OF 'laws.FnEaster'. -/
def fnEasterUptoCard : Claim7 := { stood := { row := fnEasterUptoRow, standIns := [], harness := (true, "2fccc7fee9c61bb881b09192b4a6bbcf5c5e6cda69c1cba98d110eaab674f6d3"), looks := true }, kinds := [], alts := [], laidByText := true, laidKinds := [.data], laidTests := true, laidLooks := .later }
def FnEasterUptoCardSaid : Prop := Claim7.holds Tryd.pinned (.plain (OpenSpec.upto fnEasterSpec)) fnEasterUptoCard

/-- THE SECOND FORM's CARD OF 'laws.FnExactDayOf'. -/
def fnExactDayOfUptoCard : Claim7 := { stood := { row := fnExactDayOfUptoRow, standIns := [], harness := (true, "2fccc7fee9c61bb881b09192b4a6bbcf5c5e6cda69c1cba98d110eaab674f6d3"), looks := true }, kinds := [], alts := [], laidByText := true, laidKinds := [.data], laidTests := true, laidLooks := .later }
def FnExactDayOfUptoCardSaid : Prop := Claim7.holds Tryd.pinned (.plain (OpenSpec.upto fnExactDayOfSpec)) fnExactDayOfUptoCard

/-- THE SECOND FORM's CARD OF 'laws.FnExactDayInYear'. -/
def fnExactDayInYearUptoCard : Claim7 := { stood := { row := fnExactDayInYearUptoRow, standIns := [], harness := (true, "2fccc7fee9c61bb881b09192b4a6bbcf5c5e6cda69c1cba98d110eaab674f6d3"), looks := true }, kinds := [], alts := [], laidByText := true, laidKinds := [.data], laidTests := true, laidLooks := .later }
def FnExactDayInYearUptoCardSaid : Prop := Claim7.holds Tryd.pinned (.plain (OpenSpec.upto fnExactDayInYearSpec)) fnExactDayInYearUptoCard

/-- THE SECOND FORM's CARD OF 'laws.FnExactApart'. -/
def fnExactApartUptoCard : Claim7 := { stood := { row := fnExactApartUptoRow, standIns := [], harness := (true, "2fccc7fee9c61bb881b09192b4a6bbcf5c5e6cda69c1cba98d110eaab674f6d3"), looks := true }, kinds := [], alts := [], laidByText := true, laidKinds := [.data], laidTests := true, laidLooks := .later }
def FnExactApartUptoCardSaid : Prop := Claim7.holds Tryd.pinned (.plain (OpenSpec.upto fnExactApartSpec)) fnExactApartUptoCard

/-- THE SECOND FORM's CARD OF 'laws.FnExactCompareDates'. -/
def fnExactCompareDatesUptoCard : Claim7 := { stood := { row := fnExactCompareDatesUptoRow, standIns := [], harness := (true, "2fccc7fee9c61bb881b09192b4a6bbcf5c5e6cda69c1cba98d110eaab674f6d3"), looks := true }, kinds := [], alts := [], laidByText := true, laidKinds := [.data], laidTests := true, laidLooks := .later }
def FnExactCompareDatesUptoCardSaid : Prop := Claim7.holds Tryd.pinned (.plain (OpenSpec.upto fnExactCompareDatesSpec)) fnExactCompareDatesUptoCard

/-- THE SECOND FORM's CARD OF 'laws.FnExactFullMoon'. -/
def fnExactFullMoonUptoCard : Claim7 := { stood := { row := fnExactFullMoonUptoRow, standIns := [], harness := (true, "2fccc7fee9c61bb881b09192b4a6bbcf5c5e6cda69c1cba98d110eaab674f6d3"), looks := true }, kinds := [], alts := [], laidByText := true, laidKinds := [.data], laidTests := true, laidLooks := .later }
def FnExactFullMoonUptoCardSaid : Prop := Claim7.holds Tryd.pinned (.plain (OpenSpec.upto fnExactFullMoonSpec)) fnExactFullMoonUptoCard

/-- THE SECOND FORM's CARD OF 'laws.FnExactEasterTable'. -/
def fnExactEasterTableUptoCard : Claim7 := { stood := { row := fnExactEasterTableUptoRow, standIns := [], harness := (true, "2fccc7fee9c61bb881b09192b4a6bbcf5c5e6cda69c1cba98d110eaab674f6d3"), looks := true }, kinds := [], alts := [], laidByText := true, laidKinds := [.data], laidTests := true, laidLooks := .later }
def FnExactEasterTableUptoCardSaid : Prop := Claim7.holds Tryd.pinned (.plain (OpenSpec.upto fnExactEasterTableSpec)) fnExactEasterTableUptoCard

/-- THE SECOND FORM's CARD OF 'laws.FnExactEaster'. -/
def fnExactEasterUptoCard : Claim7 := { stood := { row := fnExactEasterUptoRow, standIns := [], harness := (true, "2fccc7fee9c61bb881b09192b4a6bbcf5c5e6cda69c1cba98d110eaab674f6d3"), looks := true }, kinds := [], alts := [], laidByText := true, laidKinds := [.data], laidTests := true, laidLooks := .later }
def FnExactEasterUptoCardSaid : Prop := Claim7.holds Tryd.pinned (.plain (OpenSpec.upto fnExactEasterSpec)) fnExactEasterUptoCard

/-- THE SECOND FORM's CARD OF 'laws.FnExactLetter'. -/
def fnExactLetterUptoCard : Claim7 := { stood := { row := fnExactLetterUptoRow, standIns := [], harness := (true, "2fccc7fee9c61bb881b09192b4a6bbcf5c5e6cda69c1cba98d110eaab674f6d3"), looks := true }, kinds := [], alts := [], laidByText := true, laidKinds := [.data], laidTests := true, laidLooks := .later }
def FnExactLetterUptoCardSaid : Prop := Claim7.holds Tryd.pinned (.plain (OpenSpec.upto fnExactLetterSpec)) fnExactLetterUptoCard
end Rows
end Go.Proofs.YtckjcaloofjeoaaDoor
