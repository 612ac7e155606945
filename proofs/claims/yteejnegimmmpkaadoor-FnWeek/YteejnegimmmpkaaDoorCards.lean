/-
  DERIVED. GIVEN WITH THE SEED: THE CARDS: each row of YteejnegimmmpkaaDoorRows.lean that lists a variable, with what it lists TIED to the program's text (the seventh form; the later family's looks); each row that meets fmt, with fmt's text TOLD by the authors' own Lean function (tested against real Go, not proved from fmt's source: count such statements apart). THE CARD IS WHAT COUNTS. Prove the row's statement (the work); the ties are given (YteejnegimmmpkaaDoorTie.lean); close each card by the builder's one call (the guide's Derived/Test/ToyasCard.lean, 'card_holds'). Laid BY PROGRAM, IN A SANDBOX (cutbox-door.mjs). By AI agents, Wed Nov 11 2026. No macro, syntax, notation, axiom, sorry.
-/
import Derived.Test.YteejnegimmmpkaaDoorRows
import GoSem.ClaimSeven
namespace Go.Proofs.YteejnegimmmpkaaDoor
namespace Rows

/-- THE TIED CARD OF 'laws.FnWeek'. -/
def fnWeekCard : Claim7 := { stood := { row := fnWeekRow, standIns := [], harness := (true, "5f72c5712b06bad5f4afcc606ccaa1e94d71b5b2456848eb21f1b671e4f48854"), looks := true }, kinds := [], alts := [], laidByText := true, laidKinds := [.data, .data], laidTests := true, laidLooks := .later }
def FnWeekCardSaid : Prop := Claim7.holds Tryd.pinned (.plain (OpenSpec.ofChange fnWeekSpec)) fnWeekCard

/-- THE TIED CARD OF 'laws.FnExactMonthDays'. -/
def fnExactMonthDaysCard : Claim7 := { stood := { row := fnExactMonthDaysRow, standIns := [], harness := (true, "5f72c5712b06bad5f4afcc606ccaa1e94d71b5b2456848eb21f1b671e4f48854"), looks := true }, kinds := [], alts := [], laidByText := true, laidKinds := [.data], laidTests := true, laidLooks := .later }
def FnExactMonthDaysCardSaid : Prop := Claim7.holds Tryd.pinned (.plain (OpenSpec.ofChange fnExactMonthDaysSpec)) fnExactMonthDaysCard

/-- THE TIED CARD OF 'laws.FnExactDateOk'. -/
def fnExactDateOkCard : Claim7 := { stood := { row := fnExactDateOkRow, standIns := [], harness := (true, "5f72c5712b06bad5f4afcc606ccaa1e94d71b5b2456848eb21f1b671e4f48854"), looks := true }, kinds := [], alts := [], laidByText := true, laidKinds := [.data], laidTests := true, laidLooks := .later }
def FnExactDateOkCardSaid : Prop := Claim7.holds Tryd.pinned (.plain (OpenSpec.ofChange fnExactDateOkSpec)) fnExactDateOkCard

/-- THE TIED CARD OF 'laws.FnExactDayOf'. -/
def fnExactDayOfCard : Claim7 := { stood := { row := fnExactDayOfRow, standIns := [], harness := (true, "5f72c5712b06bad5f4afcc606ccaa1e94d71b5b2456848eb21f1b671e4f48854"), looks := true }, kinds := [], alts := [], laidByText := true, laidKinds := [.data], laidTests := true, laidLooks := .later }
def FnExactDayOfCardSaid : Prop := Claim7.holds Tryd.pinned (.plain (OpenSpec.ofChange fnExactDayOfSpec)) fnExactDayOfCard

/-- THE TIED CARD OF 'laws.FnExactDateOf'. -/
def fnExactDateOfCard : Claim7 := { stood := { row := fnExactDateOfRow, standIns := [], harness := (true, "5f72c5712b06bad5f4afcc606ccaa1e94d71b5b2456848eb21f1b671e4f48854"), looks := true }, kinds := [], alts := [], laidByText := true, laidKinds := [.data], laidTests := true, laidLooks := .later }
def FnExactDateOfCardSaid : Prop := Claim7.holds Tryd.pinned (.plain (OpenSpec.ofChange fnExactDateOfSpec)) fnExactDateOfCard

/-- THE TIED CARD OF 'laws.FnExactWeekdayName'. -/
def fnExactWeekdayNameCard : Claim7 := { stood := { row := fnExactWeekdayNameRow, standIns := [], harness := (true, "5f72c5712b06bad5f4afcc606ccaa1e94d71b5b2456848eb21f1b671e4f48854"), looks := true }, kinds := [], alts := [], laidByText := true, laidKinds := [.data], laidTests := true, laidLooks := .later }
def FnExactWeekdayNameCardSaid : Prop := Claim7.holds Tryd.pinned (.plain (OpenSpec.ofChange fnExactWeekdayNameSpec)) fnExactWeekdayNameCard

/-- THE TIED CARD OF 'laws.FnExactDayInYear'. -/
def fnExactDayInYearCard : Claim7 := { stood := { row := fnExactDayInYearRow, standIns := [], harness := (true, "5f72c5712b06bad5f4afcc606ccaa1e94d71b5b2456848eb21f1b671e4f48854"), looks := true }, kinds := [], alts := [], laidByText := true, laidKinds := [.data], laidTests := true, laidLooks := .later }
def FnExactDayInYearCardSaid : Prop := Claim7.holds Tryd.pinned (.plain (OpenSpec.ofChange fnExactDayInYearSpec)) fnExactDayInYearCard

/-- THE TIED CARD OF 'laws.FnExactApart'. -/
def fnExactApartCard : Claim7 := { stood := { row := fnExactApartRow, standIns := [], harness := (true, "5f72c5712b06bad5f4afcc606ccaa1e94d71b5b2456848eb21f1b671e4f48854"), looks := true }, kinds := [], alts := [], laidByText := true, laidKinds := [.data], laidTests := true, laidLooks := .later }
def FnExactApartCardSaid : Prop := Claim7.holds Tryd.pinned (.plain (OpenSpec.ofChange fnExactApartSpec)) fnExactApartCard

/-- THE TIED CARD OF 'laws.FnExactCompareDates'. -/
def fnExactCompareDatesCard : Claim7 := { stood := { row := fnExactCompareDatesRow, standIns := [], harness := (true, "5f72c5712b06bad5f4afcc606ccaa1e94d71b5b2456848eb21f1b671e4f48854"), looks := true }, kinds := [], alts := [], laidByText := true, laidKinds := [.data], laidTests := true, laidLooks := .later }
def FnExactCompareDatesCardSaid : Prop := Claim7.holds Tryd.pinned (.plain (OpenSpec.ofChange fnExactCompareDatesSpec)) fnExactCompareDatesCard

/-- THE SECOND FORM's CARD OF 'laws.FnWeek'. -/
def fnWeekUptoCard : Claim7 := { stood := { row := fnWeekUptoRow, standIns := [], harness := (true, "5f72c5712b06bad5f4afcc606ccaa1e94d71b5b2456848eb21f1b671e4f48854"), looks := true }, kinds := [], alts := [], laidByText := true, laidKinds := [.data, .data], laidTests := true, laidLooks := .later }
def FnWeekUptoCardSaid : Prop := Claim7.holds Tryd.pinned (.plain (OpenSpec.upto fnWeekSpec)) fnWeekUptoCard

/-- THE SECOND FORM's CARD OF 'laws.FnExactMonthDays'. -/
def fnExactMonthDaysUptoCard : Claim7 := { stood := { row := fnExactMonthDaysUptoRow, standIns := [], harness := (true, "5f72c5712b06bad5f4afcc606ccaa1e94d71b5b2456848eb21f1b671e4f48854"), looks := true }, kinds := [], alts := [], laidByText := true, laidKinds := [.data], laidTests := true, laidLooks := .later }
def FnExactMonthDaysUptoCardSaid : Prop := Claim7.holds Tryd.pinned (.plain (OpenSpec.upto fnExactMonthDaysSpec)) fnExactMonthDaysUptoCard

/-- THE SECOND FORM's CARD OF 'laws.FnExactDateOk'. -/
def fnExactDateOkUptoCard : Claim7 := { stood := { row := fnExactDateOkUptoRow, standIns := [], harness := (true, "5f72c5712b06bad5f4afcc606ccaa1e94d71b5b2456848eb21f1b671e4f48854"), looks := true }, kinds := [], alts := [], laidByText := true, laidKinds := [.data], laidTests := true, laidLooks := .later }
def FnExactDateOkUptoCardSaid : Prop := Claim7.holds Tryd.pinned (.plain (OpenSpec.upto fnExactDateOkSpec)) fnExactDateOkUptoCard

/-- THE SECOND FORM's CARD OF 'laws.FnExactDayOf'. -/
def fnExactDayOfUptoCard : Claim7 := { stood := { row := fnExactDayOfUptoRow, standIns := [], harness := (true, "5f72c5712b06bad5f4afcc606ccaa1e94d71b5b2456848eb21f1b671e4f48854"), looks := true }, kinds := [], alts := [], laidByText := true, laidKinds := [.data], laidTests := true, laidLooks := .later }
def FnExactDayOfUptoCardSaid : Prop := Claim7.holds Tryd.pinned (.plain (OpenSpec.upto fnExactDayOfSpec)) fnExactDayOfUptoCard

/-- THE SECOND FORM's CARD OF 'laws.FnExactDateOf'. -/
def fnExactDateOfUptoCard : Claim7 := { stood := { row := fnExactDateOfUptoRow, standIns := [], harness := (true, "5f72c5712b06bad5f4afcc606ccaa1e94d71b5b2456848eb21f1b671e4f48854"), looks := true }, kinds := [], alts := [], laidByText := true, laidKinds := [.data], laidTests := true, laidLooks := .later }
def FnExactDateOfUptoCardSaid : Prop := Claim7.holds Tryd.pinned (.plain (OpenSpec.upto fnExactDateOfSpec)) fnExactDateOfUptoCard

/-- THE SECOND FORM's CARD OF 'laws.FnExactWeekdayName'. -/
def fnExactWeekdayNameUptoCard : Claim7 := { stood := { row := fnExactWeekdayNameUptoRow, standIns := [], harness := (true, "5f72c5712b06bad5f4afcc606ccaa1e94d71b5b2456848eb21f1b671e4f48854"), looks := true }, kinds := [], alts := [], laidByText := true, laidKinds := [.data], laidTests := true, laidLooks := .later }
def FnExactWeekdayNameUptoCardSaid : Prop := Claim7.holds Tryd.pinned (.plain (OpenSpec.upto fnExactWeekdayNameSpec)) fnExactWeekdayNameUptoCard

/-- THE SECOND FORM's CARD OF 'laws.FnExactDayInYear'. -/
def fnExactDayInYearUptoCard : Claim7 := { stood := { row := fnExactDayInYearUptoRow, standIns := [], harness := (true, "5f72c5712b06bad5f4afcc606ccaa1e94d71b5b2456848eb21f1b671e4f48854"), looks := true }, kinds := [], alts := [], laidByText := true, laidKinds := [.data], laidTests := true, laidLooks := .later }
def FnExactDayInYearUptoCardSaid : Prop := Claim7.holds Tryd.pinned (.plain (OpenSpec.upto fnExactDayInYearSpec)) fnExactDayInYearUptoCard

/-- THE SECOND FORM's CARD OF 'laws.FnExactApart'. -/
def fnExactApartUptoCard : Claim7 := { stood := { row := fnExactApartUptoRow, standIns := [], harness := (true, "5f72c5712b06bad5f4afcc606ccaa1e94d71b5b2456848eb21f1b671e4f48854"), looks := true }, kinds := [], alts := [], laidByText := true, laidKinds := [.data], laidTests := true, laidLooks := .later }
def FnExactApartUptoCardSaid : Prop := Claim7.holds Tryd.pinned (.plain (OpenSpec.upto fnExactApartSpec)) fnExactApartUptoCard

/-- THE SECOND FORM's CARD OF 'laws.FnExactCompareDates'. -/
def fnExactCompareDatesUptoCard : Claim7 := { stood := { row := fnExactCompareDatesUptoRow, standIns := [], harness := (true, "5f72c5712b06bad5f4afcc606ccaa1e94d71b5b2456848eb21f1b671e4f48854"), looks := true }, kinds := [], alts := [], laidByText := true, laidKinds := [.data], laidTests := true, laidLooks := .later }
def FnExactCompareDatesUptoCardSaid : Prop := Claim7.holds Tryd.pinned (.plain (OpenSpec.upto fnExactCompareDatesSpec)) fnExactCompareDatesUptoCard
end Rows
end Go.Proofs.YteejnegimmmpkaaDoor
