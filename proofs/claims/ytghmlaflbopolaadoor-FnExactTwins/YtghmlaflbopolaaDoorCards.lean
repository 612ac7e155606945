/-
  DERIVED. GIVEN WITH THE SEED: THE CARDS: each row of YtghmlaflbopolaaDoorRows.lean that lists a variable, with what it lists TIED to the program's text (the seventh form; the later family's looks); each row that meets fmt, with fmt's text TOLD by the authors' own Lean function (tested against real Go, not proved from fmt's source: count such statements apart). THE CARD IS WHAT COUNTS. Prove the row's statement (the work); the ties are given (YtghmlaflbopolaaDoorTie.lean); close each card by the builder's one call (the guide's Derived/Test/ToyasCard.lean, 'card_holds'). Laid BY PROGRAM, IN A SANDBOX (cutbox-door.mjs). By AI agents, Wed Nov 11 2026. No macro, syntax, notation, axiom, sorry.
-/
import Derived.Test.YtghmlaflbopolaaDoorRows
import GoSem.ClaimSeven
namespace Go.Proofs.YtghmlaflbopolaaDoor
namespace Rows

/-- THE TIED CARD OF 'laws.FnStyle'. -/
def fnStyleCard : Claim7 := { stood := { row := fnStyleRow, standIns := [], harness := (true, "afbdbb6287d007d3fc78d12661dae5fff3f8cba2b4185ffff2a9e904efbcc68c"), looks := true }, kinds := [], alts := [], laidByText := true, laidKinds := [.data, .data], laidTests := true, laidLooks := .later }
def FnStyleCardSaid : Prop := Claim7.holds Tryd.pinned (.plain (OpenSpec.ofChange fnStyleSpec)) fnStyleCard

/-- THE TIED CARD OF 'laws.FnExactStyleName'. -/
def fnExactStyleNameCard : Claim7 := { stood := { row := fnExactStyleNameRow, standIns := [], harness := (true, "afbdbb6287d007d3fc78d12661dae5fff3f8cba2b4185ffff2a9e904efbcc68c"), looks := true }, kinds := [], alts := [], laidByText := true, laidKinds := [.data], laidTests := true, laidLooks := .later }
def FnExactStyleNameCardSaid : Prop := Claim7.holds Tryd.pinned (.plain (OpenSpec.ofChange fnExactStyleNameSpec)) fnExactStyleNameCard

/-- THE TIED CARD OF 'laws.FnExactStyleOf'. -/
def fnExactStyleOfCard : Claim7 := { stood := { row := fnExactStyleOfRow, standIns := [], harness := (true, "afbdbb6287d007d3fc78d12661dae5fff3f8cba2b4185ffff2a9e904efbcc68c"), looks := true }, kinds := [], alts := [], laidByText := true, laidKinds := [.data], laidTests := true, laidLooks := .later }
def FnExactStyleOfCardSaid : Prop := Claim7.holds Tryd.pinned (.plain (OpenSpec.ofChange fnExactStyleOfSpec)) fnExactStyleOfCard

/-- THE TIED CARD OF 'laws.FnExactYearStart'. -/
def fnExactYearStartCard : Claim7 := { stood := { row := fnExactYearStartRow, standIns := [], harness := (true, "afbdbb6287d007d3fc78d12661dae5fff3f8cba2b4185ffff2a9e904efbcc68c"), looks := true }, kinds := [], alts := [], laidByText := true, laidKinds := [.data], laidTests := true, laidLooks := .later }
def FnExactYearStartCardSaid : Prop := Claim7.holds Tryd.pinned (.plain (OpenSpec.ofChange fnExactYearStartSpec)) fnExactYearStartCard

/-- THE TIED CARD OF 'laws.FnExactYearDays'. -/
def fnExactYearDaysCard : Claim7 := { stood := { row := fnExactYearDaysRow, standIns := [], harness := (true, "afbdbb6287d007d3fc78d12661dae5fff3f8cba2b4185ffff2a9e904efbcc68c"), looks := true }, kinds := [], alts := [], laidByText := true, laidKinds := [.data], laidTests := true, laidLooks := .later }
def FnExactYearDaysCardSaid : Prop := Claim7.holds Tryd.pinned (.plain (OpenSpec.ofChange fnExactYearDaysSpec)) fnExactYearDaysCard

/-- THE TIED CARD OF 'laws.FnExactStyleYear'. -/
def fnExactStyleYearCard : Claim7 := { stood := { row := fnExactStyleYearRow, standIns := [], harness := (true, "afbdbb6287d007d3fc78d12661dae5fff3f8cba2b4185ffff2a9e904efbcc68c"), looks := true }, kinds := [], alts := [], laidByText := true, laidKinds := [.data], laidTests := true, laidLooks := .later }
def FnExactStyleYearCardSaid : Prop := Claim7.holds Tryd.pinned (.plain (OpenSpec.ofChange fnExactStyleYearSpec)) fnExactStyleYearCard

/-- THE TIED CARD OF 'laws.FnExactTwins'. -/
def fnExactTwinsCard : Claim7 := { stood := { row := fnExactTwinsRow, standIns := [], harness := (true, "afbdbb6287d007d3fc78d12661dae5fff3f8cba2b4185ffff2a9e904efbcc68c"), looks := true }, kinds := [], alts := [], laidByText := true, laidKinds := [.data], laidTests := true, laidLooks := .later }
def FnExactTwinsCardSaid : Prop := Claim7.holds Tryd.pinned (.plain (OpenSpec.ofChange fnExactTwinsSpec)) fnExactTwinsCard

/-- THE TIED CARD OF 'laws.FnExactYearText'. -/
def fnExactYearTextCard : Claim7 := { stood := { row := fnExactYearTextRow, standIns := [], harness := (true, "afbdbb6287d007d3fc78d12661dae5fff3f8cba2b4185ffff2a9e904efbcc68c"), looks := true }, kinds := [], alts := [], laidByText := true, laidKinds := [.data, .data, .data], laidTests := true, laidLooks := .later }
def FnExactYearTextCardSaid : Prop := Claim7.holds Tryd.pinned (.plain (OpenSpec.ofChange fnExactYearTextSpec)) fnExactYearTextCard

/-- THE TIED CARD OF 'laws.FnExactReadYear'. -/
def fnExactReadYearCard : Claim7 := { stood := { row := fnExactReadYearRow, standIns := [], harness := (true, "afbdbb6287d007d3fc78d12661dae5fff3f8cba2b4185ffff2a9e904efbcc68c"), looks := true }, kinds := [], alts := [], laidByText := true, laidKinds := [.data, .data, .data], laidTests := true, laidLooks := .later }
def FnExactReadYearCardSaid : Prop := Claim7.holds Tryd.pinned (.plain (OpenSpec.ofChange fnExactReadYearSpec)) fnExactReadYearCard

/-- THE TIED CARD OF 'laws.FnExactSolarYears'. -/
def fnExactSolarYearsCard : Claim7 := { stood := { row := fnExactSolarYearsRow, standIns := [], harness := (true, "afbdbb6287d007d3fc78d12661dae5fff3f8cba2b4185ffff2a9e904efbcc68c"), looks := true }, kinds := [], alts := [], laidByText := true, laidKinds := [.data], laidTests := true, laidLooks := .later }
def FnExactSolarYearsCardSaid : Prop := Claim7.holds Tryd.pinned (.plain (OpenSpec.ofChange fnExactSolarYearsSpec)) fnExactSolarYearsCard

/-- THE SECOND FORM's CARD OF 'laws.FnStyle'. -/
def fnStyleUptoCard : Claim7 := { stood := { row := fnStyleUptoRow, standIns := [], harness := (true, "afbdbb6287d007d3fc78d12661dae5fff3f8cba2b4185ffff2a9e904efbcc68c"), looks := true }, kinds := [], alts := [], laidByText := true, laidKinds := [.data, .data], laidTests := true, laidLooks := .later }
def FnStyleUptoCardSaid : Prop := Claim7.holds Tryd.pinned (.plain (OpenSpec.upto fnStyleSpec)) fnStyleUptoCard

/-- THE SECOND FORM's CARD OF 'laws.FnExactStyleName'. -/
def fnExactStyleNameUptoCard : Claim7 := { stood := { row := fnExactStyleNameUptoRow, standIns := [], harness := (true, "afbdbb6287d007d3fc78d12661dae5fff3f8cba2b4185ffff2a9e904efbcc68c"), looks := true }, kinds := [], alts := [], laidByText := true, laidKinds := [.data], laidTests := true, laidLooks := .later }
def FnExactStyleNameUptoCardSaid : Prop := Claim7.holds Tryd.pinned (.plain (OpenSpec.upto fnExactStyleNameSpec)) fnExactStyleNameUptoCard

/-- THE SECOND FORM's CARD OF 'laws.FnExactStyleOf'. -/
def fnExactStyleOfUptoCard : Claim7 := { stood := { row := fnExactStyleOfUptoRow, standIns := [], harness := (true, "afbdbb6287d007d3fc78d12661dae5fff3f8cba2b4185ffff2a9e904efbcc68c"), looks := true }, kinds := [], alts := [], laidByText := true, laidKinds := [.data], laidTests := true, laidLooks := .later }
def FnExactStyleOfUptoCardSaid : Prop := Claim7.holds Tryd.pinned (.plain (OpenSpec.upto fnExactStyleOfSpec)) fnExactStyleOfUptoCard

/-- THE SECOND FORM's CARD OF 'laws.FnExactYearStart'. -/
def fnExactYearStartUptoCard : Claim7 := { stood := { row := fnExactYearStartUptoRow, standIns := [], harness := (true, "afbdbb6287d007d3fc78d12661dae5fff3f8cba2b4185ffff2a9e904efbcc68c"), looks := true }, kinds := [], alts := [], laidByText := true, laidKinds := [.data], laidTests := true, laidLooks := .later }
def FnExactYearStartUptoCardSaid : Prop := Claim7.holds Tryd.pinned (.plain (OpenSpec.upto fnExactYearStartSpec)) fnExactYearStartUptoCard

/-- THE SECOND FORM's CARD OF 'laws.FnExactYearDays'. -/
def fnExactYearDaysUptoCard : Claim7 := { stood := { row := fnExactYearDaysUptoRow, standIns := [], harness := (true, "afbdbb6287d007d3fc78d12661dae5fff3f8cba2b4185ffff2a9e904efbcc68c"), looks := true }, kinds := [], alts := [], laidByText := true, laidKinds := [.data], laidTests := true, laidLooks := .later }
def FnExactYearDaysUptoCardSaid : Prop := Claim7.holds Tryd.pinned (.plain (OpenSpec.upto fnExactYearDaysSpec)) fnExactYearDaysUptoCard

/-- THE SECOND FORM's CARD OF 'laws.FnExactStyleYear'. -/
def fnExactStyleYearUptoCard : Claim7 := { stood := { row := fnExactStyleYearUptoRow, standIns := [], harness := (true, "afbdbb6287d007d3fc78d12661dae5fff3f8cba2b4185ffff2a9e904efbcc68c"), looks := true }, kinds := [], alts := [], laidByText := true, laidKinds := [.data], laidTests := true, laidLooks := .later }
def FnExactStyleYearUptoCardSaid : Prop := Claim7.holds Tryd.pinned (.plain (OpenSpec.upto fnExactStyleYearSpec)) fnExactStyleYearUptoCard

/-- THE SECOND FORM's CARD OF 'laws.FnExactTwins'. -/
def fnExactTwinsUptoCard : Claim7 := { stood := { row := fnExactTwinsUptoRow, standIns := [], harness := (true, "afbdbb6287d007d3fc78d12661dae5fff3f8cba2b4185ffff2a9e904efbcc68c"), looks := true }, kinds := [], alts := [], laidByText := true, laidKinds := [.data], laidTests := true, laidLooks := .later }
def FnExactTwinsUptoCardSaid : Prop := Claim7.holds Tryd.pinned (.plain (OpenSpec.upto fnExactTwinsSpec)) fnExactTwinsUptoCard

/-- THE SECOND FORM's CARD OF 'laws.FnExactYearText'. -/
def fnExactYearTextUptoCard : Claim7 := { stood := { row := fnExactYearTextUptoRow, standIns := [], harness := (true, "afbdbb6287d007d3fc78d12661dae5fff3f8cba2b4185ffff2a9e904efbcc68c"), looks := true }, kinds := [], alts := [], laidByText := true, laidKinds := [.data, .data, .data], laidTests := true, laidLooks := .later }
def FnExactYearTextUptoCardSaid : Prop := Claim7.holds Tryd.pinned (.plain (OpenSpec.upto fnExactYearTextSpec)) fnExactYearTextUptoCard

/-- THE SECOND FORM's CARD OF 'laws.FnExactReadYear'. -/
def fnExactReadYearUptoCard : Claim7 := { stood := { row := fnExactReadYearUptoRow, standIns := [], harness := (true, "afbdbb6287d007d3fc78d12661dae5fff3f8cba2b4185ffff2a9e904efbcc68c"), looks := true }, kinds := [], alts := [], laidByText := true, laidKinds := [.data, .data, .data], laidTests := true, laidLooks := .later }
def FnExactReadYearUptoCardSaid : Prop := Claim7.holds Tryd.pinned (.plain (OpenSpec.upto fnExactReadYearSpec)) fnExactReadYearUptoCard

/-- THE SECOND FORM's CARD OF 'laws.FnExactSolarYears'. -/
def fnExactSolarYearsUptoCard : Claim7 := { stood := { row := fnExactSolarYearsUptoRow, standIns := [], harness := (true, "afbdbb6287d007d3fc78d12661dae5fff3f8cba2b4185ffff2a9e904efbcc68c"), looks := true }, kinds := [], alts := [], laidByText := true, laidKinds := [.data], laidTests := true, laidLooks := .later }
def FnExactSolarYearsUptoCardSaid : Prop := Claim7.holds Tryd.pinned (.plain (OpenSpec.upto fnExactSolarYearsSpec)) fnExactSolarYearsUptoCard
end Rows
end Go.Proofs.YtghmlaflbopolaaDoor
