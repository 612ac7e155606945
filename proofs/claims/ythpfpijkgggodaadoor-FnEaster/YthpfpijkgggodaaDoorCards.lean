/-
  DERIVED. GIVEN WITH THE SEED: THE CARDS: each row of YthpfpijkgggodaaDoorRows.lean that lists a variable, with what it lists TIED to the program's text (the seventh form; the later family's looks); each row that meets fmt, with fmt's text TOLD by the authors' own Lean function (tested against real Go, not proved from fmt's source: count such statements apart). THE CARD IS WHAT COUNTS. Prove the row's statement (the work); the ties are given (YthpfpijkgggodaaDoorTie.lean); close each card by the builder's one call (the guide's Derived/Test/ToyasCard.lean, 'card_holds'). Laid BY PROGRAM, IN A SANDBOX (cutbox-door.mjs). By AI agents, Wed Nov 11 2026. No macro, syntax, notation, axiom, sorry.
-/
import Derived.Test.YthpfpijkgggodaaDoorRows
import GoSem.ClaimSeven
namespace Go.Proofs.YthpfpijkgggodaaDoor
namespace Rows

/-- THE TIED CARD OF 'laws.FnEaster'. -/
def fnEasterCard : Claim7 := { stood := { row := fnEasterRow, standIns := [], harness := (true, "3253fb4d062270f5d7f2bc242c7606695f13864e4aa6550a32e321bfc778f2d3"), looks := true }, kinds := [], alts := [], laidByText := true, laidKinds := [.data], laidTests := true, laidLooks := .later }
def FnEasterCardSaid : Prop := Claim7.holds Tryd.pinned (.plain (OpenSpec.ofChange fnEasterSpec)) fnEasterCard

/-- THE TIED CARD OF 'laws.FnExactEpact'. -/
def fnExactEpactCard : Claim7 := { stood := { row := fnExactEpactRow, standIns := [], harness := (true, "3253fb4d062270f5d7f2bc242c7606695f13864e4aa6550a32e321bfc778f2d3"), looks := true }, kinds := [], alts := [], laidByText := true, laidKinds := [.data], laidTests := true, laidLooks := .later }
def FnExactEpactCardSaid : Prop := Claim7.holds Tryd.pinned (.plain (OpenSpec.ofChange fnExactEpactSpec)) fnExactEpactCard

/-- THE TIED CARD OF 'laws.FnExactFullMoon'. -/
def fnExactFullMoonCard : Claim7 := { stood := { row := fnExactFullMoonRow, standIns := [], harness := (true, "3253fb4d062270f5d7f2bc242c7606695f13864e4aa6550a32e321bfc778f2d3"), looks := true }, kinds := [], alts := [], laidByText := true, laidKinds := [.data], laidTests := true, laidLooks := .later }
def FnExactFullMoonCardSaid : Prop := Claim7.holds Tryd.pinned (.plain (OpenSpec.ofChange fnExactFullMoonSpec)) fnExactFullMoonCard

/-- THE TIED CARD OF 'laws.FnExactEasterTable'. -/
def fnExactEasterTableCard : Claim7 := { stood := { row := fnExactEasterTableRow, standIns := [], harness := (true, "3253fb4d062270f5d7f2bc242c7606695f13864e4aa6550a32e321bfc778f2d3"), looks := true }, kinds := [], alts := [], laidByText := true, laidKinds := [.data], laidTests := true, laidLooks := .later }
def FnExactEasterTableCardSaid : Prop := Claim7.holds Tryd.pinned (.plain (OpenSpec.ofChange fnExactEasterTableSpec)) fnExactEasterTableCard

/-- THE TIED CARD OF 'laws.FnExactEaster'. -/
def fnExactEasterCard : Claim7 := { stood := { row := fnExactEasterRow, standIns := [], harness := (true, "3253fb4d062270f5d7f2bc242c7606695f13864e4aa6550a32e321bfc778f2d3"), looks := true }, kinds := [], alts := [], laidByText := true, laidKinds := [.data], laidTests := true, laidLooks := .later }
def FnExactEasterCardSaid : Prop := Claim7.holds Tryd.pinned (.plain (OpenSpec.ofChange fnExactEasterSpec)) fnExactEasterCard

/-- THE TIED CARD OF 'laws.FnExactLetter'. -/
def fnExactLetterCard : Claim7 := { stood := { row := fnExactLetterRow, standIns := [], harness := (true, "3253fb4d062270f5d7f2bc242c7606695f13864e4aa6550a32e321bfc778f2d3"), looks := true }, kinds := [], alts := [], laidByText := true, laidKinds := [.data], laidTests := true, laidLooks := .later }
def FnExactLetterCardSaid : Prop := Claim7.holds Tryd.pinned (.plain (OpenSpec.ofChange fnExactLetterSpec)) fnExactLetterCard

/-- THE TIED CARD OF 'laws.FnExactEasterDays'. -/
def fnExactEasterDaysCard : Claim7 := { stood := { row := fnExactEasterDaysRow, standIns := [], harness := (true, "3253fb4d062270f5d7f2bc242c7606695f13864e4aa6550a32e321bfc778f2d3"), looks := true }, kinds := [], alts := [], laidByText := true, laidKinds := [.data], laidTests := true, laidLooks := .later }
def FnExactEasterDaysCardSaid : Prop := Claim7.holds Tryd.pinned (.plain (OpenSpec.ofChange fnExactEasterDaysSpec)) fnExactEasterDaysCard

/-- THE TIED CARD OF 'laws.FnExactMoves'. -/
def fnExactMovesCard : Claim7 := { stood := { row := fnExactMovesRow, standIns := [], harness := (true, "3253fb4d062270f5d7f2bc242c7606695f13864e4aa6550a32e321bfc778f2d3"), looks := true }, kinds := [], alts := [], laidByText := true, laidKinds := [.data], laidTests := true, laidLooks := .later }
def FnExactMovesCardSaid : Prop := Claim7.holds Tryd.pinned (.plain (OpenSpec.ofChange fnExactMovesSpec)) fnExactMovesCard

/-- THE SECOND FORM's CARD OF 'laws.FnEaster'. -/
def fnEasterUptoCard : Claim7 := { stood := { row := fnEasterUptoRow, standIns := [], harness := (true, "3253fb4d062270f5d7f2bc242c7606695f13864e4aa6550a32e321bfc778f2d3"), looks := true }, kinds := [], alts := [], laidByText := true, laidKinds := [.data], laidTests := true, laidLooks := .later }
def FnEasterUptoCardSaid : Prop := Claim7.holds Tryd.pinned (.plain (OpenSpec.upto fnEasterSpec)) fnEasterUptoCard

/-- THE SECOND FORM's CARD OF 'laws.FnExactEpact'. -/
def fnExactEpactUptoCard : Claim7 := { stood := { row := fnExactEpactUptoRow, standIns := [], harness := (true, "3253fb4d062270f5d7f2bc242c7606695f13864e4aa6550a32e321bfc778f2d3"), looks := true }, kinds := [], alts := [], laidByText := true, laidKinds := [.data], laidTests := true, laidLooks := .later }
def FnExactEpactUptoCardSaid : Prop := Claim7.holds Tryd.pinned (.plain (OpenSpec.upto fnExactEpactSpec)) fnExactEpactUptoCard

/-- THE SECOND FORM's CARD OF 'laws.FnExactFullMoon'. -/
def fnExactFullMoonUptoCard : Claim7 := { stood := { row := fnExactFullMoonUptoRow, standIns := [], harness := (true, "3253fb4d062270f5d7f2bc242c7606695f13864e4aa6550a32e321bfc778f2d3"), looks := true }, kinds := [], alts := [], laidByText := true, laidKinds := [.data], laidTests := true, laidLooks := .later }
def FnExactFullMoonUptoCardSaid : Prop := Claim7.holds Tryd.pinned (.plain (OpenSpec.upto fnExactFullMoonSpec)) fnExactFullMoonUptoCard

/-- THE SECOND FORM's CARD OF 'laws.FnExactEasterTable'. -/
def fnExactEasterTableUptoCard : Claim7 := { stood := { row := fnExactEasterTableUptoRow, standIns := [], harness := (true, "3253fb4d062270f5d7f2bc242c7606695f13864e4aa6550a32e321bfc778f2d3"), looks := true }, kinds := [], alts := [], laidByText := true, laidKinds := [.data], laidTests := true, laidLooks := .later }
def FnExactEasterTableUptoCardSaid : Prop := Claim7.holds Tryd.pinned (.plain (OpenSpec.upto fnExactEasterTableSpec)) fnExactEasterTableUptoCard

/-- THE SECOND FORM's CARD OF 'laws.FnExactEaster'. -/
def fnExactEasterUptoCard : Claim7 := { stood := { row := fnExactEasterUptoRow, standIns := [], harness := (true, "3253fb4d062270f5d7f2bc242c7606695f13864e4aa6550a32e321bfc778f2d3"), looks := true }, kinds := [], alts := [], laidByText := true, laidKinds := [.data], laidTests := true, laidLooks := .later }
def FnExactEasterUptoCardSaid : Prop := Claim7.holds Tryd.pinned (.plain (OpenSpec.upto fnExactEasterSpec)) fnExactEasterUptoCard

/-- THE SECOND FORM's CARD OF 'laws.FnExactLetter'. -/
def fnExactLetterUptoCard : Claim7 := { stood := { row := fnExactLetterUptoRow, standIns := [], harness := (true, "3253fb4d062270f5d7f2bc242c7606695f13864e4aa6550a32e321bfc778f2d3"), looks := true }, kinds := [], alts := [], laidByText := true, laidKinds := [.data], laidTests := true, laidLooks := .later }
def FnExactLetterUptoCardSaid : Prop := Claim7.holds Tryd.pinned (.plain (OpenSpec.upto fnExactLetterSpec)) fnExactLetterUptoCard

/-- THE SECOND FORM's CARD OF 'laws.FnExactEasterDays'. -/
def fnExactEasterDaysUptoCard : Claim7 := { stood := { row := fnExactEasterDaysUptoRow, standIns := [], harness := (true, "3253fb4d062270f5d7f2bc242c7606695f13864e4aa6550a32e321bfc778f2d3"), looks := true }, kinds := [], alts := [], laidByText := true, laidKinds := [.data], laidTests := true, laidLooks := .later }
def FnExactEasterDaysUptoCardSaid : Prop := Claim7.holds Tryd.pinned (.plain (OpenSpec.upto fnExactEasterDaysSpec)) fnExactEasterDaysUptoCard

/-- THE SECOND FORM's CARD OF 'laws.FnExactMoves'. -/
def fnExactMovesUptoCard : Claim7 := { stood := { row := fnExactMovesUptoRow, standIns := [], harness := (true, "3253fb4d062270f5d7f2bc242c7606695f13864e4aa6550a32e321bfc778f2d3"), looks := true }, kinds := [], alts := [], laidByText := true, laidKinds := [.data], laidTests := true, laidLooks := .later }
def FnExactMovesUptoCardSaid : Prop := Claim7.holds Tryd.pinned (.plain (OpenSpec.upto fnExactMovesSpec)) fnExactMovesUptoCard
end Rows
end Go.Proofs.YthpfpijkgggodaaDoor
