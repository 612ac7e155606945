/-
  DERIVED. GIVEN WITH THE SEED: THE CARDS: each row of YtnjfhfjnbimdlaaDoorRows.lean that lists a variable, with what it lists TIED to the program's text (the seventh form; the later family's looks); each row that meets fmt, with fmt's text TOLD by the authors' own Lean function (tested against real Go, not proved from fmt's source: count such statements apart). THE CARD IS WHAT COUNTS. Prove the row's statement (the work); the ties are given (YtnjfhfjnbimdlaaDoorTie.lean); close each card by the builder's one call (the guide's Derived/Test/ToyasCard.lean, 'card_holds'). Laid BY PROGRAM, IN A SANDBOX (cutbox-door.mjs). By AI agents, Wed Nov 11 2026. No macro, syntax, notation, axiom, sorry.
-/
import Derived.Test.YtnjfhfjnbimdlaaDoorRows
import GoSem.ClaimSeven
namespace Go.Proofs.YtnjfhfjnbimdlaaDoor
namespace Rows

/-- THE TIED CARD OF 'laws.FnSolar'. -/
def fnSolarCard : Claim7 := { stood := { row := fnSolarRow, standIns := [], harness := (true, "10f270950657d5ca70b9d8a03e657a5758fec867ed6f10ea481c0e710a11a18a"), looks := true }, kinds := [], alts := [], laidByText := true, laidKinds := [.data], laidTests := true, laidLooks := .later }
def FnSolarCardSaid : Prop := Claim7.holds Tryd.pinned (.plain (OpenSpec.ofChange fnSolarSpec)) fnSolarCard

/-- THE TIED CARD OF 'laws.FnRoman'. -/
def fnRomanCard : Claim7 := { stood := { row := fnRomanRow, standIns := [], harness := (true, "10f270950657d5ca70b9d8a03e657a5758fec867ed6f10ea481c0e710a11a18a"), looks := true }, kinds := [], alts := [], laidByText := true, laidKinds := [.data, .data, .data, .data], laidTests := true, laidLooks := .later }
def FnRomanCardSaid : Prop := Claim7.holds Tryd.pinned (.plain (OpenSpec.ofChange fnRomanSpec)) fnRomanCard

/-- THE TIED CARD OF 'laws.FnExactRomanOf'. -/
def fnExactRomanOfCard : Claim7 := { stood := { row := fnExactRomanOfRow, standIns := [], harness := (true, "10f270950657d5ca70b9d8a03e657a5758fec867ed6f10ea481c0e710a11a18a"), looks := true }, kinds := [], alts := [], laidByText := true, laidKinds := [.data], laidTests := true, laidLooks := .later }
def FnExactRomanOfCardSaid : Prop := Claim7.holds Tryd.pinned (.plain (OpenSpec.ofChange fnExactRomanOfSpec)) fnExactRomanOfCard

/-- THE TIED CARD OF 'laws.FnExactDayOfRoman'. -/
def fnExactDayOfRomanCard : Claim7 := { stood := { row := fnExactDayOfRomanRow, standIns := [], harness := (true, "10f270950657d5ca70b9d8a03e657a5758fec867ed6f10ea481c0e710a11a18a"), looks := true }, kinds := [], alts := [], laidByText := true, laidKinds := [.data], laidTests := true, laidLooks := .later }
def FnExactDayOfRomanCardSaid : Prop := Claim7.holds Tryd.pinned (.plain (OpenSpec.ofChange fnExactDayOfRomanSpec)) fnExactDayOfRomanCard

/-- THE TIED CARD OF 'laws.FnExactRomanText'. -/
def fnExactRomanTextCard : Claim7 := { stood := { row := fnExactRomanTextRow, standIns := [], harness := (true, "10f270950657d5ca70b9d8a03e657a5758fec867ed6f10ea481c0e710a11a18a"), looks := true }, kinds := [], alts := [], laidByText := true, laidKinds := [.data, .data, .data, .data], laidTests := true, laidLooks := .later }
def FnExactRomanTextCardSaid : Prop := Claim7.holds Tryd.pinned (.plain (OpenSpec.ofChange fnExactRomanTextSpec)) fnExactRomanTextCard

/-- THE TIED CARD OF 'laws.FnExactReadRoman'. -/
def fnExactReadRomanCard : Claim7 := { stood := { row := fnExactReadRomanRow, standIns := [], harness := (true, "10f270950657d5ca70b9d8a03e657a5758fec867ed6f10ea481c0e710a11a18a"), looks := true }, kinds := [], alts := [], laidByText := true, laidKinds := [.data, .data, .data, .data], laidTests := true, laidLooks := .later }
def FnExactReadRomanCardSaid : Prop := Claim7.holds Tryd.pinned (.plain (OpenSpec.ofChange fnExactReadRomanSpec)) fnExactReadRomanCard

/-- THE SECOND FORM's CARD OF 'laws.FnSolar'. -/
def fnSolarUptoCard : Claim7 := { stood := { row := fnSolarUptoRow, standIns := [], harness := (true, "10f270950657d5ca70b9d8a03e657a5758fec867ed6f10ea481c0e710a11a18a"), looks := true }, kinds := [], alts := [], laidByText := true, laidKinds := [.data], laidTests := true, laidLooks := .later }
def FnSolarUptoCardSaid : Prop := Claim7.holds Tryd.pinned (.plain (OpenSpec.upto fnSolarSpec)) fnSolarUptoCard

/-- THE SECOND FORM's CARD OF 'laws.FnRoman'. -/
def fnRomanUptoCard : Claim7 := { stood := { row := fnRomanUptoRow, standIns := [], harness := (true, "10f270950657d5ca70b9d8a03e657a5758fec867ed6f10ea481c0e710a11a18a"), looks := true }, kinds := [], alts := [], laidByText := true, laidKinds := [.data, .data, .data, .data], laidTests := true, laidLooks := .later }
def FnRomanUptoCardSaid : Prop := Claim7.holds Tryd.pinned (.plain (OpenSpec.upto fnRomanSpec)) fnRomanUptoCard

/-- THE SECOND FORM's CARD OF 'laws.FnExactRomanOf'. -/
def fnExactRomanOfUptoCard : Claim7 := { stood := { row := fnExactRomanOfUptoRow, standIns := [], harness := (true, "10f270950657d5ca70b9d8a03e657a5758fec867ed6f10ea481c0e710a11a18a"), looks := true }, kinds := [], alts := [], laidByText := true, laidKinds := [.data], laidTests := true, laidLooks := .later }
def FnExactRomanOfUptoCardSaid : Prop := Claim7.holds Tryd.pinned (.plain (OpenSpec.upto fnExactRomanOfSpec)) fnExactRomanOfUptoCard

/-- THE SECOND FORM's CARD OF 'laws.FnExactDayOfRoman'. -/
def fnExactDayOfRomanUptoCard : Claim7 := { stood := { row := fnExactDayOfRomanUptoRow, standIns := [], harness := (true, "10f270950657d5ca70b9d8a03e657a5758fec867ed6f10ea481c0e710a11a18a"), looks := true }, kinds := [], alts := [], laidByText := true, laidKinds := [.data], laidTests := true, laidLooks := .later }
def FnExactDayOfRomanUptoCardSaid : Prop := Claim7.holds Tryd.pinned (.plain (OpenSpec.upto fnExactDayOfRomanSpec)) fnExactDayOfRomanUptoCard

/-- THE SECOND FORM's CARD OF 'laws.FnExactRomanText'. -/
def fnExactRomanTextUptoCard : Claim7 := { stood := { row := fnExactRomanTextUptoRow, standIns := [], harness := (true, "10f270950657d5ca70b9d8a03e657a5758fec867ed6f10ea481c0e710a11a18a"), looks := true }, kinds := [], alts := [], laidByText := true, laidKinds := [.data, .data, .data, .data], laidTests := true, laidLooks := .later }
def FnExactRomanTextUptoCardSaid : Prop := Claim7.holds Tryd.pinned (.plain (OpenSpec.upto fnExactRomanTextSpec)) fnExactRomanTextUptoCard

/-- THE SECOND FORM's CARD OF 'laws.FnExactReadRoman'. -/
def fnExactReadRomanUptoCard : Claim7 := { stood := { row := fnExactReadRomanUptoRow, standIns := [], harness := (true, "10f270950657d5ca70b9d8a03e657a5758fec867ed6f10ea481c0e710a11a18a"), looks := true }, kinds := [], alts := [], laidByText := true, laidKinds := [.data, .data, .data, .data], laidTests := true, laidLooks := .later }
def FnExactReadRomanUptoCardSaid : Prop := Claim7.holds Tryd.pinned (.plain (OpenSpec.upto fnExactReadRomanSpec)) fnExactReadRomanUptoCard
end Rows
end Go.Proofs.YtnjfhfjnbimdlaaDoor
