/-
  DERIVED. GIVEN WITH THE SEED: THE CARDS: each row of YteebgakbeoiflaaDoorRows.lean that lists a variable, with what it lists TIED to the program's text (the seventh form; the later family's looks); each row that meets fmt, with fmt's text TOLD by the authors' own Lean function (tested against real Go, not proved from fmt's source: count such statements apart). THE CARD IS WHAT COUNTS. Prove the row's statement (the work); the ties are given (YteebgakbeoiflaaDoorTie.lean); close each card by the builder's one call (the guide's Derived/Test/ToyasCard.lean, 'card_holds'). Laid BY PROGRAM, IN A SANDBOX (cutbox-door.mjs). By AI agents, Wed Nov 11 2026. No macro, syntax, notation, axiom, sorry.
-/
import Derived.Test.YteebgakbeoiflaaDoorRows
import GoSem.ClaimSeven
namespace Go.Proofs.YteebgakbeoiflaaDoor
namespace Rows

/-- THE TIED CARD OF 'laws.FnExactPlain'. -/
def fnExactPlainCard : Claim7 := { stood := { row := fnExactPlainRow, standIns := [], harness := (true, "b4773e027a5e6b76b3d38baf06404431eb420a04a7cad1938cbc339d067de979"), looks := true }, kinds := [], alts := [], laidByText := true, laidKinds := [.data], laidTests := true, laidLooks := .later }
def FnExactPlainCardSaid : Prop := Claim7.holds Tryd.pinned (.plain (OpenSpec.ofChange fnExactPlainSpec)) fnExactPlainCard

/-- THE TIED CARD OF 'laws.FnExactReadingText'. -/
def fnExactReadingTextCard : Claim7 := { stood := { row := fnExactReadingTextRow, standIns := [], harness := (true, "b4773e027a5e6b76b3d38baf06404431eb420a04a7cad1938cbc339d067de979"), looks := true }, kinds := [], alts := [], laidByText := true, laidKinds := [.data, .data, .data, .data], laidTests := true, laidLooks := .later }
def FnExactReadingTextCardSaid : Prop := Claim7.holds Tryd.pinned (.plain (OpenSpec.ofChange fnExactReadingTextSpec)) fnExactReadingTextCard

/-- THE SECOND FORM's CARD OF 'laws.FnExactPlain'. -/
def fnExactPlainUptoCard : Claim7 := { stood := { row := fnExactPlainUptoRow, standIns := [], harness := (true, "b4773e027a5e6b76b3d38baf06404431eb420a04a7cad1938cbc339d067de979"), looks := true }, kinds := [], alts := [], laidByText := true, laidKinds := [.data], laidTests := true, laidLooks := .later }
def FnExactPlainUptoCardSaid : Prop := Claim7.holds Tryd.pinned (.plain (OpenSpec.upto fnExactPlainSpec)) fnExactPlainUptoCard

/-- THE SECOND FORM's CARD OF 'laws.FnExactReadingText'. -/
def fnExactReadingTextUptoCard : Claim7 := { stood := { row := fnExactReadingTextUptoRow, standIns := [], harness := (true, "b4773e027a5e6b76b3d38baf06404431eb420a04a7cad1938cbc339d067de979"), looks := true }, kinds := [], alts := [], laidByText := true, laidKinds := [.data, .data, .data, .data], laidTests := true, laidLooks := .later }
def FnExactReadingTextUptoCardSaid : Prop := Claim7.holds Tryd.pinned (.plain (OpenSpec.upto fnExactReadingTextSpec)) fnExactReadingTextUptoCard
end Rows
end Go.Proofs.YteebgakbeoiflaaDoor
