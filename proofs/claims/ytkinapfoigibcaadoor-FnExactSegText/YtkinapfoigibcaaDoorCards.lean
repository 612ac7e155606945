/-
  DERIVED. GIVEN WITH THE SEED: THE CARDS: each row of YtkinapfoigibcaaDoorRows.lean that lists a variable, with what it lists TIED to the program's text (the seventh form; the later family's looks); each row that meets fmt, with fmt's text TOLD by the authors' own Lean function (tested against real Go, not proved from fmt's source: count such statements apart). THE CARD IS WHAT COUNTS. Prove the row's statement (the work); the ties are given (YtkinapfoigibcaaDoorTie.lean); close each card by the builder's one call (the guide's Derived/Test/ToyasCard.lean, 'card_holds'). Laid BY PROGRAM, IN A SANDBOX (cutbox-door.mjs). By AI agents, Wed Nov 11 2026. No macro, syntax, notation, axiom, sorry.
-/
import Derived.Test.YtkinapfoigibcaaDoorRows
import GoSem.ClaimSeven
namespace Go.Proofs.YtkinapfoigibcaaDoor
namespace Rows

/-- THE TIED CARD OF 'laws.FnExactTiles'. -/
def fnExactTilesCard : Claim7 := { stood := { row := fnExactTilesRow, standIns := [], harness := (true, "c3efec6570bbeeae84be2d27f3beb51e6909e057c16c5a258e1c6a93dc8c21d0"), looks := true }, kinds := [], alts := [], laidByText := true, laidKinds := [.handle], laidTests := true, laidLooks := .later }
def FnExactTilesCardSaid : Prop := Claim7.holds Tryd.pinned (.plain (OpenSpec.ofChange fnExactTilesSpec)) fnExactTilesCard

/-- THE TIED CARD OF 'laws.FnExactSegText'. -/
def fnExactSegTextCard : Claim7 := { stood := { row := fnExactSegTextRow, standIns := [], harness := (true, "c3efec6570bbeeae84be2d27f3beb51e6909e057c16c5a258e1c6a93dc8c21d0"), looks := true }, kinds := [], alts := [], laidByText := true, laidKinds := [.data, .data, .data, .data], laidTests := true, laidLooks := .later }
def FnExactSegTextCardSaid : Prop := Claim7.holds Tryd.pinned (.plain (OpenSpec.ofChange fnExactSegTextSpec)) fnExactSegTextCard

/-- THE SECOND FORM's CARD OF 'laws.FnExactTiles'. -/
def fnExactTilesUptoCard : Claim7 := { stood := { row := fnExactTilesUptoRow, standIns := [], harness := (true, "c3efec6570bbeeae84be2d27f3beb51e6909e057c16c5a258e1c6a93dc8c21d0"), looks := true }, kinds := [], alts := [], laidByText := true, laidKinds := [.handle], laidTests := true, laidLooks := .later }
def FnExactTilesUptoCardSaid : Prop := Claim7.holds Tryd.pinned (.plain (OpenSpec.upto fnExactTilesSpec)) fnExactTilesUptoCard

/-- THE SECOND FORM's CARD OF 'laws.FnExactSegText'. -/
def fnExactSegTextUptoCard : Claim7 := { stood := { row := fnExactSegTextUptoRow, standIns := [], harness := (true, "c3efec6570bbeeae84be2d27f3beb51e6909e057c16c5a258e1c6a93dc8c21d0"), looks := true }, kinds := [], alts := [], laidByText := true, laidKinds := [.data, .data, .data, .data], laidTests := true, laidLooks := .later }
def FnExactSegTextUptoCardSaid : Prop := Claim7.holds Tryd.pinned (.plain (OpenSpec.upto fnExactSegTextSpec)) fnExactSegTextUptoCard
end Rows
end Go.Proofs.YtkinapfoigibcaaDoor
