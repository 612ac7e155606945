/-
  DERIVED. GIVEN WITH THE SEED: THE CARDS: each row of YtnmlidbbmfmpeaaDoorRows.lean that lists a variable, with what it lists TIED to the program's text (the seventh form; the later family's looks); each row that meets fmt, with fmt's text TOLD by the authors' own Lean function (tested against real Go, not proved from fmt's source: count such statements apart). THE CARD IS WHAT COUNTS. Prove the row's statement (the work); the ties are given (YtnmlidbbmfmpeaaDoorTie.lean); close each card by the builder's one call (the guide's Derived/Test/ToyasCard.lean, 'card_holds'). Laid BY PROGRAM, IN A SANDBOX (cutbox-door.mjs). By AI agents, Wed Nov 11 2026. No macro, syntax, notation, axiom, sorry.
-/
import Derived.Test.YtnmlidbbmfmpeaaDoorRows
import GoSem.ClaimSeven
namespace Go.Proofs.YtnmlidbbmfmpeaaDoor
namespace Rows

/-- THE TIED CARD OF 'laws.FnSolar'. -/
def fnSolarCard : Claim7 := { stood := { row := fnSolarRow, standIns := [], harness := (true, "93cc4b4af876bc0914a1fbb13fde512bfb664e7e2f386fcdb3b0b2b7fd5857c1"), looks := true }, kinds := [], alts := [], laidByText := true, laidKinds := [.data], laidTests := true, laidLooks := .later }
def FnSolarCardSaid : Prop := Claim7.holds Tryd.pinned (.plain (OpenSpec.ofChange fnSolarSpec)) fnSolarCard

/-- THE SECOND FORM's CARD OF 'laws.FnSolar'. -/
def fnSolarUptoCard : Claim7 := { stood := { row := fnSolarUptoRow, standIns := [], harness := (true, "93cc4b4af876bc0914a1fbb13fde512bfb664e7e2f386fcdb3b0b2b7fd5857c1"), looks := true }, kinds := [], alts := [], laidByText := true, laidKinds := [.data], laidTests := true, laidLooks := .later }
def FnSolarUptoCardSaid : Prop := Claim7.holds Tryd.pinned (.plain (OpenSpec.upto fnSolarSpec)) fnSolarUptoCard
end Rows
end Go.Proofs.YtnmlidbbmfmpeaaDoor
