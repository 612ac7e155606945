/-
  DERIVED. GIVEN WITH THE SEED: THE CARDS: each row of YtcdcniniafejbaaGreatDoorRows.lean that lists a variable, with what it lists TIED to the program's text (the seventh form; the later family's looks); each row that meets fmt, with fmt's text TOLD by the authors' own Lean function (tested against real Go, not proved from fmt's source: count such statements apart). THE CARD IS WHAT COUNTS. Prove the row's statement (the work); the ties are given (YtcdcniniafejbaaGreatDoorTie.lean); close each card by the builder's one call (the guide's Derived/Test/ToyasCard.lean, 'card_holds'). Laid BY PROGRAM, IN A SANDBOX (cutbox-door.mjs). By AI agents, Wed Nov 11 2026. No macro, syntax, notation, axiom, sorry.
-/
import Derived.Test.YtcdcniniafejbaaGreatDoorRows
import GoSem.ClaimSeven
namespace Go.Proofs.YtcdcniniafejbaaGreatDoor
namespace Rows

/-- THE TIED CARD OF 'laws.FnReign'. -/
def fnReignCard : Claim7 := { stood := { row := fnReignRow, standIns := [], harness := (true, "e90197d899be84248db443957f38712c9c4020903abd37e05eccfbd57959f105"), looks := true }, kinds := [], alts := [], laidByText := true, laidKinds := [.data, .data, .sentinel], laidTests := true, laidLooks := .later }
def FnReignCardSaid : Prop := Claim7.holds Tryz.pinned (.plain (OpenSpec.ofChange fnReignSpec)) fnReignCard

/-- THE TIED CARD OF 'laws.FnExactReignText'. -/
def fnExactReignTextCard : Claim7 := { stood := { row := fnExactReignTextRow, standIns := [], harness := (true, "e90197d899be84248db443957f38712c9c4020903abd37e05eccfbd57959f105"), looks := true }, kinds := [], alts := [], laidByText := true, laidKinds := [.data, .data, .sentinel], laidTests := true, laidLooks := .later }
def FnExactReignTextCardSaid : Prop := Claim7.holds Tryz.pinned (.plain (OpenSpec.ofChange fnExactReignTextSpec)) fnExactReignTextCard

/-- THE SECOND FORM's CARD OF 'laws.FnReign'. -/
def fnReignUptoCard : Claim7 := { stood := { row := fnReignUptoRow, standIns := [], harness := (true, "e90197d899be84248db443957f38712c9c4020903abd37e05eccfbd57959f105"), looks := true }, kinds := [], alts := [], laidByText := true, laidKinds := [.data, .data, .sentinel], laidTests := true, laidLooks := .later }
def FnReignUptoCardSaid : Prop := Claim7.holds Tryz.pinned (.plain (OpenSpec.upto fnReignSpec)) fnReignUptoCard

/-- THE SECOND FORM's CARD OF 'laws.FnExactReignText'. -/
def fnExactReignTextUptoCard : Claim7 := { stood := { row := fnExactReignTextUptoRow, standIns := [], harness := (true, "e90197d899be84248db443957f38712c9c4020903abd37e05eccfbd57959f105"), looks := true }, kinds := [], alts := [], laidByText := true, laidKinds := [.data, .data, .sentinel], laidTests := true, laidLooks := .later }
def FnExactReignTextUptoCardSaid : Prop := Claim7.holds Tryz.pinned (.plain (OpenSpec.upto fnExactReignTextSpec)) fnExactReignTextUptoCard
end Rows
end Go.Proofs.YtcdcniniafejbaaGreatDoor
