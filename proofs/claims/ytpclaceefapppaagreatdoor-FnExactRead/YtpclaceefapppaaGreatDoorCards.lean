/-
  DERIVED. GIVEN WITH THE SEED: THE CARDS: each row of YtpclaceefapppaaGreatDoorRows.lean that lists a variable, with what it lists TIED to the program's text (the seventh form; the later family's looks); each row that meets fmt, with fmt's text TOLD by the authors' own Lean function (tested against real Go, not proved from fmt's source: count such statements apart). THE CARD IS WHAT COUNTS. Prove the row's statement (the work); the ties are given (YtpclaceefapppaaGreatDoorTie.lean); close each card by the builder's one call (the guide's Derived/Test/ToyasCard.lean, 'card_holds'). Laid BY PROGRAM, IN A SANDBOX (cutbox-door.mjs). By AI agents, Wed Nov 11 2026. No macro, syntax, notation, axiom, sorry.
-/
import Derived.Test.YtpclaceefapppaaGreatDoorRows
import GoSem.ClaimSeven
namespace Go.Proofs.YtpclaceefapppaaGreatDoor
namespace Rows

/-- THE TIED CARD OF 'laws.FnExactRead'. -/
def fnExactReadCard : Claim7 := { stood := { row := fnExactReadRow, standIns := [], harness := (true, "4986af289bd95e985ef5deb4f7cd84e44d5c1a4f9da879ba3138153a73dab2d8"), looks := true }, kinds := [], alts := [], laidByText := true, laidKinds := [.data, .data, .data, .handle, .data, .data, .data, .data, .sentinel], laidTests := true, laidLooks := .later }
def FnExactReadCardSaid : Prop := Claim7.holds Tryz.pinned (.plain (OpenSpec.ofChange fnExactReadSpec)) fnExactReadCard

/-- THE TIED CARD OF 'laws.FnExactRewrite'. -/
def fnExactRewriteCard : Claim7 := { stood := { row := fnExactRewriteRow, standIns := [], harness := (true, "4986af289bd95e985ef5deb4f7cd84e44d5c1a4f9da879ba3138153a73dab2d8"), looks := true }, kinds := [], alts := [], laidByText := true, laidKinds := [.data, .data, .data, .handle, .data, .data, .data, .data, .sentinel], laidTests := true, laidLooks := .later }
def FnExactRewriteCardSaid : Prop := Claim7.holds Tryz.pinned (.plain (OpenSpec.ofChange fnExactRewriteSpec)) fnExactRewriteCard

/-- THE TIED CARD OF 'laws.FnExactFits'. -/
def fnExactFitsCard : Claim7 := { stood := { row := fnExactFitsRow, standIns := [], harness := (true, "4986af289bd95e985ef5deb4f7cd84e44d5c1a4f9da879ba3138153a73dab2d8"), looks := true }, kinds := [], alts := [], laidByText := true, laidKinds := [.data, .data, .data, .handle, .data, .data, .data, .data, .sentinel], laidTests := true, laidLooks := .later }
def FnExactFitsCardSaid : Prop := Claim7.holds Tryz.pinned (.plain (OpenSpec.ofChange fnExactFitsSpec)) fnExactFitsCard

/-- THE TIED CARD OF 'laws.FnExactBefore'. -/
def fnExactBeforeCard : Claim7 := { stood := { row := fnExactBeforeRow, standIns := [], harness := (true, "4986af289bd95e985ef5deb4f7cd84e44d5c1a4f9da879ba3138153a73dab2d8"), looks := true }, kinds := [], alts := [], laidByText := true, laidKinds := [.data, .data, .data, .handle, .data, .data, .data, .data, .sentinel], laidTests := true, laidLooks := .later }
def FnExactBeforeCardSaid : Prop := Claim7.holds Tryz.pinned (.plain (OpenSpec.ofChange fnExactBeforeSpec)) fnExactBeforeCard

/-- THE SECOND FORM's CARD OF 'laws.FnExactRead'. -/
def fnExactReadUptoCard : Claim7 := { stood := { row := fnExactReadUptoRow, standIns := [], harness := (true, "4986af289bd95e985ef5deb4f7cd84e44d5c1a4f9da879ba3138153a73dab2d8"), looks := true }, kinds := [], alts := [], laidByText := true, laidKinds := [.data, .data, .data, .handle, .data, .data, .data, .data, .sentinel], laidTests := true, laidLooks := .later }
def FnExactReadUptoCardSaid : Prop := Claim7.holds Tryz.pinned (.plain (OpenSpec.upto fnExactReadSpec)) fnExactReadUptoCard

/-- THE SECOND FORM's CARD OF 'laws.FnExactRewrite'. -/
def fnExactRewriteUptoCard : Claim7 := { stood := { row := fnExactRewriteUptoRow, standIns := [], harness := (true, "4986af289bd95e985ef5deb4f7cd84e44d5c1a4f9da879ba3138153a73dab2d8"), looks := true }, kinds := [], alts := [], laidByText := true, laidKinds := [.data, .data, .data, .handle, .data, .data, .data, .data, .sentinel], laidTests := true, laidLooks := .later }
def FnExactRewriteUptoCardSaid : Prop := Claim7.holds Tryz.pinned (.plain (OpenSpec.upto fnExactRewriteSpec)) fnExactRewriteUptoCard

/-- THE SECOND FORM's CARD OF 'laws.FnExactFits'. -/
def fnExactFitsUptoCard : Claim7 := { stood := { row := fnExactFitsUptoRow, standIns := [], harness := (true, "4986af289bd95e985ef5deb4f7cd84e44d5c1a4f9da879ba3138153a73dab2d8"), looks := true }, kinds := [], alts := [], laidByText := true, laidKinds := [.data, .data, .data, .handle, .data, .data, .data, .data, .sentinel], laidTests := true, laidLooks := .later }
def FnExactFitsUptoCardSaid : Prop := Claim7.holds Tryz.pinned (.plain (OpenSpec.upto fnExactFitsSpec)) fnExactFitsUptoCard

/-- THE SECOND FORM's CARD OF 'laws.FnExactBefore'. -/
def fnExactBeforeUptoCard : Claim7 := { stood := { row := fnExactBeforeUptoRow, standIns := [], harness := (true, "4986af289bd95e985ef5deb4f7cd84e44d5c1a4f9da879ba3138153a73dab2d8"), looks := true }, kinds := [], alts := [], laidByText := true, laidKinds := [.data, .data, .data, .handle, .data, .data, .data, .data, .sentinel], laidTests := true, laidLooks := .later }
def FnExactBeforeUptoCardSaid : Prop := Claim7.holds Tryz.pinned (.plain (OpenSpec.upto fnExactBeforeSpec)) fnExactBeforeUptoCard
end Rows
end Go.Proofs.YtpclaceefapppaaGreatDoor
