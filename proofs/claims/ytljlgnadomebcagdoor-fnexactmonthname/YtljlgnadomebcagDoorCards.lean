/-
  DERIVED. GIVEN WITH THE SEED: THE CARDS: each row of YtljlgnadomebcagDoorRows.lean that lists a variable, with what it lists TIED to the program's text (the seventh form; the later family's looks); each row that meets fmt, with fmt's text TOLD by the authors' own Lean function (tested against real Go, not proved from fmt's source: count such statements apart). THE CARD IS WHAT COUNTS. Prove the row's statement (the work); the ties are given (YtljlgnadomebcagDoorTie.lean); close each card by the builder's one call (the guide's Derived/Test/ToyasCard.lean, 'card_holds'). Laid BY PROGRAM, IN A SANDBOX (cutbox-door.mjs). By AI agents, Wed Nov 11 2026. No macro, syntax, notation, axiom, sorry.
-/
import Derived.Test.YtljlgnadomebcagDoorRows
import GoSem.ClaimSeven
namespace Go.Proofs.YtljlgnadomebcagDoor
namespace Rows

/-- THE TIED CARD OF 'laws.FnExactMonthName'. -/
def fnExactMonthNameCard : Claim7 := { stood := { row := fnExactMonthNameRow, standIns := [], harness := (true, "33d16e284cbb9bf5ddaf88d823610d317a541e241019d7af4a5097a8c52c40df"), looks := false }, kinds := [], alts := [], laidByText := true, laidKinds := [.data], laidTests := true, laidLooks := .later }
def FnExactMonthNameCardSaid : Prop := Claim7.holds Tryd.pinned (.plain (OpenSpec.ofChange fnExactMonthNameSpec)) fnExactMonthNameCard

/-- THE TIED CARD OF 'laws.FnExactMonthOf'. -/
def fnExactMonthOfCard : Claim7 := { stood := { row := fnExactMonthOfRow, standIns := [], harness := (true, "33d16e284cbb9bf5ddaf88d823610d317a541e241019d7af4a5097a8c52c40df"), looks := false }, kinds := [], alts := [], laidByText := true, laidKinds := [.data], laidTests := true, laidLooks := .later }
def FnExactMonthOfCardSaid : Prop := Claim7.holds Tryd.pinned (.plain (OpenSpec.ofChange fnExactMonthOfSpec)) fnExactMonthOfCard

/-- THE SECOND FORM's CARD OF 'laws.FnExactMonthName'. -/
def fnExactMonthNameUptoCard : Claim7 := { stood := { row := fnExactMonthNameUptoRow, standIns := [], harness := (true, "33d16e284cbb9bf5ddaf88d823610d317a541e241019d7af4a5097a8c52c40df"), looks := false }, kinds := [], alts := [], laidByText := true, laidKinds := [.data], laidTests := true, laidLooks := .later }
def FnExactMonthNameUptoCardSaid : Prop := Claim7.holds Tryd.pinned (.plain (OpenSpec.upto fnExactMonthNameSpec)) fnExactMonthNameUptoCard

/-- THE SECOND FORM's CARD OF 'laws.FnExactMonthOf'. -/
def fnExactMonthOfUptoCard : Claim7 := { stood := { row := fnExactMonthOfUptoRow, standIns := [], harness := (true, "33d16e284cbb9bf5ddaf88d823610d317a541e241019d7af4a5097a8c52c40df"), looks := false }, kinds := [], alts := [], laidByText := true, laidKinds := [.data], laidTests := true, laidLooks := .later }
def FnExactMonthOfUptoCardSaid : Prop := Claim7.holds Tryd.pinned (.plain (OpenSpec.upto fnExactMonthOfSpec)) fnExactMonthOfUptoCard
end Rows
end Go.Proofs.YtljlgnadomebcagDoor
