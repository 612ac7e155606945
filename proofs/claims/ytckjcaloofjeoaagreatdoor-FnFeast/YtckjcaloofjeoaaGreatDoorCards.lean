/-
  DERIVED. GIVEN WITH THE SEED: THE CARDS: each row of YtckjcaloofjeoaaGreatDoorRows.lean that lists a variable, with what it lists TIED to the program's text (the seventh form; the later family's looks); each row that meets fmt, with fmt's text TOLD by the authors' own Lean function (tested against real Go, not proved from fmt's source: count such statements apart). THE CARD IS WHAT COUNTS. Prove the row's statement (the work); the ties are given (YtckjcaloofjeoaaGreatDoorTie.lean); close each card by the builder's one call (the guide's Derived/Test/ToyasCard.lean, 'card_holds'). Laid BY PROGRAM, IN A SANDBOX (cutbox-door.mjs). By AI agents, Wed Nov 11 2026. No macro, syntax, notation, axiom, sorry.
-/
import Derived.Test.YtckjcaloofjeoaaGreatDoorRows
import GoSem.ClaimSeven
namespace Go.Proofs.YtckjcaloofjeoaaGreatDoor
namespace Rows

/-- THE TIED CARD OF 'laws.FnFeast'. -/
def fnFeastCard : Claim7 := { stood := { row := fnFeastRow, standIns := [], harness := (true, "70d76311a9428368cf70c2c34e21e3a51d0e954eb8a594320ecfc0d96e425e47"), looks := true }, kinds := [], alts := [], laidByText := true, laidKinds := [.data, .data, .data, .data], laidTests := true, laidLooks := .later }
def FnFeastCardSaid : Prop := Claim7.holds Tryz.pinned (.plain (OpenSpec.ofChange fnFeastSpec)) fnFeastCard

/-- THE SECOND FORM's CARD OF 'laws.FnFeast'. -/
def fnFeastUptoCard : Claim7 := { stood := { row := fnFeastUptoRow, standIns := [], harness := (true, "70d76311a9428368cf70c2c34e21e3a51d0e954eb8a594320ecfc0d96e425e47"), looks := true }, kinds := [], alts := [], laidByText := true, laidKinds := [.data, .data, .data, .data], laidTests := true, laidLooks := .later }
def FnFeastUptoCardSaid : Prop := Claim7.holds Tryz.pinned (.plain (OpenSpec.upto fnFeastSpec)) fnFeastUptoCard
end Rows
end Go.Proofs.YtckjcaloofjeoaaGreatDoor
