/-
  DERIVED. GIVEN WITH THE SEED: THE CARDS: each row of YtdgolaaheakfoaaGreatDoorRows.lean that lists a variable, with what it lists TIED to the program's text (the seventh form; the later family's looks); each row that meets fmt, with fmt's text TOLD by the authors' own Lean function (tested against real Go, not proved from fmt's source: count such statements apart). THE CARD IS WHAT COUNTS. Prove the row's statement (the work); the ties are given (YtdgolaaheakfoaaGreatDoorTie.lean); close each card by the builder's one call (the guide's Derived/Test/ToyasCard.lean, 'card_holds'). Laid BY PROGRAM, IN A SANDBOX (cutbox-door.mjs). By AI agents, Wed Nov 11 2026. No macro, syntax, notation, axiom, sorry.
-/
import Derived.Test.YtdgolaaheakfoaaGreatDoorRows
import GoSem.ClaimSeven
namespace Go.Proofs.YtdgolaaheakfoaaGreatDoor
namespace Rows

/-- THE TIED CARD OF 'laws.FnExactMeans'. -/
def fnExactMeansCard : Claim7 := { stood := { row := fnExactMeansRow, standIns := [], harness := (true, "d6bea25c55e00fc5fd32beb4e745951cdaf7994115d065583b391bfb19fa543f"), looks := true }, kinds := [], alts := [], laidByText := true, laidKinds := [.handle, .sentinel, .data], laidTests := true, laidLooks := .later }
def FnExactMeansCardSaid : Prop := Claim7.holds Tryz.pinned (.plain (OpenSpec.ofChange fnExactMeansSpec)) fnExactMeansCard

/-- THE TIED CARD OF 'laws.FnExactSame'. -/
def fnExactSameCard : Claim7 := { stood := { row := fnExactSameRow, standIns := [], harness := (true, "d6bea25c55e00fc5fd32beb4e745951cdaf7994115d065583b391bfb19fa543f"), looks := true }, kinds := [], alts := [], laidByText := true, laidKinds := [.handle, .sentinel, .data], laidTests := true, laidLooks := .later }
def FnExactSameCardSaid : Prop := Claim7.holds Tryz.pinned (.plain (OpenSpec.ofChange fnExactSameSpec)) fnExactSameCard

/-- THE TIED CARD OF 'laws.FnExactLost'. -/
def fnExactLostCard : Claim7 := { stood := { row := fnExactLostRow, standIns := [], harness := (true, "d6bea25c55e00fc5fd32beb4e745951cdaf7994115d065583b391bfb19fa543f"), looks := true }, kinds := [], alts := [], laidByText := true, laidKinds := [.handle, .sentinel, .data], laidTests := true, laidLooks := .later }
def FnExactLostCardSaid : Prop := Claim7.holds Tryz.pinned (.plain (OpenSpec.ofChange fnExactLostSpec)) fnExactLostCard

/-- THE TIED CARD OF 'laws.FnExactConcord'. -/
def fnExactConcordCard : Claim7 := { stood := { row := fnExactConcordRow, standIns := [], harness := (true, "d6bea25c55e00fc5fd32beb4e745951cdaf7994115d065583b391bfb19fa543f"), looks := true }, kinds := [], alts := [], laidByText := true, laidKinds := [.handle, .sentinel, .data], laidTests := true, laidLooks := .later }
def FnExactConcordCardSaid : Prop := Claim7.holds Tryz.pinned (.plain (OpenSpec.ofChange fnExactConcordSpec)) fnExactConcordCard

/-- THE SECOND FORM's CARD OF 'laws.FnExactMeans'. -/
def fnExactMeansUptoCard : Claim7 := { stood := { row := fnExactMeansUptoRow, standIns := [], harness := (true, "d6bea25c55e00fc5fd32beb4e745951cdaf7994115d065583b391bfb19fa543f"), looks := true }, kinds := [], alts := [], laidByText := true, laidKinds := [.handle, .sentinel, .data], laidTests := true, laidLooks := .later }
def FnExactMeansUptoCardSaid : Prop := Claim7.holds Tryz.pinned (.plain (OpenSpec.upto fnExactMeansSpec)) fnExactMeansUptoCard

/-- THE SECOND FORM's CARD OF 'laws.FnExactSame'. -/
def fnExactSameUptoCard : Claim7 := { stood := { row := fnExactSameUptoRow, standIns := [], harness := (true, "d6bea25c55e00fc5fd32beb4e745951cdaf7994115d065583b391bfb19fa543f"), looks := true }, kinds := [], alts := [], laidByText := true, laidKinds := [.handle, .sentinel, .data], laidTests := true, laidLooks := .later }
def FnExactSameUptoCardSaid : Prop := Claim7.holds Tryz.pinned (.plain (OpenSpec.upto fnExactSameSpec)) fnExactSameUptoCard

/-- THE SECOND FORM's CARD OF 'laws.FnExactLost'. -/
def fnExactLostUptoCard : Claim7 := { stood := { row := fnExactLostUptoRow, standIns := [], harness := (true, "d6bea25c55e00fc5fd32beb4e745951cdaf7994115d065583b391bfb19fa543f"), looks := true }, kinds := [], alts := [], laidByText := true, laidKinds := [.handle, .sentinel, .data], laidTests := true, laidLooks := .later }
def FnExactLostUptoCardSaid : Prop := Claim7.holds Tryz.pinned (.plain (OpenSpec.upto fnExactLostSpec)) fnExactLostUptoCard

/-- THE SECOND FORM's CARD OF 'laws.FnExactConcord'. -/
def fnExactConcordUptoCard : Claim7 := { stood := { row := fnExactConcordUptoRow, standIns := [], harness := (true, "d6bea25c55e00fc5fd32beb4e745951cdaf7994115d065583b391bfb19fa543f"), looks := true }, kinds := [], alts := [], laidByText := true, laidKinds := [.handle, .sentinel, .data], laidTests := true, laidLooks := .later }
def FnExactConcordUptoCardSaid : Prop := Claim7.holds Tryz.pinned (.plain (OpenSpec.upto fnExactConcordSpec)) fnExactConcordUptoCard
end Rows
end Go.Proofs.YtdgolaaheakfoaaGreatDoor
