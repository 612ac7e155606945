/-
  DERIVED. GIVEN WITH THE SEED: THE CARDS: each row of YtjojgfdfbkmlkaaGreatDoorRows.lean that lists a variable, with what it lists TIED to the program's text (the seventh form; the later family's looks); each row that meets fmt, with fmt's text TOLD by the authors' own Lean function (tested against real Go, not proved from fmt's source: count such statements apart). THE CARD IS WHAT COUNTS. Prove the row's statement (the work); the ties are given (YtjojgfdfbkmlkaaGreatDoorTie.lean); close each card by the builder's one call (the guide's Derived/Test/ToyasCard.lean, 'card_holds'). Laid BY PROGRAM, IN A SANDBOX (cutbox-door.mjs). By AI agents, Wed Nov 11 2026. No macro, syntax, notation, axiom, sorry.
-/
import Derived.Test.YtjojgfdfbkmlkaaGreatDoorRows
import GoSem.ClaimSeven
namespace Go.Proofs.YtjojgfdfbkmlkaaGreatDoor
namespace Rows

/-- THE TIED CARD OF 'laws.FnExactDaysOf'. -/
def fnExactDaysOfCard : Claim7 := { stood := { row := fnExactDaysOfRow, standIns := [], harness := (true, "d24feb56bd00316a2e0b1bf1e7c73794bda390079352e79d3ddf9e695a3f3660"), looks := true }, kinds := [], alts := [], laidByText := true, laidKinds := [.handle, .data, .sentinel], laidTests := true, laidLooks := .later }
def FnExactDaysOfCardSaid : Prop := Claim7.holds Tryz.pinned (.plain (OpenSpec.ofChange fnExactDaysOfSpec)) fnExactDaysOfCard

/-- THE TIED CARD OF 'laws.FnExactMonth'. -/
def fnExactMonthCard : Claim7 := { stood := { row := fnExactMonthRow, standIns := [], harness := (true, "d24feb56bd00316a2e0b1bf1e7c73794bda390079352e79d3ddf9e695a3f3660"), looks := true }, kinds := [], alts := [], laidByText := true, laidKinds := [.handle, .data, .sentinel], laidTests := true, laidLooks := .later }
def FnExactMonthCardSaid : Prop := Claim7.holds Tryz.pinned (.plain (OpenSpec.ofChange fnExactMonthSpec)) fnExactMonthCard

/-- THE TIED CARD OF 'laws.FnExactMeans'. -/
def fnExactMeansCard : Claim7 := { stood := { row := fnExactMeansRow, standIns := [], harness := (true, "d24feb56bd00316a2e0b1bf1e7c73794bda390079352e79d3ddf9e695a3f3660"), looks := true }, kinds := [], alts := [], laidByText := true, laidKinds := [.handle, .data, .sentinel], laidTests := true, laidLooks := .later }
def FnExactMeansCardSaid : Prop := Claim7.holds Tryz.pinned (.plain (OpenSpec.ofChange fnExactMeansSpec)) fnExactMeansCard

/-- THE TIED CARD OF 'laws.FnExactDaysSaid'. -/
def fnExactDaysSaidCard : Claim7 := { stood := { row := fnExactDaysSaidRow, standIns := [], harness := (true, "d24feb56bd00316a2e0b1bf1e7c73794bda390079352e79d3ddf9e695a3f3660"), looks := true }, kinds := [], alts := [], laidByText := true, laidKinds := [.handle, .data, .sentinel], laidTests := true, laidLooks := .later }
def FnExactDaysSaidCardSaid : Prop := Claim7.holds Tryz.pinned (.plain (OpenSpec.ofChange fnExactDaysSaidSpec)) fnExactDaysSaidCard

/-- THE TIED CARD OF 'laws.FnExactRead'. -/
def fnExactReadCard : Claim7 := { stood := { row := fnExactReadRow, standIns := [], harness := (true, "d24feb56bd00316a2e0b1bf1e7c73794bda390079352e79d3ddf9e695a3f3660"), looks := true }, kinds := [], alts := [], laidByText := true, laidKinds := [.data, .data, .data, .handle, .data, .data, .data, .data, .sentinel], laidTests := true, laidLooks := .later }
def FnExactReadCardSaid : Prop := Claim7.holds Tryz.pinned (.plain (OpenSpec.ofChange fnExactReadSpec)) fnExactReadCard

/-- THE TIED CARD OF 'laws.FnExactWhens'. -/
def fnExactWhensCard : Claim7 := { stood := { row := fnExactWhensRow, standIns := [], harness := (true, "d24feb56bd00316a2e0b1bf1e7c73794bda390079352e79d3ddf9e695a3f3660"), looks := true }, kinds := [], alts := [], laidByText := true, laidKinds := [.data, .data, .data, .handle, .data, .sentinel], laidTests := true, laidLooks := .later }
def FnExactWhensCardSaid : Prop := Claim7.holds Tryz.pinned (.plain (OpenSpec.ofChange fnExactWhensSpec)) fnExactWhensCard

/-- THE TIED CARD OF 'laws.FnExactMarked'. -/
def fnExactMarkedCard : Claim7 := { stood := { row := fnExactMarkedRow, standIns := [], harness := (true, "d24feb56bd00316a2e0b1bf1e7c73794bda390079352e79d3ddf9e695a3f3660"), looks := true }, kinds := [], alts := [], laidByText := true, laidKinds := [.data, .data, .data, .handle, .data, .sentinel], laidTests := true, laidLooks := .later }
def FnExactMarkedCardSaid : Prop := Claim7.holds Tryz.pinned (.plain (OpenSpec.ofChange fnExactMarkedSpec)) fnExactMarkedCard

/-- THE TIED CARD OF 'laws.FnExactMarks'. -/
def fnExactMarksCard : Claim7 := { stood := { row := fnExactMarksRow, standIns := [], harness := (true, "d24feb56bd00316a2e0b1bf1e7c73794bda390079352e79d3ddf9e695a3f3660"), looks := true }, kinds := [], alts := [], laidByText := true, laidKinds := [.data, .data, .data, .handle, .data, .sentinel], laidTests := true, laidLooks := .later }
def FnExactMarksCardSaid : Prop := Claim7.holds Tryz.pinned (.plain (OpenSpec.ofChange fnExactMarksSpec)) fnExactMarksCard

/-- THE TIED CARD OF 'laws.FnExactWrite'. -/
def fnExactWriteCard : Claim7 := { stood := { row := fnExactWriteRow, standIns := [], harness := (true, "d24feb56bd00316a2e0b1bf1e7c73794bda390079352e79d3ddf9e695a3f3660"), looks := true }, kinds := [], alts := [], laidByText := true, laidKinds := [.data, .data, .data, .handle, .data, .data, .data, .data, .sentinel], laidTests := true, laidLooks := .later }
def FnExactWriteCardSaid : Prop := Claim7.holds Tryz.pinned (.plain (OpenSpec.ofChange fnExactWriteSpec)) fnExactWriteCard

/-- THE TIED CARD OF 'laws.FnExactAll'. -/
def fnExactAllCard : Claim7 := { stood := { row := fnExactAllRow, standIns := [], harness := (true, "d24feb56bd00316a2e0b1bf1e7c73794bda390079352e79d3ddf9e695a3f3660"), looks := true }, kinds := [], alts := [], laidByText := true, laidKinds := [.data, .data, .data, .handle, .data, .data, .data, .data, .sentinel], laidTests := true, laidLooks := .later }
def FnExactAllCardSaid : Prop := Claim7.holds Tryz.pinned (.plain (OpenSpec.ofChange fnExactAllSpec)) fnExactAllCard

/-- THE TIED CARD OF 'laws.FnExactDoubtful'. -/
def fnExactDoubtfulCard : Claim7 := { stood := { row := fnExactDoubtfulRow, standIns := [], harness := (true, "d24feb56bd00316a2e0b1bf1e7c73794bda390079352e79d3ddf9e695a3f3660"), looks := true }, kinds := [], alts := [], laidByText := true, laidKinds := [.data, .data, .data, .handle, .data, .sentinel], laidTests := true, laidLooks := .later }
def FnExactDoubtfulCardSaid : Prop := Claim7.holds Tryz.pinned (.plain (OpenSpec.ofChange fnExactDoubtfulSpec)) fnExactDoubtfulCard

/-- THE TIED CARD OF 'laws.FnExactRewrite'. -/
def fnExactRewriteCard : Claim7 := { stood := { row := fnExactRewriteRow, standIns := [], harness := (true, "d24feb56bd00316a2e0b1bf1e7c73794bda390079352e79d3ddf9e695a3f3660"), looks := true }, kinds := [], alts := [], laidByText := true, laidKinds := [.data, .data, .data, .handle, .data, .data, .data, .data, .sentinel], laidTests := true, laidLooks := .later }
def FnExactRewriteCardSaid : Prop := Claim7.holds Tryz.pinned (.plain (OpenSpec.ofChange fnExactRewriteSpec)) fnExactRewriteCard

/-- THE SECOND FORM's CARD OF 'laws.FnExactDaysOf'. -/
def fnExactDaysOfUptoCard : Claim7 := { stood := { row := fnExactDaysOfUptoRow, standIns := [], harness := (true, "d24feb56bd00316a2e0b1bf1e7c73794bda390079352e79d3ddf9e695a3f3660"), looks := true }, kinds := [], alts := [], laidByText := true, laidKinds := [.handle, .data, .sentinel], laidTests := true, laidLooks := .later }
def FnExactDaysOfUptoCardSaid : Prop := Claim7.holds Tryz.pinned (.plain (OpenSpec.upto fnExactDaysOfSpec)) fnExactDaysOfUptoCard

/-- THE SECOND FORM's CARD OF 'laws.FnExactMonth'. -/
def fnExactMonthUptoCard : Claim7 := { stood := { row := fnExactMonthUptoRow, standIns := [], harness := (true, "d24feb56bd00316a2e0b1bf1e7c73794bda390079352e79d3ddf9e695a3f3660"), looks := true }, kinds := [], alts := [], laidByText := true, laidKinds := [.handle, .data, .sentinel], laidTests := true, laidLooks := .later }
def FnExactMonthUptoCardSaid : Prop := Claim7.holds Tryz.pinned (.plain (OpenSpec.upto fnExactMonthSpec)) fnExactMonthUptoCard

/-- THE SECOND FORM's CARD OF 'laws.FnExactMeans'. -/
def fnExactMeansUptoCard : Claim7 := { stood := { row := fnExactMeansUptoRow, standIns := [], harness := (true, "d24feb56bd00316a2e0b1bf1e7c73794bda390079352e79d3ddf9e695a3f3660"), looks := true }, kinds := [], alts := [], laidByText := true, laidKinds := [.handle, .data, .sentinel], laidTests := true, laidLooks := .later }
def FnExactMeansUptoCardSaid : Prop := Claim7.holds Tryz.pinned (.plain (OpenSpec.upto fnExactMeansSpec)) fnExactMeansUptoCard

/-- THE SECOND FORM's CARD OF 'laws.FnExactDaysSaid'. -/
def fnExactDaysSaidUptoCard : Claim7 := { stood := { row := fnExactDaysSaidUptoRow, standIns := [], harness := (true, "d24feb56bd00316a2e0b1bf1e7c73794bda390079352e79d3ddf9e695a3f3660"), looks := true }, kinds := [], alts := [], laidByText := true, laidKinds := [.handle, .data, .sentinel], laidTests := true, laidLooks := .later }
def FnExactDaysSaidUptoCardSaid : Prop := Claim7.holds Tryz.pinned (.plain (OpenSpec.upto fnExactDaysSaidSpec)) fnExactDaysSaidUptoCard

/-- THE SECOND FORM's CARD OF 'laws.FnExactRead'. -/
def fnExactReadUptoCard : Claim7 := { stood := { row := fnExactReadUptoRow, standIns := [], harness := (true, "d24feb56bd00316a2e0b1bf1e7c73794bda390079352e79d3ddf9e695a3f3660"), looks := true }, kinds := [], alts := [], laidByText := true, laidKinds := [.data, .data, .data, .handle, .data, .data, .data, .data, .sentinel], laidTests := true, laidLooks := .later }
def FnExactReadUptoCardSaid : Prop := Claim7.holds Tryz.pinned (.plain (OpenSpec.upto fnExactReadSpec)) fnExactReadUptoCard

/-- THE SECOND FORM's CARD OF 'laws.FnExactWhens'. -/
def fnExactWhensUptoCard : Claim7 := { stood := { row := fnExactWhensUptoRow, standIns := [], harness := (true, "d24feb56bd00316a2e0b1bf1e7c73794bda390079352e79d3ddf9e695a3f3660"), looks := true }, kinds := [], alts := [], laidByText := true, laidKinds := [.data, .data, .data, .handle, .data, .sentinel], laidTests := true, laidLooks := .later }
def FnExactWhensUptoCardSaid : Prop := Claim7.holds Tryz.pinned (.plain (OpenSpec.upto fnExactWhensSpec)) fnExactWhensUptoCard

/-- THE SECOND FORM's CARD OF 'laws.FnExactMarked'. -/
def fnExactMarkedUptoCard : Claim7 := { stood := { row := fnExactMarkedUptoRow, standIns := [], harness := (true, "d24feb56bd00316a2e0b1bf1e7c73794bda390079352e79d3ddf9e695a3f3660"), looks := true }, kinds := [], alts := [], laidByText := true, laidKinds := [.data, .data, .data, .handle, .data, .sentinel], laidTests := true, laidLooks := .later }
def FnExactMarkedUptoCardSaid : Prop := Claim7.holds Tryz.pinned (.plain (OpenSpec.upto fnExactMarkedSpec)) fnExactMarkedUptoCard

/-- THE SECOND FORM's CARD OF 'laws.FnExactMarks'. -/
def fnExactMarksUptoCard : Claim7 := { stood := { row := fnExactMarksUptoRow, standIns := [], harness := (true, "d24feb56bd00316a2e0b1bf1e7c73794bda390079352e79d3ddf9e695a3f3660"), looks := true }, kinds := [], alts := [], laidByText := true, laidKinds := [.data, .data, .data, .handle, .data, .sentinel], laidTests := true, laidLooks := .later }
def FnExactMarksUptoCardSaid : Prop := Claim7.holds Tryz.pinned (.plain (OpenSpec.upto fnExactMarksSpec)) fnExactMarksUptoCard

/-- THE SECOND FORM's CARD OF 'laws.FnExactWrite'. -/
def fnExactWriteUptoCard : Claim7 := { stood := { row := fnExactWriteUptoRow, standIns := [], harness := (true, "d24feb56bd00316a2e0b1bf1e7c73794bda390079352e79d3ddf9e695a3f3660"), looks := true }, kinds := [], alts := [], laidByText := true, laidKinds := [.data, .data, .data, .handle, .data, .data, .data, .data, .sentinel], laidTests := true, laidLooks := .later }
def FnExactWriteUptoCardSaid : Prop := Claim7.holds Tryz.pinned (.plain (OpenSpec.upto fnExactWriteSpec)) fnExactWriteUptoCard

/-- THE SECOND FORM's CARD OF 'laws.FnExactAll'. -/
def fnExactAllUptoCard : Claim7 := { stood := { row := fnExactAllUptoRow, standIns := [], harness := (true, "d24feb56bd00316a2e0b1bf1e7c73794bda390079352e79d3ddf9e695a3f3660"), looks := true }, kinds := [], alts := [], laidByText := true, laidKinds := [.data, .data, .data, .handle, .data, .data, .data, .data, .sentinel], laidTests := true, laidLooks := .later }
def FnExactAllUptoCardSaid : Prop := Claim7.holds Tryz.pinned (.plain (OpenSpec.upto fnExactAllSpec)) fnExactAllUptoCard

/-- THE SECOND FORM's CARD OF 'laws.FnExactDoubtful'. -/
def fnExactDoubtfulUptoCard : Claim7 := { stood := { row := fnExactDoubtfulUptoRow, standIns := [], harness := (true, "d24feb56bd00316a2e0b1bf1e7c73794bda390079352e79d3ddf9e695a3f3660"), looks := true }, kinds := [], alts := [], laidByText := true, laidKinds := [.data, .data, .data, .handle, .data, .sentinel], laidTests := true, laidLooks := .later }
def FnExactDoubtfulUptoCardSaid : Prop := Claim7.holds Tryz.pinned (.plain (OpenSpec.upto fnExactDoubtfulSpec)) fnExactDoubtfulUptoCard

/-- THE SECOND FORM's CARD OF 'laws.FnExactRewrite'. -/
def fnExactRewriteUptoCard : Claim7 := { stood := { row := fnExactRewriteUptoRow, standIns := [], harness := (true, "d24feb56bd00316a2e0b1bf1e7c73794bda390079352e79d3ddf9e695a3f3660"), looks := true }, kinds := [], alts := [], laidByText := true, laidKinds := [.data, .data, .data, .handle, .data, .data, .data, .data, .sentinel], laidTests := true, laidLooks := .later }
def FnExactRewriteUptoCardSaid : Prop := Claim7.holds Tryz.pinned (.plain (OpenSpec.upto fnExactRewriteSpec)) fnExactRewriteUptoCard
end Rows
end Go.Proofs.YtjojgfdfbkmlkaaGreatDoor
