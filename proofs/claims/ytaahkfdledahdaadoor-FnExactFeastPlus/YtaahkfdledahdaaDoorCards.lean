/-
  DERIVED. GIVEN WITH THE SEED: THE CARDS: each row of YtaahkfdledahdaaDoorRows.lean that lists a variable, with what it lists TIED to the program's text (the seventh form; the later family's looks); each row that meets fmt, with fmt's text TOLD by the authors' own Lean function (tested against real Go, not proved from fmt's source: count such statements apart). THE CARD IS WHAT COUNTS. Prove the row's statement (the work); the ties are given (YtaahkfdledahdaaDoorTie.lean); close each card by the builder's one call (the guide's Derived/Test/ToyasCard.lean, 'card_holds'). Laid BY PROGRAM, IN A SANDBOX (cutbox-door.mjs). By AI agents, Wed Nov 11 2026. No macro, syntax, notation, axiom, sorry.
-/
import Derived.Test.YtaahkfdledahdaaDoorRows
import GoSem.ClaimSeven
namespace Go.Proofs.YtaahkfdledahdaaDoor
namespace Rows

/-- THE TIED CARD OF 'laws.FnExactFeastOk'. -/
def fnExactFeastOkCard : Claim7 := { stood := { row := fnExactFeastOkRow, standIns := [], harness := (true, "4b651c7dfc24a50a50dfdcd5ad14d9e2ac30d9da869b82d0f8d500093dda72a5"), looks := true }, kinds := [], alts := [], laidByText := true, laidKinds := [.data], laidTests := true, laidLooks := .later }
def FnExactFeastOkCardSaid : Prop := Claim7.holds Tryd.pinned (.plain (OpenSpec.ofChange fnExactFeastOkSpec)) fnExactFeastOkCard

/-- THE TIED CARD OF 'laws.FnExactFeastDay'. -/
def fnExactFeastDayCard : Claim7 := { stood := { row := fnExactFeastDayRow, standIns := [], harness := (true, "4b651c7dfc24a50a50dfdcd5ad14d9e2ac30d9da869b82d0f8d500093dda72a5"), looks := true }, kinds := [], alts := [], laidByText := true, laidKinds := [.data], laidTests := true, laidLooks := .later }
def FnExactFeastDayCardSaid : Prop := Claim7.holds Tryd.pinned (.plain (OpenSpec.ofChange fnExactFeastDaySpec)) fnExactFeastDayCard

/-- THE TIED CARD OF 'laws.FnExactFeastsOn'. -/
def fnExactFeastsOnCard : Claim7 := { stood := { row := fnExactFeastsOnRow, standIns := [], harness := (true, "4b651c7dfc24a50a50dfdcd5ad14d9e2ac30d9da869b82d0f8d500093dda72a5"), looks := true }, kinds := [], alts := [], laidByText := true, laidKinds := [.data], laidTests := true, laidLooks := .later }
def FnExactFeastsOnCardSaid : Prop := Claim7.holds Tryd.pinned (.plain (OpenSpec.ofChange fnExactFeastsOnSpec)) fnExactFeastsOnCard

/-- THE TIED CARD OF 'laws.FnExactFeastText'. -/
def fnExactFeastTextCard : Claim7 := { stood := { row := fnExactFeastTextRow, standIns := [], harness := (true, "4b651c7dfc24a50a50dfdcd5ad14d9e2ac30d9da869b82d0f8d500093dda72a5"), looks := true }, kinds := [], alts := [], laidByText := true, laidKinds := [.data, .data, .data, .data], laidTests := true, laidLooks := .later }
def FnExactFeastTextCardSaid : Prop := Claim7.holds Tryd.pinned (.plain (OpenSpec.ofChange fnExactFeastTextSpec)) fnExactFeastTextCard

/-- THE TIED CARD OF 'laws.FnExactReadFeast'. -/
def fnExactReadFeastCard : Claim7 := { stood := { row := fnExactReadFeastRow, standIns := [], harness := (true, "4b651c7dfc24a50a50dfdcd5ad14d9e2ac30d9da869b82d0f8d500093dda72a5"), looks := true }, kinds := [], alts := [], laidByText := true, laidKinds := [.data, .data, .data], laidTests := true, laidLooks := .later }
def FnExactReadFeastCardSaid : Prop := Claim7.holds Tryd.pinned (.plain (OpenSpec.ofChange fnExactReadFeastSpec)) fnExactReadFeastCard

/-- THE TIED CARD OF 'laws.FnExactFeastPlus'. -/
def fnExactFeastPlusCard : Claim7 := { stood := { row := fnExactFeastPlusRow, standIns := [], harness := (true, "4b651c7dfc24a50a50dfdcd5ad14d9e2ac30d9da869b82d0f8d500093dda72a5"), looks := true }, kinds := [], alts := [], laidByText := true, laidKinds := [.data, .data, .data, .data], laidTests := true, laidLooks := .later }
def FnExactFeastPlusCardSaid : Prop := Claim7.holds Tryd.pinned (.plain (OpenSpec.ofChange fnExactFeastPlusSpec)) fnExactFeastPlusCard

/-- THE SECOND FORM's CARD OF 'laws.FnExactFeastOk'. -/
def fnExactFeastOkUptoCard : Claim7 := { stood := { row := fnExactFeastOkUptoRow, standIns := [], harness := (true, "4b651c7dfc24a50a50dfdcd5ad14d9e2ac30d9da869b82d0f8d500093dda72a5"), looks := true }, kinds := [], alts := [], laidByText := true, laidKinds := [.data], laidTests := true, laidLooks := .later }
def FnExactFeastOkUptoCardSaid : Prop := Claim7.holds Tryd.pinned (.plain (OpenSpec.upto fnExactFeastOkSpec)) fnExactFeastOkUptoCard

/-- THE SECOND FORM's CARD OF 'laws.FnExactFeastDay'. -/
def fnExactFeastDayUptoCard : Claim7 := { stood := { row := fnExactFeastDayUptoRow, standIns := [], harness := (true, "4b651c7dfc24a50a50dfdcd5ad14d9e2ac30d9da869b82d0f8d500093dda72a5"), looks := true }, kinds := [], alts := [], laidByText := true, laidKinds := [.data], laidTests := true, laidLooks := .later }
def FnExactFeastDayUptoCardSaid : Prop := Claim7.holds Tryd.pinned (.plain (OpenSpec.upto fnExactFeastDaySpec)) fnExactFeastDayUptoCard

/-- THE SECOND FORM's CARD OF 'laws.FnExactFeastsOn'. -/
def fnExactFeastsOnUptoCard : Claim7 := { stood := { row := fnExactFeastsOnUptoRow, standIns := [], harness := (true, "4b651c7dfc24a50a50dfdcd5ad14d9e2ac30d9da869b82d0f8d500093dda72a5"), looks := true }, kinds := [], alts := [], laidByText := true, laidKinds := [.data], laidTests := true, laidLooks := .later }
def FnExactFeastsOnUptoCardSaid : Prop := Claim7.holds Tryd.pinned (.plain (OpenSpec.upto fnExactFeastsOnSpec)) fnExactFeastsOnUptoCard

/-- THE SECOND FORM's CARD OF 'laws.FnExactFeastText'. -/
def fnExactFeastTextUptoCard : Claim7 := { stood := { row := fnExactFeastTextUptoRow, standIns := [], harness := (true, "4b651c7dfc24a50a50dfdcd5ad14d9e2ac30d9da869b82d0f8d500093dda72a5"), looks := true }, kinds := [], alts := [], laidByText := true, laidKinds := [.data, .data, .data, .data], laidTests := true, laidLooks := .later }
def FnExactFeastTextUptoCardSaid : Prop := Claim7.holds Tryd.pinned (.plain (OpenSpec.upto fnExactFeastTextSpec)) fnExactFeastTextUptoCard

/-- THE SECOND FORM's CARD OF 'laws.FnExactReadFeast'. -/
def fnExactReadFeastUptoCard : Claim7 := { stood := { row := fnExactReadFeastUptoRow, standIns := [], harness := (true, "4b651c7dfc24a50a50dfdcd5ad14d9e2ac30d9da869b82d0f8d500093dda72a5"), looks := true }, kinds := [], alts := [], laidByText := true, laidKinds := [.data, .data, .data], laidTests := true, laidLooks := .later }
def FnExactReadFeastUptoCardSaid : Prop := Claim7.holds Tryd.pinned (.plain (OpenSpec.upto fnExactReadFeastSpec)) fnExactReadFeastUptoCard

/-- THE SECOND FORM's CARD OF 'laws.FnExactFeastPlus'. -/
def fnExactFeastPlusUptoCard : Claim7 := { stood := { row := fnExactFeastPlusUptoRow, standIns := [], harness := (true, "4b651c7dfc24a50a50dfdcd5ad14d9e2ac30d9da869b82d0f8d500093dda72a5"), looks := true }, kinds := [], alts := [], laidByText := true, laidKinds := [.data, .data, .data, .data], laidTests := true, laidLooks := .later }
def FnExactFeastPlusUptoCardSaid : Prop := Claim7.holds Tryd.pinned (.plain (OpenSpec.upto fnExactFeastPlusSpec)) fnExactFeastPlusUptoCard
end Rows
end Go.Proofs.YtaahkfdledahdaaDoor
