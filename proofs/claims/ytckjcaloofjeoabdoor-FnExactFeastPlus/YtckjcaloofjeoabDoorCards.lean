/-
  DERIVED. GIVEN WITH THE SEED: THE CARDS: each row of YtckjcaloofjeoabDoorRows.lean that lists a variable, with what it lists TIED to the program's text (the seventh form; the later family's looks); each row that meets fmt, with fmt's text TOLD by the authors' own Lean function (tested against real Go, not proved from fmt's source: count such statements apart). THE CARD IS WHAT COUNTS. Prove the row's statement (the work); the ties are given (YtckjcaloofjeoabDoorTie.lean); close each card by the builder's one call (the guide's Derived/Test/ToyasCard.lean, 'card_holds'). Laid BY PROGRAM, IN A SANDBOX (cutbox-door.mjs). By AI agents, Wed Nov 11 2026. No macro, syntax, notation, axiom, sorry.
-/
import Derived.Test.YtckjcaloofjeoabDoorRows
import GoSem.ClaimSeven
namespace Go.Proofs.YtckjcaloofjeoabDoor
namespace Rows

/-- THE TIED CARD OF 'laws.FnExactEasterDays'. -/
def fnExactEasterDaysCard : Claim7 := { stood := { row := fnExactEasterDaysRow, standIns := [], harness := (true, "0e3d471b7b35203f5cdc9f422d1324e68f45148b4e634b8badfc2447c9a80491"), looks := true }, kinds := [], alts := [], laidByText := true, laidKinds := [.data], laidTests := true, laidLooks := .later }
def FnExactEasterDaysCardSaid : Prop := Claim7.holds Tryd.pinned (.plain (OpenSpec.ofChange fnExactEasterDaysSpec)) fnExactEasterDaysCard

/-- THE TIED CARD OF 'laws.FnExactMoves'. -/
def fnExactMovesCard : Claim7 := { stood := { row := fnExactMovesRow, standIns := [], harness := (true, "0e3d471b7b35203f5cdc9f422d1324e68f45148b4e634b8badfc2447c9a80491"), looks := true }, kinds := [], alts := [], laidByText := true, laidKinds := [.data], laidTests := true, laidLooks := .later }
def FnExactMovesCardSaid : Prop := Claim7.holds Tryd.pinned (.plain (OpenSpec.ofChange fnExactMovesSpec)) fnExactMovesCard

/-- THE TIED CARD OF 'laws.FnExactFeastDay'. -/
def fnExactFeastDayCard : Claim7 := { stood := { row := fnExactFeastDayRow, standIns := [], harness := (true, "0e3d471b7b35203f5cdc9f422d1324e68f45148b4e634b8badfc2447c9a80491"), looks := true }, kinds := [], alts := [], laidByText := true, laidKinds := [.data], laidTests := true, laidLooks := .later }
def FnExactFeastDayCardSaid : Prop := Claim7.holds Tryd.pinned (.plain (OpenSpec.ofChange fnExactFeastDaySpec)) fnExactFeastDayCard

/-- THE TIED CARD OF 'laws.FnExactFeastsOn'. -/
def fnExactFeastsOnCard : Claim7 := { stood := { row := fnExactFeastsOnRow, standIns := [], harness := (true, "0e3d471b7b35203f5cdc9f422d1324e68f45148b4e634b8badfc2447c9a80491"), looks := true }, kinds := [], alts := [], laidByText := true, laidKinds := [.data], laidTests := true, laidLooks := .later }
def FnExactFeastsOnCardSaid : Prop := Claim7.holds Tryd.pinned (.plain (OpenSpec.ofChange fnExactFeastsOnSpec)) fnExactFeastsOnCard

/-- THE TIED CARD OF 'laws.FnExactFeastText'. -/
def fnExactFeastTextCard : Claim7 := { stood := { row := fnExactFeastTextRow, standIns := [], harness := (true, "0e3d471b7b35203f5cdc9f422d1324e68f45148b4e634b8badfc2447c9a80491"), looks := true }, kinds := [], alts := [], laidByText := true, laidKinds := [.data, .data, .data, .data], laidTests := true, laidLooks := .later }
def FnExactFeastTextCardSaid : Prop := Claim7.holds Tryd.pinned (.plain (OpenSpec.ofChange fnExactFeastTextSpec)) fnExactFeastTextCard

/-- THE TIED CARD OF 'laws.FnExactFeastPlus'. -/
def fnExactFeastPlusCard : Claim7 := { stood := { row := fnExactFeastPlusRow, standIns := [], harness := (true, "0e3d471b7b35203f5cdc9f422d1324e68f45148b4e634b8badfc2447c9a80491"), looks := true }, kinds := [], alts := [], laidByText := true, laidKinds := [.data, .data, .data, .data], laidTests := true, laidLooks := .later }
def FnExactFeastPlusCardSaid : Prop := Claim7.holds Tryd.pinned (.plain (OpenSpec.ofChange fnExactFeastPlusSpec)) fnExactFeastPlusCard

/-- THE SECOND FORM's CARD OF 'laws.FnExactEasterDays'. -/
def fnExactEasterDaysUptoCard : Claim7 := { stood := { row := fnExactEasterDaysUptoRow, standIns := [], harness := (true, "0e3d471b7b35203f5cdc9f422d1324e68f45148b4e634b8badfc2447c9a80491"), looks := true }, kinds := [], alts := [], laidByText := true, laidKinds := [.data], laidTests := true, laidLooks := .later }
def FnExactEasterDaysUptoCardSaid : Prop := Claim7.holds Tryd.pinned (.plain (OpenSpec.upto fnExactEasterDaysSpec)) fnExactEasterDaysUptoCard

/-- THE SECOND FORM's CARD OF 'laws.FnExactMoves'. -/
def fnExactMovesUptoCard : Claim7 := { stood := { row := fnExactMovesUptoRow, standIns := [], harness := (true, "0e3d471b7b35203f5cdc9f422d1324e68f45148b4e634b8badfc2447c9a80491"), looks := true }, kinds := [], alts := [], laidByText := true, laidKinds := [.data], laidTests := true, laidLooks := .later }
def FnExactMovesUptoCardSaid : Prop := Claim7.holds Tryd.pinned (.plain (OpenSpec.upto fnExactMovesSpec)) fnExactMovesUptoCard

/-- THE SECOND FORM's CARD OF 'laws.FnExactFeastDay'. -/
def fnExactFeastDayUptoCard : Claim7 := { stood := { row := fnExactFeastDayUptoRow, standIns := [], harness := (true, "0e3d471b7b35203f5cdc9f422d1324e68f45148b4e634b8badfc2447c9a80491"), looks := true }, kinds := [], alts := [], laidByText := true, laidKinds := [.data], laidTests := true, laidLooks := .later }
def FnExactFeastDayUptoCardSaid : Prop := Claim7.holds Tryd.pinned (.plain (OpenSpec.upto fnExactFeastDaySpec)) fnExactFeastDayUptoCard

/-- THE SECOND FORM's CARD OF 'laws.FnExactFeastsOn'. -/
def fnExactFeastsOnUptoCard : Claim7 := { stood := { row := fnExactFeastsOnUptoRow, standIns := [], harness := (true, "0e3d471b7b35203f5cdc9f422d1324e68f45148b4e634b8badfc2447c9a80491"), looks := true }, kinds := [], alts := [], laidByText := true, laidKinds := [.data], laidTests := true, laidLooks := .later }
def FnExactFeastsOnUptoCardSaid : Prop := Claim7.holds Tryd.pinned (.plain (OpenSpec.upto fnExactFeastsOnSpec)) fnExactFeastsOnUptoCard

/-- THE SECOND FORM's CARD OF 'laws.FnExactFeastText'. -/
def fnExactFeastTextUptoCard : Claim7 := { stood := { row := fnExactFeastTextUptoRow, standIns := [], harness := (true, "0e3d471b7b35203f5cdc9f422d1324e68f45148b4e634b8badfc2447c9a80491"), looks := true }, kinds := [], alts := [], laidByText := true, laidKinds := [.data, .data, .data, .data], laidTests := true, laidLooks := .later }
def FnExactFeastTextUptoCardSaid : Prop := Claim7.holds Tryd.pinned (.plain (OpenSpec.upto fnExactFeastTextSpec)) fnExactFeastTextUptoCard

/-- THE SECOND FORM's CARD OF 'laws.FnExactFeastPlus'. -/
def fnExactFeastPlusUptoCard : Claim7 := { stood := { row := fnExactFeastPlusUptoRow, standIns := [], harness := (true, "0e3d471b7b35203f5cdc9f422d1324e68f45148b4e634b8badfc2447c9a80491"), looks := true }, kinds := [], alts := [], laidByText := true, laidKinds := [.data, .data, .data, .data], laidTests := true, laidLooks := .later }
def FnExactFeastPlusUptoCardSaid : Prop := Claim7.holds Tryd.pinned (.plain (OpenSpec.upto fnExactFeastPlusSpec)) fnExactFeastPlusUptoCard
end Rows
end Go.Proofs.YtckjcaloofjeoabDoor
