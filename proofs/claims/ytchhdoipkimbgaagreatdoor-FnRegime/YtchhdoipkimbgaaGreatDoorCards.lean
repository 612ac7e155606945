/-
  DERIVED. GIVEN WITH THE SEED: THE CARDS: each row of YtchhdoipkimbgaaGreatDoorRows.lean that lists a variable, with what it lists TIED to the program's text (the seventh form; the later family's looks); each row that meets fmt, with fmt's text TOLD by the authors' own Lean function (tested against real Go, not proved from fmt's source: count such statements apart). THE CARD IS WHAT COUNTS. Prove the row's statement (the work); the ties are given (YtchhdoipkimbgaaGreatDoorTie.lean); close each card by the builder's one call (the guide's Derived/Test/ToyasCard.lean, 'card_holds'). Laid BY PROGRAM, IN A SANDBOX (cutbox-door.mjs). By AI agents, Wed Nov 11 2026. No macro, syntax, notation, axiom, sorry.
-/
import Derived.Test.YtchhdoipkimbgaaGreatDoorRows
import GoSem.ClaimSeven
namespace Go.Proofs.YtchhdoipkimbgaaGreatDoor
namespace Rows

/-- THE TIED CARD OF 'laws.FnCompile'. -/
def fnCompileCard : Claim7 := { stood := { row := fnCompileRow, standIns := [], harness := (true, "b9c0007cd2b41e1b010ee4ec9a00787fd3b96b184108ba93ff0f00ab31c899f2"), looks := true }, kinds := [], alts := [], laidByText := true, laidKinds := [.data, .data, .data, .data, .handle, .data, .data, .data, .sentinel, .data, .pinned], laidTests := true, laidLooks := .later }
def FnCompileCardSaid : Prop := Claim7.holds Tryz.pinned (.plain (OpenSpec.ofChange fnCompileSpec)) fnCompileCard

/-- THE TIED CARD OF 'laws.FnRegime'. -/
def fnRegimeCard : Claim7 := { stood := { row := fnRegimeRow, standIns := [], harness := (true, "b9c0007cd2b41e1b010ee4ec9a00787fd3b96b184108ba93ff0f00ab31c899f2"), looks := true }, kinds := [], alts := [], laidByText := true, laidKinds := [.handle, .data, .sentinel], laidTests := true, laidLooks := .later }
def FnRegimeCardSaid : Prop := Claim7.holds Tryz.pinned (.plain (OpenSpec.ofChange fnRegimeSpec)) fnRegimeCard

/-- THE TIED CARD OF 'laws.FnExactCompile'. -/
def fnExactCompileCard : Claim7 := { stood := { row := fnExactCompileRow, standIns := [], harness := (true, "b9c0007cd2b41e1b010ee4ec9a00787fd3b96b184108ba93ff0f00ab31c899f2"), looks := true }, kinds := [], alts := [], laidByText := true, laidKinds := [.data, .data, .data, .data, .handle, .data, .data, .data, .sentinel, .pinned], laidTests := true, laidLooks := .later }
def FnExactCompileCardSaid : Prop := Claim7.holds Tryz.pinned (.plain (OpenSpec.ofChange fnExactCompileSpec)) fnExactCompileCard

/-- THE TIED CARD OF 'laws.FnExactNormal'. -/
def fnExactNormalCard : Claim7 := { stood := { row := fnExactNormalRow, standIns := [], harness := (true, "b9c0007cd2b41e1b010ee4ec9a00787fd3b96b184108ba93ff0f00ab31c899f2"), looks := true }, kinds := [], alts := [], laidByText := true, laidKinds := [.data, .data, .data, .data, .handle, .data, .data, .data, .sentinel, .pinned], laidTests := true, laidLooks := .later }
def FnExactNormalCardSaid : Prop := Claim7.holds Tryz.pinned (.plain (OpenSpec.ofChange fnExactNormalSpec)) fnExactNormalCard

/-- THE SECOND FORM's CARD OF 'laws.FnCompile'. -/
def fnCompileUptoCard : Claim7 := { stood := { row := fnCompileUptoRow, standIns := [], harness := (true, "b9c0007cd2b41e1b010ee4ec9a00787fd3b96b184108ba93ff0f00ab31c899f2"), looks := true }, kinds := [], alts := [], laidByText := true, laidKinds := [.data, .data, .data, .data, .handle, .data, .data, .data, .sentinel, .data, .pinned], laidTests := true, laidLooks := .later }
def FnCompileUptoCardSaid : Prop := Claim7.holds Tryz.pinned (.plain (OpenSpec.upto fnCompileSpec)) fnCompileUptoCard

/-- THE SECOND FORM's CARD OF 'laws.FnRegime'. -/
def fnRegimeUptoCard : Claim7 := { stood := { row := fnRegimeUptoRow, standIns := [], harness := (true, "b9c0007cd2b41e1b010ee4ec9a00787fd3b96b184108ba93ff0f00ab31c899f2"), looks := true }, kinds := [], alts := [], laidByText := true, laidKinds := [.handle, .data, .sentinel], laidTests := true, laidLooks := .later }
def FnRegimeUptoCardSaid : Prop := Claim7.holds Tryz.pinned (.plain (OpenSpec.upto fnRegimeSpec)) fnRegimeUptoCard

/-- THE SECOND FORM's CARD OF 'laws.FnExactCompile'. -/
def fnExactCompileUptoCard : Claim7 := { stood := { row := fnExactCompileUptoRow, standIns := [], harness := (true, "b9c0007cd2b41e1b010ee4ec9a00787fd3b96b184108ba93ff0f00ab31c899f2"), looks := true }, kinds := [], alts := [], laidByText := true, laidKinds := [.data, .data, .data, .data, .handle, .data, .data, .data, .sentinel, .pinned], laidTests := true, laidLooks := .later }
def FnExactCompileUptoCardSaid : Prop := Claim7.holds Tryz.pinned (.plain (OpenSpec.upto fnExactCompileSpec)) fnExactCompileUptoCard

/-- THE SECOND FORM's CARD OF 'laws.FnExactNormal'. -/
def fnExactNormalUptoCard : Claim7 := { stood := { row := fnExactNormalUptoRow, standIns := [], harness := (true, "b9c0007cd2b41e1b010ee4ec9a00787fd3b96b184108ba93ff0f00ab31c899f2"), looks := true }, kinds := [], alts := [], laidByText := true, laidKinds := [.data, .data, .data, .data, .handle, .data, .data, .data, .sentinel, .pinned], laidTests := true, laidLooks := .later }
def FnExactNormalUptoCardSaid : Prop := Claim7.holds Tryz.pinned (.plain (OpenSpec.upto fnExactNormalSpec)) fnExactNormalUptoCard
end Rows
end Go.Proofs.YtchhdoipkimbgaaGreatDoor
