/-
  DERIVED. GIVEN WITH THE SEED: THE CARDS: each row of YtcdcniniafejbaaDoorRows.lean that lists a variable, with what it lists TIED to the program's text (the seventh form; the later family's looks); each row that meets fmt, with fmt's text TOLD by the authors' own Lean function (tested against real Go, not proved from fmt's source: count such statements apart). THE CARD IS WHAT COUNTS. Prove the row's statement (the work); the ties are given (YtcdcniniafejbaaDoorTie.lean); close each card by the builder's one call (the guide's Derived/Test/ToyasCard.lean, 'card_holds'). Laid BY PROGRAM, IN A SANDBOX (cutbox-door.mjs). By AI agents, Wed Nov 11 2026. No macro, syntax, notation, axiom, sorry.
-/
import Derived.Test.YtcdcniniafejbaaDoorRows
import GoSem.ClaimSeven
namespace Go.Proofs.YtcdcniniafejbaaDoor
namespace Rows

/-- THE TIED CARD OF 'laws.FnExactReignsOk'. -/
def fnExactReignsOkCard : Claim7 := { stood := { row := fnExactReignsOkRow, standIns := [], harness := (true, "356857b574ceb4026f8415fae085f46c1d104eded3d4a36283c7e30db35eacfe"), looks := true }, kinds := [], alts := [], laidByText := true, laidKinds := [.data, .sentinel], laidTests := true, laidLooks := .later }
def FnExactReignsOkCardSaid : Prop := Claim7.holds Tryd.pinned (.plain (OpenSpec.ofChange fnExactReignsOkSpec)) fnExactReignsOkCard

/-- THE TIED CARD OF 'laws.FnExactReignYear'. -/
def fnExactReignYearCard : Claim7 := { stood := { row := fnExactReignYearRow, standIns := [], harness := (true, "356857b574ceb4026f8415fae085f46c1d104eded3d4a36283c7e30db35eacfe"), looks := true }, kinds := [], alts := [], laidByText := true, laidKinds := [.data], laidTests := true, laidLooks := .later }
def FnExactReignYearCardSaid : Prop := Claim7.holds Tryd.pinned (.plain (OpenSpec.ofChange fnExactReignYearSpec)) fnExactReignYearCard

/-- THE TIED CARD OF 'laws.FnExactReignDays'. -/
def fnExactReignDaysCard : Claim7 := { stood := { row := fnExactReignDaysRow, standIns := [], harness := (true, "356857b574ceb4026f8415fae085f46c1d104eded3d4a36283c7e30db35eacfe"), looks := true }, kinds := [], alts := [], laidByText := true, laidKinds := [.data], laidTests := true, laidLooks := .later }
def FnExactReignDaysCardSaid : Prop := Claim7.holds Tryd.pinned (.plain (OpenSpec.ofChange fnExactReignDaysSpec)) fnExactReignDaysCard

/-- THE TIED CARD OF 'laws.FnExactReadReign'. -/
def fnExactReadReignCard : Claim7 := { stood := { row := fnExactReadReignRow, standIns := [], harness := (true, "356857b574ceb4026f8415fae085f46c1d104eded3d4a36283c7e30db35eacfe"), looks := true }, kinds := [], alts := [], laidByText := true, laidKinds := [.data], laidTests := true, laidLooks := .later }
def FnExactReadReignCardSaid : Prop := Claim7.holds Tryd.pinned (.plain (OpenSpec.ofChange fnExactReadReignSpec)) fnExactReadReignCard

/-- THE TIED CARD OF 'laws.FnExactGaps'. -/
def fnExactGapsCard : Claim7 := { stood := { row := fnExactGapsRow, standIns := [], harness := (true, "356857b574ceb4026f8415fae085f46c1d104eded3d4a36283c7e30db35eacfe"), looks := true }, kinds := [], alts := [], laidByText := true, laidKinds := [.data, .sentinel], laidTests := true, laidLooks := .later }
def FnExactGapsCardSaid : Prop := Claim7.holds Tryd.pinned (.plain (OpenSpec.ofChange fnExactGapsSpec)) fnExactGapsCard

/-- THE TIED CARD OF 'laws.FnExactLastYear'. -/
def fnExactLastYearCard : Claim7 := { stood := { row := fnExactLastYearRow, standIns := [], harness := (true, "356857b574ceb4026f8415fae085f46c1d104eded3d4a36283c7e30db35eacfe"), looks := true }, kinds := [], alts := [], laidByText := true, laidKinds := [.data], laidTests := true, laidLooks := .later }
def FnExactLastYearCardSaid : Prop := Claim7.holds Tryd.pinned (.plain (OpenSpec.ofChange fnExactLastYearSpec)) fnExactLastYearCard

/-- THE SECOND FORM's CARD OF 'laws.FnExactReignsOk'. -/
def fnExactReignsOkUptoCard : Claim7 := { stood := { row := fnExactReignsOkUptoRow, standIns := [], harness := (true, "356857b574ceb4026f8415fae085f46c1d104eded3d4a36283c7e30db35eacfe"), looks := true }, kinds := [], alts := [], laidByText := true, laidKinds := [.data, .sentinel], laidTests := true, laidLooks := .later }
def FnExactReignsOkUptoCardSaid : Prop := Claim7.holds Tryd.pinned (.plain (OpenSpec.upto fnExactReignsOkSpec)) fnExactReignsOkUptoCard

/-- THE SECOND FORM's CARD OF 'laws.FnExactReignYear'. -/
def fnExactReignYearUptoCard : Claim7 := { stood := { row := fnExactReignYearUptoRow, standIns := [], harness := (true, "356857b574ceb4026f8415fae085f46c1d104eded3d4a36283c7e30db35eacfe"), looks := true }, kinds := [], alts := [], laidByText := true, laidKinds := [.data], laidTests := true, laidLooks := .later }
def FnExactReignYearUptoCardSaid : Prop := Claim7.holds Tryd.pinned (.plain (OpenSpec.upto fnExactReignYearSpec)) fnExactReignYearUptoCard

/-- THE SECOND FORM's CARD OF 'laws.FnExactReignDays'. -/
def fnExactReignDaysUptoCard : Claim7 := { stood := { row := fnExactReignDaysUptoRow, standIns := [], harness := (true, "356857b574ceb4026f8415fae085f46c1d104eded3d4a36283c7e30db35eacfe"), looks := true }, kinds := [], alts := [], laidByText := true, laidKinds := [.data], laidTests := true, laidLooks := .later }
def FnExactReignDaysUptoCardSaid : Prop := Claim7.holds Tryd.pinned (.plain (OpenSpec.upto fnExactReignDaysSpec)) fnExactReignDaysUptoCard

/-- THE SECOND FORM's CARD OF 'laws.FnExactReadReign'. -/
def fnExactReadReignUptoCard : Claim7 := { stood := { row := fnExactReadReignUptoRow, standIns := [], harness := (true, "356857b574ceb4026f8415fae085f46c1d104eded3d4a36283c7e30db35eacfe"), looks := true }, kinds := [], alts := [], laidByText := true, laidKinds := [.data], laidTests := true, laidLooks := .later }
def FnExactReadReignUptoCardSaid : Prop := Claim7.holds Tryd.pinned (.plain (OpenSpec.upto fnExactReadReignSpec)) fnExactReadReignUptoCard

/-- THE SECOND FORM's CARD OF 'laws.FnExactGaps'. -/
def fnExactGapsUptoCard : Claim7 := { stood := { row := fnExactGapsUptoRow, standIns := [], harness := (true, "356857b574ceb4026f8415fae085f46c1d104eded3d4a36283c7e30db35eacfe"), looks := true }, kinds := [], alts := [], laidByText := true, laidKinds := [.data, .sentinel], laidTests := true, laidLooks := .later }
def FnExactGapsUptoCardSaid : Prop := Claim7.holds Tryd.pinned (.plain (OpenSpec.upto fnExactGapsSpec)) fnExactGapsUptoCard

/-- THE SECOND FORM's CARD OF 'laws.FnExactLastYear'. -/
def fnExactLastYearUptoCard : Claim7 := { stood := { row := fnExactLastYearUptoRow, standIns := [], harness := (true, "356857b574ceb4026f8415fae085f46c1d104eded3d4a36283c7e30db35eacfe"), looks := true }, kinds := [], alts := [], laidByText := true, laidKinds := [.data], laidTests := true, laidLooks := .later }
def FnExactLastYearUptoCardSaid : Prop := Claim7.holds Tryd.pinned (.plain (OpenSpec.upto fnExactLastYearSpec)) fnExactLastYearUptoCard
end Rows
end Go.Proofs.YtcdcniniafejbaaDoor
