/-
  DERIVED. GIVEN WITH THE SEED: THE CARDS: each row of YtoofnjccpoeomaaGreatDoorRows.lean that lists a variable, with what it lists TIED to the program's text (the seventh form; the later family's looks); each row that meets fmt, with fmt's text TOLD by the authors' own Lean function (tested against real Go, not proved from fmt's source: count such statements apart). THE CARD IS WHAT COUNTS. Prove the row's statement (the work); the ties are given (YtoofnjccpoeomaaGreatDoorTie.lean); close each card by the builder's one call (the guide's Derived/Test/ToyasCard.lean, 'card_holds'). Laid BY PROGRAM, IN A SANDBOX (cutbox-door.mjs). By AI agents, Wed Nov 11 2026. No macro, syntax, notation, axiom, sorry.
-/
import Derived.Test.YtoofnjccpoeomaaGreatDoorRows
import GoSem.ClaimSeven
namespace Go.Proofs.YtoofnjccpoeomaaGreatDoor
namespace Rows

/-- THE TIED CARD OF 'laws.FnExactWhenText'. -/
def fnExactWhenTextCard : Claim7 := { stood := { row := fnExactWhenTextRow, standIns := [], harness := (true, "0a57dbc6550c843f25940a3cee59a364d447619103d030c2f9317f0dbeeedc0c"), looks := true }, kinds := [], alts := [], laidByText := true, laidKinds := [.data, .data, .data, .data, .data, .data, .data], laidTests := true, laidLooks := .later }
def FnExactWhenTextCardSaid : Prop := Claim7.holds Tryz.pinned (.plain (OpenSpec.ofChange fnExactWhenTextSpec)) fnExactWhenTextCard

/-- THE TIED CARD OF 'laws.FnExactSayingText'. -/
def fnExactSayingTextCard : Claim7 := { stood := { row := fnExactSayingTextRow, standIns := [], harness := (true, "0a57dbc6550c843f25940a3cee59a364d447619103d030c2f9317f0dbeeedc0c"), looks := true }, kinds := [], alts := [], laidByText := true, laidKinds := [.data, .data, .data, .data, .data, .data, .data], laidTests := true, laidLooks := .later }
def FnExactSayingTextCardSaid : Prop := Claim7.holds Tryz.pinned (.plain (OpenSpec.ofChange fnExactSayingTextSpec)) fnExactSayingTextCard

/-- THE TIED CARD OF 'laws.FnExactReadSaying'. -/
def fnExactReadSayingCard : Claim7 := { stood := { row := fnExactReadSayingRow, standIns := [], harness := (true, "0a57dbc6550c843f25940a3cee59a364d447619103d030c2f9317f0dbeeedc0c"), looks := true }, kinds := [], alts := [], laidByText := true, laidKinds := [.data, .data, .data, .data, .data, .data, .data], laidTests := true, laidLooks := .later }
def FnExactReadSayingCardSaid : Prop := Claim7.holds Tryz.pinned (.plain (OpenSpec.ofChange fnExactReadSayingSpec)) fnExactReadSayingCard

/-- THE SECOND FORM's CARD OF 'laws.FnExactWhenText'. -/
def fnExactWhenTextUptoCard : Claim7 := { stood := { row := fnExactWhenTextUptoRow, standIns := [], harness := (true, "0a57dbc6550c843f25940a3cee59a364d447619103d030c2f9317f0dbeeedc0c"), looks := true }, kinds := [], alts := [], laidByText := true, laidKinds := [.data, .data, .data, .data, .data, .data, .data], laidTests := true, laidLooks := .later }
def FnExactWhenTextUptoCardSaid : Prop := Claim7.holds Tryz.pinned (.plain (OpenSpec.upto fnExactWhenTextSpec)) fnExactWhenTextUptoCard

/-- THE SECOND FORM's CARD OF 'laws.FnExactSayingText'. -/
def fnExactSayingTextUptoCard : Claim7 := { stood := { row := fnExactSayingTextUptoRow, standIns := [], harness := (true, "0a57dbc6550c843f25940a3cee59a364d447619103d030c2f9317f0dbeeedc0c"), looks := true }, kinds := [], alts := [], laidByText := true, laidKinds := [.data, .data, .data, .data, .data, .data, .data], laidTests := true, laidLooks := .later }
def FnExactSayingTextUptoCardSaid : Prop := Claim7.holds Tryz.pinned (.plain (OpenSpec.upto fnExactSayingTextSpec)) fnExactSayingTextUptoCard

/-- THE SECOND FORM's CARD OF 'laws.FnExactReadSaying'. -/
def fnExactReadSayingUptoCard : Claim7 := { stood := { row := fnExactReadSayingUptoRow, standIns := [], harness := (true, "0a57dbc6550c843f25940a3cee59a364d447619103d030c2f9317f0dbeeedc0c"), looks := true }, kinds := [], alts := [], laidByText := true, laidKinds := [.data, .data, .data, .data, .data, .data, .data], laidTests := true, laidLooks := .later }
def FnExactReadSayingUptoCardSaid : Prop := Claim7.holds Tryz.pinned (.plain (OpenSpec.upto fnExactReadSayingSpec)) fnExactReadSayingUptoCard
end Rows
end Go.Proofs.YtoofnjccpoeomaaGreatDoor
