/-
  DERIVED. GIVEN WITH THE SEED: THE CARDS: each row of YtljlgnadomebcafDoorRows.lean that lists a variable, with what it lists TIED to the program's text (the seventh form; the later family's looks); each row that meets fmt, with fmt's text TOLD by the authors' own Lean function (tested against real Go, not proved from fmt's source: count such statements apart). THE CARD IS WHAT COUNTS. Prove the row's statement (the work); the ties are given (YtljlgnadomebcafDoorTie.lean); close each card by the builder's one call (the guide's Derived/Test/ToyasCard.lean, 'card_holds'). Laid BY PROGRAM, IN A SANDBOX (cutbox-door.mjs). By AI agents, Wed Nov 11 2026. No macro, syntax, notation, axiom, sorry.
-/
import Derived.Test.YtljlgnadomebcafDoorRows
import GoSem.ClaimSeven
namespace Go.Proofs.YtljlgnadomebcafDoor
namespace Rows

/-- THE TIED CARD OF 'laws.FnExactReadDec'. -/
def fnExactReadDecCard : Claim7 := { stood := { row := fnExactReadDecRow, standIns := [], harness := (true, "0e5b1c918781ea8de35bb49efe91a3ddcbabdb1a64fdd1fe221911c25d4e58a2"), looks := false }, kinds := [], alts := [], laidByText := true, laidKinds := [.data, .data, .data], laidTests := true, laidLooks := .later }
def FnExactReadDecCardSaid : Prop := Claim7.holds Tryd.pinned (.plain (OpenSpec.ofChange fnExactReadDecSpec)) fnExactReadDecCard

/-- THE TIED CARD OF 'laws.FnExactPutRoman'. -/
def fnExactPutRomanCard : Claim7 := { stood := { row := fnExactPutRomanRow, standIns := [], harness := (true, "0e5b1c918781ea8de35bb49efe91a3ddcbabdb1a64fdd1fe221911c25d4e58a2"), looks := false }, kinds := [], alts := [], laidByText := true, laidKinds := [.data], laidTests := true, laidLooks := .later }
def FnExactPutRomanCardSaid : Prop := Claim7.holds Tryd.pinned (.plain (OpenSpec.ofChange fnExactPutRomanSpec)) fnExactPutRomanCard

/-- THE TIED CARD OF 'laws.FnExactGetRoman'. -/
def fnExactGetRomanCard : Claim7 := { stood := { row := fnExactGetRomanRow, standIns := [], harness := (true, "0e5b1c918781ea8de35bb49efe91a3ddcbabdb1a64fdd1fe221911c25d4e58a2"), looks := false }, kinds := [], alts := [], laidByText := true, laidKinds := [.data], laidTests := true, laidLooks := .later }
def FnExactGetRomanCardSaid : Prop := Claim7.holds Tryd.pinned (.plain (OpenSpec.ofChange fnExactGetRomanSpec)) fnExactGetRomanCard

/-- THE SECOND FORM's CARD OF 'laws.FnExactReadDec'. -/
def fnExactReadDecUptoCard : Claim7 := { stood := { row := fnExactReadDecUptoRow, standIns := [], harness := (true, "0e5b1c918781ea8de35bb49efe91a3ddcbabdb1a64fdd1fe221911c25d4e58a2"), looks := false }, kinds := [], alts := [], laidByText := true, laidKinds := [.data, .data, .data], laidTests := true, laidLooks := .later }
def FnExactReadDecUptoCardSaid : Prop := Claim7.holds Tryd.pinned (.plain (OpenSpec.upto fnExactReadDecSpec)) fnExactReadDecUptoCard

/-- THE SECOND FORM's CARD OF 'laws.FnExactPutRoman'. -/
def fnExactPutRomanUptoCard : Claim7 := { stood := { row := fnExactPutRomanUptoRow, standIns := [], harness := (true, "0e5b1c918781ea8de35bb49efe91a3ddcbabdb1a64fdd1fe221911c25d4e58a2"), looks := false }, kinds := [], alts := [], laidByText := true, laidKinds := [.data], laidTests := true, laidLooks := .later }
def FnExactPutRomanUptoCardSaid : Prop := Claim7.holds Tryd.pinned (.plain (OpenSpec.upto fnExactPutRomanSpec)) fnExactPutRomanUptoCard

/-- THE SECOND FORM's CARD OF 'laws.FnExactGetRoman'. -/
def fnExactGetRomanUptoCard : Claim7 := { stood := { row := fnExactGetRomanUptoRow, standIns := [], harness := (true, "0e5b1c918781ea8de35bb49efe91a3ddcbabdb1a64fdd1fe221911c25d4e58a2"), looks := false }, kinds := [], alts := [], laidByText := true, laidKinds := [.data], laidTests := true, laidLooks := .later }
def FnExactGetRomanUptoCardSaid : Prop := Claim7.holds Tryd.pinned (.plain (OpenSpec.upto fnExactGetRomanSpec)) fnExactGetRomanUptoCard
end Rows
end Go.Proofs.YtljlgnadomebcafDoor
