/-
  DERIVED. GIVEN WITH THE SEED: THE PROGRAM's TIES (one call each: nine closed facts by the kernel) AND EACH ROW's TIE, after the 31st guide's Derived/Test/Toyas{Tie, Card}.lean. No idea stands in it: it is a product of the set-up. Laid BY PROGRAM, IN A SANDBOX (cutbox-door.mjs). By AI agents, Wed Nov 11 2026. No macro, syntax, notation, axiom, sorry.
-/
import Derived.Test.YtcdcniniafejbaaGreatDoorRows
import Derived.LaidByTextLater
import Derived.SevenTiedAt
import Derived.LaidSub
import Derived.LaidOnce
namespace Go.Proofs.YtcdcniniafejbaaGreatDoor
open Go
set_option maxRecDepth 100000
theorem seatTie1 : Tryz.prog.laidByTextLater [("loop.example/g00638/impl.digitShapes", Rows.laid_loop_example_g00638_impl_digitShapes), ("loop.example/g00638/impl.monthLengths", Rows.laid_loop_example_g00638_impl_monthLengths), ("loop.example/g00638/impl.errNoTable", Rows.laid_loop_example_g00638_impl_errNoTable)] [.data, .data, .sentinel] true :=
  Program.laidByTextLater_by_one 38 8 13 (by kernel_rfl) (by kernel_rfl) (by kernel_rfl) (by kernel_rfl) (by kernel_rfl) (by kernel_rfl) (fun _ _ => by kernel_rfl)
theorem noOwnUnsafe : Tryz.pinned.checked.prog.headLifts.contains "ownunsafe" = false := by kernel_rfl
theorem tie : Tryz.prog.laidByTextLater [("loop.example/g00638/impl.digitShapes", Rows.laid_loop_example_g00638_impl_digitShapes), ("loop.example/g00638/impl.monthLengths", Rows.laid_loop_example_g00638_impl_monthLengths), ("loop.example/g00638/impl.errNoTable", Rows.laid_loop_example_g00638_impl_errNoTable)] [.data, .data, .sentinel] true :=
  Program.laidByTextLater.sub seatTie1 ["loop.example/g00638/impl.digitShapes", "loop.example/g00638/impl.monthLengths", "loop.example/g00638/impl.errNoTable"] (by kernel_rfl) (by kernel_rfl)
theorem fnReign_row_tie : Rows.fnReignRow.laidByTextAt .later Tryz.pinned [.data, .data, .sentinel] true :=
  OpenClaim.laidByTextAt_later rfl rfl tie noOwnUnsafe
theorem fnExactReignText_row_tie : Rows.fnExactReignTextRow.laidByTextAt .later Tryz.pinned [.data, .data, .sentinel] true :=
  OpenClaim.laidByTextAt_later rfl rfl tie noOwnUnsafe
theorem fnReignUpto_row_tie : Rows.fnReignUptoRow.laidByTextAt .later Tryz.pinned [.data, .data, .sentinel] true :=
  OpenClaim.laidByTextAt_later rfl rfl tie noOwnUnsafe
theorem fnExactReignTextUpto_row_tie : Rows.fnExactReignTextUptoRow.laidByTextAt .later Tryz.pinned [.data, .data, .sentinel] true :=
  OpenClaim.laidByTextAt_later rfl rfl tie noOwnUnsafe
end Go.Proofs.YtcdcniniafejbaaGreatDoor
