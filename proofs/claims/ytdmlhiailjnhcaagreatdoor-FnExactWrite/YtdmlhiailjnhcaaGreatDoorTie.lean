/-
  DERIVED. GIVEN WITH THE SEED: THE PROGRAM's TIES (one call each: nine closed facts by the kernel) AND EACH ROW's TIE, after the 31st guide's Derived/Test/Toyas{Tie, Card}.lean. No idea stands in it: it is a product of the set-up. Laid BY PROGRAM, IN A SANDBOX (cutbox-door.mjs). By AI agents, Wed Nov 11 2026. No macro, syntax, notation, axiom, sorry.
-/
import Derived.Test.YtdmlhiailjnhcaaGreatDoorRows
import Derived.LaidByTextLater
import Derived.SevenTiedAt
namespace Go.Proofs.YtdmlhiailjnhcaaGreatDoor
open Go
theorem noOwnUnsafe : Tryz.pinned.checked.prog.headLifts.contains "ownunsafe" = false := by kernel_rfl
theorem tie : Tryz.prog.laidByTextLater [("errors.errorType", Rows.laid_errors_errorType), ("loop.example/g00638/impl.errNoTable", Rows.laid_loop_example_g00638_impl_errNoTable), ("loop.example/g00638/impl.monthLengths", Rows.laid_loop_example_g00638_impl_monthLengths), ("internal/strconv.uint64pow10", Rows.laid_internal_strconv_uint64pow10), ("math/bits.deBruijn32tab", Rows.laid_math_bits_deBruijn32tab), ("math/bits.deBruijn64tab", Rows.laid_math_bits_deBruijn64tab)] [.handle, .sentinel, .data, .data, .data, .data] true :=
  Program.laidByTextLater_by_run_h 400 8 (by kernel_rfl) (by kernel_rfl) (by kernel_rfl) (by kernel_rfl) (by kernel_rfl) (by kernel_rfl) (fun _ _ => by kernel_rfl) (fun _ _ => by kernel_rfl) (fun _ _ => by kernel_rfl) (fun _ _ => by kernel_rfl)
theorem fnExactWhens_row_tie : Rows.fnExactWhensRow.laidByTextAt .later Tryz.pinned [.handle, .sentinel, .data, .data, .data, .data] true :=
  OpenClaim.laidByTextAt_later rfl rfl tie noOwnUnsafe
theorem fnExactMarked_row_tie : Rows.fnExactMarkedRow.laidByTextAt .later Tryz.pinned [.handle, .sentinel, .data, .data, .data, .data] true :=
  OpenClaim.laidByTextAt_later rfl rfl tie noOwnUnsafe
theorem fnExactMarks_row_tie : Rows.fnExactMarksRow.laidByTextAt .later Tryz.pinned [.handle, .sentinel, .data, .data, .data, .data] true :=
  OpenClaim.laidByTextAt_later rfl rfl tie noOwnUnsafe
theorem fnExactDoubtful_row_tie : Rows.fnExactDoubtfulRow.laidByTextAt .later Tryz.pinned [.handle, .sentinel, .data, .data, .data, .data] true :=
  OpenClaim.laidByTextAt_later rfl rfl tie noOwnUnsafe
theorem tie2 : Tryz.prog.laidByTextLater [("errors.errorType", Rows.laid_errors_errorType), ("loop.example/g00638/impl.errNoTable", Rows.laid_loop_example_g00638_impl_errNoTable), ("loop.example/g00638/impl.monthLengths", Rows.laid_loop_example_g00638_impl_monthLengths), ("internal/strconv.uint64pow10", Rows.laid_internal_strconv_uint64pow10), ("math/bits.deBruijn32tab", Rows.laid_math_bits_deBruijn32tab), ("math/bits.deBruijn64tab", Rows.laid_math_bits_deBruijn64tab), ("loop.example/g00638/impl.monthNames", Rows.laid_loop_example_g00638_impl_monthNames), ("loop.example/g00638/impl.markNames", Rows.laid_loop_example_g00638_impl_markNames), ("loop.example/g00638/impl.digitShapes", Rows.laid_loop_example_g00638_impl_digitShapes)] [.handle, .sentinel, .data, .data, .data, .data, .data, .data, .data] true :=
  Program.laidByTextLater_by_run_h 400 8 (by kernel_rfl) (by kernel_rfl) (by kernel_rfl) (by kernel_rfl) (by kernel_rfl) (by kernel_rfl) (fun _ _ => by kernel_rfl) (fun _ _ => by kernel_rfl) (fun _ _ => by kernel_rfl) (fun _ _ => by kernel_rfl)
theorem fnExactWrite_row_tie : Rows.fnExactWriteRow.laidByTextAt .later Tryz.pinned [.handle, .sentinel, .data, .data, .data, .data, .data, .data, .data] true :=
  OpenClaim.laidByTextAt_later rfl rfl tie2 noOwnUnsafe
theorem fnExactAll_row_tie : Rows.fnExactAllRow.laidByTextAt .later Tryz.pinned [.handle, .sentinel, .data, .data, .data, .data, .data, .data, .data] true :=
  OpenClaim.laidByTextAt_later rfl rfl tie2 noOwnUnsafe
theorem fnExactWhensUpto_row_tie : Rows.fnExactWhensUptoRow.laidByTextAt .later Tryz.pinned [.handle, .sentinel, .data, .data, .data, .data] true :=
  OpenClaim.laidByTextAt_later rfl rfl tie noOwnUnsafe
theorem fnExactMarkedUpto_row_tie : Rows.fnExactMarkedUptoRow.laidByTextAt .later Tryz.pinned [.handle, .sentinel, .data, .data, .data, .data] true :=
  OpenClaim.laidByTextAt_later rfl rfl tie noOwnUnsafe
theorem fnExactMarksUpto_row_tie : Rows.fnExactMarksUptoRow.laidByTextAt .later Tryz.pinned [.handle, .sentinel, .data, .data, .data, .data] true :=
  OpenClaim.laidByTextAt_later rfl rfl tie noOwnUnsafe
theorem fnExactWriteUpto_row_tie : Rows.fnExactWriteUptoRow.laidByTextAt .later Tryz.pinned [.handle, .sentinel, .data, .data, .data, .data, .data, .data, .data] true :=
  OpenClaim.laidByTextAt_later rfl rfl tie2 noOwnUnsafe
theorem fnExactAllUpto_row_tie : Rows.fnExactAllUptoRow.laidByTextAt .later Tryz.pinned [.handle, .sentinel, .data, .data, .data, .data, .data, .data, .data] true :=
  OpenClaim.laidByTextAt_later rfl rfl tie2 noOwnUnsafe
theorem fnExactDoubtfulUpto_row_tie : Rows.fnExactDoubtfulUptoRow.laidByTextAt .later Tryz.pinned [.handle, .sentinel, .data, .data, .data, .data] true :=
  OpenClaim.laidByTextAt_later rfl rfl tie noOwnUnsafe
end Go.Proofs.YtdmlhiailjnhcaaGreatDoor
