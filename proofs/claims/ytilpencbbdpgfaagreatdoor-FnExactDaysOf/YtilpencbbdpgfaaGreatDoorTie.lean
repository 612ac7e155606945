/-
  DERIVED. GIVEN WITH THE SEED: THE PROGRAM's TIES (one call each: nine closed facts by the kernel) AND EACH ROW's TIE, after the 31st guide's Derived/Test/Toyas{Tie, Card}.lean. No idea stands in it: it is a product of the set-up. Laid BY PROGRAM, IN A SANDBOX (cutbox-door.mjs). By AI agents, Wed Nov 11 2026. No macro, syntax, notation, axiom, sorry.
-/
import Derived.Test.YtilpencbbdpgfaaGreatDoorRows
import Derived.LaidByTextLater
import Derived.SevenTiedAt
import Derived.LaidSub
import Derived.LaidOnce
namespace Go.Proofs.YtilpencbbdpgfaaGreatDoor
open Go
set_option maxRecDepth 100000
theorem seatTie1 : Tryz.prog.laidByTextLater [("math/bits.deBruijn32tab", Rows.laid_math_bits_deBruijn32tab), ("math/bits.deBruijn64tab", Rows.laid_math_bits_deBruijn64tab), ("internal/strconv.uint64pow10", Rows.laid_internal_strconv_uint64pow10), ("errors.errorType", Rows.laid_errors_errorType), ("loop.example/g00638/impl.digitShapes", Rows.laid_loop_example_g00638_impl_digitShapes), ("loop.example/g00638/impl.monthNames", Rows.laid_loop_example_g00638_impl_monthNames), ("loop.example/g00638/impl.monthLengths", Rows.laid_loop_example_g00638_impl_monthLengths), ("loop.example/g00638/impl.markNames", Rows.laid_loop_example_g00638_impl_markNames), ("loop.example/g00638/impl.errNoTable", Rows.laid_loop_example_g00638_impl_errNoTable)] [.data, .data, .data, .handle, .data, .data, .data, .data, .sentinel] true :=
  Program.laidByTextLater_by_one 70 8 65 (by kernel_rfl) (by kernel_rfl) (by kernel_rfl) (by kernel_rfl) (by kernel_rfl) (by kernel_rfl) (fun _ _ => by kernel_rfl)
theorem noOwnUnsafe : Tryz.pinned.checked.prog.headLifts.contains "ownunsafe" = false := by kernel_rfl
theorem tie : Tryz.prog.laidByTextLater [("errors.errorType", Rows.laid_errors_errorType), ("loop.example/g00638/impl.monthLengths", Rows.laid_loop_example_g00638_impl_monthLengths), ("loop.example/g00638/impl.errNoTable", Rows.laid_loop_example_g00638_impl_errNoTable)] [.handle, .data, .sentinel] true :=
  Program.laidByTextLater.sub seatTie1 ["errors.errorType", "loop.example/g00638/impl.monthLengths", "loop.example/g00638/impl.errNoTable"] (by kernel_rfl) (by kernel_rfl)
theorem fnExactReadingOf_row_tie : Rows.fnExactReadingOfRow.laidByTextAt .later Tryz.pinned [.handle, .data, .sentinel] true :=
  OpenClaim.laidByTextAt_later rfl rfl tie noOwnUnsafe
theorem fnExactDaysOf_row_tie : Rows.fnExactDaysOfRow.laidByTextAt .later Tryz.pinned [.handle, .data, .sentinel] true :=
  OpenClaim.laidByTextAt_later rfl rfl tie noOwnUnsafe
theorem fnExactShift_row_tie : Rows.fnExactShiftRow.laidByTextAt .later Tryz.pinned [.handle, .data, .sentinel] true :=
  OpenClaim.laidByTextAt_later rfl rfl tie noOwnUnsafe
theorem fnExactNextDay_row_tie : Rows.fnExactNextDayRow.laidByTextAt .later Tryz.pinned [.handle, .data, .sentinel] true :=
  OpenClaim.laidByTextAt_later rfl rfl tie noOwnUnsafe
theorem fnExactConcord_row_tie : Rows.fnExactConcordRow.laidByTextAt .later Tryz.pinned [.handle, .data, .sentinel] true :=
  OpenClaim.laidByTextAt_later rfl rfl tie noOwnUnsafe
theorem fnExactSame_row_tie : Rows.fnExactSameRow.laidByTextAt .later Tryz.pinned [.handle, .data, .sentinel] true :=
  OpenClaim.laidByTextAt_later rfl rfl tie noOwnUnsafe
theorem fnExactMeet_row_tie : Rows.fnExactMeetRow.laidByTextAt .later Tryz.pinned [.handle, .data, .sentinel] true :=
  OpenClaim.laidByTextAt_later rfl rfl tie noOwnUnsafe
theorem tie2 : Tryz.prog.laidByTextLater [("math/bits.deBruijn32tab", Rows.laid_math_bits_deBruijn32tab), ("math/bits.deBruijn64tab", Rows.laid_math_bits_deBruijn64tab), ("internal/strconv.uint64pow10", Rows.laid_internal_strconv_uint64pow10), ("errors.errorType", Rows.laid_errors_errorType), ("loop.example/g00638/impl.digitShapes", Rows.laid_loop_example_g00638_impl_digitShapes), ("loop.example/g00638/impl.monthNames", Rows.laid_loop_example_g00638_impl_monthNames), ("loop.example/g00638/impl.monthLengths", Rows.laid_loop_example_g00638_impl_monthLengths), ("loop.example/g00638/impl.markNames", Rows.laid_loop_example_g00638_impl_markNames), ("loop.example/g00638/impl.errNoTable", Rows.laid_loop_example_g00638_impl_errNoTable)] [.data, .data, .data, .handle, .data, .data, .data, .data, .sentinel] true :=
  Program.laidByTextLater.sub seatTie1 ["math/bits.deBruijn32tab", "math/bits.deBruijn64tab", "internal/strconv.uint64pow10", "errors.errorType", "loop.example/g00638/impl.digitShapes", "loop.example/g00638/impl.monthNames", "loop.example/g00638/impl.monthLengths", "loop.example/g00638/impl.markNames", "loop.example/g00638/impl.errNoTable"] (by kernel_rfl) (by kernel_rfl)
theorem fnExactRead_row_tie : Rows.fnExactReadRow.laidByTextAt .later Tryz.pinned [.data, .data, .data, .handle, .data, .data, .data, .data, .sentinel] true :=
  OpenClaim.laidByTextAt_later rfl rfl tie2 noOwnUnsafe
theorem fnExactWrite_row_tie : Rows.fnExactWriteRow.laidByTextAt .later Tryz.pinned [.data, .data, .data, .handle, .data, .data, .data, .data, .sentinel] true :=
  OpenClaim.laidByTextAt_later rfl rfl tie2 noOwnUnsafe
theorem tie3 : Tryz.prog.laidByTextLater [("math/bits.deBruijn32tab", Rows.laid_math_bits_deBruijn32tab), ("math/bits.deBruijn64tab", Rows.laid_math_bits_deBruijn64tab), ("internal/strconv.uint64pow10", Rows.laid_internal_strconv_uint64pow10), ("errors.errorType", Rows.laid_errors_errorType), ("loop.example/g00638/impl.monthLengths", Rows.laid_loop_example_g00638_impl_monthLengths), ("loop.example/g00638/impl.errNoTable", Rows.laid_loop_example_g00638_impl_errNoTable)] [.data, .data, .data, .handle, .data, .sentinel] true :=
  Program.laidByTextLater.sub seatTie1 ["math/bits.deBruijn32tab", "math/bits.deBruijn64tab", "internal/strconv.uint64pow10", "errors.errorType", "loop.example/g00638/impl.monthLengths", "loop.example/g00638/impl.errNoTable"] (by kernel_rfl) (by kernel_rfl)
theorem fnExactWhens_row_tie : Rows.fnExactWhensRow.laidByTextAt .later Tryz.pinned [.data, .data, .data, .handle, .data, .sentinel] true :=
  OpenClaim.laidByTextAt_later rfl rfl tie3 noOwnUnsafe
theorem fnExactMarked_row_tie : Rows.fnExactMarkedRow.laidByTextAt .later Tryz.pinned [.data, .data, .data, .handle, .data, .sentinel] true :=
  OpenClaim.laidByTextAt_later rfl rfl tie3 noOwnUnsafe
theorem fnExactMarks_row_tie : Rows.fnExactMarksRow.laidByTextAt .later Tryz.pinned [.data, .data, .data, .handle, .data, .sentinel] true :=
  OpenClaim.laidByTextAt_later rfl rfl tie3 noOwnUnsafe
theorem fnExactReadingOfUpto_row_tie : Rows.fnExactReadingOfUptoRow.laidByTextAt .later Tryz.pinned [.handle, .data, .sentinel] true :=
  OpenClaim.laidByTextAt_later rfl rfl tie noOwnUnsafe
theorem fnExactDaysOfUpto_row_tie : Rows.fnExactDaysOfUptoRow.laidByTextAt .later Tryz.pinned [.handle, .data, .sentinel] true :=
  OpenClaim.laidByTextAt_later rfl rfl tie noOwnUnsafe
theorem fnExactShiftUpto_row_tie : Rows.fnExactShiftUptoRow.laidByTextAt .later Tryz.pinned [.handle, .data, .sentinel] true :=
  OpenClaim.laidByTextAt_later rfl rfl tie noOwnUnsafe
theorem fnExactNextDayUpto_row_tie : Rows.fnExactNextDayUptoRow.laidByTextAt .later Tryz.pinned [.handle, .data, .sentinel] true :=
  OpenClaim.laidByTextAt_later rfl rfl tie noOwnUnsafe
theorem fnExactReadUpto_row_tie : Rows.fnExactReadUptoRow.laidByTextAt .later Tryz.pinned [.data, .data, .data, .handle, .data, .data, .data, .data, .sentinel] true :=
  OpenClaim.laidByTextAt_later rfl rfl tie2 noOwnUnsafe
theorem fnExactWhensUpto_row_tie : Rows.fnExactWhensUptoRow.laidByTextAt .later Tryz.pinned [.data, .data, .data, .handle, .data, .sentinel] true :=
  OpenClaim.laidByTextAt_later rfl rfl tie3 noOwnUnsafe
theorem fnExactMarkedUpto_row_tie : Rows.fnExactMarkedUptoRow.laidByTextAt .later Tryz.pinned [.data, .data, .data, .handle, .data, .sentinel] true :=
  OpenClaim.laidByTextAt_later rfl rfl tie3 noOwnUnsafe
theorem fnExactMarksUpto_row_tie : Rows.fnExactMarksUptoRow.laidByTextAt .later Tryz.pinned [.data, .data, .data, .handle, .data, .sentinel] true :=
  OpenClaim.laidByTextAt_later rfl rfl tie3 noOwnUnsafe
theorem fnExactWriteUpto_row_tie : Rows.fnExactWriteUptoRow.laidByTextAt .later Tryz.pinned [.data, .data, .data, .handle, .data, .data, .data, .data, .sentinel] true :=
  OpenClaim.laidByTextAt_later rfl rfl tie2 noOwnUnsafe
theorem fnExactConcordUpto_row_tie : Rows.fnExactConcordUptoRow.laidByTextAt .later Tryz.pinned [.handle, .data, .sentinel] true :=
  OpenClaim.laidByTextAt_later rfl rfl tie noOwnUnsafe
theorem fnExactSameUpto_row_tie : Rows.fnExactSameUptoRow.laidByTextAt .later Tryz.pinned [.handle, .data, .sentinel] true :=
  OpenClaim.laidByTextAt_later rfl rfl tie noOwnUnsafe
theorem fnExactMeetUpto_row_tie : Rows.fnExactMeetUptoRow.laidByTextAt .later Tryz.pinned [.handle, .data, .sentinel] true :=
  OpenClaim.laidByTextAt_later rfl rfl tie noOwnUnsafe
end Go.Proofs.YtilpencbbdpgfaaGreatDoor
