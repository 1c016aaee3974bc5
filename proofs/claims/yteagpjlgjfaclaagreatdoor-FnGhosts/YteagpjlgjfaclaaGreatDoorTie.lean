/-
  DERIVED. GIVEN WITH THE SEED: THE PROGRAM's TIES (one call each: nine closed facts by the kernel) AND EACH ROW's TIE, after the 31st guide's Derived/Test/Toyas{Tie, Card}.lean. No idea stands in it: it is a product of the set-up. Laid BY PROGRAM, IN A SANDBOX (cutbox-door.mjs). By AI agents, Wed Nov 11 2026. No macro, syntax, notation, axiom, sorry.
-/
import Derived.Test.YteagpjlgjfaclaaGreatDoorRows
import Derived.LaidByTextLater
import Derived.SevenTiedAt
import Derived.LaidSub
import Derived.LaidOnce
namespace Go.Proofs.YteagpjlgjfaclaaGreatDoor
open Go
set_option maxRecDepth 100000
theorem seatTie1 : Tryz.prog.laidByTextLater [("errors.errorType", Rows.laid_errors_errorType), ("loop.example/g00185/impl.errBad", Rows.laid_loop_example_g00185_impl_errBad), ("loop.example/g00185/impl.errNone", Rows.laid_loop_example_g00185_impl_errNone), ("loop.example/g00185/impl.errKnown", Rows.laid_loop_example_g00185_impl_errKnown), ("loop.example/g00185/impl.errFull", Rows.laid_loop_example_g00185_impl_errFull), ("loop.example/g00185/impl.errState", Rows.laid_loop_example_g00185_impl_errState), ("loop.example/g00185/impl.errCycle", Rows.laid_loop_example_g00185_impl_errCycle)] [.handle, .sentinel, .sentinel, .sentinel, .sentinel, .sentinel, .sentinel] true :=
  Program.laidByTextLater_by_one 130 8 2 (by kernel_rfl) (by kernel_rfl) (by kernel_rfl) (by kernel_rfl) (by kernel_rfl) (by kernel_rfl) (fun _ _ => by kernel_rfl)
theorem noOwnUnsafe : Tryz.pinned.checked.prog.headLifts.contains "ownunsafe" = false := by kernel_rfl
theorem tie : Tryz.prog.laidByTextLater [("errors.errorType", Rows.laid_errors_errorType), ("loop.example/g00185/impl.errBad", Rows.laid_loop_example_g00185_impl_errBad), ("loop.example/g00185/impl.errNone", Rows.laid_loop_example_g00185_impl_errNone), ("loop.example/g00185/impl.errKnown", Rows.laid_loop_example_g00185_impl_errKnown), ("loop.example/g00185/impl.errFull", Rows.laid_loop_example_g00185_impl_errFull), ("loop.example/g00185/impl.errState", Rows.laid_loop_example_g00185_impl_errState), ("loop.example/g00185/impl.errCycle", Rows.laid_loop_example_g00185_impl_errCycle)] [.handle, .sentinel, .sentinel, .sentinel, .sentinel, .sentinel, .sentinel] true :=
  Program.laidByTextLater.sub seatTie1 ["errors.errorType", "loop.example/g00185/impl.errBad", "loop.example/g00185/impl.errNone", "loop.example/g00185/impl.errKnown", "loop.example/g00185/impl.errFull", "loop.example/g00185/impl.errState", "loop.example/g00185/impl.errCycle"] (by kernel_rfl) (by kernel_rfl)
theorem fnLent_row_tie : Rows.fnLentRow.laidByTextAt .later Tryz.pinned [.handle, .sentinel, .sentinel, .sentinel, .sentinel, .sentinel, .sentinel] true :=
  OpenClaim.laidByTextAt_later rfl rfl tie noOwnUnsafe
theorem fnGhosts_row_tie : Rows.fnGhostsRow.laidByTextAt .later Tryz.pinned [.handle, .sentinel, .sentinel, .sentinel, .sentinel, .sentinel, .sentinel] true :=
  OpenClaim.laidByTextAt_later rfl rfl tie noOwnUnsafe
theorem fnRefusedParts_row_tie : Rows.fnRefusedPartsRow.laidByTextAt .later Tryz.pinned [.handle, .sentinel, .sentinel, .sentinel, .sentinel, .sentinel, .sentinel] true :=
  OpenClaim.laidByTextAt_later rfl rfl tie noOwnUnsafe
theorem fnLentUpto_row_tie : Rows.fnLentUptoRow.laidByTextAt .later Tryz.pinned [.handle, .sentinel, .sentinel, .sentinel, .sentinel, .sentinel, .sentinel] true :=
  OpenClaim.laidByTextAt_later rfl rfl tie noOwnUnsafe
theorem fnGhostsUpto_row_tie : Rows.fnGhostsUptoRow.laidByTextAt .later Tryz.pinned [.handle, .sentinel, .sentinel, .sentinel, .sentinel, .sentinel, .sentinel] true :=
  OpenClaim.laidByTextAt_later rfl rfl tie noOwnUnsafe
theorem fnRefusedPartsUpto_row_tie : Rows.fnRefusedPartsUptoRow.laidByTextAt .later Tryz.pinned [.handle, .sentinel, .sentinel, .sentinel, .sentinel, .sentinel, .sentinel] true :=
  OpenClaim.laidByTextAt_later rfl rfl tie noOwnUnsafe
end Go.Proofs.YteagpjlgjfaclaaGreatDoor
