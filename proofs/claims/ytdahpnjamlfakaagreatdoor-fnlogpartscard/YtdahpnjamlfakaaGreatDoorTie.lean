/-
  DERIVED. GIVEN WITH THE SEED: THE PROGRAM's TIES (one call each: nine closed facts by the kernel) AND EACH ROW's TIE, after the 31st guide's Derived/Test/Toyas{Tie, Card}.lean. No idea stands in it: it is a product of the set-up. Laid BY PROGRAM, IN A SANDBOX (cutbox-door.mjs). By AI agents, Wed Nov 11 2026. No macro, syntax, notation, axiom, sorry.
-/
import Derived.Test.YtdahpnjamlfakaaGreatDoorRows
import Derived.LaidByTextLater
import Derived.SevenTiedAt
import Derived.LaidSub
import Derived.LaidOnce
namespace Go.Proofs.YtdahpnjamlfakaaGreatDoor
open Go
set_option maxRecDepth 100000
theorem seatTie1 : Tryz.prog.laidByTextLater [("loop.example/g00652/impl.shaFirst", Rows.laid_loop_example_g00652_impl_shaFirst), ("loop.example/g00652/impl.shaRounds", Rows.laid_loop_example_g00652_impl_shaRounds), ("loop.example/g00652/impl.errNoCommit", Rows.laid_loop_example_g00652_impl_errNoCommit)] [.data, .data, .sentinel] true :=
  Program.laidByTextLater_by_one 38 8 65 (by kernel_rfl) (by kernel_rfl) (by kernel_rfl) (by kernel_rfl) (by kernel_rfl) (by kernel_rfl) (fun _ _ => by kernel_rfl)
theorem noOwnUnsafe : Tryz.pinned.checked.prog.headLifts.contains "ownunsafe" = false := by kernel_rfl
theorem tie : Tryz.prog.laidByTextLater [("loop.example/g00652/impl.shaFirst", Rows.laid_loop_example_g00652_impl_shaFirst), ("loop.example/g00652/impl.shaRounds", Rows.laid_loop_example_g00652_impl_shaRounds), ("loop.example/g00652/impl.errNoCommit", Rows.laid_loop_example_g00652_impl_errNoCommit)] [.data, .data, .sentinel] true :=
  Program.laidByTextLater.sub seatTie1 ["loop.example/g00652/impl.shaFirst", "loop.example/g00652/impl.shaRounds", "loop.example/g00652/impl.errNoCommit"] (by kernel_rfl) (by kernel_rfl)
theorem fnDepths_row_tie : Rows.fnDepthsRow.laidByTextAt .later Tryz.pinned [.data, .data, .sentinel] true :=
  OpenClaim.laidByTextAt_later rfl rfl tie noOwnUnsafe
theorem fnLog_row_tie : Rows.fnLogRow.laidByTextAt .later Tryz.pinned [.data, .data, .sentinel] true :=
  OpenClaim.laidByTextAt_later rfl rfl tie noOwnUnsafe
theorem fnDeeper_row_tie : Rows.fnDeeperRow.laidByTextAt .later Tryz.pinned [.data, .data, .sentinel] true :=
  OpenClaim.laidByTextAt_later rfl rfl tie noOwnUnsafe
theorem fnLogParts_row_tie : Rows.fnLogPartsRow.laidByTextAt .later Tryz.pinned [.data, .data, .sentinel] true :=
  OpenClaim.laidByTextAt_later rfl rfl tie noOwnUnsafe
theorem fnBehindNew_row_tie : Rows.fnBehindNewRow.laidByTextAt .later Tryz.pinned [.data, .data, .sentinel] true :=
  OpenClaim.laidByTextAt_later rfl rfl tie noOwnUnsafe
theorem fnDepthsUpto_row_tie : Rows.fnDepthsUptoRow.laidByTextAt .later Tryz.pinned [.data, .data, .sentinel] true :=
  OpenClaim.laidByTextAt_later rfl rfl tie noOwnUnsafe
theorem fnLogUpto_row_tie : Rows.fnLogUptoRow.laidByTextAt .later Tryz.pinned [.data, .data, .sentinel] true :=
  OpenClaim.laidByTextAt_later rfl rfl tie noOwnUnsafe
theorem fnDeeperUpto_row_tie : Rows.fnDeeperUptoRow.laidByTextAt .later Tryz.pinned [.data, .data, .sentinel] true :=
  OpenClaim.laidByTextAt_later rfl rfl tie noOwnUnsafe
theorem fnLogPartsUpto_row_tie : Rows.fnLogPartsUptoRow.laidByTextAt .later Tryz.pinned [.data, .data, .sentinel] true :=
  OpenClaim.laidByTextAt_later rfl rfl tie noOwnUnsafe
theorem fnBehindNewUpto_row_tie : Rows.fnBehindNewUptoRow.laidByTextAt .later Tryz.pinned [.data, .data, .sentinel] true :=
  OpenClaim.laidByTextAt_later rfl rfl tie noOwnUnsafe
end Go.Proofs.YtdahpnjamlfakaaGreatDoor
