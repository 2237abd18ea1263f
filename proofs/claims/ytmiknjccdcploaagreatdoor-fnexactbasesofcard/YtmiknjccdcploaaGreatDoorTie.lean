/-
  DERIVED. GIVEN WITH THE SEED: THE PROGRAM's TIES (one call each: nine closed facts by the kernel) AND EACH ROW's TIE, after the 31st guide's Derived/Test/Toyas{Tie, Card}.lean. No idea stands in it: it is a product of the set-up. Laid BY PROGRAM, IN A SANDBOX (cutbox-door.mjs). By AI agents, Wed Nov 11 2026. No macro, syntax, notation, axiom, sorry.
-/
import Derived.Test.YtmiknjccdcploaaGreatDoorRows
import Derived.LaidByTextLater
import Derived.SevenTiedAt
import Derived.LaidSub
import Derived.LaidOnce
namespace Go.Proofs.YtmiknjccdcploaaGreatDoor
open Go
set_option maxRecDepth 100000
theorem seatTie1 : Tryz.prog.laidByTextLater [("errors.errorType", Rows.laid_errors_errorType), ("loop.example/g00652/impl.shaFirst", Rows.laid_loop_example_g00652_impl_shaFirst), ("loop.example/g00652/impl.shaRounds", Rows.laid_loop_example_g00652_impl_shaRounds), ("loop.example/g00652/impl.errNoCommit", Rows.laid_loop_example_g00652_impl_errNoCommit), ("loop.example/g00652/impl.errNotRight", Rows.laid_loop_example_g00652_impl_errNotRight)] [.handle, .data, .data, .sentinel, .sentinel] true :=
  Program.laidByTextLater_by_one 64 8 65 (by kernel_rfl) (by kernel_rfl) (by kernel_rfl) (by kernel_rfl) (by kernel_rfl) (by kernel_rfl) (fun _ _ => by kernel_rfl)
theorem noOwnUnsafe : Tryz.pinned.checked.prog.headLifts.contains "ownunsafe" = false := by kernel_rfl
theorem tie : Tryz.prog.laidByTextLater [("loop.example/g00652/impl.shaFirst", Rows.laid_loop_example_g00652_impl_shaFirst), ("loop.example/g00652/impl.shaRounds", Rows.laid_loop_example_g00652_impl_shaRounds), ("loop.example/g00652/impl.errNoCommit", Rows.laid_loop_example_g00652_impl_errNoCommit)] [.data, .data, .sentinel] true :=
  Program.laidByTextLater.sub seatTie1 ["loop.example/g00652/impl.shaFirst", "loop.example/g00652/impl.shaRounds", "loop.example/g00652/impl.errNoCommit"] (by kernel_rfl) (by kernel_rfl)
theorem fnExactBasesOf_row_tie : Rows.fnExactBasesOfRow.laidByTextAt .later Tryz.pinned [.data, .data, .sentinel] true :=
  OpenClaim.laidByTextAt_later rfl rfl tie noOwnUnsafe
theorem fnExactForward_row_tie : Rows.fnExactForwardRow.laidByTextAt .later Tryz.pinned [.data, .data, .sentinel] true :=
  OpenClaim.laidByTextAt_later rfl rfl tie noOwnUnsafe
theorem fnExactReached_row_tie : Rows.fnExactReachedRow.laidByTextAt .later Tryz.pinned [.data, .data, .sentinel] true :=
  OpenClaim.laidByTextAt_later rfl rfl tie noOwnUnsafe
theorem fnExactSwept_row_tie : Rows.fnExactSweptRow.laidByTextAt .later Tryz.pinned [.data, .data, .sentinel] true :=
  OpenClaim.laidByTextAt_later rfl rfl tie noOwnUnsafe
theorem fnExactMissing_row_tie : Rows.fnExactMissingRow.laidByTextAt .later Tryz.pinned [.data, .data, .sentinel] true :=
  OpenClaim.laidByTextAt_later rfl rfl tie noOwnUnsafe
theorem fnExactWanted_row_tie : Rows.fnExactWantedRow.laidByTextAt .later Tryz.pinned [.data, .data, .sentinel] true :=
  OpenClaim.laidByTextAt_later rfl rfl tie noOwnUnsafe
theorem fnExactFetched_row_tie : Rows.fnExactFetchedRow.laidByTextAt .later Tryz.pinned [.data, .data, .sentinel] true :=
  OpenClaim.laidByTextAt_later rfl rfl tie noOwnUnsafe
theorem fnExactCommitted_row_tie : Rows.fnExactCommittedRow.laidByTextAt .later Tryz.pinned [.data, .data, .sentinel] true :=
  OpenClaim.laidByTextAt_later rfl rfl tie noOwnUnsafe
theorem tie2 : Tryz.prog.laidByTextLater [("errors.errorType", Rows.laid_errors_errorType), ("loop.example/g00652/impl.shaFirst", Rows.laid_loop_example_g00652_impl_shaFirst), ("loop.example/g00652/impl.shaRounds", Rows.laid_loop_example_g00652_impl_shaRounds), ("loop.example/g00652/impl.errNoCommit", Rows.laid_loop_example_g00652_impl_errNoCommit), ("loop.example/g00652/impl.errNotRight", Rows.laid_loop_example_g00652_impl_errNotRight)] [.handle, .data, .data, .sentinel, .sentinel] true :=
  Program.laidByTextLater.sub seatTie1 ["errors.errorType", "loop.example/g00652/impl.shaFirst", "loop.example/g00652/impl.shaRounds", "loop.example/g00652/impl.errNoCommit", "loop.example/g00652/impl.errNotRight"] (by kernel_rfl) (by kernel_rfl)
theorem fnExactMergeCommit_row_tie : Rows.fnExactMergeCommitRow.laidByTextAt .later Tryz.pinned [.handle, .data, .data, .sentinel, .sentinel] true :=
  OpenClaim.laidByTextAt_later rfl rfl tie2 noOwnUnsafe
theorem tie3 : Tryz.prog.laidByTextLater [("loop.example/g00652/impl.shaFirst", Rows.laid_loop_example_g00652_impl_shaFirst), ("loop.example/g00652/impl.shaRounds", Rows.laid_loop_example_g00652_impl_shaRounds), ("loop.example/g00652/impl.errNoCommit", Rows.laid_loop_example_g00652_impl_errNoCommit), ("loop.example/g00652/impl.errNotRight", Rows.laid_loop_example_g00652_impl_errNotRight)] [.data, .data, .sentinel, .sentinel] true :=
  Program.laidByTextLater.sub seatTie1 ["loop.example/g00652/impl.shaFirst", "loop.example/g00652/impl.shaRounds", "loop.example/g00652/impl.errNoCommit", "loop.example/g00652/impl.errNotRight"] (by kernel_rfl) (by kernel_rfl)
theorem fnExactPickOf_row_tie : Rows.fnExactPickOfRow.laidByTextAt .later Tryz.pinned [.data, .data, .sentinel, .sentinel] true :=
  OpenClaim.laidByTextAt_later rfl rfl tie3 noOwnUnsafe
theorem fnExactPicked_row_tie : Rows.fnExactPickedRow.laidByTextAt .later Tryz.pinned [.data, .data, .sentinel, .sentinel] true :=
  OpenClaim.laidByTextAt_later rfl rfl tie3 noOwnUnsafe
theorem fnExactReverted_row_tie : Rows.fnExactRevertedRow.laidByTextAt .later Tryz.pinned [.data, .data, .sentinel, .sentinel] true :=
  OpenClaim.laidByTextAt_later rfl rfl tie3 noOwnUnsafe
theorem fnExactRebased_row_tie : Rows.fnExactRebasedRow.laidByTextAt .later Tryz.pinned [.data, .data, .sentinel, .sentinel] true :=
  OpenClaim.laidByTextAt_later rfl rfl tie3 noOwnUnsafe
theorem fnExactBlameOf_row_tie : Rows.fnExactBlameOfRow.laidByTextAt .later Tryz.pinned [.data, .data, .sentinel, .sentinel] true :=
  OpenClaim.laidByTextAt_later rfl rfl tie3 noOwnUnsafe
theorem fnExactBasesOfUpto_row_tie : Rows.fnExactBasesOfUptoRow.laidByTextAt .later Tryz.pinned [.data, .data, .sentinel] true :=
  OpenClaim.laidByTextAt_later rfl rfl tie noOwnUnsafe
theorem fnExactMergeCommitUpto_row_tie : Rows.fnExactMergeCommitUptoRow.laidByTextAt .later Tryz.pinned [.handle, .data, .data, .sentinel, .sentinel] true :=
  OpenClaim.laidByTextAt_later rfl rfl tie2 noOwnUnsafe
theorem fnExactForwardUpto_row_tie : Rows.fnExactForwardUptoRow.laidByTextAt .later Tryz.pinned [.data, .data, .sentinel] true :=
  OpenClaim.laidByTextAt_later rfl rfl tie noOwnUnsafe
theorem fnExactReachedUpto_row_tie : Rows.fnExactReachedUptoRow.laidByTextAt .later Tryz.pinned [.data, .data, .sentinel] true :=
  OpenClaim.laidByTextAt_later rfl rfl tie noOwnUnsafe
theorem fnExactSweptUpto_row_tie : Rows.fnExactSweptUptoRow.laidByTextAt .later Tryz.pinned [.data, .data, .sentinel] true :=
  OpenClaim.laidByTextAt_later rfl rfl tie noOwnUnsafe
theorem fnExactMissingUpto_row_tie : Rows.fnExactMissingUptoRow.laidByTextAt .later Tryz.pinned [.data, .data, .sentinel] true :=
  OpenClaim.laidByTextAt_later rfl rfl tie noOwnUnsafe
theorem fnExactWantedUpto_row_tie : Rows.fnExactWantedUptoRow.laidByTextAt .later Tryz.pinned [.data, .data, .sentinel] true :=
  OpenClaim.laidByTextAt_later rfl rfl tie noOwnUnsafe
theorem fnExactFetchedUpto_row_tie : Rows.fnExactFetchedUptoRow.laidByTextAt .later Tryz.pinned [.data, .data, .sentinel] true :=
  OpenClaim.laidByTextAt_later rfl rfl tie noOwnUnsafe
theorem fnExactPickOfUpto_row_tie : Rows.fnExactPickOfUptoRow.laidByTextAt .later Tryz.pinned [.data, .data, .sentinel, .sentinel] true :=
  OpenClaim.laidByTextAt_later rfl rfl tie3 noOwnUnsafe
theorem fnExactPickedUpto_row_tie : Rows.fnExactPickedUptoRow.laidByTextAt .later Tryz.pinned [.data, .data, .sentinel, .sentinel] true :=
  OpenClaim.laidByTextAt_later rfl rfl tie3 noOwnUnsafe
theorem fnExactRevertedUpto_row_tie : Rows.fnExactRevertedUptoRow.laidByTextAt .later Tryz.pinned [.data, .data, .sentinel, .sentinel] true :=
  OpenClaim.laidByTextAt_later rfl rfl tie3 noOwnUnsafe
theorem fnExactRebasedUpto_row_tie : Rows.fnExactRebasedUptoRow.laidByTextAt .later Tryz.pinned [.data, .data, .sentinel, .sentinel] true :=
  OpenClaim.laidByTextAt_later rfl rfl tie3 noOwnUnsafe
theorem fnExactBlameOfUpto_row_tie : Rows.fnExactBlameOfUptoRow.laidByTextAt .later Tryz.pinned [.data, .data, .sentinel, .sentinel] true :=
  OpenClaim.laidByTextAt_later rfl rfl tie3 noOwnUnsafe
theorem fnExactCommittedUpto_row_tie : Rows.fnExactCommittedUptoRow.laidByTextAt .later Tryz.pinned [.data, .data, .sentinel] true :=
  OpenClaim.laidByTextAt_later rfl rfl tie noOwnUnsafe
end Go.Proofs.YtmiknjccdcploaaGreatDoor
