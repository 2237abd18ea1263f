/-
  DERIVED. GIVEN WITH THE SEED: THE PROGRAM's TIES (one call each: nine closed facts by the kernel) AND EACH ROW's TIE, after the 31st guide's Derived/Test/Toyas{Tie, Card}.lean. No idea stands in it: it is a product of the set-up. Laid BY PROGRAM, IN A SANDBOX (cutbox-door.mjs). By AI agents, Wed Nov 11 2026. No macro, syntax, notation, axiom, sorry.
-/
import Derived.Test.YtnjdlcpgpgmeaaaDoorRows
import Derived.LaidByTextLater
import Derived.SevenTiedAt
import Derived.LaidSub
import Derived.LaidOnce
namespace Go.Proofs.YtnjdlcpgpgmeaaaDoor
open Go
set_option maxRecDepth 100000
theorem seatTie1 : Tryd.prog.laidByTextLater [("loop.example/g00652/impl.shaFirst", Rows.laid_loop_example_g00652_impl_shaFirst), ("loop.example/g00652/impl.shaRounds", Rows.laid_loop_example_g00652_impl_shaRounds), ("loop.example/g00652/impl.errNoCommit", Rows.laid_loop_example_g00652_impl_errNoCommit)] [.data, .data, .sentinel] true :=
  Program.laidByTextLater_by_one 38 8 65 (by kernel_rfl) (by kernel_rfl) (by kernel_rfl) (by kernel_rfl) (by kernel_rfl) (by kernel_rfl) (fun _ _ => by kernel_rfl)
theorem noOwnUnsafe : Tryd.pinned.checked.prog.headLifts.contains "ownunsafe" = false := by kernel_rfl
theorem tie : Tryd.prog.laidByTextLater [("loop.example/g00652/impl.shaFirst", Rows.laid_loop_example_g00652_impl_shaFirst), ("loop.example/g00652/impl.shaRounds", Rows.laid_loop_example_g00652_impl_shaRounds), ("loop.example/g00652/impl.errNoCommit", Rows.laid_loop_example_g00652_impl_errNoCommit)] [.data, .data, .sentinel] true :=
  Program.laidByTextLater.sub seatTie1 ["loop.example/g00652/impl.shaFirst", "loop.example/g00652/impl.shaRounds", "loop.example/g00652/impl.errNoCommit"] (by kernel_rfl) (by kernel_rfl)
theorem fnExactCommitAt_row_tie : Rows.fnExactCommitAtRow.laidByTextAt .later Tryd.pinned [.data, .data, .sentinel] true :=
  OpenClaim.laidByTextAt_later rfl rfl tie noOwnUnsafe
theorem tie2 : Tryd.prog.laidByTextLater [("loop.example/g00652/impl.errNoCommit", Rows.laid_loop_example_g00652_impl_errNoCommit)] [.sentinel] true :=
  Program.laidByTextLater.sub seatTie1 ["loop.example/g00652/impl.errNoCommit"] (by kernel_rfl) (by kernel_rfl)
theorem fnExactReadCommit_row_tie : Rows.fnExactReadCommitRow.laidByTextAt .later Tryd.pinned [.sentinel] true :=
  OpenClaim.laidByTextAt_later rfl rfl tie2 noOwnUnsafe
theorem tie3 : Tryd.prog.laidByTextLater [("loop.example/g00652/impl.shaFirst", Rows.laid_loop_example_g00652_impl_shaFirst), ("loop.example/g00652/impl.shaRounds", Rows.laid_loop_example_g00652_impl_shaRounds)] [.data, .data] true :=
  Program.laidByTextLater.sub seatTie1 ["loop.example/g00652/impl.shaFirst", "loop.example/g00652/impl.shaRounds"] (by kernel_rfl) (by kernel_rfl)
theorem fnExactFind_row_tie : Rows.fnExactFindRow.laidByTextAt .later Tryd.pinned [.data, .data] true :=
  OpenClaim.laidByTextAt_later rfl rfl tie3 noOwnUnsafe
theorem fnExactCommitAtUpto_row_tie : Rows.fnExactCommitAtUptoRow.laidByTextAt .later Tryd.pinned [.data, .data, .sentinel] true :=
  OpenClaim.laidByTextAt_later rfl rfl tie noOwnUnsafe
theorem fnExactReadCommitUpto_row_tie : Rows.fnExactReadCommitUptoRow.laidByTextAt .later Tryd.pinned [.sentinel] true :=
  OpenClaim.laidByTextAt_later rfl rfl tie2 noOwnUnsafe
theorem fnExactFindUpto_row_tie : Rows.fnExactFindUptoRow.laidByTextAt .later Tryd.pinned [.data, .data] true :=
  OpenClaim.laidByTextAt_later rfl rfl tie3 noOwnUnsafe
end Go.Proofs.YtnjdlcpgpgmeaaaDoor
