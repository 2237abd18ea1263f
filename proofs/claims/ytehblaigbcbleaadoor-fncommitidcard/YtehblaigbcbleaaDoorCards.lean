/-
  DERIVED. GIVEN WITH THE SEED: THE CARDS: each row of YtehblaigbcbleaaDoorRows.lean that lists a variable, with what it lists TIED to the program's text (the seventh form; the later family's looks); each row that meets fmt, with fmt's text TOLD by the authors' own Lean function (tested against real Go, not proved from fmt's source: count such statements apart). THE CARD IS WHAT COUNTS. Prove the row's statement (the work); the ties are given (YtehblaigbcbleaaDoorTie.lean); close each card by the builder's one call (the guide's Derived/Test/ToyasCard.lean, 'card_holds'). Laid BY PROGRAM, IN A SANDBOX (cutbox-door.mjs). By AI agents, Wed Nov 11 2026. No macro, syntax, notation, axiom, sorry.
-/
import Derived.Test.YtehblaigbcbleaaDoorRows
import GoSem.ClaimSeven
namespace Go.Proofs.YtehblaigbcbleaaDoor
namespace Rows

/-- THE TIED CARD OF 'laws.FnCommitId'. -/
def fnCommitIdCard : Claim7 := { stood := { row := fnCommitIdRow, standIns := [], harness := (true, "6ed697715e3de094a5529d087255728e130ca1b2e21d0923cb46ec3e39907489"), looks := false }, kinds := [], alts := [], laidByText := true, laidKinds := [.data, .data, .sentinel], laidTests := true, laidLooks := .later }
def FnCommitIdCardSaid : Prop := Claim7.holds Tryd.pinned (.plain (OpenSpec.ofChange fnCommitIdSpec)) fnCommitIdCard

/-- THE SECOND FORM's CARD OF 'laws.FnCommitId'. -/
def fnCommitIdUptoCard : Claim7 := { stood := { row := fnCommitIdUptoRow, standIns := [], harness := (true, "6ed697715e3de094a5529d087255728e130ca1b2e21d0923cb46ec3e39907489"), looks := false }, kinds := [], alts := [], laidByText := true, laidKinds := [.data, .data, .sentinel], laidTests := true, laidLooks := .later }
def FnCommitIdUptoCardSaid : Prop := Claim7.holds Tryd.pinned (.plain (OpenSpec.upto fnCommitIdSpec)) fnCommitIdUptoCard
end Rows
end Go.Proofs.YtehblaigbcbleaaDoor
