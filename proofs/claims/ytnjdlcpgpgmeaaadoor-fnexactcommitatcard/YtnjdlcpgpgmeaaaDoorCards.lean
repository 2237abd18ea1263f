/-
  DERIVED. GIVEN WITH THE SEED: THE CARDS: each row of YtnjdlcpgpgmeaaaDoorRows.lean that lists a variable, with what it lists TIED to the program's text (the seventh form; the later family's looks); each row that meets fmt, with fmt's text TOLD by the authors' own Lean function (tested against real Go, not proved from fmt's source: count such statements apart). THE CARD IS WHAT COUNTS. Prove the row's statement (the work); the ties are given (YtnjdlcpgpgmeaaaDoorTie.lean); close each card by the builder's one call (the guide's Derived/Test/ToyasCard.lean, 'card_holds'). Laid BY PROGRAM, IN A SANDBOX (cutbox-door.mjs). By AI agents, Wed Nov 11 2026. No macro, syntax, notation, axiom, sorry.
-/
import Derived.Test.YtnjdlcpgpgmeaaaDoorRows
import GoSem.ClaimSeven
namespace Go.Proofs.YtnjdlcpgpgmeaaaDoor
namespace Rows

/-- THE TIED CARD OF 'laws.FnExactCommitAt'. -/
def fnExactCommitAtCard : Claim7 := { stood := { row := fnExactCommitAtRow, standIns := [], harness := (true, "fffad587de44a8ef8286d924bfbad4d1b93527694beb9f4bc9cc37ded19f8034"), looks := false }, kinds := [], alts := [], laidByText := true, laidKinds := [.data, .data, .sentinel], laidTests := true, laidLooks := .later }
def FnExactCommitAtCardSaid : Prop := Claim7.holds Tryd.pinned (.plain (OpenSpec.ofChange fnExactCommitAtSpec)) fnExactCommitAtCard

/-- THE TIED CARD OF 'laws.FnExactReadCommit'. -/
def fnExactReadCommitCard : Claim7 := { stood := { row := fnExactReadCommitRow, standIns := [], harness := (true, "fffad587de44a8ef8286d924bfbad4d1b93527694beb9f4bc9cc37ded19f8034"), looks := false }, kinds := [], alts := [], laidByText := true, laidKinds := [.sentinel], laidTests := true, laidLooks := .later }
def FnExactReadCommitCardSaid : Prop := Claim7.holds Tryd.pinned (.plain (OpenSpec.ofChange fnExactReadCommitSpec)) fnExactReadCommitCard

/-- THE TIED CARD OF 'laws.FnExactFind'. -/
def fnExactFindCard : Claim7 := { stood := { row := fnExactFindRow, standIns := [], harness := (true, "fffad587de44a8ef8286d924bfbad4d1b93527694beb9f4bc9cc37ded19f8034"), looks := false }, kinds := [], alts := [], laidByText := true, laidKinds := [.data, .data], laidTests := true, laidLooks := .later }
def FnExactFindCardSaid : Prop := Claim7.holds Tryd.pinned (.plain (OpenSpec.ofChange fnExactFindSpec)) fnExactFindCard

/-- THE SECOND FORM's CARD OF 'laws.FnExactCommitAt'. -/
def fnExactCommitAtUptoCard : Claim7 := { stood := { row := fnExactCommitAtUptoRow, standIns := [], harness := (true, "fffad587de44a8ef8286d924bfbad4d1b93527694beb9f4bc9cc37ded19f8034"), looks := false }, kinds := [], alts := [], laidByText := true, laidKinds := [.data, .data, .sentinel], laidTests := true, laidLooks := .later }
def FnExactCommitAtUptoCardSaid : Prop := Claim7.holds Tryd.pinned (.plain (OpenSpec.upto fnExactCommitAtSpec)) fnExactCommitAtUptoCard

/-- THE SECOND FORM's CARD OF 'laws.FnExactReadCommit'. -/
def fnExactReadCommitUptoCard : Claim7 := { stood := { row := fnExactReadCommitUptoRow, standIns := [], harness := (true, "fffad587de44a8ef8286d924bfbad4d1b93527694beb9f4bc9cc37ded19f8034"), looks := false }, kinds := [], alts := [], laidByText := true, laidKinds := [.sentinel], laidTests := true, laidLooks := .later }
def FnExactReadCommitUptoCardSaid : Prop := Claim7.holds Tryd.pinned (.plain (OpenSpec.upto fnExactReadCommitSpec)) fnExactReadCommitUptoCard

/-- THE SECOND FORM's CARD OF 'laws.FnExactFind'. -/
def fnExactFindUptoCard : Claim7 := { stood := { row := fnExactFindUptoRow, standIns := [], harness := (true, "fffad587de44a8ef8286d924bfbad4d1b93527694beb9f4bc9cc37ded19f8034"), looks := false }, kinds := [], alts := [], laidByText := true, laidKinds := [.data, .data], laidTests := true, laidLooks := .later }
def FnExactFindUptoCardSaid : Prop := Claim7.holds Tryd.pinned (.plain (OpenSpec.upto fnExactFindSpec)) fnExactFindUptoCard
end Rows
end Go.Proofs.YtnjdlcpgpgmeaaaDoor
