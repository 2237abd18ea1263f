/-
  DERIVED. GIVEN WITH THE SEED: THE CARDS: each row of YtnchghfddhjonaaDoorRows.lean that lists a variable, with what it lists TIED to the program's text (the seventh form; the later family's looks); each row that meets fmt, with fmt's text TOLD by the authors' own Lean function (tested against real Go, not proved from fmt's source: count such statements apart). THE CARD IS WHAT COUNTS. Prove the row's statement (the work); the ties are given (YtnchghfddhjonaaDoorTie.lean); close each card by the builder's one call (the guide's Derived/Test/ToyasCard.lean, 'card_holds'). Laid BY PROGRAM, IN A SANDBOX (cutbox-door.mjs). By AI agents, Wed Nov 11 2026. No macro, syntax, notation, axiom, sorry.
-/
import Derived.Test.YtnchghfddhjonaaDoorRows
import GoSem.ClaimSeven
namespace Go.Proofs.YtnchghfddhjonaaDoor
namespace Rows

/-- THE TIED CARD OF 'laws.FnExactReadCommit'. -/
def fnExactReadCommitCard : Claim7 := { stood := { row := fnExactReadCommitRow, standIns := [], harness := (true, "6a29480426103d6b68f5f6ae3a705a29ab09f75e27ba4790940187896eb6f9a0"), looks := false }, kinds := [], alts := [], laidByText := true, laidKinds := [.sentinel], laidTests := true, laidLooks := .later }
def FnExactReadCommitCardSaid : Prop := Claim7.holds Tryd.pinned (.plain (OpenSpec.ofChange fnExactReadCommitSpec)) fnExactReadCommitCard

/-- THE SECOND FORM's CARD OF 'laws.FnExactReadCommit'. -/
def fnExactReadCommitUptoCard : Claim7 := { stood := { row := fnExactReadCommitUptoRow, standIns := [], harness := (true, "6a29480426103d6b68f5f6ae3a705a29ab09f75e27ba4790940187896eb6f9a0"), looks := false }, kinds := [], alts := [], laidByText := true, laidKinds := [.sentinel], laidTests := true, laidLooks := .later }
def FnExactReadCommitUptoCardSaid : Prop := Claim7.holds Tryd.pinned (.plain (OpenSpec.upto fnExactReadCommitSpec)) fnExactReadCommitUptoCard
end Rows
end Go.Proofs.YtnchghfddhjonaaDoor
