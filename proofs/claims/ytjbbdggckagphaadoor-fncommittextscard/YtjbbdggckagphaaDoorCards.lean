/-
  DERIVED. GIVEN WITH THE SEED: THE CARDS: each row of YtjbbdggckagphaaDoorRows.lean that lists a variable, with what it lists TIED to the program's text (the seventh form; the later family's looks); each row that meets fmt, with fmt's text TOLD by the authors' own Lean function (tested against real Go, not proved from fmt's source: count such statements apart). THE CARD IS WHAT COUNTS. Prove the row's statement (the work); the ties are given (YtjbbdggckagphaaDoorTie.lean); close each card by the builder's one call (the guide's Derived/Test/ToyasCard.lean, 'card_holds'). Laid BY PROGRAM, IN A SANDBOX (cutbox-door.mjs). By AI agents, Wed Nov 11 2026. No macro, syntax, notation, axiom, sorry.
-/
import Derived.Test.YtjbbdggckagphaaDoorRows
import GoSem.ClaimSeven
namespace Go.Proofs.YtjbbdggckagphaaDoor
namespace Rows

/-- THE TIED CARD OF 'laws.FnCommitTexts'. -/
def fnCommitTextsCard : Claim7 := { stood := { row := fnCommitTextsRow, standIns := [], harness := (true, "7a63e301a41bdb93585ea1e966c5142b2f58e7bfb5ddb6893dadc32139d77412"), looks := false }, kinds := [], alts := [], laidByText := true, laidKinds := [.sentinel], laidTests := true, laidLooks := .later }
def FnCommitTextsCardSaid : Prop := Claim7.holds Tryd.pinned (.plain (OpenSpec.ofChange fnCommitTextsSpec)) fnCommitTextsCard

/-- THE SECOND FORM's CARD OF 'laws.FnCommitTexts'. -/
def fnCommitTextsUptoCard : Claim7 := { stood := { row := fnCommitTextsUptoRow, standIns := [], harness := (true, "7a63e301a41bdb93585ea1e966c5142b2f58e7bfb5ddb6893dadc32139d77412"), looks := false }, kinds := [], alts := [], laidByText := true, laidKinds := [.sentinel], laidTests := true, laidLooks := .later }
def FnCommitTextsUptoCardSaid : Prop := Claim7.holds Tryd.pinned (.plain (OpenSpec.upto fnCommitTextsSpec)) fnCommitTextsUptoCard
end Rows
end Go.Proofs.YtjbbdggckagphaaDoor
