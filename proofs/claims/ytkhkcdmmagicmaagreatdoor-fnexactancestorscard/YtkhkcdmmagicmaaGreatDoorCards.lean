/-
  DERIVED. GIVEN WITH THE SEED: THE CARDS: each row of YtkhkcdmmagicmaaGreatDoorRows.lean that lists a variable, with what it lists TIED to the program's text (the seventh form; the later family's looks); each row that meets fmt, with fmt's text TOLD by the authors' own Lean function (tested against real Go, not proved from fmt's source: count such statements apart). THE CARD IS WHAT COUNTS. Prove the row's statement (the work); the ties are given (YtkhkcdmmagicmaaGreatDoorTie.lean); close each card by the builder's one call (the guide's Derived/Test/ToyasCard.lean, 'card_holds'). Laid BY PROGRAM, IN A SANDBOX (cutbox-door.mjs). By AI agents, Wed Nov 11 2026. No macro, syntax, notation, axiom, sorry.
-/
import Derived.Test.YtkhkcdmmagicmaaGreatDoorRows
import GoSem.ClaimSeven
namespace Go.Proofs.YtkhkcdmmagicmaaGreatDoor
namespace Rows

/-- THE TIED CARD OF 'laws.FnExactCommitted'. -/
def fnExactCommittedCard : Claim7 := { stood := { row := fnExactCommittedRow, standIns := [], harness := (true, "755c3abdcd03cab6f9a6d7bd7d0bf576f59ea04fa83ab0ff165a5bebc4e9729d"), looks := false }, kinds := [], alts := [], laidByText := true, laidKinds := [.data, .data, .sentinel], laidTests := true, laidLooks := .later }
def FnExactCommittedCardSaid : Prop := Claim7.holds Tryz.pinned (.plain (OpenSpec.ofChange fnExactCommittedSpec)) fnExactCommittedCard

/-- THE TIED CARD OF 'laws.FnExactAncestors'. -/
def fnExactAncestorsCard : Claim7 := { stood := { row := fnExactAncestorsRow, standIns := [], harness := (true, "755c3abdcd03cab6f9a6d7bd7d0bf576f59ea04fa83ab0ff165a5bebc4e9729d"), looks := false }, kinds := [], alts := [], laidByText := true, laidKinds := [.data, .data, .sentinel], laidTests := true, laidLooks := .later }
def FnExactAncestorsCardSaid : Prop := Claim7.holds Tryz.pinned (.plain (OpenSpec.ofChange fnExactAncestorsSpec)) fnExactAncestorsCard

/-- THE TIED CARD OF 'laws.FnExactBasesOf'. -/
def fnExactBasesOfCard : Claim7 := { stood := { row := fnExactBasesOfRow, standIns := [], harness := (true, "755c3abdcd03cab6f9a6d7bd7d0bf576f59ea04fa83ab0ff165a5bebc4e9729d"), looks := false }, kinds := [], alts := [], laidByText := true, laidKinds := [.data, .data, .sentinel], laidTests := true, laidLooks := .later }
def FnExactBasesOfCardSaid : Prop := Claim7.holds Tryz.pinned (.plain (OpenSpec.ofChange fnExactBasesOfSpec)) fnExactBasesOfCard

/-- THE SECOND FORM's CARD OF 'laws.FnExactCommitted'. -/
def fnExactCommittedUptoCard : Claim7 := { stood := { row := fnExactCommittedUptoRow, standIns := [], harness := (true, "755c3abdcd03cab6f9a6d7bd7d0bf576f59ea04fa83ab0ff165a5bebc4e9729d"), looks := false }, kinds := [], alts := [], laidByText := true, laidKinds := [.data, .data, .sentinel], laidTests := true, laidLooks := .later }
def FnExactCommittedUptoCardSaid : Prop := Claim7.holds Tryz.pinned (.plain (OpenSpec.upto fnExactCommittedSpec)) fnExactCommittedUptoCard

/-- THE SECOND FORM's CARD OF 'laws.FnExactAncestors'. -/
def fnExactAncestorsUptoCard : Claim7 := { stood := { row := fnExactAncestorsUptoRow, standIns := [], harness := (true, "755c3abdcd03cab6f9a6d7bd7d0bf576f59ea04fa83ab0ff165a5bebc4e9729d"), looks := false }, kinds := [], alts := [], laidByText := true, laidKinds := [.data, .data, .sentinel], laidTests := true, laidLooks := .later }
def FnExactAncestorsUptoCardSaid : Prop := Claim7.holds Tryz.pinned (.plain (OpenSpec.upto fnExactAncestorsSpec)) fnExactAncestorsUptoCard

/-- THE SECOND FORM's CARD OF 'laws.FnExactBasesOf'. -/
def fnExactBasesOfUptoCard : Claim7 := { stood := { row := fnExactBasesOfUptoRow, standIns := [], harness := (true, "755c3abdcd03cab6f9a6d7bd7d0bf576f59ea04fa83ab0ff165a5bebc4e9729d"), looks := false }, kinds := [], alts := [], laidByText := true, laidKinds := [.data, .data, .sentinel], laidTests := true, laidLooks := .later }
def FnExactBasesOfUptoCardSaid : Prop := Claim7.holds Tryz.pinned (.plain (OpenSpec.upto fnExactBasesOfSpec)) fnExactBasesOfUptoCard
end Rows
end Go.Proofs.YtkhkcdmmagicmaaGreatDoor
