/-
  DERIVED. GIVEN WITH THE SEED: THE CARDS: each row of YtmiknjccdcploaaGreatDoorRows.lean that lists a variable, with what it lists TIED to the program's text (the seventh form; the later family's looks); each row that meets fmt, with fmt's text TOLD by the authors' own Lean function (tested against real Go, not proved from fmt's source: count such statements apart). THE CARD IS WHAT COUNTS. Prove the row's statement (the work); the ties are given (YtmiknjccdcploaaGreatDoorTie.lean); close each card by the builder's one call (the guide's Derived/Test/ToyasCard.lean, 'card_holds'). Laid BY PROGRAM, IN A SANDBOX (cutbox-door.mjs). By AI agents, Wed Nov 11 2026. No macro, syntax, notation, axiom, sorry.
-/
import Derived.Test.YtmiknjccdcploaaGreatDoorRows
import GoSem.ClaimSeven
namespace Go.Proofs.YtmiknjccdcploaaGreatDoor
namespace Rows

/-- THE TIED CARD OF 'laws.FnExactBasesOf'. -/
def fnExactBasesOfCard : Claim7 := { stood := { row := fnExactBasesOfRow, standIns := [], harness := (true, "a75577a225cc6cd96f58dafc955315ec93c1d35e92946831e44d42b3c43c6bc4"), looks := true }, kinds := [], alts := [], goes := true, laidByText := true, laidKinds := [.data, .data, .sentinel], laidTests := true, laidLooks := .later }
def FnExactBasesOfCardSaid : Prop := Claim7.holds Tryz.pinned (.plain (OpenSpec.ofChange fnExactBasesOfSpec)) fnExactBasesOfCard

/-- THE TIED CARD OF 'laws.FnExactMergeCommit'. -/
def fnExactMergeCommitCard : Claim7 := { stood := { row := fnExactMergeCommitRow, standIns := [], harness := (true, "a75577a225cc6cd96f58dafc955315ec93c1d35e92946831e44d42b3c43c6bc4"), looks := true }, kinds := [], alts := [], goes := true, laidByText := true, laidKinds := [.handle, .data, .data, .sentinel, .sentinel], laidTests := true, laidLooks := .later }
def FnExactMergeCommitCardSaid : Prop := Claim7.holds Tryz.pinned (.plain (OpenSpec.ofChange fnExactMergeCommitSpec)) fnExactMergeCommitCard

/-- THE TIED CARD OF 'laws.FnExactForward'. -/
def fnExactForwardCard : Claim7 := { stood := { row := fnExactForwardRow, standIns := [], harness := (true, "a75577a225cc6cd96f58dafc955315ec93c1d35e92946831e44d42b3c43c6bc4"), looks := true }, kinds := [], alts := [], goes := true, laidByText := true, laidKinds := [.data, .data, .sentinel], laidTests := true, laidLooks := .later }
def FnExactForwardCardSaid : Prop := Claim7.holds Tryz.pinned (.plain (OpenSpec.ofChange fnExactForwardSpec)) fnExactForwardCard

/-- THE TIED CARD OF 'laws.FnExactReached'. -/
def fnExactReachedCard : Claim7 := { stood := { row := fnExactReachedRow, standIns := [], harness := (true, "a75577a225cc6cd96f58dafc955315ec93c1d35e92946831e44d42b3c43c6bc4"), looks := true }, kinds := [], alts := [], goes := true, laidByText := true, laidKinds := [.data, .data, .sentinel], laidTests := true, laidLooks := .later }
def FnExactReachedCardSaid : Prop := Claim7.holds Tryz.pinned (.plain (OpenSpec.ofChange fnExactReachedSpec)) fnExactReachedCard

/-- THE TIED CARD OF 'laws.FnExactSwept'. -/
def fnExactSweptCard : Claim7 := { stood := { row := fnExactSweptRow, standIns := [], harness := (true, "a75577a225cc6cd96f58dafc955315ec93c1d35e92946831e44d42b3c43c6bc4"), looks := true }, kinds := [], alts := [], goes := true, laidByText := true, laidKinds := [.data, .data, .sentinel], laidTests := true, laidLooks := .later }
def FnExactSweptCardSaid : Prop := Claim7.holds Tryz.pinned (.plain (OpenSpec.ofChange fnExactSweptSpec)) fnExactSweptCard

/-- THE TIED CARD OF 'laws.FnExactMissing'. -/
def fnExactMissingCard : Claim7 := { stood := { row := fnExactMissingRow, standIns := [], harness := (true, "a75577a225cc6cd96f58dafc955315ec93c1d35e92946831e44d42b3c43c6bc4"), looks := true }, kinds := [], alts := [], goes := true, laidByText := true, laidKinds := [.data, .data, .sentinel], laidTests := true, laidLooks := .later }
def FnExactMissingCardSaid : Prop := Claim7.holds Tryz.pinned (.plain (OpenSpec.ofChange fnExactMissingSpec)) fnExactMissingCard

/-- THE TIED CARD OF 'laws.FnExactWanted'. -/
def fnExactWantedCard : Claim7 := { stood := { row := fnExactWantedRow, standIns := [], harness := (true, "a75577a225cc6cd96f58dafc955315ec93c1d35e92946831e44d42b3c43c6bc4"), looks := true }, kinds := [], alts := [], goes := true, laidByText := true, laidKinds := [.data, .data, .sentinel], laidTests := true, laidLooks := .later }
def FnExactWantedCardSaid : Prop := Claim7.holds Tryz.pinned (.plain (OpenSpec.ofChange fnExactWantedSpec)) fnExactWantedCard

/-- THE TIED CARD OF 'laws.FnExactFetched'. -/
def fnExactFetchedCard : Claim7 := { stood := { row := fnExactFetchedRow, standIns := [], harness := (true, "a75577a225cc6cd96f58dafc955315ec93c1d35e92946831e44d42b3c43c6bc4"), looks := true }, kinds := [], alts := [], goes := true, laidByText := true, laidKinds := [.data, .data, .sentinel], laidTests := true, laidLooks := .later }
def FnExactFetchedCardSaid : Prop := Claim7.holds Tryz.pinned (.plain (OpenSpec.ofChange fnExactFetchedSpec)) fnExactFetchedCard

/-- THE TIED CARD OF 'laws.FnExactPickOf'. -/
def fnExactPickOfCard : Claim7 := { stood := { row := fnExactPickOfRow, standIns := [], harness := (true, "a75577a225cc6cd96f58dafc955315ec93c1d35e92946831e44d42b3c43c6bc4"), looks := true }, kinds := [], alts := [], goes := true, laidByText := true, laidKinds := [.data, .data, .sentinel, .sentinel], laidTests := true, laidLooks := .later }
def FnExactPickOfCardSaid : Prop := Claim7.holds Tryz.pinned (.plain (OpenSpec.ofChange fnExactPickOfSpec)) fnExactPickOfCard

/-- THE TIED CARD OF 'laws.FnExactPicked'. -/
def fnExactPickedCard : Claim7 := { stood := { row := fnExactPickedRow, standIns := [], harness := (true, "a75577a225cc6cd96f58dafc955315ec93c1d35e92946831e44d42b3c43c6bc4"), looks := true }, kinds := [], alts := [], goes := true, laidByText := true, laidKinds := [.data, .data, .sentinel, .sentinel], laidTests := true, laidLooks := .later }
def FnExactPickedCardSaid : Prop := Claim7.holds Tryz.pinned (.plain (OpenSpec.ofChange fnExactPickedSpec)) fnExactPickedCard

/-- THE TIED CARD OF 'laws.FnExactReverted'. -/
def fnExactRevertedCard : Claim7 := { stood := { row := fnExactRevertedRow, standIns := [], harness := (true, "a75577a225cc6cd96f58dafc955315ec93c1d35e92946831e44d42b3c43c6bc4"), looks := true }, kinds := [], alts := [], goes := true, laidByText := true, laidKinds := [.data, .data, .sentinel, .sentinel], laidTests := true, laidLooks := .later }
def FnExactRevertedCardSaid : Prop := Claim7.holds Tryz.pinned (.plain (OpenSpec.ofChange fnExactRevertedSpec)) fnExactRevertedCard

/-- THE TIED CARD OF 'laws.FnExactRebased'. -/
def fnExactRebasedCard : Claim7 := { stood := { row := fnExactRebasedRow, standIns := [], harness := (true, "a75577a225cc6cd96f58dafc955315ec93c1d35e92946831e44d42b3c43c6bc4"), looks := true }, kinds := [], alts := [], goes := true, laidByText := true, laidKinds := [.data, .data, .sentinel, .sentinel], laidTests := true, laidLooks := .later }
def FnExactRebasedCardSaid : Prop := Claim7.holds Tryz.pinned (.plain (OpenSpec.ofChange fnExactRebasedSpec)) fnExactRebasedCard

/-- THE TIED CARD OF 'laws.FnExactBlameOf'. -/
def fnExactBlameOfCard : Claim7 := { stood := { row := fnExactBlameOfRow, standIns := [], harness := (true, "a75577a225cc6cd96f58dafc955315ec93c1d35e92946831e44d42b3c43c6bc4"), looks := true }, kinds := [], alts := [], goes := true, laidByText := true, laidKinds := [.data, .data, .sentinel, .sentinel], laidTests := true, laidLooks := .later }
def FnExactBlameOfCardSaid : Prop := Claim7.holds Tryz.pinned (.plain (OpenSpec.ofChange fnExactBlameOfSpec)) fnExactBlameOfCard

/-- THE TIED CARD OF 'laws.FnExactCommitted'. -/
def fnExactCommittedCard : Claim7 := { stood := { row := fnExactCommittedRow, standIns := [], harness := (true, "a75577a225cc6cd96f58dafc955315ec93c1d35e92946831e44d42b3c43c6bc4"), looks := true }, kinds := [], alts := [], goes := true, laidByText := true, laidKinds := [.data, .data, .sentinel], laidTests := true, laidLooks := .later }
def FnExactCommittedCardSaid : Prop := Claim7.holds Tryz.pinned (.plain (OpenSpec.ofChange fnExactCommittedSpec)) fnExactCommittedCard

/-- THE SECOND FORM's CARD OF 'laws.FnExactBasesOf'. -/
def fnExactBasesOfUptoCard : Claim7 := { stood := { row := fnExactBasesOfUptoRow, standIns := [], harness := (true, "a75577a225cc6cd96f58dafc955315ec93c1d35e92946831e44d42b3c43c6bc4"), looks := true }, kinds := [], alts := [], goes := true, laidByText := true, laidKinds := [.data, .data, .sentinel], laidTests := true, laidLooks := .later }
def FnExactBasesOfUptoCardSaid : Prop := Claim7.holds Tryz.pinned (.plain (OpenSpec.upto fnExactBasesOfSpec)) fnExactBasesOfUptoCard

/-- THE SECOND FORM's CARD OF 'laws.FnExactMergeCommit'. -/
def fnExactMergeCommitUptoCard : Claim7 := { stood := { row := fnExactMergeCommitUptoRow, standIns := [], harness := (true, "a75577a225cc6cd96f58dafc955315ec93c1d35e92946831e44d42b3c43c6bc4"), looks := true }, kinds := [], alts := [], goes := true, laidByText := true, laidKinds := [.handle, .data, .data, .sentinel, .sentinel], laidTests := true, laidLooks := .later }
def FnExactMergeCommitUptoCardSaid : Prop := Claim7.holds Tryz.pinned (.plain (OpenSpec.upto fnExactMergeCommitSpec)) fnExactMergeCommitUptoCard

/-- THE SECOND FORM's CARD OF 'laws.FnExactForward'. -/
def fnExactForwardUptoCard : Claim7 := { stood := { row := fnExactForwardUptoRow, standIns := [], harness := (true, "a75577a225cc6cd96f58dafc955315ec93c1d35e92946831e44d42b3c43c6bc4"), looks := true }, kinds := [], alts := [], goes := true, laidByText := true, laidKinds := [.data, .data, .sentinel], laidTests := true, laidLooks := .later }
def FnExactForwardUptoCardSaid : Prop := Claim7.holds Tryz.pinned (.plain (OpenSpec.upto fnExactForwardSpec)) fnExactForwardUptoCard

/-- THE SECOND FORM's CARD OF 'laws.FnExactReached'. -/
def fnExactReachedUptoCard : Claim7 := { stood := { row := fnExactReachedUptoRow, standIns := [], harness := (true, "a75577a225cc6cd96f58dafc955315ec93c1d35e92946831e44d42b3c43c6bc4"), looks := true }, kinds := [], alts := [], goes := true, laidByText := true, laidKinds := [.data, .data, .sentinel], laidTests := true, laidLooks := .later }
def FnExactReachedUptoCardSaid : Prop := Claim7.holds Tryz.pinned (.plain (OpenSpec.upto fnExactReachedSpec)) fnExactReachedUptoCard

/-- THE SECOND FORM's CARD OF 'laws.FnExactSwept'. -/
def fnExactSweptUptoCard : Claim7 := { stood := { row := fnExactSweptUptoRow, standIns := [], harness := (true, "a75577a225cc6cd96f58dafc955315ec93c1d35e92946831e44d42b3c43c6bc4"), looks := true }, kinds := [], alts := [], goes := true, laidByText := true, laidKinds := [.data, .data, .sentinel], laidTests := true, laidLooks := .later }
def FnExactSweptUptoCardSaid : Prop := Claim7.holds Tryz.pinned (.plain (OpenSpec.upto fnExactSweptSpec)) fnExactSweptUptoCard

/-- THE SECOND FORM's CARD OF 'laws.FnExactMissing'. -/
def fnExactMissingUptoCard : Claim7 := { stood := { row := fnExactMissingUptoRow, standIns := [], harness := (true, "a75577a225cc6cd96f58dafc955315ec93c1d35e92946831e44d42b3c43c6bc4"), looks := true }, kinds := [], alts := [], goes := true, laidByText := true, laidKinds := [.data, .data, .sentinel], laidTests := true, laidLooks := .later }
def FnExactMissingUptoCardSaid : Prop := Claim7.holds Tryz.pinned (.plain (OpenSpec.upto fnExactMissingSpec)) fnExactMissingUptoCard

/-- THE SECOND FORM's CARD OF 'laws.FnExactWanted'. -/
def fnExactWantedUptoCard : Claim7 := { stood := { row := fnExactWantedUptoRow, standIns := [], harness := (true, "a75577a225cc6cd96f58dafc955315ec93c1d35e92946831e44d42b3c43c6bc4"), looks := true }, kinds := [], alts := [], goes := true, laidByText := true, laidKinds := [.data, .data, .sentinel], laidTests := true, laidLooks := .later }
def FnExactWantedUptoCardSaid : Prop := Claim7.holds Tryz.pinned (.plain (OpenSpec.upto fnExactWantedSpec)) fnExactWantedUptoCard

/-- THE SECOND FORM's CARD OF 'laws.FnExactFetched'. -/
def fnExactFetchedUptoCard : Claim7 := { stood := { row := fnExactFetchedUptoRow, standIns := [], harness := (true, "a75577a225cc6cd96f58dafc955315ec93c1d35e92946831e44d42b3c43c6bc4"), looks := true }, kinds := [], alts := [], goes := true, laidByText := true, laidKinds := [.data, .data, .sentinel], laidTests := true, laidLooks := .later }
def FnExactFetchedUptoCardSaid : Prop := Claim7.holds Tryz.pinned (.plain (OpenSpec.upto fnExactFetchedSpec)) fnExactFetchedUptoCard

/-- THE SECOND FORM's CARD OF 'laws.FnExactPickOf'. -/
def fnExactPickOfUptoCard : Claim7 := { stood := { row := fnExactPickOfUptoRow, standIns := [], harness := (true, "a75577a225cc6cd96f58dafc955315ec93c1d35e92946831e44d42b3c43c6bc4"), looks := true }, kinds := [], alts := [], goes := true, laidByText := true, laidKinds := [.data, .data, .sentinel, .sentinel], laidTests := true, laidLooks := .later }
def FnExactPickOfUptoCardSaid : Prop := Claim7.holds Tryz.pinned (.plain (OpenSpec.upto fnExactPickOfSpec)) fnExactPickOfUptoCard

/-- THE SECOND FORM's CARD OF 'laws.FnExactPicked'. -/
def fnExactPickedUptoCard : Claim7 := { stood := { row := fnExactPickedUptoRow, standIns := [], harness := (true, "a75577a225cc6cd96f58dafc955315ec93c1d35e92946831e44d42b3c43c6bc4"), looks := true }, kinds := [], alts := [], goes := true, laidByText := true, laidKinds := [.data, .data, .sentinel, .sentinel], laidTests := true, laidLooks := .later }
def FnExactPickedUptoCardSaid : Prop := Claim7.holds Tryz.pinned (.plain (OpenSpec.upto fnExactPickedSpec)) fnExactPickedUptoCard

/-- THE SECOND FORM's CARD OF 'laws.FnExactReverted'. -/
def fnExactRevertedUptoCard : Claim7 := { stood := { row := fnExactRevertedUptoRow, standIns := [], harness := (true, "a75577a225cc6cd96f58dafc955315ec93c1d35e92946831e44d42b3c43c6bc4"), looks := true }, kinds := [], alts := [], goes := true, laidByText := true, laidKinds := [.data, .data, .sentinel, .sentinel], laidTests := true, laidLooks := .later }
def FnExactRevertedUptoCardSaid : Prop := Claim7.holds Tryz.pinned (.plain (OpenSpec.upto fnExactRevertedSpec)) fnExactRevertedUptoCard

/-- THE SECOND FORM's CARD OF 'laws.FnExactRebased'. -/
def fnExactRebasedUptoCard : Claim7 := { stood := { row := fnExactRebasedUptoRow, standIns := [], harness := (true, "a75577a225cc6cd96f58dafc955315ec93c1d35e92946831e44d42b3c43c6bc4"), looks := true }, kinds := [], alts := [], goes := true, laidByText := true, laidKinds := [.data, .data, .sentinel, .sentinel], laidTests := true, laidLooks := .later }
def FnExactRebasedUptoCardSaid : Prop := Claim7.holds Tryz.pinned (.plain (OpenSpec.upto fnExactRebasedSpec)) fnExactRebasedUptoCard

/-- THE SECOND FORM's CARD OF 'laws.FnExactBlameOf'. -/
def fnExactBlameOfUptoCard : Claim7 := { stood := { row := fnExactBlameOfUptoRow, standIns := [], harness := (true, "a75577a225cc6cd96f58dafc955315ec93c1d35e92946831e44d42b3c43c6bc4"), looks := true }, kinds := [], alts := [], goes := true, laidByText := true, laidKinds := [.data, .data, .sentinel, .sentinel], laidTests := true, laidLooks := .later }
def FnExactBlameOfUptoCardSaid : Prop := Claim7.holds Tryz.pinned (.plain (OpenSpec.upto fnExactBlameOfSpec)) fnExactBlameOfUptoCard

/-- THE SECOND FORM's CARD OF 'laws.FnExactCommitted'. -/
def fnExactCommittedUptoCard : Claim7 := { stood := { row := fnExactCommittedUptoRow, standIns := [], harness := (true, "a75577a225cc6cd96f58dafc955315ec93c1d35e92946831e44d42b3c43c6bc4"), looks := true }, kinds := [], alts := [], goes := true, laidByText := true, laidKinds := [.data, .data, .sentinel], laidTests := true, laidLooks := .later }
def FnExactCommittedUptoCardSaid : Prop := Claim7.holds Tryz.pinned (.plain (OpenSpec.upto fnExactCommittedSpec)) fnExactCommittedUptoCard
end Rows
end Go.Proofs.YtmiknjccdcploaaGreatDoor
