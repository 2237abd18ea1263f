/-
  DERIVED. GIVEN WITH THE SEED: THE CARDS: each row of YtehblaigbcbleaaGreatDoorRows.lean that lists a variable, with what it lists TIED to the program's text (the seventh form; the later family's looks); each row that meets fmt, with fmt's text TOLD by the authors' own Lean function (tested against real Go, not proved from fmt's source: count such statements apart). THE CARD IS WHAT COUNTS. Prove the row's statement (the work); the ties are given (YtehblaigbcbleaaGreatDoorTie.lean); close each card by the builder's one call (the guide's Derived/Test/ToyasCard.lean, 'card_holds'). Laid BY PROGRAM, IN A SANDBOX (cutbox-door.mjs). By AI agents, Wed Nov 11 2026. No macro, syntax, notation, axiom, sorry.
-/
import Derived.Test.YtehblaigbcbleaaGreatDoorRows
import GoSem.ClaimSeven
namespace Go.Proofs.YtehblaigbcbleaaGreatDoor
namespace Rows

/-- THE TIED CARD OF 'laws.FnCommitTwice'. -/
def fnCommitTwiceCard : Claim7 := { stood := { row := fnCommitTwiceRow, standIns := [], harness := (true, "2db372d77fa16797e848de19801f0ba65941b3c347549efff57a618c0e269913"), looks := false }, kinds := [], alts := [], laidByText := true, laidKinds := [.data, .data, .sentinel], laidTests := true, laidLooks := .later }
def FnCommitTwiceCardSaid : Prop := Claim7.holds Tryz.pinned (.plain (OpenSpec.ofChange fnCommitTwiceSpec)) fnCommitTwiceCard

/-- THE TIED CARD OF 'laws.FnSameTree'. -/
def fnSameTreeCard : Claim7 := { stood := { row := fnSameTreeRow, standIns := [], harness := (true, "2db372d77fa16797e848de19801f0ba65941b3c347549efff57a618c0e269913"), looks := false }, kinds := [], alts := [], laidByText := true, laidKinds := [.data, .data, .sentinel], laidTests := true, laidLooks := .later }
def FnSameTreeCardSaid : Prop := Claim7.holds Tryz.pinned (.plain (OpenSpec.ofChange fnSameTreeSpec)) fnSameTreeCard

/-- THE TIED CARD OF 'laws.FnCommitted'. -/
def fnCommittedCard : Claim7 := { stood := { row := fnCommittedRow, standIns := [], harness := (true, "2db372d77fa16797e848de19801f0ba65941b3c347549efff57a618c0e269913"), looks := false }, kinds := [], alts := [], laidByText := true, laidKinds := [.data, .data, .sentinel], laidTests := true, laidLooks := .later }
def FnCommittedCardSaid : Prop := Claim7.holds Tryz.pinned (.plain (OpenSpec.ofChange fnCommittedSpec)) fnCommittedCard

/-- THE TIED CARD OF 'laws.FnAncestors'. -/
def fnAncestorsCard : Claim7 := { stood := { row := fnAncestorsRow, standIns := [], harness := (true, "2db372d77fa16797e848de19801f0ba65941b3c347549efff57a618c0e269913"), looks := false }, kinds := [], alts := [], laidByText := true, laidKinds := [.data, .data, .sentinel], laidTests := true, laidLooks := .later }
def FnAncestorsCardSaid : Prop := Claim7.holds Tryz.pinned (.plain (OpenSpec.ofChange fnAncestorsSpec)) fnAncestorsCard

/-- THE TIED CARD OF 'laws.FnIsAncestor'. -/
def fnIsAncestorCard : Claim7 := { stood := { row := fnIsAncestorRow, standIns := [], harness := (true, "2db372d77fa16797e848de19801f0ba65941b3c347549efff57a618c0e269913"), looks := false }, kinds := [], alts := [], laidByText := true, laidKinds := [.data, .data, .sentinel], laidTests := true, laidLooks := .later }
def FnIsAncestorCardSaid : Prop := Claim7.holds Tryz.pinned (.plain (OpenSpec.ofChange fnIsAncestorSpec)) fnIsAncestorCard

/-- THE TIED CARD OF 'laws.FnBases'. -/
def fnBasesCard : Claim7 := { stood := { row := fnBasesRow, standIns := [], harness := (true, "2db372d77fa16797e848de19801f0ba65941b3c347549efff57a618c0e269913"), looks := false }, kinds := [], alts := [], laidByText := true, laidKinds := [.data, .data, .sentinel], laidTests := true, laidLooks := .later }
def FnBasesCardSaid : Prop := Claim7.holds Tryz.pinned (.plain (OpenSpec.ofChange fnBasesSpec)) fnBasesCard

/-- THE TIED CARD OF 'laws.FnBaseSelf'. -/
def fnBaseSelfCard : Claim7 := { stood := { row := fnBaseSelfRow, standIns := [], harness := (true, "2db372d77fa16797e848de19801f0ba65941b3c347549efff57a618c0e269913"), looks := false }, kinds := [], alts := [], laidByText := true, laidKinds := [.data, .data, .sentinel], laidTests := true, laidLooks := .later }
def FnBaseSelfCardSaid : Prop := Claim7.holds Tryz.pinned (.plain (OpenSpec.ofChange fnBaseSelfSpec)) fnBaseSelfCard

/-- THE SECOND FORM's CARD OF 'laws.FnCommitTwice'. -/
def fnCommitTwiceUptoCard : Claim7 := { stood := { row := fnCommitTwiceUptoRow, standIns := [], harness := (true, "2db372d77fa16797e848de19801f0ba65941b3c347549efff57a618c0e269913"), looks := false }, kinds := [], alts := [], laidByText := true, laidKinds := [.data, .data, .sentinel], laidTests := true, laidLooks := .later }
def FnCommitTwiceUptoCardSaid : Prop := Claim7.holds Tryz.pinned (.plain (OpenSpec.upto fnCommitTwiceSpec)) fnCommitTwiceUptoCard

/-- THE SECOND FORM's CARD OF 'laws.FnSameTree'. -/
def fnSameTreeUptoCard : Claim7 := { stood := { row := fnSameTreeUptoRow, standIns := [], harness := (true, "2db372d77fa16797e848de19801f0ba65941b3c347549efff57a618c0e269913"), looks := false }, kinds := [], alts := [], laidByText := true, laidKinds := [.data, .data, .sentinel], laidTests := true, laidLooks := .later }
def FnSameTreeUptoCardSaid : Prop := Claim7.holds Tryz.pinned (.plain (OpenSpec.upto fnSameTreeSpec)) fnSameTreeUptoCard

/-- THE SECOND FORM's CARD OF 'laws.FnCommitted'. -/
def fnCommittedUptoCard : Claim7 := { stood := { row := fnCommittedUptoRow, standIns := [], harness := (true, "2db372d77fa16797e848de19801f0ba65941b3c347549efff57a618c0e269913"), looks := false }, kinds := [], alts := [], laidByText := true, laidKinds := [.data, .data, .sentinel], laidTests := true, laidLooks := .later }
def FnCommittedUptoCardSaid : Prop := Claim7.holds Tryz.pinned (.plain (OpenSpec.upto fnCommittedSpec)) fnCommittedUptoCard

/-- THE SECOND FORM's CARD OF 'laws.FnAncestors'. -/
def fnAncestorsUptoCard : Claim7 := { stood := { row := fnAncestorsUptoRow, standIns := [], harness := (true, "2db372d77fa16797e848de19801f0ba65941b3c347549efff57a618c0e269913"), looks := false }, kinds := [], alts := [], laidByText := true, laidKinds := [.data, .data, .sentinel], laidTests := true, laidLooks := .later }
def FnAncestorsUptoCardSaid : Prop := Claim7.holds Tryz.pinned (.plain (OpenSpec.upto fnAncestorsSpec)) fnAncestorsUptoCard

/-- THE SECOND FORM's CARD OF 'laws.FnIsAncestor'. -/
def fnIsAncestorUptoCard : Claim7 := { stood := { row := fnIsAncestorUptoRow, standIns := [], harness := (true, "2db372d77fa16797e848de19801f0ba65941b3c347549efff57a618c0e269913"), looks := false }, kinds := [], alts := [], laidByText := true, laidKinds := [.data, .data, .sentinel], laidTests := true, laidLooks := .later }
def FnIsAncestorUptoCardSaid : Prop := Claim7.holds Tryz.pinned (.plain (OpenSpec.upto fnIsAncestorSpec)) fnIsAncestorUptoCard

/-- THE SECOND FORM's CARD OF 'laws.FnBases'. -/
def fnBasesUptoCard : Claim7 := { stood := { row := fnBasesUptoRow, standIns := [], harness := (true, "2db372d77fa16797e848de19801f0ba65941b3c347549efff57a618c0e269913"), looks := false }, kinds := [], alts := [], laidByText := true, laidKinds := [.data, .data, .sentinel], laidTests := true, laidLooks := .later }
def FnBasesUptoCardSaid : Prop := Claim7.holds Tryz.pinned (.plain (OpenSpec.upto fnBasesSpec)) fnBasesUptoCard

/-- THE SECOND FORM's CARD OF 'laws.FnBaseSelf'. -/
def fnBaseSelfUptoCard : Claim7 := { stood := { row := fnBaseSelfUptoRow, standIns := [], harness := (true, "2db372d77fa16797e848de19801f0ba65941b3c347549efff57a618c0e269913"), looks := false }, kinds := [], alts := [], laidByText := true, laidKinds := [.data, .data, .sentinel], laidTests := true, laidLooks := .later }
def FnBaseSelfUptoCardSaid : Prop := Claim7.holds Tryz.pinned (.plain (OpenSpec.upto fnBaseSelfSpec)) fnBaseSelfUptoCard
end Rows
end Go.Proofs.YtehblaigbcbleaaGreatDoor
