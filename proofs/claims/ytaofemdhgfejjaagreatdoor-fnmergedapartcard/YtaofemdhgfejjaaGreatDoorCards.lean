/-
  DERIVED. GIVEN WITH THE SEED: THE CARDS: each row of YtaofemdhgfejjaaGreatDoorRows.lean that lists a variable, with what it lists TIED to the program's text (the seventh form; the later family's looks); each row that meets fmt, with fmt's text TOLD by the authors' own Lean function (tested against real Go, not proved from fmt's source: count such statements apart). THE CARD IS WHAT COUNTS. Prove the row's statement (the work); the ties are given (YtaofemdhgfejjaaGreatDoorTie.lean); close each card by the builder's one call (the guide's Derived/Test/ToyasCard.lean, 'card_holds'). Laid BY PROGRAM, IN A SANDBOX (cutbox-door.mjs). By AI agents, Wed Nov 11 2026. No macro, syntax, notation, axiom, sorry.
-/
import Derived.Test.YtaofemdhgfejjaaGreatDoorRows
import GoSem.ClaimSeven
namespace Go.Proofs.YtaofemdhgfejjaaGreatDoor
namespace Rows

/-- THE TIED CARD OF 'laws.FnMerged'. -/
def fnMergedCard : Claim7 := { stood := { row := fnMergedRow, standIns := [], harness := (true, "73bceb414981705486295bda33b3c11840c1e6c822c8b6a13a7538b649b76fc2"), looks := true }, kinds := [], alts := [], laidByText := true, laidKinds := [.handle, .sentinel], laidTests := true, laidLooks := .later }
def FnMergedCardSaid : Prop := Claim7.holds Tryz.pinned (.plain (OpenSpec.ofChange fnMergedSpec)) fnMergedCard

/-- THE TIED CARD OF 'laws.FnResolved'. -/
def fnResolvedCard : Claim7 := { stood := { row := fnResolvedRow, standIns := [], harness := (true, "73bceb414981705486295bda33b3c11840c1e6c822c8b6a13a7538b649b76fc2"), looks := true }, kinds := [], alts := [], laidByText := true, laidKinds := [.handle, .sentinel], laidTests := true, laidLooks := .later }
def FnResolvedCardSaid : Prop := Claim7.holds Tryz.pinned (.plain (OpenSpec.ofChange fnResolvedSpec)) fnResolvedCard

/-- THE TIED CARD OF 'laws.FnMergedApart'. -/
def fnMergedApartCard : Claim7 := { stood := { row := fnMergedApartRow, standIns := [], harness := (true, "73bceb414981705486295bda33b3c11840c1e6c822c8b6a13a7538b649b76fc2"), looks := true }, kinds := [], alts := [], laidByText := true, laidKinds := [.handle, .sentinel], laidTests := true, laidLooks := .later }
def FnMergedApartCardSaid : Prop := Claim7.holds Tryz.pinned (.plain (OpenSpec.ofChange fnMergedApartSpec)) fnMergedApartCard

/-- THE TIED CARD OF 'laws.FnResolvedSides'. -/
def fnResolvedSidesCard : Claim7 := { stood := { row := fnResolvedSidesRow, standIns := [], harness := (true, "73bceb414981705486295bda33b3c11840c1e6c822c8b6a13a7538b649b76fc2"), looks := true }, kinds := [], alts := [], laidByText := true, laidKinds := [.handle, .sentinel], laidTests := true, laidLooks := .later }
def FnResolvedSidesCardSaid : Prop := Claim7.holds Tryz.pinned (.plain (OpenSpec.ofChange fnResolvedSidesSpec)) fnResolvedSidesCard

/-- THE SECOND FORM's CARD OF 'laws.FnMerged'. -/
def fnMergedUptoCard : Claim7 := { stood := { row := fnMergedUptoRow, standIns := [], harness := (true, "73bceb414981705486295bda33b3c11840c1e6c822c8b6a13a7538b649b76fc2"), looks := true }, kinds := [], alts := [], laidByText := true, laidKinds := [.handle, .sentinel], laidTests := true, laidLooks := .later }
def FnMergedUptoCardSaid : Prop := Claim7.holds Tryz.pinned (.plain (OpenSpec.upto fnMergedSpec)) fnMergedUptoCard

/-- THE SECOND FORM's CARD OF 'laws.FnResolved'. -/
def fnResolvedUptoCard : Claim7 := { stood := { row := fnResolvedUptoRow, standIns := [], harness := (true, "73bceb414981705486295bda33b3c11840c1e6c822c8b6a13a7538b649b76fc2"), looks := true }, kinds := [], alts := [], laidByText := true, laidKinds := [.handle, .sentinel], laidTests := true, laidLooks := .later }
def FnResolvedUptoCardSaid : Prop := Claim7.holds Tryz.pinned (.plain (OpenSpec.upto fnResolvedSpec)) fnResolvedUptoCard

/-- THE SECOND FORM's CARD OF 'laws.FnMergedApart'. -/
def fnMergedApartUptoCard : Claim7 := { stood := { row := fnMergedApartUptoRow, standIns := [], harness := (true, "73bceb414981705486295bda33b3c11840c1e6c822c8b6a13a7538b649b76fc2"), looks := true }, kinds := [], alts := [], laidByText := true, laidKinds := [.handle, .sentinel], laidTests := true, laidLooks := .later }
def FnMergedApartUptoCardSaid : Prop := Claim7.holds Tryz.pinned (.plain (OpenSpec.upto fnMergedApartSpec)) fnMergedApartUptoCard

/-- THE SECOND FORM's CARD OF 'laws.FnResolvedSides'. -/
def fnResolvedSidesUptoCard : Claim7 := { stood := { row := fnResolvedSidesUptoRow, standIns := [], harness := (true, "73bceb414981705486295bda33b3c11840c1e6c822c8b6a13a7538b649b76fc2"), looks := true }, kinds := [], alts := [], laidByText := true, laidKinds := [.handle, .sentinel], laidTests := true, laidLooks := .later }
def FnResolvedSidesUptoCardSaid : Prop := Claim7.holds Tryz.pinned (.plain (OpenSpec.upto fnResolvedSidesSpec)) fnResolvedSidesUptoCard
end Rows
end Go.Proofs.YtaofemdhgfejjaaGreatDoor
