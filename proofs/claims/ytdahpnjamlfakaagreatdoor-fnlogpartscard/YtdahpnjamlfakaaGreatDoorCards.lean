/-
  DERIVED. GIVEN WITH THE SEED: THE CARDS: each row of YtdahpnjamlfakaaGreatDoorRows.lean that lists a variable, with what it lists TIED to the program's text (the seventh form; the later family's looks); each row that meets fmt, with fmt's text TOLD by the authors' own Lean function (tested against real Go, not proved from fmt's source: count such statements apart). THE CARD IS WHAT COUNTS. Prove the row's statement (the work); the ties are given (YtdahpnjamlfakaaGreatDoorTie.lean); close each card by the builder's one call (the guide's Derived/Test/ToyasCard.lean, 'card_holds'). Laid BY PROGRAM, IN A SANDBOX (cutbox-door.mjs). By AI agents, Wed Nov 11 2026. No macro, syntax, notation, axiom, sorry.
-/
import Derived.Test.YtdahpnjamlfakaaGreatDoorRows
import GoSem.ClaimSeven
namespace Go.Proofs.YtdahpnjamlfakaaGreatDoor
namespace Rows

/-- THE TIED CARD OF 'laws.FnDepths'. -/
def fnDepthsCard : Claim7 := { stood := { row := fnDepthsRow, standIns := [], harness := (true, "386b18e3b2fd5f7270659e835f0adf0211162a37547f00f733564ee0825b352a"), looks := false }, kinds := [], alts := [], laidByText := true, laidKinds := [.data, .data, .sentinel], laidTests := true, laidLooks := .later }
def FnDepthsCardSaid : Prop := Claim7.holds Tryz.pinned (.plain (OpenSpec.ofChange fnDepthsSpec)) fnDepthsCard

/-- THE TIED CARD OF 'laws.FnLog'. -/
def fnLogCard : Claim7 := { stood := { row := fnLogRow, standIns := [], harness := (true, "386b18e3b2fd5f7270659e835f0adf0211162a37547f00f733564ee0825b352a"), looks := false }, kinds := [], alts := [], laidByText := true, laidKinds := [.data, .data, .sentinel], laidTests := true, laidLooks := .later }
def FnLogCardSaid : Prop := Claim7.holds Tryz.pinned (.plain (OpenSpec.ofChange fnLogSpec)) fnLogCard

/-- THE TIED CARD OF 'laws.FnDeeper'. -/
def fnDeeperCard : Claim7 := { stood := { row := fnDeeperRow, standIns := [], harness := (true, "386b18e3b2fd5f7270659e835f0adf0211162a37547f00f733564ee0825b352a"), looks := false }, kinds := [], alts := [], laidByText := true, laidKinds := [.data, .data, .sentinel], laidTests := true, laidLooks := .later }
def FnDeeperCardSaid : Prop := Claim7.holds Tryz.pinned (.plain (OpenSpec.ofChange fnDeeperSpec)) fnDeeperCard

/-- THE TIED CARD OF 'laws.FnLogParts'. -/
def fnLogPartsCard : Claim7 := { stood := { row := fnLogPartsRow, standIns := [], harness := (true, "386b18e3b2fd5f7270659e835f0adf0211162a37547f00f733564ee0825b352a"), looks := false }, kinds := [], alts := [], laidByText := true, laidKinds := [.data, .data, .sentinel], laidTests := true, laidLooks := .later }
def FnLogPartsCardSaid : Prop := Claim7.holds Tryz.pinned (.plain (OpenSpec.ofChange fnLogPartsSpec)) fnLogPartsCard

/-- THE TIED CARD OF 'laws.FnBehindNew'. -/
def fnBehindNewCard : Claim7 := { stood := { row := fnBehindNewRow, standIns := [], harness := (true, "386b18e3b2fd5f7270659e835f0adf0211162a37547f00f733564ee0825b352a"), looks := false }, kinds := [], alts := [], laidByText := true, laidKinds := [.data, .data, .sentinel], laidTests := true, laidLooks := .later }
def FnBehindNewCardSaid : Prop := Claim7.holds Tryz.pinned (.plain (OpenSpec.ofChange fnBehindNewSpec)) fnBehindNewCard

/-- THE SECOND FORM's CARD OF 'laws.FnDepths'. -/
def fnDepthsUptoCard : Claim7 := { stood := { row := fnDepthsUptoRow, standIns := [], harness := (true, "386b18e3b2fd5f7270659e835f0adf0211162a37547f00f733564ee0825b352a"), looks := false }, kinds := [], alts := [], laidByText := true, laidKinds := [.data, .data, .sentinel], laidTests := true, laidLooks := .later }
def FnDepthsUptoCardSaid : Prop := Claim7.holds Tryz.pinned (.plain (OpenSpec.upto fnDepthsSpec)) fnDepthsUptoCard

/-- THE SECOND FORM's CARD OF 'laws.FnLog'. -/
def fnLogUptoCard : Claim7 := { stood := { row := fnLogUptoRow, standIns := [], harness := (true, "386b18e3b2fd5f7270659e835f0adf0211162a37547f00f733564ee0825b352a"), looks := false }, kinds := [], alts := [], laidByText := true, laidKinds := [.data, .data, .sentinel], laidTests := true, laidLooks := .later }
def FnLogUptoCardSaid : Prop := Claim7.holds Tryz.pinned (.plain (OpenSpec.upto fnLogSpec)) fnLogUptoCard

/-- THE SECOND FORM's CARD OF 'laws.FnDeeper'. -/
def fnDeeperUptoCard : Claim7 := { stood := { row := fnDeeperUptoRow, standIns := [], harness := (true, "386b18e3b2fd5f7270659e835f0adf0211162a37547f00f733564ee0825b352a"), looks := false }, kinds := [], alts := [], laidByText := true, laidKinds := [.data, .data, .sentinel], laidTests := true, laidLooks := .later }
def FnDeeperUptoCardSaid : Prop := Claim7.holds Tryz.pinned (.plain (OpenSpec.upto fnDeeperSpec)) fnDeeperUptoCard

/-- THE SECOND FORM's CARD OF 'laws.FnLogParts'. -/
def fnLogPartsUptoCard : Claim7 := { stood := { row := fnLogPartsUptoRow, standIns := [], harness := (true, "386b18e3b2fd5f7270659e835f0adf0211162a37547f00f733564ee0825b352a"), looks := false }, kinds := [], alts := [], laidByText := true, laidKinds := [.data, .data, .sentinel], laidTests := true, laidLooks := .later }
def FnLogPartsUptoCardSaid : Prop := Claim7.holds Tryz.pinned (.plain (OpenSpec.upto fnLogPartsSpec)) fnLogPartsUptoCard

/-- THE SECOND FORM's CARD OF 'laws.FnBehindNew'. -/
def fnBehindNewUptoCard : Claim7 := { stood := { row := fnBehindNewUptoRow, standIns := [], harness := (true, "386b18e3b2fd5f7270659e835f0adf0211162a37547f00f733564ee0825b352a"), looks := false }, kinds := [], alts := [], laidByText := true, laidKinds := [.data, .data, .sentinel], laidTests := true, laidLooks := .later }
def FnBehindNewUptoCardSaid : Prop := Claim7.holds Tryz.pinned (.plain (OpenSpec.upto fnBehindNewSpec)) fnBehindNewUptoCard
end Rows
end Go.Proofs.YtdahpnjamlfakaaGreatDoor
