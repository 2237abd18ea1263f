/-
  DERIVED. GIVEN WITH THE SEED: THE CARDS: each row of YtaibonbabicilaaDoorRows.lean that lists a variable, with what it lists TIED to the program's text (the seventh form; the later family's looks); each row that meets fmt, with fmt's text TOLD by the authors' own Lean function (tested against real Go, not proved from fmt's source: count such statements apart). THE CARD IS WHAT COUNTS. Prove the row's statement (the work); the ties are given (YtaibonbabicilaaDoorTie.lean); close each card by the builder's one call (the guide's Derived/Test/ToyasCard.lean, 'card_holds'). Laid BY PROGRAM, IN A SANDBOX (cutbox-door.mjs). By AI agents, Wed Nov 11 2026. No macro, syntax, notation, axiom, sorry.
-/
import Derived.Test.YtaibonbabicilaaDoorRows
import GoSem.ClaimSeven
namespace Go.Proofs.YtaibonbabicilaaDoor
namespace Rows

/-- THE TIED CARD OF 'laws.FnExactAdd'. -/
def fnExactAddCard : Claim7 := { stood := { row := fnExactAddRow, standIns := [], harness := (true, "238cf7db821e0ac5b4b2743ea51869c073fa076f0012bef2a475bc01481433ee"), looks := false }, kinds := [], alts := [], laidByText := true, laidKinds := [.data, .data], laidTests := true, laidLooks := .later }
def FnExactAddCardSaid : Prop := Claim7.holds Tryd.pinned (.plain (OpenSpec.ofChange fnExactAddSpec)) fnExactAddCard

/-- THE TIED CARD OF 'laws.FnExactJoined'. -/
def fnExactJoinedCard : Claim7 := { stood := { row := fnExactJoinedRow, standIns := [], harness := (true, "238cf7db821e0ac5b4b2743ea51869c073fa076f0012bef2a475bc01481433ee"), looks := false }, kinds := [], alts := [], laidByText := true, laidKinds := [.data, .data], laidTests := true, laidLooks := .later }
def FnExactJoinedCardSaid : Prop := Claim7.holds Tryd.pinned (.plain (OpenSpec.ofChange fnExactJoinedSpec)) fnExactJoinedCard

/-- THE TIED CARD OF 'laws.FnAdd'. -/
def fnAddCard : Claim7 := { stood := { row := fnAddRow, standIns := [], harness := (true, "238cf7db821e0ac5b4b2743ea51869c073fa076f0012bef2a475bc01481433ee"), looks := false }, kinds := [], alts := [], laidByText := true, laidKinds := [.data, .data], laidTests := true, laidLooks := .later }
def FnAddCardSaid : Prop := Claim7.holds Tryd.pinned (.plain (OpenSpec.ofChange fnAddSpec)) fnAddCard

/-- THE TIED CARD OF 'laws.FnJoined'. -/
def fnJoinedCard : Claim7 := { stood := { row := fnJoinedRow, standIns := [], harness := (true, "238cf7db821e0ac5b4b2743ea51869c073fa076f0012bef2a475bc01481433ee"), looks := false }, kinds := [], alts := [], laidByText := true, laidKinds := [.data, .data], laidTests := true, laidLooks := .later }
def FnJoinedCardSaid : Prop := Claim7.holds Tryd.pinned (.plain (OpenSpec.ofChange fnJoinedSpec)) fnJoinedCard

/-- THE TIED CARD OF 'laws.FnAddOrder'. -/
def fnAddOrderCard : Claim7 := { stood := { row := fnAddOrderRow, standIns := [], harness := (true, "238cf7db821e0ac5b4b2743ea51869c073fa076f0012bef2a475bc01481433ee"), looks := false }, kinds := [], alts := [], laidByText := true, laidKinds := [.data, .data], laidTests := true, laidLooks := .later }
def FnAddOrderCardSaid : Prop := Claim7.holds Tryd.pinned (.plain (OpenSpec.ofChange fnAddOrderSpec)) fnAddOrderCard

/-- THE TIED CARD OF 'laws.FnJoinedThree'. -/
def fnJoinedThreeCard : Claim7 := { stood := { row := fnJoinedThreeRow, standIns := [], harness := (true, "238cf7db821e0ac5b4b2743ea51869c073fa076f0012bef2a475bc01481433ee"), looks := false }, kinds := [], alts := [], laidByText := true, laidKinds := [.data, .data], laidTests := true, laidLooks := .later }
def FnJoinedThreeCardSaid : Prop := Claim7.holds Tryd.pinned (.plain (OpenSpec.ofChange fnJoinedThreeSpec)) fnJoinedThreeCard

/-- THE TIED CARD OF 'laws.FnFoundAll'. -/
def fnFoundAllCard : Claim7 := { stood := { row := fnFoundAllRow, standIns := [], harness := (true, "238cf7db821e0ac5b4b2743ea51869c073fa076f0012bef2a475bc01481433ee"), looks := false }, kinds := [], alts := [], laidByText := true, laidKinds := [.data, .data], laidTests := true, laidLooks := .later }
def FnFoundAllCardSaid : Prop := Claim7.holds Tryd.pinned (.plain (OpenSpec.ofChange fnFoundAllSpec)) fnFoundAllCard

/-- THE TIED CARD OF 'laws.FnExactReadCommit'. -/
def fnExactReadCommitCard : Claim7 := { stood := { row := fnExactReadCommitRow, standIns := [], harness := (true, "238cf7db821e0ac5b4b2743ea51869c073fa076f0012bef2a475bc01481433ee"), looks := false }, kinds := [], alts := [], laidByText := true, laidKinds := [.sentinel], laidTests := true, laidLooks := .later }
def FnExactReadCommitCardSaid : Prop := Claim7.holds Tryd.pinned (.plain (OpenSpec.ofChange fnExactReadCommitSpec)) fnExactReadCommitCard

/-- THE SECOND FORM's CARD OF 'laws.FnExactAdd'. -/
def fnExactAddUptoCard : Claim7 := { stood := { row := fnExactAddUptoRow, standIns := [], harness := (true, "238cf7db821e0ac5b4b2743ea51869c073fa076f0012bef2a475bc01481433ee"), looks := false }, kinds := [], alts := [], laidByText := true, laidKinds := [.data, .data], laidTests := true, laidLooks := .later }
def FnExactAddUptoCardSaid : Prop := Claim7.holds Tryd.pinned (.plain (OpenSpec.upto fnExactAddSpec)) fnExactAddUptoCard

/-- THE SECOND FORM's CARD OF 'laws.FnExactJoined'. -/
def fnExactJoinedUptoCard : Claim7 := { stood := { row := fnExactJoinedUptoRow, standIns := [], harness := (true, "238cf7db821e0ac5b4b2743ea51869c073fa076f0012bef2a475bc01481433ee"), looks := false }, kinds := [], alts := [], laidByText := true, laidKinds := [.data, .data], laidTests := true, laidLooks := .later }
def FnExactJoinedUptoCardSaid : Prop := Claim7.holds Tryd.pinned (.plain (OpenSpec.upto fnExactJoinedSpec)) fnExactJoinedUptoCard

/-- THE SECOND FORM's CARD OF 'laws.FnAdd'. -/
def fnAddUptoCard : Claim7 := { stood := { row := fnAddUptoRow, standIns := [], harness := (true, "238cf7db821e0ac5b4b2743ea51869c073fa076f0012bef2a475bc01481433ee"), looks := false }, kinds := [], alts := [], laidByText := true, laidKinds := [.data, .data], laidTests := true, laidLooks := .later }
def FnAddUptoCardSaid : Prop := Claim7.holds Tryd.pinned (.plain (OpenSpec.upto fnAddSpec)) fnAddUptoCard

/-- THE SECOND FORM's CARD OF 'laws.FnJoined'. -/
def fnJoinedUptoCard : Claim7 := { stood := { row := fnJoinedUptoRow, standIns := [], harness := (true, "238cf7db821e0ac5b4b2743ea51869c073fa076f0012bef2a475bc01481433ee"), looks := false }, kinds := [], alts := [], laidByText := true, laidKinds := [.data, .data], laidTests := true, laidLooks := .later }
def FnJoinedUptoCardSaid : Prop := Claim7.holds Tryd.pinned (.plain (OpenSpec.upto fnJoinedSpec)) fnJoinedUptoCard

/-- THE SECOND FORM's CARD OF 'laws.FnAddOrder'. -/
def fnAddOrderUptoCard : Claim7 := { stood := { row := fnAddOrderUptoRow, standIns := [], harness := (true, "238cf7db821e0ac5b4b2743ea51869c073fa076f0012bef2a475bc01481433ee"), looks := false }, kinds := [], alts := [], laidByText := true, laidKinds := [.data, .data], laidTests := true, laidLooks := .later }
def FnAddOrderUptoCardSaid : Prop := Claim7.holds Tryd.pinned (.plain (OpenSpec.upto fnAddOrderSpec)) fnAddOrderUptoCard

/-- THE SECOND FORM's CARD OF 'laws.FnJoinedThree'. -/
def fnJoinedThreeUptoCard : Claim7 := { stood := { row := fnJoinedThreeUptoRow, standIns := [], harness := (true, "238cf7db821e0ac5b4b2743ea51869c073fa076f0012bef2a475bc01481433ee"), looks := false }, kinds := [], alts := [], laidByText := true, laidKinds := [.data, .data], laidTests := true, laidLooks := .later }
def FnJoinedThreeUptoCardSaid : Prop := Claim7.holds Tryd.pinned (.plain (OpenSpec.upto fnJoinedThreeSpec)) fnJoinedThreeUptoCard

/-- THE SECOND FORM's CARD OF 'laws.FnFoundAll'. -/
def fnFoundAllUptoCard : Claim7 := { stood := { row := fnFoundAllUptoRow, standIns := [], harness := (true, "238cf7db821e0ac5b4b2743ea51869c073fa076f0012bef2a475bc01481433ee"), looks := false }, kinds := [], alts := [], laidByText := true, laidKinds := [.data, .data], laidTests := true, laidLooks := .later }
def FnFoundAllUptoCardSaid : Prop := Claim7.holds Tryd.pinned (.plain (OpenSpec.upto fnFoundAllSpec)) fnFoundAllUptoCard

/-- THE SECOND FORM's CARD OF 'laws.FnExactReadCommit'. -/
def fnExactReadCommitUptoCard : Claim7 := { stood := { row := fnExactReadCommitUptoRow, standIns := [], harness := (true, "238cf7db821e0ac5b4b2743ea51869c073fa076f0012bef2a475bc01481433ee"), looks := false }, kinds := [], alts := [], laidByText := true, laidKinds := [.sentinel], laidTests := true, laidLooks := .later }
def FnExactReadCommitUptoCardSaid : Prop := Claim7.holds Tryd.pinned (.plain (OpenSpec.upto fnExactReadCommitSpec)) fnExactReadCommitUptoCard
end Rows
end Go.Proofs.YtaibonbabicilaaDoor
