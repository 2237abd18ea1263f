/-
  DERIVED. GIVEN WITH THE SEED: THE CARDS: each row of YtkhkcdmmagicmaaDoorRows.lean that lists a variable, with what it lists TIED to the program's text (the seventh form; the later family's looks); each row that meets fmt, with fmt's text TOLD by the authors' own Lean function (tested against real Go, not proved from fmt's source: count such statements apart). THE CARD IS WHAT COUNTS. Prove the row's statement (the work); the ties are given (YtkhkcdmmagicmaaDoorTie.lean); close each card by the builder's one call (the guide's Derived/Test/ToyasCard.lean, 'card_holds'). Laid BY PROGRAM, IN A SANDBOX (cutbox-door.mjs). By AI agents, Wed Nov 11 2026. No macro, syntax, notation, axiom, sorry.
-/
import Derived.Test.YtkhkcdmmagicmaaDoorRows
import GoSem.ClaimSeven
namespace Go.Proofs.YtkhkcdmmagicmaaDoor
namespace Rows

/-- THE TIED CARD OF 'laws.FnExactMapAt'. -/
def fnExactMapAtCard : Claim7 := { stood := { row := fnExactMapAtRow, standIns := [], harness := (true, "579d6f5fa7fdfd8c84b82b2b6a96154b6ea2b03db92b835244b3e48c049d1767"), looks := false }, kinds := [], alts := [], laidByText := true, laidKinds := [.data, .data, .sentinel], laidTests := true, laidLooks := .later }
def FnExactMapAtCardSaid : Prop := Claim7.holds Tryd.pinned (.plain (OpenSpec.ofChange fnExactMapAtSpec)) fnExactMapAtCard

/-- THE TIED CARD OF 'laws.FnExactRepoOk'. -/
def fnExactRepoOkCard : Claim7 := { stood := { row := fnExactRepoOkRow, standIns := [], harness := (true, "579d6f5fa7fdfd8c84b82b2b6a96154b6ea2b03db92b835244b3e48c049d1767"), looks := false }, kinds := [], alts := [], laidByText := true, laidKinds := [.data, .data, .sentinel], laidTests := true, laidLooks := .later }
def FnExactRepoOkCardSaid : Prop := Claim7.holds Tryd.pinned (.plain (OpenSpec.ofChange fnExactRepoOkSpec)) fnExactRepoOkCard

/-- THE TIED CARD OF 'laws.FnExactAdd'. -/
def fnExactAddCard : Claim7 := { stood := { row := fnExactAddRow, standIns := [], harness := (true, "579d6f5fa7fdfd8c84b82b2b6a96154b6ea2b03db92b835244b3e48c049d1767"), looks := false }, kinds := [], alts := [], laidByText := true, laidKinds := [.data, .data], laidTests := true, laidLooks := .later }
def FnExactAddCardSaid : Prop := Claim7.holds Tryd.pinned (.plain (OpenSpec.ofChange fnExactAddSpec)) fnExactAddCard

/-- THE TIED CARD OF 'laws.FnExactIsAncestor'. -/
def fnExactIsAncestorCard : Claim7 := { stood := { row := fnExactIsAncestorRow, standIns := [], harness := (true, "579d6f5fa7fdfd8c84b82b2b6a96154b6ea2b03db92b835244b3e48c049d1767"), looks := false }, kinds := [], alts := [], laidByText := true, laidKinds := [.data, .data, .sentinel], laidTests := true, laidLooks := .later }
def FnExactIsAncestorCardSaid : Prop := Claim7.holds Tryd.pinned (.plain (OpenSpec.ofChange fnExactIsAncestorSpec)) fnExactIsAncestorCard

/-- THE SECOND FORM's CARD OF 'laws.FnExactMapAt'. -/
def fnExactMapAtUptoCard : Claim7 := { stood := { row := fnExactMapAtUptoRow, standIns := [], harness := (true, "579d6f5fa7fdfd8c84b82b2b6a96154b6ea2b03db92b835244b3e48c049d1767"), looks := false }, kinds := [], alts := [], laidByText := true, laidKinds := [.data, .data, .sentinel], laidTests := true, laidLooks := .later }
def FnExactMapAtUptoCardSaid : Prop := Claim7.holds Tryd.pinned (.plain (OpenSpec.upto fnExactMapAtSpec)) fnExactMapAtUptoCard

/-- THE SECOND FORM's CARD OF 'laws.FnExactRepoOk'. -/
def fnExactRepoOkUptoCard : Claim7 := { stood := { row := fnExactRepoOkUptoRow, standIns := [], harness := (true, "579d6f5fa7fdfd8c84b82b2b6a96154b6ea2b03db92b835244b3e48c049d1767"), looks := false }, kinds := [], alts := [], laidByText := true, laidKinds := [.data, .data, .sentinel], laidTests := true, laidLooks := .later }
def FnExactRepoOkUptoCardSaid : Prop := Claim7.holds Tryd.pinned (.plain (OpenSpec.upto fnExactRepoOkSpec)) fnExactRepoOkUptoCard

/-- THE SECOND FORM's CARD OF 'laws.FnExactAdd'. -/
def fnExactAddUptoCard : Claim7 := { stood := { row := fnExactAddUptoRow, standIns := [], harness := (true, "579d6f5fa7fdfd8c84b82b2b6a96154b6ea2b03db92b835244b3e48c049d1767"), looks := false }, kinds := [], alts := [], laidByText := true, laidKinds := [.data, .data], laidTests := true, laidLooks := .later }
def FnExactAddUptoCardSaid : Prop := Claim7.holds Tryd.pinned (.plain (OpenSpec.upto fnExactAddSpec)) fnExactAddUptoCard

/-- THE SECOND FORM's CARD OF 'laws.FnExactIsAncestor'. -/
def fnExactIsAncestorUptoCard : Claim7 := { stood := { row := fnExactIsAncestorUptoRow, standIns := [], harness := (true, "579d6f5fa7fdfd8c84b82b2b6a96154b6ea2b03db92b835244b3e48c049d1767"), looks := false }, kinds := [], alts := [], laidByText := true, laidKinds := [.data, .data, .sentinel], laidTests := true, laidLooks := .later }
def FnExactIsAncestorUptoCardSaid : Prop := Claim7.holds Tryd.pinned (.plain (OpenSpec.upto fnExactIsAncestorSpec)) fnExactIsAncestorUptoCard
end Rows
end Go.Proofs.YtkhkcdmmagicmaaDoor
