/-
  DERIVED. GIVEN WITH THE SEED: THE CARDS: each row of YtaofemdhgfejjaaDoorRows.lean that lists a variable, with what it lists TIED to the program's text (the seventh form; the later family's looks); each row that meets fmt, with fmt's text TOLD by the authors' own Lean function (tested against real Go, not proved from fmt's source: count such statements apart). THE CARD IS WHAT COUNTS. Prove the row's statement (the work); the ties are given (YtaofemdhgfejjaaDoorTie.lean); close each card by the builder's one call (the guide's Derived/Test/ToyasCard.lean, 'card_holds'). Laid BY PROGRAM, IN A SANDBOX (cutbox-door.mjs). By AI agents, Wed Nov 11 2026. No macro, syntax, notation, axiom, sorry.
-/
import Derived.Test.YtaofemdhgfejjaaDoorRows
import GoSem.ClaimSeven
namespace Go.Proofs.YtaofemdhgfejjaaDoor
namespace Rows

/-- THE TIED CARD OF 'laws.FnMergedOne'. -/
def fnMergedOneCard : Claim7 := { stood := { row := fnMergedOneRow, standIns := [], harness := (true, "6f0010c09e9ea9950d4eb16f102c758c7364df0eb24509cf98394aaf0458d848"), looks := true }, kinds := [], alts := [], laidByText := true, laidKinds := [.handle, .sentinel], laidTests := true, laidLooks := .later }
def FnMergedOneCardSaid : Prop := Claim7.holds Tryd.pinned (.plain (OpenSpec.ofChange fnMergedOneSpec)) fnMergedOneCard

/-- THE TIED CARD OF 'laws.FnMergedKeys'. -/
def fnMergedKeysCard : Claim7 := { stood := { row := fnMergedKeysRow, standIns := [], harness := (true, "6f0010c09e9ea9950d4eb16f102c758c7364df0eb24509cf98394aaf0458d848"), looks := true }, kinds := [], alts := [], laidByText := true, laidKinds := [.handle, .sentinel], laidTests := true, laidLooks := .later }
def FnMergedKeysCardSaid : Prop := Claim7.holds Tryd.pinned (.plain (OpenSpec.ofChange fnMergedKeysSpec)) fnMergedKeysCard

/-- THE TIED CARD OF 'laws.FnExactMerged'. -/
def fnExactMergedCard : Claim7 := { stood := { row := fnExactMergedRow, standIns := [], harness := (true, "6f0010c09e9ea9950d4eb16f102c758c7364df0eb24509cf98394aaf0458d848"), looks := true }, kinds := [], alts := [], laidByText := true, laidKinds := [.handle, .sentinel], laidTests := true, laidLooks := .later }
def FnExactMergedCardSaid : Prop := Claim7.holds Tryd.pinned (.plain (OpenSpec.ofChange fnExactMergedSpec)) fnExactMergedCard

/-- THE TIED CARD OF 'laws.FnExactResolved'. -/
def fnExactResolvedCard : Claim7 := { stood := { row := fnExactResolvedRow, standIns := [], harness := (true, "6f0010c09e9ea9950d4eb16f102c758c7364df0eb24509cf98394aaf0458d848"), looks := true }, kinds := [], alts := [], laidByText := true, laidKinds := [.handle, .sentinel], laidTests := true, laidLooks := .later }
def FnExactResolvedCardSaid : Prop := Claim7.holds Tryd.pinned (.plain (OpenSpec.ofChange fnExactResolvedSpec)) fnExactResolvedCard

/-- THE SECOND FORM's CARD OF 'laws.FnMergedOne'. -/
def fnMergedOneUptoCard : Claim7 := { stood := { row := fnMergedOneUptoRow, standIns := [], harness := (true, "6f0010c09e9ea9950d4eb16f102c758c7364df0eb24509cf98394aaf0458d848"), looks := true }, kinds := [], alts := [], laidByText := true, laidKinds := [.handle, .sentinel], laidTests := true, laidLooks := .later }
def FnMergedOneUptoCardSaid : Prop := Claim7.holds Tryd.pinned (.plain (OpenSpec.upto fnMergedOneSpec)) fnMergedOneUptoCard

/-- THE SECOND FORM's CARD OF 'laws.FnMergedKeys'. -/
def fnMergedKeysUptoCard : Claim7 := { stood := { row := fnMergedKeysUptoRow, standIns := [], harness := (true, "6f0010c09e9ea9950d4eb16f102c758c7364df0eb24509cf98394aaf0458d848"), looks := true }, kinds := [], alts := [], laidByText := true, laidKinds := [.handle, .sentinel], laidTests := true, laidLooks := .later }
def FnMergedKeysUptoCardSaid : Prop := Claim7.holds Tryd.pinned (.plain (OpenSpec.upto fnMergedKeysSpec)) fnMergedKeysUptoCard

/-- THE SECOND FORM's CARD OF 'laws.FnExactMerged'. -/
def fnExactMergedUptoCard : Claim7 := { stood := { row := fnExactMergedUptoRow, standIns := [], harness := (true, "6f0010c09e9ea9950d4eb16f102c758c7364df0eb24509cf98394aaf0458d848"), looks := true }, kinds := [], alts := [], laidByText := true, laidKinds := [.handle, .sentinel], laidTests := true, laidLooks := .later }
def FnExactMergedUptoCardSaid : Prop := Claim7.holds Tryd.pinned (.plain (OpenSpec.upto fnExactMergedSpec)) fnExactMergedUptoCard

/-- THE SECOND FORM's CARD OF 'laws.FnExactResolved'. -/
def fnExactResolvedUptoCard : Claim7 := { stood := { row := fnExactResolvedUptoRow, standIns := [], harness := (true, "6f0010c09e9ea9950d4eb16f102c758c7364df0eb24509cf98394aaf0458d848"), looks := true }, kinds := [], alts := [], laidByText := true, laidKinds := [.handle, .sentinel], laidTests := true, laidLooks := .later }
def FnExactResolvedUptoCardSaid : Prop := Claim7.holds Tryd.pinned (.plain (OpenSpec.upto fnExactResolvedSpec)) fnExactResolvedUptoCard
end Rows
end Go.Proofs.YtaofemdhgfejjaaDoor
