/-
  DERIVED. GIVEN WITH THE SEED: THE CARDS: each row of YtklcjeelccblaaaDoorRows.lean that lists a variable, with what it lists TIED to the program's text (the seventh form; the later family's looks); each row that meets fmt, with fmt's text TOLD by the authors' own Lean function (tested against real Go, not proved from fmt's source: count such statements apart). THE CARD IS WHAT COUNTS. Prove the row's statement (the work); the ties are given (YtklcjeelccblaaaDoorTie.lean); close each card by the builder's one call (the guide's Derived/Test/ToyasCard.lean, 'card_holds'). Laid BY PROGRAM, IN A SANDBOX (cutbox-door.mjs). By AI agents, Wed Nov 11 2026. No macro, syntax, notation, axiom, sorry.
-/
import Derived.Test.YtklcjeelccblaaaDoorRows
import GoSem.ClaimSeven
namespace Go.Proofs.YtklcjeelccblaaaDoor
namespace Rows

/-- THE TIED CARD OF 'laws.FnIds'. -/
def fnIdsCard : Claim7 := { stood := { row := fnIdsRow, standIns := [], harness := (true, "994738eb271634ff613dfb1eddd51a1a4503d78fe0ce9089aca5674018a3852d"), looks := false }, kinds := [], alts := [], laidByText := true, laidKinds := [.data, .data], laidTests := true, laidLooks := .later }
def FnIdsCardSaid : Prop := Claim7.holds Tryd.pinned (.plain (OpenSpec.ofChange fnIdsSpec)) fnIdsCard

/-- THE TIED CARD OF 'laws.FnShaLong'. -/
def fnShaLongCard : Claim7 := { stood := { row := fnShaLongRow, standIns := [], harness := (true, "994738eb271634ff613dfb1eddd51a1a4503d78fe0ce9089aca5674018a3852d"), looks := false }, kinds := [], alts := [], laidByText := true, laidKinds := [.data, .data], laidTests := true, laidLooks := .later }
def FnShaLongCardSaid : Prop := Claim7.holds Tryd.pinned (.plain (OpenSpec.ofChange fnShaLongSpec)) fnShaLongCard

/-- THE TIED CARD OF 'laws.FnExactSha256'. -/
def fnExactSha256Card : Claim7 := { stood := { row := fnExactSha256Row, standIns := [], harness := (true, "994738eb271634ff613dfb1eddd51a1a4503d78fe0ce9089aca5674018a3852d"), looks := false }, kinds := [], alts := [], laidByText := true, laidKinds := [.data, .data], laidTests := true, laidLooks := .later }
def FnExactSha256CardSaid : Prop := Claim7.holds Tryd.pinned (.plain (OpenSpec.ofChange fnExactSha256Spec)) fnExactSha256Card

/-- THE TIED CARD OF 'laws.FnExactIdOf'. -/
def fnExactIdOfCard : Claim7 := { stood := { row := fnExactIdOfRow, standIns := [], harness := (true, "994738eb271634ff613dfb1eddd51a1a4503d78fe0ce9089aca5674018a3852d"), looks := false }, kinds := [], alts := [], laidByText := true, laidKinds := [.data, .data], laidTests := true, laidLooks := .later }
def FnExactIdOfCardSaid : Prop := Claim7.holds Tryd.pinned (.plain (OpenSpec.ofChange fnExactIdOfSpec)) fnExactIdOfCard

/-- THE SECOND FORM's CARD OF 'laws.FnIds'. -/
def fnIdsUptoCard : Claim7 := { stood := { row := fnIdsUptoRow, standIns := [], harness := (true, "994738eb271634ff613dfb1eddd51a1a4503d78fe0ce9089aca5674018a3852d"), looks := false }, kinds := [], alts := [], laidByText := true, laidKinds := [.data, .data], laidTests := true, laidLooks := .later }
def FnIdsUptoCardSaid : Prop := Claim7.holds Tryd.pinned (.plain (OpenSpec.upto fnIdsSpec)) fnIdsUptoCard

/-- THE SECOND FORM's CARD OF 'laws.FnShaLong'. -/
def fnShaLongUptoCard : Claim7 := { stood := { row := fnShaLongUptoRow, standIns := [], harness := (true, "994738eb271634ff613dfb1eddd51a1a4503d78fe0ce9089aca5674018a3852d"), looks := false }, kinds := [], alts := [], laidByText := true, laidKinds := [.data, .data], laidTests := true, laidLooks := .later }
def FnShaLongUptoCardSaid : Prop := Claim7.holds Tryd.pinned (.plain (OpenSpec.upto fnShaLongSpec)) fnShaLongUptoCard

/-- THE SECOND FORM's CARD OF 'laws.FnExactSha256'. -/
def fnExactSha256UptoCard : Claim7 := { stood := { row := fnExactSha256UptoRow, standIns := [], harness := (true, "994738eb271634ff613dfb1eddd51a1a4503d78fe0ce9089aca5674018a3852d"), looks := false }, kinds := [], alts := [], laidByText := true, laidKinds := [.data, .data], laidTests := true, laidLooks := .later }
def FnExactSha256UptoCardSaid : Prop := Claim7.holds Tryd.pinned (.plain (OpenSpec.upto fnExactSha256Spec)) fnExactSha256UptoCard

/-- THE SECOND FORM's CARD OF 'laws.FnExactIdOf'. -/
def fnExactIdOfUptoCard : Claim7 := { stood := { row := fnExactIdOfUptoRow, standIns := [], harness := (true, "994738eb271634ff613dfb1eddd51a1a4503d78fe0ce9089aca5674018a3852d"), looks := false }, kinds := [], alts := [], laidByText := true, laidKinds := [.data, .data], laidTests := true, laidLooks := .later }
def FnExactIdOfUptoCardSaid : Prop := Claim7.holds Tryd.pinned (.plain (OpenSpec.upto fnExactIdOfSpec)) fnExactIdOfUptoCard
end Rows
end Go.Proofs.YtklcjeelccblaaaDoor
