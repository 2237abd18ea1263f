/-
  DERIVED. GIVEN WITH THE SEED: THE CARDS: each row of YtlipefnaeblhfaaDoorRows.lean that lists a variable, with what it lists TIED to the program's text (the seventh form; the later family's looks); each row that meets fmt, with fmt's text TOLD by the authors' own Lean function (tested against real Go, not proved from fmt's source: count such statements apart). THE CARD IS WHAT COUNTS. Prove the row's statement (the work); the ties are given (YtlipefnaeblhfaaDoorTie.lean); close each card by the builder's one call (the guide's Derived/Test/ToyasCard.lean, 'card_holds'). Laid BY PROGRAM, IN A SANDBOX (cutbox-door.mjs). By AI agents, Wed Nov 11 2026. No macro, syntax, notation, axiom, sorry.
-/
import Derived.Test.YtlipefnaeblhfaaDoorRows
import GoSem.ClaimSeven
namespace Go.Proofs.YtlipefnaeblhfaaDoor
namespace Rows

/-- THE TIED CARD OF 'laws.FnExactPackText'. -/
def fnExactPackTextCard : Claim7 := { stood := { row := fnExactPackTextRow, standIns := [], harness := (true, "60ab916913ce6df8ce7234779c894ead5471697f5b437732223d6651e296b70e"), looks := false }, kinds := [], alts := [], laidByText := true, laidKinds := [.data, .data, .data, .data, .data], laidTests := true, laidLooks := .later }
def FnExactPackTextCardSaid : Prop := Claim7.holds Tryd.pinned (.plain (OpenSpec.ofChange fnExactPackTextSpec)) fnExactPackTextCard

/-- THE TIED CARD OF 'laws.FnExactReadPack'. -/
def fnExactReadPackCard : Claim7 := { stood := { row := fnExactReadPackRow, standIns := [], harness := (true, "60ab916913ce6df8ce7234779c894ead5471697f5b437732223d6651e296b70e"), looks := false }, kinds := [], alts := [], laidByText := true, laidKinds := [.data, .data], laidTests := true, laidLooks := .later }
def FnExactReadPackCardSaid : Prop := Claim7.holds Tryd.pinned (.plain (OpenSpec.ofChange fnExactReadPackSpec)) fnExactReadPackCard

/-- THE TIED CARD OF 'laws.FnPackPieces'. -/
def fnPackPiecesCard : Claim7 := { stood := { row := fnPackPiecesRow, standIns := [], harness := (true, "60ab916913ce6df8ce7234779c894ead5471697f5b437732223d6651e296b70e"), looks := false }, kinds := [], alts := [], laidByText := true, laidKinds := [.data, .data, .data, .data, .data], laidTests := true, laidLooks := .later }
def FnPackPiecesCardSaid : Prop := Claim7.holds Tryd.pinned (.plain (OpenSpec.ofChange fnPackPiecesSpec)) fnPackPiecesCard

/-- THE TIED CARD OF 'laws.FnPacks'. -/
def fnPacksCard : Claim7 := { stood := { row := fnPacksRow, standIns := [], harness := (true, "60ab916913ce6df8ce7234779c894ead5471697f5b437732223d6651e296b70e"), looks := false }, kinds := [], alts := [], laidByText := true, laidKinds := [.data, .data, .data, .data, .data], laidTests := true, laidLooks := .later }
def FnPacksCardSaid : Prop := Claim7.holds Tryd.pinned (.plain (OpenSpec.ofChange fnPacksSpec)) fnPacksCard

/-- THE SECOND FORM's CARD OF 'laws.FnExactPackText'. -/
def fnExactPackTextUptoCard : Claim7 := { stood := { row := fnExactPackTextUptoRow, standIns := [], harness := (true, "60ab916913ce6df8ce7234779c894ead5471697f5b437732223d6651e296b70e"), looks := false }, kinds := [], alts := [], laidByText := true, laidKinds := [.data, .data, .data, .data, .data], laidTests := true, laidLooks := .later }
def FnExactPackTextUptoCardSaid : Prop := Claim7.holds Tryd.pinned (.plain (OpenSpec.upto fnExactPackTextSpec)) fnExactPackTextUptoCard

/-- THE SECOND FORM's CARD OF 'laws.FnExactReadPack'. -/
def fnExactReadPackUptoCard : Claim7 := { stood := { row := fnExactReadPackUptoRow, standIns := [], harness := (true, "60ab916913ce6df8ce7234779c894ead5471697f5b437732223d6651e296b70e"), looks := false }, kinds := [], alts := [], laidByText := true, laidKinds := [.data, .data], laidTests := true, laidLooks := .later }
def FnExactReadPackUptoCardSaid : Prop := Claim7.holds Tryd.pinned (.plain (OpenSpec.upto fnExactReadPackSpec)) fnExactReadPackUptoCard

/-- THE SECOND FORM's CARD OF 'laws.FnPackPieces'. -/
def fnPackPiecesUptoCard : Claim7 := { stood := { row := fnPackPiecesUptoRow, standIns := [], harness := (true, "60ab916913ce6df8ce7234779c894ead5471697f5b437732223d6651e296b70e"), looks := false }, kinds := [], alts := [], laidByText := true, laidKinds := [.data, .data, .data, .data, .data], laidTests := true, laidLooks := .later }
def FnPackPiecesUptoCardSaid : Prop := Claim7.holds Tryd.pinned (.plain (OpenSpec.upto fnPackPiecesSpec)) fnPackPiecesUptoCard

/-- THE SECOND FORM's CARD OF 'laws.FnPacks'. -/
def fnPacksUptoCard : Claim7 := { stood := { row := fnPacksUptoRow, standIns := [], harness := (true, "60ab916913ce6df8ce7234779c894ead5471697f5b437732223d6651e296b70e"), looks := false }, kinds := [], alts := [], laidByText := true, laidKinds := [.data, .data, .data, .data, .data], laidTests := true, laidLooks := .later }
def FnPacksUptoCardSaid : Prop := Claim7.holds Tryd.pinned (.plain (OpenSpec.upto fnPacksSpec)) fnPacksUptoCard
end Rows
end Go.Proofs.YtlipefnaeblhfaaDoor
