/-
  Where a resolved merger is unlike the merger the key is told. Plain mathematics.
-/
import Derived.Test.YtaofemdhgfejjaaGreatDoorMApart
import Derived.Test.YtaofemdhgfejjaaGreatDoorHDiffL
namespace Go.Proofs.YtaofemdhgfejjaaGreatDoor
open Go.RowKit

theorem rs_dif {o a b : List Pr} {side : Int} (h : rsB o a b side = true) {c : Ch} (hc : c ∈ diffL (mgL o a b) (rsL o a b side)) : c.1 ∈ mgK o a b := by
  have h1 := mg_map (rs_mg h)
  have h2 := rs_map h
  rw [diffL_yes (diffB_yes h1 h2)] at hc
  exact rs_same h ((dif_char _ _ _ (Nat.le_refl _) (mapB_ris h1) (mapB_ris h2)).1 c hc).2
theorem dif_yes {a b : List Pr} (h1 : mapB a = true) (h2 : mapB b = true) : diffL a b = difM a b := diffL_yes (diffB_yes h1 h2)
end Go.Proofs.YtaofemdhgfejjaaGreatDoor
