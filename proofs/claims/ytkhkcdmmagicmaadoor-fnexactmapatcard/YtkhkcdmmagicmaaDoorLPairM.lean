/-
  What the laws' own helpers on pairs answer: szPair, szPairS, toPair, toPairS, eqPair, eqPairS.
-/
import Derived.Test.YtkhkcdmmagicmaaDoorLPair
import Derived.Test.YtkhkcdmmagicmaaDoorPMemM
import Derived.Test.YtkhkcdmmagicmaaDoorPStr0
import Derived.BigQuiet
import Derived.IntWalk
import Derived.Deep.RegionHeld3
namespace Go.Proofs.YtkhkcdmmagicmaaDoor.M
open Go.RowKit
set_option maxHeartbeats 1000000 in
theorem eqPair_any (a b c d : ByteArray) (w : World) :
    Calls Tryd.prog 31 #[.agg #[.string a, .string b], .agg #[.string c, .string d]] w fun e w' => e = .returned (.bool (eqPr (a, b) (c, d))) ∧ (w.alloc (.cells #[.string a, .string b] 55)).alloc (.cells #[.string c, .string d] 55) = w' := by
  by_cases h1 : a = c
  · by_cases h2 : b = d
    · subst h1 h2
      go_enter Tryd.func31, Tryd.ntmps31
      go_wp2
      go_ret
      exact ⟨ret_bool (eqPr_yes rfl).symm, rfl⟩
    · subst h1
      have hb := eqS_no h2
      have Z := hide h2
      clear h2
      go_enter Tryd.func31, Tryd.ntmps31
      go_wp2
      go_ret
      exact ⟨ret_bool (eqPr_no (by simp [Z.out])).symm, rfl⟩
  · have hb := eqS_no h1
    have Z := hide h1
    clear h1
    go_enter Tryd.func31, Tryd.ntmps31
    go_wp2
    go_ret
    exact ⟨ret_bool (eqPr_no (by simp [Z.out])).symm, rfl⟩

end Go.Proofs.YtkhkcdmmagicmaaDoor.M
