/-
  Marks from a number that stands as an integer.
-/
import Derived.Test.YtkhkcdmmagicmaaDoorLMark
namespace Go.Proofs.YtkhkcdmmagicmaaDoor
open Go.RowKit
theorem markPairS_int (A : Option Addr) (l : List Pr) (cap : Nat) (x : Int) (k : Nat) (w : World) (B : Nat) (h : x = (k : Int)) (hk : 1 ≤ k) (hl : k + 2 * l.length ≤ 10000000) (hown : Own w B A cap l) :
    Calls Tryd.prog 13 #[.slice A l.length cap, .int .i64 x] w (MarkRet k w B A cap l.length) := by subst h; exact markPairS_any A l cap k w B hk hl hown
end Go.Proofs.YtkhkcdmmagicmaaDoor
