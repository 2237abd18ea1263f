/-
  Turned words: spec.l2Rot and math/bits.RotateLeft32 are one function of a word and a number.
-/
import Derived.Test.YtdahpnjamlfakaaGreatDoorChecked
import Derived.Test.YtdahpnjamlfakaaGreatDoorPMath
import Derived.WalkKit
import Derived.WalkLawsBesides
import Derived.ProofKit
import Derived.Lib.Hide
import Derived.BigQuiet
namespace Go.Proofs.YtdahpnjamlfakaaGreatDoor
open Go.RowKit

/-- a word -/
def isW (x : Int) : Prop := 0 ≤ x ∧ x < 4294967296
/-- a word, turned to the left by k -/
def rotI (x : Int) (k : Nat) : Int := bits BinOp.or IntKind.u32 (x * 2 ^ k % 4294967296) (x / 2 ^ (32 - k))

theorem l2Rot_any (x : Int) (k : Nat) (b : Int) (w : World) (hx : isW x) (hb : b = (k : Int)) (h : 0 < k) (h' : k < 32) :
    Calls Tryz.prog 169 #[.int .u32 x, .int .i64 b] w fun e w' => e = .returned (.int .u32 (rotI x k)) ∧ w = w' := by
  obtain ⟨h0, h1⟩ := hx
  subst hb
  go_enter Tryz.func169, Tryz.ntmps169
  go_wp2
  go_ret
  refine ⟨?_, rfl⟩
  unfold rotI
  rfl
theorem and31 : ∀ k : Fin 32, bits BinOp.and IntKind.u64 (IntKind.u64.wrap ((k.val : Int) - 32)) 31 = (k.val : Int) := by decide
theorem rotl_any (x : Int) (k : Nat) (b : Int) (w : World) (hx : isW x) (hb : b = (k : Int) - 32) (h : 0 < k) (h' : k < 32) :
    Calls Tryz.prog 164 #[.int .u32 x, .int .i64 b] w fun e w' => e = .returned (.int .u32 (rotI x k)) ∧ w = w' := by
  obtain ⟨h0, h1⟩ := hx
  have a := and31 ⟨k, h'⟩
  simp only at a
  subst hb
  go_enter Tryz.func164, Tryz.ntmps164
  go_wp2
  go_ret
  refine ⟨?_, rfl⟩
  unfold rotI
  rfl
end Go.Proofs.YtdahpnjamlfakaaGreatDoor
