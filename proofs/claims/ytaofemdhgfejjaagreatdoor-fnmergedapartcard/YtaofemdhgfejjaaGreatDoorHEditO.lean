/-
  What impl.editOf makes of a change.
-/
import Derived.Test.YtaofemdhgfejjaaGreatDoorHMem
import Derived.Test.YtaofemdhgfejjaaGreatDoorPStr0
import Derived.RegionTactic
namespace Go.Proofs.YtaofemdhgfejjaaGreatDoor
open Go.RowKit

/-- the edit of a change -/
def editV (x o n : ByteArray) : Bool → Bool → Value
  | true, true => .iface 121 (.agg #[.string x, .string o, .string x, .string n])
  | true, false => .iface 117 (.agg #[.string x, .string o])
  | false, true => .iface 119 (.agg #[.string x, .string n])
  | false, false => .iface 123 (.agg #[.string x])
theorem below3 (w : World) (a b c : Obj) : Below w.heap.size w (((w.alloc a).alloc b).alloc c).drew := ((((Below.refl _ _).alloc (Nat.le_refl _) _).alloc (by simp) _).alloc (by simp; omega) _).drew

set_option maxRecDepth 100000 in
set_option maxHeartbeats 2000000 in
theorem editOf_any (x o n : ByteArray) (p q : Bool) (w : World) :
    Calls Tryz.prog 44 #[.agg #[.string x, .string o, .string n, .bool p, .bool q]] w fun e w' => e = .returned (editV x o n p q) ∧ Below w.heap.size w w' := by
  cases p <;> cases q
  all_goals
    go_enter Tryz.func44, Tryz.ntmps44
    go_wp2
    go_region
    all_goals
      go_wp2
      go_ret
      exact ⟨rfl, below3 w _ _ _⟩

end Go.Proofs.YtaofemdhgfejjaaGreatDoor
