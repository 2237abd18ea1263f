/-
  impl.edited: a map with one change done.
-/
import Derived.Test.YtaofemdhgfejjaaGreatDoorHApp
import Derived.Test.YtaofemdhgfejjaaGreatDoorHEditO
namespace Go.Proofs.YtaofemdhgfejjaaGreatDoor
open Go.RowKit

theorem te_gain_gain (v : Value) (W : World) : (Instr.typeAssert (.iface 119 v) 74 119 true).run Tryz.prog W = .ok (.tuple #[v, .bool true]) W := by kernel_rfl
theorem te_turn_gain (v : Value) (W : World) : (Instr.typeAssert (.iface 121 v) 74 119 true).run Tryz.prog W = .ok (.tuple #[.agg #[.string ⟨#[]⟩, .string ⟨#[]⟩], .bool false]) W := by kernel_rfl
theorem te_turn_turn (v : Value) (W : World) : (Instr.typeAssert (.iface 121 v) 74 121 true).run Tryz.prog W = .ok (.tuple #[v, .bool true]) W := by kernel_rfl
theorem te_loss_gain (v : Value) (W : World) : (Instr.typeAssert (.iface 117 v) 74 119 true).run Tryz.prog W = .ok (.tuple #[.agg #[.string ⟨#[]⟩, .string ⟨#[]⟩], .bool false]) W := by kernel_rfl
theorem te_loss_turn (v : Value) (W : World) : (Instr.typeAssert (.iface 117 v) 74 121 true).run Tryz.prog W = .ok (.tuple #[.agg #[.string ⟨#[]⟩, .string ⟨#[]⟩, .string ⟨#[]⟩, .string ⟨#[]⟩], .bool false]) W := by kernel_rfl
theorem te_loss_loss (v : Value) (W : World) : (Instr.typeAssert (.iface 117 v) 74 117 true).run Tryz.prog W = .ok (.tuple #[v, .bool true]) W := by kernel_rfl
theorem te_idle_gain (v : Value) (W : World) : (Instr.typeAssert (.iface 123 v) 74 119 true).run Tryz.prog W = .ok (.tuple #[.agg #[.string ⟨#[]⟩, .string ⟨#[]⟩], .bool false]) W := by kernel_rfl
theorem te_idle_loss (v : Value) (W : World) : (Instr.typeAssert (.iface 123 v) 74 117 true).run Tryz.prog W = .ok (.tuple #[.agg #[.string ⟨#[]⟩, .string ⟨#[]⟩], .bool false]) W := by kernel_rfl
theorem te_idle_turn (v : Value) (W : World) : (Instr.typeAssert (.iface 123 v) 74 121 true).run Tryz.prog W = .ok (.tuple #[.agg #[.string ⟨#[]⟩, .string ⟨#[]⟩, .string ⟨#[]⟩, .string ⟨#[]⟩], .bool false]) W := by kernel_rfl

set_option maxRecDepth 100000 in
set_option maxHeartbeats 4000000 in
theorem edited_any (A : Option Addr) (l : List Pr) (cap : Nat) (x o n : ByteArray) (p q : Bool) (w : World) (B : Nat) (hl : l.length ≤ 65536) (hown : Own w B A cap l) (hB : B ≤ w.heap.size) (hr : risesTo l l.length) (hx : x.size ≤ maxLen) (hn : n.size ≤ maxLen) (hq : q = false → hasB l x = p) :
    Calls Tryz.prog 43 #[.slice A l.length cap, editV x o n p q] w (RetOwn B (stepM l (x, o, n, p, q)) w) := by
  have HR := hide hr
  have O := hide hown
  have hc := hown.cap_le
  clear hr hown
  rcases q with _ | _
  · have hh := hq rfl
    have hs := hide (stepM_no (m := l) (c := (x, o, n, p, false)) rfl)
    clear hq
    rcases p with _ | _
    · have E : Hid (stepM l (x, o, n, false, false) = l) := hide (by rw [hs.out]; unfold delL; rw [show hasB l (x, o, n, false, false).1 = false from hh]; rfl)
      have t1 := te_idle_gain
      have t2 := te_idle_loss
      have t3 := te_idle_turn
      rw [editV]
      clear hs
      go_enter Tryz.func43, Tryz.ntmps43
      go_wp2
      go_ret
      rw [E.out]
      exact ⟨A, cap, hc, rfl, O.out, Below.refl _ _⟩
    · have E : Hid (stepM l (x, o, n, true, false) = l.eraseIdx (atN l x)) := hide (by rw [hs.out]; unfold delL; rw [if_pos (show hasB l (x, o, n, true, false).1 = true from hh)])
      have t1 := te_loss_gain
      have t2 := te_loss_turn
      have t3 := te_loss_loss
      obtain ⟨hlt, he⟩ := hasB_iff.1 hh
      clear hs he
      rw [editV]
      go_enter Tryz.func43, Tryz.ntmps43
      go_wp2_with fail
      have bx : Hid (Below w.heap.size w (w.alloc (.cells #[.string x, .string o] 117))) := hide ((Below.refl _ _).alloc (Nat.le_refl _) _)
      refine (place_any A l cap x _ hl ((O.out.pin.below bx.out).more bx.out.size) HR.out).mono ?_
      rintro e w2 ⟨rfl, b2⟩
      have B2 := hide (bx.out.trans (b2.mono bx.out.size))
      clear b2 bx
      go_wp2_with fail
      refine (without_any A l cap (atN l x) _ hl hc hlt ((O.out.pin.below B2.out).more B2.out.size)).mono ?_
      rintro e w3 ⟨A3, cap3, hc3, rfl, own3, b3⟩
      have B3 := hide (B2.out.trans (b3.mono B2.out.size))
      have O3 := hide (own3.more (Nat.le_trans hB B2.out.size))
      clear b3 own3
      go_wp2
      go_ret
      rw [E.out]
      exact ⟨A3, cap3, hc3, rfl, O3.out, B3.out.mono hB⟩
  · have E := hide (stepM_yes (m := l) (c := (x, o, n, p, true)) rfl)
    clear hq
    rcases p with _ | _
    · have t1 := te_gain_gain
      rw [editV]
      go_enter Tryz.func43, Tryz.ntmps43
      go_wp2_with fail
      have bx : Hid (Below w.heap.size w (w.alloc (.cells #[.string x, .string n] 119))) := hide ((Below.refl _ _).alloc (Nat.le_refl _) _)
      refine (with_any A l cap x n _ hl hc ((O.out.pin.below bx.out).more bx.out.size) HR.out hx hn).mono ?_
      rintro e w3 ⟨A3, cap3, hc3, rfl, own3, b3⟩
      have B3 := hide (bx.out.trans (b3.mono bx.out.size))
      have O3 := hide (own3.more (Nat.le_trans hB bx.out.size))
      clear b3 own3
      go_wp2
      go_ret
      rw [E.out]
      exact ⟨A3, cap3, hc3, rfl, O3.out, B3.out.mono hB⟩
    · have t1 := te_turn_gain
      have t2 := te_turn_turn
      rw [editV]
      go_enter Tryz.func43, Tryz.ntmps43
      go_wp2_with fail
      have bx : Hid (Below w.heap.size w (w.alloc (.cells #[.string x, .string o, .string x, .string n] 121))) := hide ((Below.refl _ _).alloc (Nat.le_refl _) _)
      refine (with_any A l cap x n _ hl hc ((O.out.pin.below bx.out).more bx.out.size) HR.out hx hn).mono ?_
      rintro e w3 ⟨A3, cap3, hc3, rfl, own3, b3⟩
      have B3 := hide (bx.out.trans (b3.mono bx.out.size))
      have O3 := hide (own3.more (Nat.le_trans hB bx.out.size))
      clear b3 own3
      go_wp2
      go_ret
      rw [E.out]
      exact ⟨A3, cap3, hc3, rfl, O3.out, B3.out.mono hB⟩
end Go.Proofs.YtaofemdhgfejjaaGreatDoor
