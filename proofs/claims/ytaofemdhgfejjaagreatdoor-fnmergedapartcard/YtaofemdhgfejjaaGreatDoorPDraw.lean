/-
  What is drawn: maps, keys and values (loosely: that they are such). And sameMap.
-/
import Derived.Test.YtaofemdhgfejjaaGreatDoorPRd
import Derived.Test.YtaofemdhgfejjaaGreatDoorPDropI
namespace Go.Proofs.YtaofemdhgfejjaaGreatDoor
open Go.RowKit

theorem Own.rd {w w' : World} {rb : Nat} {A : Option Addr} {cap : Nat} {l : List Pr} (h : Own w (rb + 1) A cap l) (hg : w.grownBy w' (some rb)) : Own w' (rb + 1) A cap l := by
  refine ⟨h.1, h.2.kept hg ?_⟩
  rw [rowOf_own]
  cases e : rowOf A with
  | none => exact .inl rfl
  | some g => exact .inr (fun x => by injection x with x; have := (h.row g e).1; omega)

/-- a drawn map -/
def RdL (rb : Nat) (w : World) (e : Ending) (w' : World) : Prop := ∃ A cap l, l.length ≤ cap ∧ l.length ≤ 40 ∧ e = .returned (.slice A l.length cap) ∧ Own w' (rb + 1) A cap l ∧ Rd w' rb ∧ w.grownBy w' (some rb)

set_option maxRecDepth 100000 in
set_option maxHeartbeats 1000000 in
theorem pairs_any (rb : Nat) (most : Int) (w : World) (h : Rd w rb) (h0 : 0 ≤ most) (h1 : most ≤ 100) :
    Calls Tryz.prog 23 #[.pointer (some ⟨rb, 0, none⟩), .int .i64 most] w (RdL rb w) := by
  have hlt := h.lt
  have O0 := hide (Own.built w (rb + 1) hlt)
  have r0 := h.below ((Below.refl _ w).alloc (Nat.le_refl _) (.cells #[] 60))
  clear h
  go_enter Tryz.func23, Tryz.ntmps23
  go_wp2_with fail
  refine (below_any rb (most + 1) _ r0 (by omega) (by omega)).mono ?_
  rintro e w1 ⟨x, hx0, hx1, rfl, r1, g1⟩
  obtain ⟨k0, rfl⟩ := Int.eq_ofNat_of_zero_le hx0
  have O1 := hide (O0.out.rd g1)
  have R1 := hide r1
  have G1 := hide (World.grownBy.trans (World.grownBy_alloc w _ _) g1)
  clear r0 r1 g1 O0
  go_wp2
  go_loopw [5, 6] (fun m i wr => ∃ (k : Nat) (A : Option Addr) (cap : Nat) (l : List Pr), k ≤ k0 ∧ i = .int .i64 k ∧ m = .slice A l.length cap ∧ l.length ≤ 40 ∧ Hid (Own wr (rb + 1) A cap l) ∧ Hid (Rd wr rb) ∧ Hid (w.grownBy wr (some rb))) (fun _ i _ => (intOf i).toNat)
  case atStart => exact ⟨k0, _, 0, [], Nat.le_refl _, rfl, rfl, by simp, O1, R1, G1⟩
  case round =>
    clear O1 R1 G1
    obtain ⟨k, A, cap, l, hk, rfl, rfl, hl, O, R, G⟩ := hrel
    by_cases hk0 : 0 < k
    · have hrl := R.out.lt
      go_wp2_with fail
      refine (key_any rb wr R.out).mono ?_
      rintro e w2 ⟨s, hs, _, rfl, r2, g2⟩
      have O2 := hide (O.out.rd g2)
      have G2 := hide (World.grownBy.trans G.out g2)
      clear g2 O R G
      go_wp2_with fail
      refine (val_any rb w2 r2).mono ?_
      rintro e w3 ⟨v, hv, _, rfl, r3, g3⟩
      have O3 := hide (O2.out.rd g3)
      have R3 := hide r3
      have G3 := hide (World.grownBy.trans G2.out g3)
      clear g3 O2 G2 r2 r3
      go_wp2_with fail
      refine (specPut_any A l cap s v w3 (by unfold maxLen; omega) O3.out.cap_le O3.out.pin (by unfold maxLen; omega) (by unfold maxLen; omega)).mono ?_
      rintro e w4 ⟨A4, cap4, hc4, rfl, own4, b4⟩
      have O4 := hide (own4.more (B' := rb + 1) R3.out.lt)
      have O4' := hide (O3.out.below b4)
      have R4 := hide (R3.out.below b4)
      have G4 := hide (World.grownBy.trans G3.out (grown_of_below b4))
      have hpl := putL_len l s v
      clear own4 b4 O3 R3 G3
      cases hb : putB l s v
      · go_wp2
        go_roundw
        case rel => exact ⟨k - 1, A, cap, l, by omega, by go_num, rfl, hl, O4', R4, G4⟩
        case measure => simp [intOf]; omega
      · go_wp2
        go_roundw
        case rel => exact ⟨k - 1, A4, cap4, putL l s v, by omega, by go_num, rfl, hpl, O4, R4, G4⟩
        case measure => simp [intOf]; omega
    · go_wp2
      go_ret
      exact ⟨A, cap, l, O.out.cap_le, hl, rfl, O.out, R.out, G.out⟩

/-- a drawn map, a key and a value -/
def DrawnPut (w : World) (e : Ending) (w' : World) : Prop := ∃ A cap l k v, l.length ≤ cap ∧ l.length ≤ 40 ∧ k.size ≤ 12 ∧ v.size ≤ 12 ∧ Hid (k ≠ otherS) ∧ e = .returned (.tuple #[.slice A l.length cap, .string k, .string v]) ∧ Own w' w.heap.size A cap l ∧ Below w.heap.size w w'
/-- a drawn map and a key -/
def DrawnGet (w : World) (e : Ending) (w' : World) : Prop := ∃ A cap l k, l.length ≤ cap ∧ l.length ≤ 40 ∧ k.size ≤ 12 ∧ e = .returned (.tuple #[.slice A l.length cap, .string k]) ∧ Own w' w.heap.size A cap l ∧ Below w.heap.size w w'
/-- a drawn map -/
def DrawnMap (w : World) (e : Ending) (w' : World) : Prop := ∃ A cap l, l.length ≤ cap ∧ l.length ≤ 40 ∧ e = .returned (.slice A l.length cap) ∧ Own w' w.heap.size A cap l ∧ Below w.heap.size w w'






end Go.Proofs.YtaofemdhgfejjaaGreatDoor
