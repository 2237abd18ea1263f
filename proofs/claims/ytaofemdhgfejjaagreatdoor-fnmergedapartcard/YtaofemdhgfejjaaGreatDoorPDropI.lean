/-
  What Drop answers, in the reference and in the program; rows that lie apart.
-/
import Derived.Test.YtaofemdhgfejjaaGreatDoorPPut
namespace Go.Proofs.YtaofemdhgfejjaaGreatDoor
open Go.RowKit

theorem putL_len (l : List Pr) (k v : ByteArray) : (putL l k v).length ≤ 40 := by
  cases e : putB l k v
  · rw [putL_no e]; simp
  · rw [putL_yes e]
    have : mapB (setL l k v) = true := by
      cases h : mapB (setL l k v)
      · rw [putB_no2 h] at e; cases e
      · rfl
    exact (mapB_iff.1 this).1
theorem dropL_len (l : List Pr) (k : ByteArray) : (dropL l k).length ≤ 40 := by
  cases e : getB l k
  · rw [dropL_no e]; simp
  · rw [dropL_yes e, List.length_eraseIdx]
    have : mapB l = true := by
      cases h : mapB l
      · rw [getB_no h] at e; cases e
      · rfl
    have := (mapB_iff.1 this).1
    split <;> omega
theorem rowOf_some {b o g : Nat} (h : rowOf (some (⟨b, o, none⟩ : Addr)) = some g) : b = g := by injection h
theorem Own.apart {w w' : World} {B : Nat} {A A' : Option Addr} {cap : Nat} {l : List Pr} (h : Own w B A cap l) (hg : w.grownBy w' (rowOf A')) (hne : ∀ g, rowOf A = some g → rowOf A' ≠ some g) : Own w' B A cap l := by
  refine ⟨h.1, h.2.kept hg ?_⟩
  rw [rowOf_own]
  cases e : rowOf A with
  | none => exact .inl rfl
  | some g => exact .inr (fun x => hne g e x.symm)
theorem Own.row {w : World} {B : Nat} {A : Option Addr} {cap : Nat} {l : List Pr} (h : Own w B A cap l) : ∀ g, rowOf A = some g → B ≤ g ∧ g < w.heap.size := by
  intro g hg
  exact h.2.lt g (by rw [rowOf_own]; exact hg)


set_option maxRecDepth 100000 in
set_option maxHeartbeats 1000000 in
theorem specDrop_any (A : Option Addr) (l : List Pr) (cap : Nat) (k : ByteArray) (w : World) (hl : l.length ≤ maxLen) (hc : l.length ≤ cap) (hin : PIn w w.heap.size A l) :
    Calls Tryz.prog 48 #[.slice A l.length cap, .string k] w (RetOwnB w.heap.size (dropL l k) (getB l k) w) := by
  have R := hide (specGet_any A l cap k w _ hl hin)
  cases hg : getB l k
  · have Z := hide (dropL_no hg)
    go_enter Tryz.func48, Tryz.ntmps48
    go_wp2_with (go_at_call 71; refine R.out.mono ?_; rintro e w' ⟨rfl, q⟩)
    go_ret2
    exact retOwnB_no Z.out rfl (q.below _)
  · have hm : mapB l = true := by
      cases e : mapB l
      · rw [getB_no e] at hg; cases hg
      · rfl
    have hh : hasB l k = true := by rw [← getB_yes (k := k) hm]; exact hg
    have h40 := (mapB_iff.1 hm).1
    have HD : Hid (delL l k = dropL l k) := hide (by rw [dropL_yes hg]; unfold delL; rw [if_pos hh])
    clear hm hh
    go_enter Tryz.func48, Tryz.ntmps48
    go_wp2_with fail
    refine R.out.mono ?_
    rintro e w1 ⟨rfl, q1⟩
    have in1 := (hin.quiet q1).more (B' := w1.heap.size) (by rw [q1.heap]; exact Nat.le_refl _)
    go_wp2_with fail
    refine (l1Drop_any A l cap k w1 (by omega) hc in1).mono ?_
    rintro e w2 ⟨A2, cap2, hc2, rfl, own2, b2⟩
    rw [HD.out] at hc2 own2 ⊢
    have B2 := hide ((q1.below w.heap.size).trans (b2.mono (by rw [q1.heap]; exact Nat.le_refl _)))
    have O2 := hide (own2.more (B' := w.heap.size) (by rw [q1.heap]; exact Nat.le_refl _))
    clear own2 b2 in1 q1
    go_wp2
    go_ret2
    exact ⟨A2, cap2, hc2, rfl, O2.out, B2.out⟩
end Go.Proofs.YtaofemdhgfejjaaGreatDoor
