/-
  Disks: sizes, and what they are in memory.
-/
import Derived.Test.YtblggbihnglipaaDDo
import Derived.Test.YtblggbihnglipaaDSame
namespace Go.Proofs.Ytblggbihnglipaa
open Go.RowKit

theorem sumF_pick {l : List Pr} {j : Nat} (h : j < l.length) : sumF l = sumF (l.take j) + l[j].2.size + sumF (l.drop (j + 1)) := by
  have e : l = l.take j ++ l[j] :: l.drop (j + 1) := by rw [List.getElem_cons_drop, List.take_append_drop]
  conv => lhs; rw [e]
  rw [sumF_app, sumF_cons]
  omega
theorem sumF_split (l : List Pr) (j : Nat) : sumF l = sumF (l.take j) + sumF (l.drop j) := by rw [← sumF_app, List.take_append_drop]
theorem sumF_set (l : List Pr) (k v : ByteArray) : sumF (setL l k v) + (valOf l k).size = sumF l + v.size := by
  rw [setL_behind, sumF_app, sumF_cons]
  cases hb : hasB l k
  · have e : behind l k = atN l k := by unfold behind; rw [hb]; rfl
    have := sumF_split l (atN l k)
    rw [valOf_no hb, e]
    simp only [ByteArray.size_empty]
    omega
  · obtain ⟨h1, h2⟩ := hasB_iff.1 hb
    have e : behind l k = atN l k + 1 := by unfold behind; rw [hb]; rfl
    have := sumF_pick h1
    rw [e, valOf_yes h1 h2]
    dsimp only
    omega
theorem sumF_filter_le (l : List Pr) (p : Pr → Bool) : sumF (l.filter p) ≤ sumF l := by
  induction l with
  | nil => exact Nat.le_refl _
  | cons a r ih =>
    rw [List.filter_cons]
    split
    · rw [sumF_cons, sumF_cons]; omega
    · rw [sumF_cons]; omega
theorem sumF_cut {l : List Pr} (hr : Ris l) (k : ByteArray) : sumF (cutF1 l k) + (valOf l k).size ≤ sumF l := by
  cases hb : hasB l k
  · rw [cut_none hr hb, valOf_no hb]
    simp
  · obtain ⟨h1, h2⟩ := hasB_iff.1 hb
    rw [sumF_pick h1, ← valOf_yes h1 h2]
    have e : cutF1 l k = cutF1 (l.take (atN l k)) k ++ cutF1 (l.drop (atN l k + 1)) k := by
      have e : l = l.take (atN l k) ++ l[atN l k] :: l.drop (atN l k + 1) := by rw [List.getElem_cons_drop, List.take_append_drop]
      conv => lhs; rw [e]
      unfold cutF1
      rw [List.filter_append, List.filter_cons, eqS_yes h2]
      rfl
    have a := sumF_filter_le (l.take (atN l k)) (fun p => !(p.1.toList == k.toList))
    have b := sumF_filter_le (l.drop (atN l k + 1)) (fun p => !(p.1.toList == k.toList))
    rw [e, sumF_app]
    unfold cutF1
    omega
theorem sumF_do {l : List Pr} (hr : Ris l) (o : Dp) : sumF (doF l o) ≤ sumF l + o.2.2.2.size := by
  unfold doF
  split
  · have := sumF_set l o.2.1 (valOf l o.2.1 ++ o.2.2.2)
    rw [app_size] at this
    omega
  · split
    · split
      · have a := sumF_set (cutF1 l o.2.1) o.2.2.1 (valOf l o.2.1)
        have b := sumF_cut hr o.2.1
        omega
      · have b := sumF_cut hr o.2.1
        omega
    · omega
theorem val_le_sum (l : List Pr) (k : ByteArray) : (valOf l k).size ≤ sumF l := by
  cases hb : hasB l k
  · rw [valOf_no hb]; simp
  · obtain ⟨h1, h2⟩ := hasB_iff.1 hb
    rw [sumF_pick h1, valOf_yes h1 h2]
    omega
/-- texts that are short, rows that are short -/
def opS (o : Dp) : Prop := o.2.1.size ≤ 2097152 ∧ o.2.2.1.size ≤ 2097152 ∧ o.2.2.2.size ≤ 2097152
def dskS (d : Dk) : Prop := d.1.length ≤ 1048576 ∧ d.2.1.length ≤ 1048576 ∧ d.2.2.length ≤ 1048576 ∧ sumF d.1 ≤ 2097152 ∧ sumF d.2.1 ≤ 2097152 ∧ ∀ o ∈ d.2.2, opS o
/-- a disk in memory below block B -/
def DkIn (w : World) (B : Nat) (A1 A2 A3 : Option Addr) (d : Dk) : Prop := PIn w B A1 d.1 ∧ PIn w B A2 d.2.1 ∧ DIn w B A3 d.2.2
theorem DkIn.below {w w' : World} {B : Nat} {A1 A2 A3 : Option Addr} {d : Dk} (h : DkIn w B A1 A2 A3 d) (q : Below B w w') : DkIn w' B A1 A2 A3 d := ⟨h.1.below q, h.2.1.below q, h.2.2.below q⟩
theorem DkIn.more {w : World} {B B' : Nat} {A1 A2 A3 : Option Addr} {d : Dk} (h : DkIn w B A1 A2 A3 d) (hB : B ≤ B') : DkIn w B' A1 A2 A3 d := ⟨h.1.more hB, h.2.1.more hB, h.2.2.more hB⟩
/-- a disk whose rows are the call's own, each its own -/
def DkOwn (w : World) (B : Nat) (A1 A2 A3 : Option Addr) (c1 c2 c3 : Nat) (d : Dk) : Prop := Own w B A1 c1 d.1 ∧ Own w B A2 c2 d.2.1 ∧ DOwn w B A3 c3 d.2.2 ∧ ∀ g, rowOf A1 = some g → rowOf A2 ≠ some g
theorem DkOwn.into {w : World} {B : Nat} {A1 A2 A3 : Option Addr} {c1 c2 c3 : Nat} {d : Dk} (h : DkOwn w B A1 A2 A3 c1 c2 c3 d) : DkIn w w.heap.size A1 A2 A3 d := ⟨h.1.pin, h.2.1.pin, h.2.2.1.pin⟩
theorem DkOwn.more {w : World} {B B' : Nat} {A1 A2 A3 : Option Addr} {c1 c2 c3 : Nat} {d : Dk} (h : DkOwn w B A1 A2 A3 c1 c2 c3 d) (hB : B' ≤ B) : DkOwn w B' A1 A2 A3 c1 c2 c3 d := ⟨h.1.more hB, h.2.1.more hB, h.2.2.1.more hB, h.2.2.2⟩
theorem DkOwn.below {w w' : World} {B : Nat} {A1 A2 A3 : Option Addr} {c1 c2 c3 : Nat} {d : Dk} (h : DkOwn w B A1 A2 A3 c1 c2 c3 d) (hb : Below w.heap.size w w') : DkOwn w' B A1 A2 A3 c1 c2 c3 d := ⟨h.1.below hb, h.2.1.below hb, h.2.2.1.below hb, h.2.2.2⟩
def emK : Dk := ([], [], [])
theorem DkOwn.none (w : World) (B : Nat) : DkOwn w B none none none 0 0 0 emK := ⟨Own.nil _ _, Own.nil _ _, DOwn.nil _ _, fun _ h => by cases h⟩
/-- a disk comes back · with a number · with a flag -/
def RetK (B : Nat) (d : Dk) (w : World) (e : Ending) (w' : World) : Prop := ∃ A1 A2 A3 c1 c2 c3, e = .returned (.agg #[.slice A1 d.1.length c1, .slice A2 d.2.1.length c2, .slice A3 d.2.2.length c3]) ∧ DkOwn w' B A1 A2 A3 c1 c2 c3 d ∧ Below B w w'
def RetKC (B : Nat) (d : Dk) (n : Int) (w : World) (e : Ending) (w' : World) : Prop := ∃ A1 A2 A3 c1 c2 c3, e = .returned (.tuple #[.agg #[.slice A1 d.1.length c1, .slice A2 d.2.1.length c2, .slice A3 d.2.2.length c3], .int .i64 n]) ∧ DkOwn w' B A1 A2 A3 c1 c2 c3 d ∧ Below B w w'
def RetKB (B : Nat) (d : Dk) (b : Bool) (w : World) (e : Ending) (w' : World) : Prop := ∃ A1 A2 A3 c1 c2 c3, e = .returned (.tuple #[.agg #[.slice A1 d.1.length c1, .slice A2 d.2.1.length c2, .slice A3 d.2.2.length c3], .bool b]) ∧ DkOwn w' B A1 A2 A3 c1 c2 c3 d ∧ Below B w w'
end Go.Proofs.Ytblggbihnglipaa
