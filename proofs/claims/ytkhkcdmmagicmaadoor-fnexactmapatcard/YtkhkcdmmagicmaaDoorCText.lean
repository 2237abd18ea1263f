/-
  The text of a commit: the model, and what spec.l4Text, spec.CommitText answer.
-/
import Derived.Test.YtkhkcdmmagicmaaDoorCComL
namespace Go.Proofs.YtkhkcdmmagicmaaDoor
open Go.RowKit

/-- the text's first line, up to parent k -/
def headTo (t : ByteArray) (l : List ByteArray) : Nat → ByteArray
  | 0 => ⟨#[99, 111, 109, 109, 105, 116, 32]⟩ ++ t
  | k + 1 => headTo t l k ++ ⟨#[32]⟩ ++ l.getD k ByteArray.empty
def textC (t : ByteArray) (l : List ByteArray) (m : ByteArray) : ByteArray := headTo t l l.length ++ ⟨#[10]⟩ ++ m
noncomputable def comTextS (t : ByteArray) (l : List ByteArray) (m : ByteArray) : ByteArray := if comB t l m then textC t l m else ByteArray.empty
theorem comText_no {t m : ByteArray} {l : List ByteArray} (h : comB t l m = false) : comTextS t l m = ByteArray.empty := by unfold comTextS; rw [h]; rfl
theorem comText_yes {t m : ByteArray} {l : List ByteArray} (h : comB t l m = true) : comTextS t l m = textC t l m := by unfold comTextS; rw [h]; rfl
def par16 (l : List ByteArray) : Prop := ∀ i (h : i < l.length), l[i].size ≤ 16
theorem headTo_size {t : ByteArray} {l : List ByteArray} (ht : t.size ≤ 16) (hl : par16 l) : ∀ k, (headTo t l k).size ≤ 23 + 17 * k
  | 0 => by
    have e : (ByteArray.mk #[99, 111, 109, 109, 105, 116, 32]).size = 7 := rfl
    rw [headTo, ByteArray.size_append, e]; omega
  | k + 1 => by
    have e : (ByteArray.mk #[32]).size = 1 := rfl
    have h := headTo_size ht hl k
    have g : (l.getD k ByteArray.empty).size ≤ 16 := by
      by_cases hk : k < l.length
      · rw [show l.getD k ByteArray.empty = l[k] by simp [hk]]; exact hl k hk
      · rw [show l.getD k ByteArray.empty = ByteArray.empty by simp [hk]]; decide
    rw [headTo, ByteArray.size_append, ByteArray.size_append, e]; omega
theorem headTo_next {t : ByteArray} {l : List ByteArray} {k : Nat} (h : k < l.length) : headTo t l (k + 1) = headTo t l k ++ ⟨#[32]⟩ ++ l[k] := by
  rw [headTo, show l.getD k ByteArray.empty = l[k] by simp [h]]
/-- what a right commit's parts measure -/
def comSz (t : ByteArray) (l : List ByteArray) (m : ByteArray) : Prop := t.size ≤ 16 ∧ l.length ≤ 2 ∧ par16 l ∧ m.size ≤ 40

set_option maxRecDepth 100000 in
set_option maxHeartbeats 1000000 in
theorem l4Text_any (t m : ByteArray) (A : Option Addr) (l : List ByteArray) (cap : Nat) (w : World) (hz : comSz t l m) (hin : SIn w w.heap.size A l) :
    Calls Tryd.prog 73 #[.agg #[.string t, .slice A l.length cap, .string m]] w fun e w' => e = .returned (.string (textC t l m)) ∧ Below w.heap.size w w' := by
  have B1 : Hid (Below w.heap.size w (w.alloc (.cells #[.string t, .slice A l.length cap, .string m] 45))) := hide ((Below.refl _ w).alloc (Nat.le_refl _) _)
  have IN0 := hide (hin.below B1.out)
  have X := hide (box3 w (.string t) (.slice A l.length cap) (.string m) 45)
  obtain ⟨h1, h2, h3, h4⟩ := hz
  have S := hide (headTo_size h1 h3)
  have H3 := hide h3
  clear hin h3
  have T : Hid (textC t l m = headTo t l l.length ++ ⟨#[10]⟩ ++ m) := hide rfl
  generalize hn : l.length = n at *
  have HN := hide hn
  clear hn
  have e7 : (ByteArray.mk #[99, 111, 109, 109, 105, 116, 32]).size = 7 := rfl
  have e1 : (ByteArray.mk #[32]).size = 1 := rfl
  have e10 : (ByteArray.mk #[10]).size = 1 := rfl
  go_enter Tryd.func73, Tryd.ntmps73
  go_wp2
  go_loopw [3, 4] (fun sv iv wr => ∃ (k : Nat) (s : ByteArray), k ≤ n ∧ iv = .int .i64 k ∧ sv = .string s ∧ Hid (s = headTo t l k) ∧ Hid (Quiet (w.alloc (.cells #[.string t, .slice A n cap, .string m] 45)) wr)) (fun _ i _ => n - (intOf i).toNat)
  case atStart => exact ⟨0, _, Nat.zero_le _, rfl, rfl, rfl, Quiet.refl _⟩
  case round =>
    obtain ⟨k, s, hk, rfl, rfl, H, Q⟩ := hrel
    have IN := hide (IN0.out.below (Q.out.below _))
    have x0 := (Q.out.cell ⟨w.heap.size, 0, none⟩).trans X.out.1
    have x1 := (Q.out.cell ⟨w.heap.size, 1, none⟩).trans X.out.2.1
    have x2 := (Q.out.cell ⟨w.heap.size, 2, none⟩).trans X.out.2.2
    have BB := hide (B1.out.trans (Q.out.below _))
    have s0 : s.size ≤ 23 + 17 * k := by rw [H.out]; exact S.out k
    clear IN0 X B1 S
    by_cases hlt : k < n
    · have hkl : k < l.length := by rw [HN.out]; omega
      obtain ⟨b, off, rfl, _, hc⟩ := IN.out.2 (by omega)
      have c1 := hc k hkl
      have s1 := H3.out k hkl
      have Z : Hid (s ++ ⟨#[32]⟩ ++ l[k] = headTo t l (k + 1)) := hide (by rw [headTo_next hkl, H.out])
      generalize l[k] = x at *
      clear hc
      have z1 : (s ++ ByteArray.mk #[32]).size = s.size + 1 := by rw [ByteArray.size_append, e1]
      go_wp2
      exact ⟨⟨k + 1, _, by omega, by go_num, rfl, Z, Q⟩, by simp [intOf]; omega⟩
    · obtain rfl : k = n := by omega
      have Z : Hid (s ++ ⟨#[10]⟩ ++ m = textC t l m) := hide (by rw [T.out, H.out])
      have z1 : (s ++ ByteArray.mk #[10]).size = s.size + 1 := by rw [ByteArray.size_append, e10]
      go_wp2
      go_ret
      exact ⟨ret_str Z.out, BB.out⟩

theorem idB_sz {s : ByteArray} (h : QI.idB s = true) : s.size = 16 := by
  by_cases g : s.size = 16
  · exact g
  · rw [QI.idB_len g] at h; cases h
theorem comSz_of {t m : ByteArray} {l : List ByteArray} (h : comB t l m = true) : comSz t l m := by
  unfold comB at h
  simp only [Bool.and_eq_true] at h
  obtain ⟨⟨a, b⟩, c⟩ := h
  obtain ⟨b1, b2, _⟩ := parB_iff.1 b
  exact ⟨by have := idB_sz a; omega, b1, fun i hi => by have := idB_sz (b2 i hi hi); omega, by have := (okB_iff.1 c).2.1; omega⟩

set_option maxRecDepth 100000 in
set_option maxHeartbeats 1000000 in
theorem specCommitText_any (t m : ByteArray) (A : Option Addr) (l : List ByteArray) (cap : Nat) (w : World) (ht : t.size ≤ maxLen) (hm : m.size ≤ maxLen) (hl : l.length ≤ maxLen) (hin : SIn w w.heap.size A l) :
    Calls Tryd.prog 53 #[.agg #[.string t, .slice A l.length cap, .string m]] w fun e w' => e = .returned (.string (comTextS t l m)) ∧ Below w.heap.size w w' := by
  have B1 : Hid (Below w.heap.size w (w.alloc (.cells #[.string t, .slice A l.length cap, .string m] 45))) := hide ((Below.refl _ w).alloc (Nat.le_refl _) _)
  have X := hide (box3 w (.string t) (.slice A l.length cap) (.string m) 45)
  have R := hide (specCommitOk_any t m A l cap _ ht hm hl ((hin.below B1.out).more B1.out.size))
  have IN := hide hin
  clear hin
  cases hc : comB t l m
  · rw [hc] at R
    have Z := hide (comText_no hc)
    go_enter Tryd.func53, Tryd.ntmps53
    go_wp2_with fail
    refine R.out.mono ?_
    rintro e w1 ⟨rfl, b1⟩
    have BB := hide (B1.out.trans (b1.mono B1.out.size))
    clear b1
    go_wp2
    go_ret
    exact ⟨ret_str Z.out.symm, BB.out⟩
  · rw [hc] at R
    have Z := hide (comText_yes hc)
    have HS := hide (comSz_of hc)
    go_enter Tryd.func53, Tryd.ntmps53
    go_wp2_with fail
    refine R.out.mono ?_
    rintro e w1 ⟨rfl, b1⟩
    have lt : w.heap.size < (w.alloc (.cells #[.string t, .slice A l.length cap, .string m] 45)).heap.size := by simp
    have x0 := cellB b1 lt X.out.1
    have x1 := cellB b1 lt X.out.2.1
    have x2 := cellB b1 lt X.out.2.2
    have BB := hide (B1.out.trans (b1.mono B1.out.size))
    have in1 := (IN.out.below BB.out).more BB.out.size
    clear b1 R X B1 lt
    go_wp2_with fail
    refine (l4Text_any t m A l cap w1 HS.out in1).mono ?_
    rintro e w2 ⟨rfl, b2⟩
    have B2 := hide (BB.out.trans (b2.mono BB.out.size))
    clear b2
    go_wp2
    go_ret
    exact ⟨ret_str Z.out.symm, B2.out⟩
end Go.Proofs.YtkhkcdmmagicmaaDoor
