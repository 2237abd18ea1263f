/-
  For every commit, laws.FnExactCommitOk returns true and leaves its argument as it was: impl.CommitOk answers as the reference does. No conditions.
-/
import Derived.Test.YtfnaolhmjgikgaaCComL
import Derived.Deep.RegionWith
namespace Go.Proofs.Ytfnaolhmjgikgaa.ExCommitOk
open Go.RowKit

def Bx (W : World) (g : Nat) (a b c : Value) : Prop := W.cell? ⟨g, 0, none⟩ = some a ∧ W.cell? ⟨g, 1, none⟩ = some b ∧ W.cell? ⟨g, 2, none⟩ = some c
theorem Bx.below {W W' : World} {g : Nat} {a b c : Value} (h : Bx W g a b c) (k : Below W.heap.size W W') : Bx W' g a b c := by
  have hb : g < W.heap.size := block_lt_of_cell h.1
  exact ⟨cellB k hb h.1, cellB k hb h.2.1, cellB k hb h.2.2⟩

set_option maxRecDepth 100000 in
set_option maxHeartbeats 1000000 in
theorem walk (t m : ByteArray) (A : Option Addr) (l : List ByteArray) (cap : Nat) (w : World) (ht : t.size ≤ maxLen) (hm : m.size ≤ maxLen) (hl : l.length ≤ maxLen) (hin : SIn w w.heap.size A l) :
    Calls Try.prog 3 #[.agg #[.string t, .slice A l.length cap, .string m]] w fun e w' => e = .returned (.bool true) ∧ Below w.heap.size w w' := by
  have ne : (comB t l m != comB t l m) = false := by simp
  have hs : Hid (slenS l) := hide hin.1
  have B0 : Hid (Below w.heap.size w (w.alloc (.cells #[.string t, .slice A l.length cap, .string m] 24))) := hide ((Below.refl _ w).alloc (Nat.le_refl _) _)
  have in0 := (hin.below B0.out).more B0.out.size
  have X0 : Hid (Bx _ w.heap.size _ _ _) := hide (box3 w (.string t) (.slice A l.length cap) (.string m) 24)
  clear hin
  go_enter Try.func3, Try.ntmps3
  go_wp2_with fail
  refine (szCommit_any t m A l cap 1048576 _ ht hm hl in0 (by omega) (by omega)).mono ?_
  rintro e w1 ⟨hr, b1⟩
  have B1 := hide (B0.out.trans (b1.mono B0.out.size))
  have X1 := hide (X0.out.below b1)
  have in1 := (in0.below b1).more b1.size
  clear b1 in0 X0 B0
  rcases hr with rfl | ⟨r, hr0, hr1, rfl⟩
  · go_wp2
    go_ret
    exact ⟨rfl, B1.out⟩
  · have hl2 : l.length ≤ 1048576 := by omega
    obtain ⟨a0, a1, a2⟩ := X1.out
    go_wp2_with fail
    refine (toCommit_any t m A l cap _ hs.out hl2 in1).mono ?_
    rintro e w2 ⟨⟨A2, rfl, own2⟩, b2⟩
    have B2 := hide (B1.out.trans (b2.mono B1.out.size))
    have X2 := hide (X1.out.below b2)
    have in2 := (in1.below b2).more b2.size
    clear b2 in1 X1 B1 a0 a1 a2
    go_wp2_with fail
    refine (specCommitOk_any t m A2 l l.length _ ht hm hl own2).mono ?_
    rintro e w3 ⟨rfl, b3⟩
    have B3 := hide (B2.out.trans (b3.mono B2.out.size))
    have X3 := hide (X2.out.below b3)
    have in3 := (in2.below b3).more b3.size
    clear b3 in2 X2 B2 own2
    obtain ⟨a0, a1, a2⟩ := X3.out
    go_wp2_with fail
    refine (toCommit_any t m A l cap _ hs.out hl2 in3).mono ?_
    rintro e w4 ⟨⟨A4, rfl, own4⟩, b4⟩
    have B4 := hide (B3.out.trans (b4.mono B3.out.size))
    have X4 := hide (X3.out.below b4)
    have in4 := (in3.below b4).more b4.size
    clear b4 in3 X3 B3 a0 a1 a2
    have b5 : Below w4.heap.size w4 (w4.alloc (.cells #[.string t, .slice A4 l.length l.length, .string m] 27)) := (Below.refl _ w4).alloc (Nat.le_refl _) _
    have B5 := hide (B4.out.trans (b5.mono B4.out.size))
    have X5 := hide (X4.out.below b5)
    have in5 := (in4.below b5).more b5.size
    have own5 := (own4.below b5).more b5.size
    have Y5 : Hid (Bx _ w4.heap.size _ _ _) := hide (box3 w4 (.string t) (.slice A4 l.length l.length) (.string m) 27)
    clear b5 in4 own4 X4 B4
    go_wp2_with fail
    refine (implCommitOk_any t m A4 l l.length _ ht hm hl own5).mono ?_
    rintro e w6 ⟨rfl, b6⟩
    have B6 := hide (B5.out.trans (b6.mono B5.out.size))
    have X6 := hide (X5.out.below b6)
    have Y6 := hide (Y5.out.below b6)
    have in6 := (in5.below b6).more b6.size
    have own6 := (own5.below b6).more b6.size
    clear b6 in5 own5 X5 Y5 B5
    have T1 : Hid (Calls Try.prog 7 #[.agg #[.string t, .slice A l.length cap, .string m]] w6.drew fun e w7 => ∃ A7, e = .returned (.agg #[.string t, .slice A7 l.length l.length, .string m]) ∧ Hid (SIn w7 w7.heap.size A7 l) ∧ Hid (SIn w7 w7.heap.size A4 l) ∧ Bx w7 w4.heap.size (.string t) (.slice A4 l.length l.length) (.string m) ∧ Hid (Below w.heap.size w w7)) := by
      have bd : Below w6.heap.size w6 w6.drew := (Below.refl _ w6).drew
      refine hide ((toCommit_any t m A l cap w6.drew hs.out hl2 ((in6.below bd).more bd.size)).mono ?_)
      rintro e w7 ⟨⟨A7, rfl, own7⟩, b7⟩
      have b67 : Below w6.heap.size w6 w7 := bd.trans b7
      exact ⟨A7, rfl, own7, (own6.below b67).more b67.size, Y6.out.below b67, B6.out.trans (b67.mono B6.out.size)⟩
    have E1 : Hid (∀ (A7 : Option Addr) (W : World), SIn W W.heap.size A4 l → SIn W W.heap.size A7 l → Calls Try.prog 9 #[.agg #[.string t, .slice A4 l.length l.length, .string m], .agg #[.string t, .slice A7 l.length l.length, .string m]] W fun e w' => e = .returned (.bool true) ∧ Below W.heap.size W w') := hide fun A7 W h1 h2 => eqCommit_same t m A4 A7 l l.length l.length W hl h1 h2
    obtain ⟨a0, a1, a2⟩ := X6.out
    obtain ⟨c0, c1, c2⟩ := Y6.out
    clear in6 own6 X6 Y6 B6 hr0 hr1 hl2 ht hm hl
    generalize l.length = n at *
    go_wp2_with fail
    go_region_with (first
      | (go_at_call 7; refine T1.out.mono ?_; rintro e w7 ⟨A7, rfl, own7, own6b, ⟨c0', c1', c2'⟩, B7⟩)
      | (go_at_call 9; refine (E1.out _ _ own6b.out own7.out).mono ?_; rintro e w8 ⟨rfl, b8⟩)
      | (go_at_call 9; refine (E1.out _ _ (own6b.out.below ((Below.refl _ _).drew)) (own7.out.below ((Below.refl _ _).drew))).mono ?_; rintro e w8 ⟨rfl, b8⟩))
    all_goals
      have B8 := hide (B7.out.trans (b8.mono B7.out.size))
      clear b8 B7 own7 own6b c0' c1' c2' T1 E1
      go_wp2
      go_ret
      exact ⟨rfl, B8.out⟩
end Go.Proofs.Ytfnaolhmjgikgaa.ExCommitOk
