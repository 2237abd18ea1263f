/-
  What is drawn for ReadMap: a text (loosely: that it is one, and short).
-/
import Derived.Test.YtmbajcppjhfpeaaPDraw
import Derived.Test.YtmbajcppjhfpeaaRdHurt
import Derived.Test.YtmbajcppjhfpeaaPText
import Derived.Deep.RegionWith
namespace Go.Proofs.Ytmbajcppjhfpeaa
open Go.RowKit

def DrawnText (w : World) (e : Ending) (w' : World) : Prop := ∃ t : ByteArray, t.size ≤ 1001 ∧ e = .returned (.string t) ∧ Below w.heap.size w w'
theorem mapText_short (l : List Pr) (h : l.length ≤ 40) : (mapTextS l).size ≤ 1000 := by
  cases hm : mapB l
  · rw [mapText_no hm]; simp
  · rw [mapText_yes hm]
    have := textOf_size (mapB_iff.1 hm).2.1 l.length (Nat.le_refl _)
    rw [List.take_length] at this
    omega

set_option maxRecDepth 100000 in
set_option maxHeartbeats 1000000 in
theorem drawReadMap_any (A : Option Addr) (n cap : Nat) (w : World) (hn : n ≤ 1048576) (hin : CIn w w.heap.size A n) :
    Calls Try.prog 17 #[.slice A n cap] w (DrawnText w) := by
  go_enter Try.func17, Try.ntmps17
  go_wp2_with fail
  refine (l1Open_any A n cap w hn hin).mono ?_
  rintro e w1 ⟨rfl, r1, b1⟩
  have B1 := hide b1
  clear b1 hin
  go_wp2_with fail
  refine (pairs_any w.heap.size 5 w1 r1 (by omega) (by omega)).mono ?_
  rintro e w2 ⟨A2, cap2, l, hc2, hl, rfl, own2, r2, g2⟩
  have B2 := hide (B1.out.trans (grown_below g2 B1.out.size))
  have O2 := hide own2
  clear own2 g2 r1 B1
  go_wp2_with fail
  refine (specMapText_any A2 l cap2 w2 _ (by unfold maxLen; omega) O2.out.pin).mono ?_
  rintro e w2b ⟨rfl, q2⟩
  have B2b := hide (B2.out.trans (q2.below _))
  have R2b := hide (r2.below (q2.below _))
  have hsz := mapText_short l hl
  clear q2 r2 O2 B2
  generalize mapTextS l = s at *
  go_wp2_with fail
  refine (once_any w.heap.size 2 w2b R2b.out (by omega) (by omega)).mono ?_
  rintro e w3 ⟨x, rfl, r3, g3⟩
  have B3 := hide (B2b.out.trans (grown_below g3 B2b.out.size))
  clear g3 B2b R2b
  cases x
  · go_wp2_with fail
    refine (hurt_any w.heap.size s w3 r3 hsz).mono ?_
    rintro e w4 ⟨t, ht, rfl, r4, g4⟩
    have B4 := hide (B3.out.trans (grown_below g4 B3.out.size))
    clear g4 r3 r4 B3
    go_wp2
    go_ret
    exact ⟨t, ht, rfl, B4.out⟩
  · clear r3
    go_wp2
    go_ret
    exact ⟨s, by omega, rfl, B3.out⟩
end Go.Proofs.Ytmbajcppjhfpeaa
