/-
  What Put and Drop answer, in the reference and in the program.
-/
import Derived.Test.YtaofemdhgfejjaaGreatDoorPDrop
import Derived.Test.YtaofemdhgfejjaaGreatDoorPGet
namespace Go.Proofs.YtaofemdhgfejjaaGreatDoor
open Go.RowKit

theorem setS_setL {l : List Pr} (hr : risesTo l l.length) (k v : ByteArray) : setS l k v = setL l k v := by
  unfold setS setL
  cases hh : hasB l k
  · have hd : delL l k = l := by unfold delL; rw [hh]; simp
    rw [hd]
    simp
  · obtain ⟨hlt, he⟩ := hasB_iff.1 hh
    have hd : delL l k = l.eraseIdx (atN l k) := by unfold delL; rw [if_pos hh]
    have hel : (l.eraseIdx (atN l k)).length = l.length - 1 := by rw [List.length_eraseIdx, if_pos hlt]
    have ha : atN (l.eraseIdx (atN l k)) k = atN l k := by
      refine atN_eq (by omega) (fun i hi hik => ?_) (fun h => ?_)
      · rw [List.getElem_eraseIdx_of_lt (by omega) hik]
        exact atN_lt l k i hik (by omega)
      · rw [List.getElem_eraseIdx_of_ge (by omega) (Nat.le_refl _)]
        have h1 : atN l k + 1 < l.length := by omega
        have h2 := hr (atN l k) h1 h1
        rw [he] at h2
        exact ltB_asymm h2
    rw [hd, ha, List.eraseIdx_eq_take_drop_succ]
    have ht : (l.take (atN l k)).length = atN l k := by rw [List.length_take]; omega
    rw [List.take_append_of_le_length (by omega), List.take_take, Nat.min_self, List.drop_append_of_le_length (by omega), List.drop_of_length_le (by omega)]
    simp

noncomputable def putB (l : List Pr) (k v : ByteArray) : Bool := mapB l && mapB (setL l k v)
noncomputable def putL (l : List Pr) (k v : ByteArray) : List Pr := if putB l k v = true then setL l k v else []
noncomputable def dropL (l : List Pr) (k : ByteArray) : List Pr := if getB l k = true then l.eraseIdx (atN l k) else []
theorem mem_setL (l : List Pr) (k v : ByteArray) : ∃ h : atN l k < (setL l k v).length, (setL l k v)[atN l k] = (k, v) := by
  have hle := atN_le l k
  have ht : (l.take (atN l k)).length = atN l k := by rw [List.length_take]; omega
  refine ⟨by unfold setL; rw [List.length_append, ht]; simp, ?_⟩
  unfold setL
  rw [List.getElem_append_right (by omega)]
  simp [ht]
theorem putB_bad {l : List Pr} {k v : ByteArray} (h : keyB k = false ∨ valB v = false) : mapB (setL l k v) = false := by
  obtain ⟨hlt, he⟩ := mem_setL l k v
  rcases h with h | h
  · exact mapB_key hlt (by rw [he]; exact h)
  · exact mapB_val hlt (by rw [he]; exact h)
theorem putB_no {l : List Pr} {k v : ByteArray} (h : mapB l = false) : putB l k v = false := by unfold putB; rw [h]; rfl
theorem putB_no2 {l : List Pr} {k v : ByteArray} (h : mapB (setL l k v) = false) : putB l k v = false := by unfold putB; rw [h, Bool.and_false]
theorem putB_yes {l : List Pr} {k v : ByteArray} (h : mapB l = true) (h' : mapB (setL l k v) = true) : putB l k v = true := by unfold putB; rw [h, h']; rfl
theorem putL_no {l : List Pr} {k v : ByteArray} (h : putB l k v = false) : putL l k v = [] := by unfold putL; rw [h]; rfl
theorem putL_yes {l : List Pr} {k v : ByteArray} (h : putB l k v = true) : putL l k v = setL l k v := by unfold putL; rw [h]; rfl
theorem dropL_no {l : List Pr} {k : ByteArray} (h : getB l k = false) : dropL l k = [] := by unfold dropL; rw [h]; rfl
theorem dropL_yes {l : List Pr} {k : ByteArray} (h : getB l k = true) : dropL l k = l.eraseIdx (atN l k) := by unfold dropL; rw [h]; rfl
theorem setL_len (l : List Pr) (k v : ByteArray) : (setL l k v).length ≤ l.length + 1 := by
  have hle := atN_le l k
  unfold setL
  rw [List.length_append, List.length_take, List.length_cons, List.length_drop]
  split <;> omega

/-- a list of pairs of the call's own, and whether there is one -/
def RetOwnB (B : Nat) (l : List Pr) (b : Bool) (w : World) (e : Ending) (w' : World) : Prop := ∃ A cap, l.length ≤ cap ∧ e = .returned (.tuple #[.slice A l.length cap, .bool b]) ∧ Own w' B A cap l ∧ Below B w w'
theorem retOwnB_no {B : Nat} {l : List Pr} {b : Bool} {w w' : World} (hl : l = []) (hb : b = false) (h : Below B w w') : RetOwnB B l b w (.returned (.tuple #[.slice none 0 0, .bool false])) w' := by
  subst hl hb; exact ⟨none, 0, by simp, rfl, Own.nil _ _, h⟩


set_option maxRecDepth 100000 in
set_option maxHeartbeats 1000000 in
theorem specPut_any (A : Option Addr) (l : List Pr) (cap : Nat) (k v : ByteArray) (w : World) (hl : l.length ≤ maxLen) (hc : l.length ≤ cap) (hin : PIn w w.heap.size A l) (hks : k.size ≤ maxLen) (hvs : v.size ≤ maxLen) :
    Calls Tryz.prog 45 #[.slice A l.length cap, .string k, .string v] w (RetOwnB w.heap.size (putL l k v) (putB l k v) w) := by
  have R := hide (specMapOk_any A l cap w _ hl hin)
  cases hm : mapB l
  · have Z := hide (putB_no (k := k) (v := v) hm)
    go_enter Tryz.func45, Tryz.ntmps45
    go_wp2_with (go_at_call 28; refine R.out.mono ?_; rintro e w' ⟨rfl, q⟩)
    go_ret2
    exact retOwnB_no (putL_no Z.out) Z.out (q.below _)
  · cases hk : keyB k
    · have Z := hide (putB_no2 (putB_bad (l := l) (k := k) (v := v) (.inl hk)))
      go_enter Tryz.func45, Tryz.ntmps45
      go_wp2_with (first | (go_at_call 28; refine R.out.mono ?_; rintro e w' ⟨rfl, q⟩) | (go_at_call 55; refine (l1Key_any k _ hks).mono ?_; rintro e w'' ⟨rfl, rfl⟩))
      go_ret2
      exact retOwnB_no (putL_no Z.out) Z.out (q.below _)
    · cases hv : valB v
      · have Z := hide (putB_no2 (putB_bad (l := l) (k := k) (v := v) (.inr hv)))
        have hv2 : plainB v 12 = false := hv
        clear hv
        go_enter Tryz.func45, Tryz.ntmps45
        go_wp2_with (first | (go_at_call 28; refine R.out.mono ?_; rintro e w' ⟨rfl, q⟩) | (go_at_call 55; refine (l1Key_any k _ hks).mono ?_; rintro e w'' ⟨rfl, rfl⟩) | (go_at_call 56; refine (l1Plain_any v 12 _ hvs).mono ?_; rintro e w'' ⟨rfl, rfl⟩))
        go_ret2
        exact retOwnB_no (putL_no Z.out) Z.out (q.below _)
      · have h40 := (mapB_iff.1 hm).1
        have HS := hide (setS_setL (mapB_iff.1 hm).2.2 k v)
        have hsl := setL_len l k v
        have hv2 : plainB v 12 = true := hv
        clear hv
        go_enter Tryz.func45, Tryz.ntmps45
        go_wp2_with (first | (go_at_call 28; refine R.out.mono ?_; rintro e w1 ⟨rfl, q1⟩) | (go_at_call 55; refine (l1Key_any k _ hks).mono ?_; rintro e w'' ⟨rfl, rfl⟩) | (go_at_call 56; refine (l1Plain_any v 12 _ hvs).mono ?_; rintro e w'' ⟨rfl, rfl⟩))
        have in1 := (hin.quiet q1).more (B' := w1.heap.size) (by rw [q1.heap]; exact Nat.le_refl _)
        refine (l1Set_any A l cap k v w1 (by omega) hc in1 hks hvs).mono ?_
        rintro e w2 ⟨A2, cap2, hc2, rfl, own2, b2⟩
        rw [HS.out] at hc2 own2 ⊢
        have in2 := own2.pin
        go_wp2_with fail
        refine (specMapOk_any A2 (setL l k v) cap2 w2 _ (by unfold maxLen; omega) in2).mono ?_
        rintro e w3 ⟨rfl, q3⟩
        have B3 := hide (((q1.below w.heap.size).trans (b2.mono (by rw [q1.heap]; exact Nat.le_refl _))).trans (q3.below _))
        have O3 := hide ((own2.below (q3.below _)).more (B' := w.heap.size) (by rw [q1.heap]; exact Nat.le_refl _))
        clear in1 in2 own2 b2 q3 R
        cases hm2 : mapB (setL l k v)
        · have Z := hide (putB_no2 (l := l) (k := k) (v := v) hm2)
          go_wp2
          go_ret2
          exact retOwnB_no (putL_no Z.out) Z.out B3.out
        · have Z := hide (putB_yes hm hm2)
          go_wp2
          go_ret2
          refine ⟨A2, cap2, ?_, ?_, ?_, B3.out⟩
          · rw [putL_yes Z.out]; exact hc2
          · rw [putL_yes Z.out, Z.out]; rfl
          · rw [putL_yes Z.out]; exact O3.out
end Go.Proofs.YtaofemdhgfejjaaGreatDoor
