/-
  The laws of refs: plain mathematics.
-/
import Derived.Test.YtmmeabfeehnajaaRSpec2
namespace Go.Proofs.Ytmmeabfeehnajaa
open Go.RowKit

theorem set_erase {l : List Pr} (h : Ris l) {k : ByteArray} (hh : hasB l k = true) : setL (l.eraseIdx (atN l k)) k (valOf l k) = l := by
  obtain ⟨v, hv⟩ := (has_iff h k).1 hh
  rw [val_of h hv]
  refine Ris.ext (ris_set (ris_erase h _) k v) h fun p => ?_
  rw [mem_set (ris_erase h _), mem_erase h hh]
  constructor
  · rintro (e | ⟨⟨e, _⟩, _⟩)
    · subst e; exact hv
    · exact e
  · intro e
    by_cases n : p.1 = k
    · left
      have : (k, p.2) ∈ l := by rw [← n]; exact e
      have := h.key this hv
      exact Prod.ext n this
    · exact .inr ⟨⟨e, n⟩, n⟩
theorem has_erase {l : List Pr} (h : Ris l) {k : ByteArray} (hh : hasB l k = true) (k' : ByteArray) : hasB (l.eraseIdx (atN l k)) k' = true ↔ k' ≠ k ∧ hasB l k' = true := by
  rw [has_iff (ris_erase h _), has_iff h]
  constructor
  · rintro ⟨x, hx⟩
    have := (mem_erase h hh _).1 hx
    exact ⟨this.2, x, this.1⟩
  · rintro ⟨n, x, hx⟩
    exact ⟨x, (mem_erase h hh _).2 ⟨hx, n⟩⟩

theorem refB_key' {l : List Pr} (h : refB l = true) {k : ByteArray} (hh : hasB l k = true) : keyB k = true ∧ QI.idB (valOf l k) = true := (refB_all.1 h).2.1 _ (mem_val hh)
theorem st_yes {l : List Pr} {k v : ByteArray} (h : stB l k v = true) : refB (stL l k v) = true ∧ stL l k v = setL l k v ∧ Ris l ∧ Ris (setL l k v) ∧ refB (setL l k v) = true := by
  obtain ⟨h1, h2, h3, h4⟩ := stB_iff.1 h
  have hs := refB_set h1 h2 h3 h4
  exact ⟨by rw [stL_yes h]; exact hs, stL_yes h, refB_ris h1, ris_set (refB_ris h1) k v, hs⟩
theorem st_got {l : List Pr} {k v : ByteArray} (h : stB l k v = true) : gotB (stL l k v) k = true ∧ gotV (stL l k v) k = v := by
  obtain ⟨h1, h2, h3, _, _⟩ := st_yes h
  rw [gotB_yes h1, gotV_yes h1, h2]
  exact ⟨(has_set h3 k v k).2 (.inl rfl), val_set h3 k v⟩
theorem st_other {l : List Pr} {k v a b : ByteArray} (h : stB l k v = true) (hm : (a, b) ∈ l) (hne : ¬ a = k) : gotB (stL l k v) a = true ∧ gotV (stL l k v) a = b := by
  obtain ⟨h1, h2, h3, _, _⟩ := st_yes h
  rw [gotB_yes h1, gotV_yes h1, h2]
  exact ⟨(has_set h3 k v a).2 (.inr ((has_iff h3 a).2 ⟨b, hm⟩)), by rw [val_set_ne h3 v hne]; exact val_of h3 hm⟩
theorem got_ref {l : List Pr} {k : ByteArray} (h : gotB l k = true) : refB l = true ∧ hasB l k = true := by
  cases e : refB l
  · rw [gotB_no e] at h; cases h
  · rw [gotB_yes e] at h; exact ⟨rfl, h⟩
theorem dr_yes {l : List Pr} {k : ByteArray} (h : gotB l k = true) : refB (drL l k) = true ∧ gotB (drL l k) k = false ∧ (drL l k).length + 1 = l.length := by
  obtain ⟨h1, h2⟩ := got_ref h
  obtain ⟨hlt, _⟩ := hasB_iff.1 h2
  have hr := refB_erase h1 (atN l k)
  rw [drL_yes h]
  refine ⟨hr, ?_, by rw [List.length_eraseIdx, if_pos hlt]; omega⟩
  rw [gotB_yes hr]
  cases e : hasB (l.eraseIdx (atN l k)) k
  · rfl
  · exact absurd rfl ((has_erase (refB_ris h1) h2 k).1 e).1
theorem dr_back {l : List Pr} {k : ByteArray} (h : gotB l k = true) : stB (drL l k) k (gotV l k) = true ∧ stL (drL l k) k (gotV l k) = l := by
  obtain ⟨h1, h2⟩ := got_ref h
  have hr := refB_erase h1 (atN l k)
  obtain ⟨hk, hv⟩ := refB_key' h1 h2
  have e : setL (drL l k) k (gotV l k) = l := by rw [drL_yes h, gotV_yes h1]; exact set_erase (refB_ris h1) h2
  have hs : stB (drL l k) k (gotV l k) = true := stB_iff.2 ⟨by rw [drL_yes h]; exact hr, hk, by rw [gotV_yes h1]; exact hv, by rw [e]; exact (refB_iff.1 h1).1⟩
  exact ⟨hs, by rw [stL_yes hs, e]⟩
theorem st_again {l : List Pr} {k v : ByteArray} (h : stB l k v = true) : stB (stL l k v) k v = true ∧ stL (stL l k v) k v = stL l k v := by
  obtain ⟨h1, h2, h3, h4, h5⟩ := st_yes h
  obtain ⟨_, g2, g3, g4⟩ := stB_iff.1 h
  have e : setL (stL l k v) k v = stL l k v := by rw [h2]; exact set_set h3 k v v
  have hs : stB (stL l k v) k v = true := stB_iff.2 ⟨h1, g2, g3, by rw [e, h2]; exact g4⟩
  exact ⟨hs, by rw [stL_yes hs, e]⟩
theorem sw_iff {l : List Pr} {k o v : ByteArray} : swB l k o v = true ↔ gotV l k = o ∧ stB l k v = true := by unfold swB; simp only [Bool.and_eq_true, decide_eq_true_eq]
theorem sw_again {l : List Pr} {k o v : ByteArray} (h : swB l k o v = true) : swB (swL l k o v) k o v = decide (v = o) := by
  obtain ⟨h1, h2⟩ := sw_iff.1 h
  rw [swL_yes h1]
  unfold swB
  rw [(st_again h2).1, (st_got h2).2, Bool.and_true]
theorem sw_back {l : List Pr} {k o v : ByteArray} (h : swB l k o v = true) (ho : ¬ o = ByteArray.empty) : swB (swL l k o v) k v o = true ∧ swL (swL l k o v) k v o = l := by
  obtain ⟨h1, h2⟩ := sw_iff.1 h
  obtain ⟨g1, g2, g3, g4⟩ := stB_iff.1 h2
  obtain ⟨e1, e2, e3, _, _⟩ := st_yes h2
  have hh : hasB l k = true := by
    cases e : hasB l k
    · exact absurd (by rw [← h1, gotV_yes g1, valOf_no e]) ho
    · rfl
  have hv : valOf l k = o := by rw [← gotV_yes g1]; exact h1
  have e : setL (stL l k v) k o = l := by rw [e2, set_set e3]; exact set_same e3 hh hv
  rw [swL_yes h1]
  have hs : stB (stL l k v) k o = true := stB_iff.2 ⟨e1, g2, by rw [← hv]; exact (refB_key' g1 hh).2, by rw [e]; exact (refB_iff.1 g1).1⟩
  have hg := (st_got h2).2
  exact ⟨sw_iff.2 ⟨hg, hs⟩, by rw [swL_yes hg, stL_yes hs, e]⟩
theorem gotV_size (l : List Pr) (k : ByteArray) (h : lens l) : (gotV l k).size ≤ maxLen := by
  have h0 : (ByteArray.empty).size ≤ maxLen := by simp [maxLen]
  cases hm : refB l
  · rw [gotV_no hm]; exact h0
  · rw [gotV_yes hm]
    cases hh : hasB l k
    · rw [valOf_no hh]; exact h0
    · obtain ⟨hlt, he⟩ := hasB_iff.1 hh
      rw [valOf_yes hlt he]
      exact (h _ hlt).2
/-- two names, in either order -/
theorem st_two {l : List Pr} {k v k' v' : ByteArray} (h : stB l k v = true) (hne : k ≠ k') (hk : keyB k' = true) (hv : QI.idB v' = true) (hl : l.length ≤ 18) :
    stB (stL l k v) k' v' = true ∧ stB l k' v' = true ∧ stB (stL l k' v') k v = true ∧ stL (stL l k v) k' v' = stL (stL l k' v') k v := by
  obtain ⟨g1, g2, g3, g4⟩ := stB_iff.1 h
  obtain ⟨e1, e2, e3, _, _⟩ := st_yes h
  have l1 := (len_set_le l k v).2
  have l2 := (len_set_le l k' v').2
  have l3 := (len_set_le (setL l k v) k' v').2
  have l4 := (len_set_le (setL l k' v') k v).2
  have a : stB (stL l k v) k' v' = true := stB_iff.2 ⟨e1, hk, hv, by rw [e2]; omega⟩
  have b : stB l k' v' = true := stB_iff.2 ⟨g1, hk, hv, by omega⟩
  obtain ⟨f1, f2, _, _, _⟩ := st_yes b
  have c : stB (stL l k' v') k v = true := stB_iff.2 ⟨f1, g2, g3, by rw [f2]; omega⟩
  exact ⟨a, b, c, by rw [stL_yes a, stL_yes c, e2, f2]; exact set_swap e3 v v' hne⟩
theorem st_over {l : List Pr} {k v v' : ByteArray} (h : stB l k v = true) (hv : QI.idB v' = true) (hl : l.length ≤ 18) : stB l k v' = true ∧ stB (stL l k v') k v = true ∧ stL (stL l k v') k v = stL l k v := by
  obtain ⟨g1, g2, g3, g4⟩ := stB_iff.1 h
  obtain ⟨_, e2, e3, _, _⟩ := st_yes h
  have l2 := (len_set_le l k v').2
  have b : stB l k v' = true := stB_iff.2 ⟨g1, g2, hv, by omega⟩
  obtain ⟨f1, f2, _, _, _⟩ := st_yes b
  have e : setL (stL l k v') k v = stL l k v := by rw [f2, e2]; exact set_set e3 k v v'
  have c : stB (stL l k v') k v = true := stB_iff.2 ⟨f1, g2, g3, by rw [e, e2]; exact g4⟩
  exact ⟨b, c, by rw [stL_yes c, e]⟩
end Go.Proofs.Ytmmeabfeehnajaa
