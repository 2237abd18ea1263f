/-
  A ref that is set in a table.
-/
import Derived.Test.YtmmeabfeehnajaaRRow
import Derived.Test.YtmmeabfeehnajaaRTab
namespace Go.Proofs.Ytmmeabfeehnajaa
open Go.RowKit

theorem grown_setCell (w : World) (a : Addr) (u : Value) : w.grownBy (w.setCell a u) (some a.block) :=
  ⟨rfl, rfl, rfl, by simp, fun k _ hne => Below.heap_setCell w a u k (fun e => hne (by rw [e]))⟩
theorem POwn.kept {w w' : World} {B r : Nat} {A : Option Addr} {cap : Nat} {bs : List Nat} (h : POwn w B A cap bs) (hg : w.grownBy w' (some r)) (hne : rowOf A ≠ some r) : POwn w' B A cap bs := by
  refine World.ownsRow.kept h hg ?_
  rw [rowOf_own]
  cases e : rowOf A with
  | none => exact .inl rfl
  | some g => exact .inr (fun x => hne (by rw [e, x]))
/-- what reads as the refs l, told block by block -/
theorem rin_of {w : World} {B : Nat} {A : Option Addr} {cap : Nat} {bs : List Nat} {l : List Pr} (h : POwn w B A cap bs) (hl : bs.length = l.length) (hr : ∀ i (h : i < bs.length) (h' : i < l.length), RefAt w bs[i] l[i]) : RIn w w.heap.size A l := fun hp => by
  obtain ⟨b, off, e, hb, hc⟩ := h.qin (by rw [hl]; exact hp)
  refine ⟨b, off, e, hb, fun i hi => ?_⟩
  have hi' : i < bs.length := by rw [hl]; exact hi
  have h3 := hr i hi' hi
  exact ⟨bs[i], h3.lt, hc i hi', h3.c1, h3.c2⟩
theorem RefAt.setId {w : World} {g : Nat} {p : Pr} (h : RefAt w g p) (v : ByteArray) : RefAt (w.setCell ⟨g, 1, none⟩ (.string v)) g (p.1, v) := box_set h 1 _
theorem RefAt.other {w : World} {g : Nat} {p : Pr} (h : RefAt w g p) (a : Addr) (u : Value) (hne : g ≠ a.block) : RefAt (w.setCell a u) g p := (Below.heap_setCell w a u g hne).trans h
theorem setL_has {l : List Pr} {k v : ByteArray} (hlt : atN l k < l.length) (he : l[atN l k].1 = k) : setL l k v = l.set (atN l k) (l[atN l k].1, v) := by
  unfold setL
  rw [if_pos (hasB_yes hlt he), List.set_eq_take_append_cons_drop, if_pos hlt, he]
theorem setL_new {l : List Pr} {k v : ByteArray} (hh : hasB l k = false) : setL l k v = l.take (atN l k) ++ (k, v) :: l.drop (atN l k) := by
  unfold setL
  rw [hh]
  rfl
theorem lens_set {l : List Pr} {k v : ByteArray} (h : lens l) (hk : k.size ≤ maxLen) (hv : v.size ≤ maxLen) : lens (setL l k v) := by
  intro i hi
  have hm : (setL l k v)[i] ∈ setL l k v := List.getElem_mem hi
  have hall : ∀ p ∈ setL l k v, p.1.size ≤ maxLen ∧ p.2.size ≤ maxLen := by
    intro p hp
    unfold setL at hp
    rw [List.mem_append, List.mem_cons] at hp
    have hl : ∀ p ∈ l, p.1.size ≤ maxLen ∧ p.2.size ≤ maxLen := fun p hp => by
      obtain ⟨i, hi, rfl⟩ := List.mem_iff_getElem.1 hp
      exact h i hi
    rcases hp with hp | rfl | hp
    · exact hl p (List.mem_of_mem_take hp)
    · exact ⟨hk, hv⟩
    · exact hl p (List.mem_of_mem_drop hp)
  exact hall _ hm

def SetRet (l : List Pr) (k v : ByteArray) (tb lo : Nat) (w : World) (e : Ending) (w' : World) : Prop :=
  e = .returned (.tuple #[]) ∧ Below lo w w' ∧ ∃ A cap, TB w' tb A (setL l k v).length cap ∧ RIn w' w'.heap.size A (setL l k v)

set_option maxRecDepth 100000 in
set_option maxHeartbeats 2000000 in
theorem set_any (A : Option Addr) (l : List Pr) (cap : Nat) (bs : List Nat) (k v : ByteArray) (w : World) (tb lo : Nat) (hl : l.length ≤ 65536) (ht : TB w tb A l.length cap) (hlo : lo ≤ tb) (hp : PRefs w lo A cap bs l) (hr : risesTo l l.length) (htr : rowOf A ≠ some tb) (htb : ∀ g ∈ bs, g ≠ tb) :
    Calls Try.prog 36 #[.pointer (some ⟨tb, 0, none⟩), .string k, .string v] w (SetRet l k v tb lo w) := by
  have T := hide ht
  have P := hide hp
  have HR := hide hr
  have TR := hide htr
  have TBN := hide htb
  have r1 := ht.c
  have hlw : lo ≤ w.heap.size := by have := ht.lt; omega
  clear ht hp hr htr htb
  go_enter Try.func36, Try.ntmps36
  go_wp2_with fail
  refine (named_any A l cap bs k _ lo hl P.out HR.out).mono ?_
  rintro e w1 ⟨b1, ⟨hh, rfl⟩ | ⟨hh, hlb, rfl⟩⟩
  · -- a new name
    have T1 := hide (T.out.below b1 T.out.lt)
    have P1 := hide (P.out.below b1)
    have B1 := hide b1
    have hz := T1.out.lt
    have bx : Hid (Below w1.heap.size w1 (w1.alloc (.cells #[.string k, .string v] 37))) := hide ((Below.refl _ _).alloc (Nat.le_refl _) _)
    have RA : Hid (RefAt (w1.alloc (.cells #[.string k, .string v] 37)) w1.heap.size (k, v)) := hide (heap_alloc_new w1 (.cells #[.string k, .string v] 37))
    have r2 := T1.out.c
    have HH := hide hh
    have ES := hide (setL_new (v := v) hh)
    clear b1 r1
    go_wp2_with fail
    refine (withR_any A l cap bs w1.heap.size k v _ lo hl (P1.out.below bx.out) HR.out RA.out HH.out).mono ?_
    rintro e w3 ⟨A3, cap3, hc3, rfl, own3, b3⟩
    have T3 := hide ((T1.out.below bx.out hz).below b3 (by simp; omega))
    have f3 := T3.out.frozen 0
    have r3 := T3.out.c
    have B3 := hide ((B1.out.trans ((bx.out.mono B1.out.size).trans (b3.mono (Nat.le_trans B1.out.size bx.out.size)))).mono hlw)
    have RA3 : Hid (RefAt w3 w1.heap.size (k, v)) := hide ((b3.block w1.heap.size (by simp)).trans RA.out)
    have P3 := hide ((P1.out.below bx.out).below b3)
    have hrow3 := own3.row
    have O3 := hide own3
    have hz3 : tb < (w1.alloc (.cells #[.string k, .string v] 37)).heap.size := by simp; omega
    have L3 : Hid ((bs.take (atN l k) ++ w1.heap.size :: bs.drop (atN l k)).length = (setL l k v).length) := hide (by
      rw [ES.out]
      simp only [List.length_append, List.length_cons, List.length_take, List.length_drop, P.out.2.1])
    have NR : Hid (rowOf A3 ≠ some tb) := hide (fun x => by have := (hrow3 tb x).1; omega)
    clear own3 b3 hrow3
    rw [L3.out]
    go_wp2
    refine bodyPost_ret (v := .tuple #[]) (by simp [results, Try.results36, go_sem]) rfl ⟨rfl, B3.out.setCell (p := ⟨tb, 0, none⟩) hlo _, A3, cap3, T3.out.set, ?_⟩
    generalize Value.slice A3 (setL l k v).length cap3 = u
    have O4 := O3.out.kept (grown_setCell w3 ⟨tb, 0, none⟩ u) NR.out
    refine rin_of O4 L3.out fun i hi hi' => ?_
    have hle : atN l k ≤ bs.length := by rw [P.out.2.1]; exact atN_le l k
    have ht1 : (bs.take (atN l k)).length = atN l k := by rw [List.length_take]; omega
    have ht2 : (l.take (atN l k)).length = atN l k := by rw [List.length_take, ← P.out.2.1]; omega
    have old : ∀ j (hj : j < bs.length) (hj' : j < l.length), RefAt (w3.setCell ⟨tb, 0, none⟩ u) bs[j] l[j] := fun j hj hj' =>
      (P3.out.2.2.2.2 j hj hj').2.2.other _ _ (TBN.out _ (List.getElem_mem hj))
    simp only [ES.out]
    rcases Nat.lt_trichotomy i (atN l k) with g | g | g
    · rw [List.getElem_append_left (by omega), List.getElem_append_left (by omega), List.getElem_take, List.getElem_take]
      exact old i (by omega) (by rw [← P.out.2.1]; omega)
    · subst g
      rw [List.getElem_append_right (by omega), List.getElem_append_right (by omega)]
      simp only [ht1, ht2, Nat.sub_self, List.getElem_cons_zero]
      exact RefAt.other RA3.out _ _ (by simp; omega)
    · obtain ⟨d, hd⟩ : ∃ d, i = atN l k + (d + 1) := ⟨i - atN l k - 1, by omega⟩
      subst hd
      rw [List.getElem_append_right (by omega), List.getElem_append_right (by omega)]
      simp only [ht1, ht2, Nat.add_sub_cancel_left, List.getElem_cons_succ, List.getElem_drop]
      have hi2 : atN l k + d < bs.length := by rw [List.length_append, List.length_cons, List.length_drop, ht1] at hi; omega
      exact old (atN l k + d) hi2 (by rw [← P.out.2.1]; exact hi2)
  · -- a name that is there
    obtain ⟨hlt, he⟩ := hasB_iff.1 hh
    have T1 := hide (T.out.below b1 T.out.lt)
    have P1 := hide (P.out.below b1)
    have B1 := hide (b1.mono hlw)
    obtain ⟨g1, g2, g3⟩ := P1.out.2.2.2.2 (atN l k) hlb hlt
    have c2 := g3.c2
    have f2 := g3.frozen 1
    have RA := hide g3
    have ES := hide (setL_has (v := v) hlt he)
    have LB := hide hlb
    have NT : Hid (bs[atN l k]'hlb ≠ tb) := hide (TBN.out _ (List.getElem_mem hlb))
    have GL := hide g1
    have GR := hide g2
    clear b1 r1 g3 g1 g2
    generalize hgg : bs[atN l k]'hlb = g at *
    have HG := hide hgg
    clear hgg
    generalize hv0 : (l[atN l k]'hlt).2 = v0 at c2
    clear hv0
    go_wp2
    refine bodyPost_ret (v := .tuple #[]) (by simp [results, Try.results36, go_sem]) rfl ⟨rfl, B1.out.setCell (p := ⟨g, 1, none⟩) GL.out _, A, cap, ?_, ?_⟩
    · rw [ES.out, List.length_set]
      exact T1.out.other _ _ (fun x => NT.out x.symm)
    · rw [ES.out]
      refine rin_of (P1.out.1.kept (grown_setCell w1 ⟨g, 1, none⟩ (.string v)) GR.out) (by rw [List.length_set]; exact P1.out.2.1) fun i hi hi' => ?_
      rw [List.length_set] at hi'
      rw [List.getElem_set]
      split
      next e =>
        subst e
        rw [HG.out]
        exact RA.out.setId v
      next e =>
        refine (P1.out.2.2.2.2 i hi hi').2.2.other _ _ ?_
        show bs[i] ≠ g
        rw [← HG.out]
        intro x
        have hnd := List.pairwise_iff_getElem.1 P1.out.2.2.1
        rcases Nat.lt_or_gt_of_ne e with h | h
        · exact hnd (atN l k) i LB.out hi h x.symm
        · exact hnd i (atN l k) hi LB.out h x
end Go.Proofs.Ytmmeabfeehnajaa
