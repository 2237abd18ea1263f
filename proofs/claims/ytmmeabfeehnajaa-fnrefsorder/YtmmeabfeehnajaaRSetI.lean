/-
  What impl.SetRef, impl.SwapRef, impl.DropRef answer.
-/
import Derived.Test.YtmmeabfeehnajaaRSet
namespace Go.Proofs.Ytmmeabfeehnajaa
open Go.RowKit

theorem row_ne {w : World} {lo : Nat} {A : Option Addr} {cap : Nat} {bs : List Nat} {l : List Pr} (h : PRefs w lo A cap bs l) {s : Nat} (hs : w.heap.size = s) : rowOf A ≠ some s ∧ ∀ g ∈ bs, g ≠ s := by
  subst hs
  refine ⟨fun x => by have := (h.1.row _ x).2; omega, fun g hg => ?_⟩
  obtain ⟨i, hi, rfl⟩ := List.mem_iff_getElem.1 hg
  have := (h.2.2.2.2 i hi (by rw [← h.2.1]; exact hi)).2.2.lt
  omega

set_option maxRecDepth 100000 in
set_option maxHeartbeats 2000000 in
theorem implSetRef_any (A : Option Addr) (l : List Pr) (cap : Nat) (k v : ByteArray) (w : World) (hl : l.length ≤ maxLen) (hin : PIn w w.heap.size A l) (hks : k.size ≤ maxLen) (hvs : v.size ≤ maxLen) :
    Calls Try.prog 11 #[.slice A l.length cap, .string k, .string v] w (RetOwnB w.heap.size (stL l k v) (stB l k v) w) := by
  have R := hide (refsOf_any A l cap w hl hin)
  go_enter Try.func11, Try.ntmps11
  go_wp2_with fail
  refine R.out.mono ?_
  rintro e w1 ⟨b1, ⟨h, rfl⟩ | ⟨h, A2, cap2, bs, rfl, p1⟩⟩
  · have Z := hide (stB_not (l := l) (k := k) (v := v) (fun z => by rw [h] at z; exact absurd z.1 (by simp)))
    go_wp2
    go_ret2
    exact retOwnB_no (stL_no Z.out) Z.out (b1.alloc b1.size _)
  · have h20 := (refB_iff.1 h).1
    have HR := hide (refB_iff.1 h).2.2
    have HB := hide h
    have hln := p1.2.2.2.1
    have LN := hide hln
    have T := hide (TB.new w1 A2 l.length cap2 rfl)
    have bx : Hid (Below w1.heap.size w1 (w1.alloc (.cells #[.slice A2 l.length cap2] 55))) := hide ((Below.refl _ _).alloc (Nat.le_refl _) _)
    have NE := hide (row_ne p1 rfl)
    have P := hide (p1.below bx.out)
    have B1 := hide (b1.trans (bx.out.mono b1.size))
    have hw1 := b1.size
    have hsl := (len_set_le l k v).2
    clear p1 b1 h hln R hin
    cases hk : keyB k
    · have Z := hide (stB_not (l := l) (k := k) (v := v) (fun z => by rw [hk] at z; exact absurd z.2.1 (by simp)))
      go_wp2_with fail
      refine (keyOk_any k _ hks).mono ?_
      rintro e w' ⟨rfl, rfl⟩
      rw [hk]
      go_wp2
      go_ret2
      exact retOwnB_no (stL_no Z.out) Z.out B1.out
    cases hv : QI.idB v
    · have Z := hide (stB_not (l := l) (k := k) (v := v) (fun z => by rw [hv] at z; exact absurd z.2.2.1 (by simp)))
      go_wp2_with fail
      refine (keyOk_any k _ hks).mono ?_
      rintro e w' ⟨rfl, rfl⟩
      rw [hk]
      go_wp2_with fail
      refine (QI.implIdOk_any v _ hvs).mono ?_
      rintro e w' ⟨rfl, rfl⟩
      rw [hv]
      go_wp2
      go_ret2
      exact retOwnB_no (stL_no Z.out) Z.out B1.out
    have HK := hide hk
    have HV := hide hv
    have LS := hide (lens_set LN.out hks hvs)
    go_wp2_with fail
    refine (keyOk_any k _ hks).mono ?_
    rintro e w' ⟨rfl, rfl⟩
    rw [hk]
    go_wp2_with fail
    refine (QI.implIdOk_any v _ hvs).mono ?_
    rintro e w' ⟨rfl, rfl⟩
    rw [hv]
    clear hk hv
    go_wp2_with fail
    refine (set_any A2 l cap2 bs k v _ w1.heap.size w.heap.size (by omega) T.out hw1 P.out HR.out NE.out.1 NE.out.2).mono ?_
    rintro e w2 ⟨rfl, b2, A3, cap3, t3, in3⟩
    have B2 := hide (B1.out.trans b2)
    have r3 := t3.c
    have IN3 := hide in3
    clear b2 t3 in3
    by_cases hlen : 20 < (setL l k v).length
    · have Z := hide (stB_not (l := l) (k := k) (v := v) (fun z => by have := z.2.2.2; omega))
      have d : decide ((20 : Int) < ((setL l k v).length : Int)) = true := decide_eq_true (by omega)
      go_wp2
      go_ret2
      exact retOwnB_no (stL_no Z.out) Z.out B2.out
    · have Z := hide (stB_iff.2 ⟨HB.out, HK.out, HV.out, (show (setL l k v).length ≤ 20 by omega)⟩)
      have d : decide ((20 : Int) < ((setL l k v).length : Int)) = false := decide_eq_false (by omega)
      go_wp2_with fail
      refine (refs_any A3 (setL l k v) cap3 _ (by omega) LS.out IN3.out).mono ?_
      rintro e w4 ⟨A4, cap4, hc4, rfl, own4, b4⟩
      have B4 := hide (B2.out.trans (b4.mono B2.out.size))
      have O4 := hide (own4.more B2.out.size)
      clear b4 own4
      go_wp2
      go_ret2
      refine ⟨A4, cap4, ?_, ?_, ?_, B4.out⟩
      · rw [stL_yes Z.out]; exact hc4
      · rw [stL_yes Z.out, Z.out]; rfl
      · rw [stL_yes Z.out]; exact O4.out

set_option maxRecDepth 100000 in
set_option maxHeartbeats 1000000 in
theorem implSwapRef_any (A : Option Addr) (l : List Pr) (cap : Nat) (k o v : ByteArray) (w : World) (hl : l.length ≤ maxLen) (hin : PIn w w.heap.size A l) (hks : k.size ≤ maxLen) (hvs : v.size ≤ maxLen) :
    Calls Try.prog 24 #[.slice A l.length cap, .string k, .string o, .string v] w (RetOwnB w.heap.size (swL l k o v) (swB l k o v) w) := by
  have R := hide (implRefOf_any A l cap k w hl hin)
  by_cases ho : gotV l k = o
  · have d1 := eqS_yes ho
    have ZL := hide (swL_yes (v := v) ho)
    have ZB := hide (swB_yes (v := v) ho)
    clear ho
    go_enter Try.func24, Try.ntmps24
    go_wp2_with fail
    refine R.out.mono ?_
    rintro e w1 ⟨rfl, b1⟩
    have B1 := hide b1
    clear b1
    go_wp2_with fail
    refine (implSetRef_any A l cap k v _ hl ((hin.below B1.out).more B1.out.size) hks hvs).mono ?_
    rintro e w2 ⟨A2, cap2, hc2, rfl, own2, b2⟩
    have B2 := hide (B1.out.trans (b2.mono B1.out.size))
    have O2 := hide (own2.more B1.out.size)
    clear b2 own2
    go_wp2
    go_ret2
    rw [ZL.out, ZB.out]
    exact ⟨A2, cap2, hc2, rfl, O2.out, B2.out⟩
  · have d1 := eqS_no ho
    have ZL := hide (swL_no (v := v) ho)
    have ZB := hide (swB_no (v := v) ho)
    clear ho
    go_enter Try.func24, Try.ntmps24
    go_wp2_with fail
    refine R.out.mono ?_
    rintro e w1 ⟨rfl, b1⟩
    go_wp2
    go_ret2
    exact retOwnB_no ZL.out ZB.out b1

set_option maxRecDepth 100000 in
set_option maxHeartbeats 2000000 in
theorem implDropRef_any (A : Option Addr) (l : List Pr) (cap : Nat) (k : ByteArray) (w : World) (hl : l.length ≤ maxLen) (hin : PIn w w.heap.size A l) :
    Calls Try.prog 20 #[.slice A l.length cap, .string k] w (RetOwnB w.heap.size (drL l k) (gotB l k) w) := by
  have R := hide (refsOf_any A l cap w hl hin)
  go_enter Try.func20, Try.ntmps20
  go_wp2_with fail
  refine R.out.mono ?_
  rintro e w1 ⟨b1, ⟨h, rfl⟩ | ⟨h, A2, cap2, bs, rfl, p1⟩⟩
  · have Z := hide (gotB_no (k := k) h)
    go_wp2
    go_ret2
    exact retOwnB_no (drL_no Z.out) Z.out (b1.alloc b1.size _)
  · have h20 := (refB_iff.1 h).1
    have HR := hide (refB_iff.1 h).2.2
    have HB := hide (gotB_yes (k := k) h)
    have LN := hide p1.2.2.2.1
    have T := hide (TB.new w1 A2 l.length cap2 rfl)
    have bx : Hid (Below w1.heap.size w1 (w1.alloc (.cells #[.slice A2 l.length cap2] 55))) := hide ((Below.refl _ _).alloc (Nat.le_refl _) _)
    have hz : w1.heap.size < (w1.alloc (.cells #[.slice A2 l.length cap2] 55)).heap.size := by simp
    have NE := hide (row_ne p1 rfl)
    have P := hide (p1.below bx.out)
    have B1 := hide (b1.trans (bx.out.mono b1.size))
    have hw1 := b1.size
    have r1 := T.out.c
    clear p1 b1 h R hin
    go_wp2_with fail
    refine (placeR_any A2 l cap2 k _ (by omega) P.out.rin HR.out).mono ?_
    rintro e w2 ⟨rfl, b2⟩
    have T2 := hide (T.out.below b2 hz)
    have P2 := hide (P.out.below b2)
    have B2 := hide (B1.out.trans (b2.mono B1.out.size))
    have r2 := T2.out.c
    have hz2 : w1.heap.size < w2.heap.size := T2.out.lt
    clear b2 r1
    cases hh : hasB l k
    · have Z : Hid (gotB l k = false) := hide (by rw [HB.out]; exact hh)
      go_wp2
      go_ret2
      exact retOwnB_no (drL_no Z.out) Z.out B2.out
    · have Z : Hid (gotB l k = true) := hide (by rw [HB.out]; exact hh)
      obtain ⟨hlt, _⟩ := hasB_iff.1 hh
      have hlb : atN l k < bs.length := by rw [P2.out.2.1]; exact hlt
      have hbl := P2.out.2.1
      have WO := hide (withoutR_any A2 bs cap2 (atN l k) w2 (by omega) P2.out.1.cap_le hlb P2.out.1.qin)
      rw [hbl] at WO
      go_wp2_with fail
      refine WO.out.mono ?_
      rintro e w3 ⟨A3, cap3, hc3, rfl, own3, b3⟩
      have T3 := hide (T2.out.below b3 hz2)
      have r3 := T3.out.c
      have f3 := T3.out.frozen 0
      have P3 := hide (P2.out.below b3)
      have B3 := hide (B2.out.trans (b3.mono B2.out.size))
      have NR : Hid (rowOf A3 ≠ some w1.heap.size) := hide (fun x => by have := (own3.row _ x).1; omega)
      have O3 := hide own3
      have L3 : Hid ((bs.eraseIdx (atN l k)).length = (l.eraseIdx (atN l k)).length) := hide (by rw [List.length_eraseIdx, List.length_eraseIdx, hbl])
      have LE : Hid (lens (l.eraseIdx (atN l k))) := hide (fun i hi => by
        obtain ⟨j, hj, e⟩ := List.mem_iff_getElem.1 ((List.eraseIdx_sublist l (atN l k)).subset (List.getElem_mem hi))
        rw [← e]
        exact LN.out j hj)
      have hel : (l.eraseIdx (atN l k)).length ≤ 65536 := by rw [List.length_eraseIdx]; split <;> omega
      have DE := hide (drL_yes Z.out)
      clear own3 b3 WO r2
      rw [L3.out]
      have RI : Hid (RIn (w3.setCell ⟨w1.heap.size, 0, none⟩ (.slice A3 (l.eraseIdx (atN l k)).length cap3)) (w3.setCell ⟨w1.heap.size, 0, none⟩ (.slice A3 (l.eraseIdx (atN l k)).length cap3)).heap.size A3 (l.eraseIdx (atN l k))) := hide (by
        generalize Value.slice A3 (l.eraseIdx (atN l k)).length cap3 = u
        refine rin_of (O3.out.kept (grown_setCell w3 ⟨w1.heap.size, 0, none⟩ u) NR.out) L3.out fun i hi hi' => ?_
        have hb2 := P3.out.2.1
        have old : ∀ j (hj : j < bs.length) (hj' : j < l.length), RefAt (w3.setCell ⟨w1.heap.size, 0, none⟩ u) bs[j] l[j] := fun j hj hj' => (P3.out.2.2.2.2 j hj hj').2.2.other _ _ (NE.out.2 _ (List.getElem_mem hj))
        have hie : i < bs.length - 1 := by rw [List.length_eraseIdx, if_pos hlb] at hi; exact hi
        rcases Nat.lt_or_ge i (atN l k) with g | g
        · rw [List.getElem_eraseIdx_of_lt (by omega) g, List.getElem_eraseIdx_of_lt (by omega) g]
          exact old i (by omega) (by omega)
        · rw [List.getElem_eraseIdx_of_ge (by omega) g, List.getElem_eraseIdx_of_ge (by omega) g]
          exact old (i + 1) (by omega) (by omega))
      have T4 := hide (T3.out.set (A' := A3) (n' := (l.eraseIdx (atN l k)).length) (cap' := cap3))
      have B4 := hide (B3.out.setCell (p := ⟨w1.heap.size, 0, none⟩) hw1 (.slice A3 (l.eraseIdx (atN l k)).length cap3))
      have r4 := T4.out.c
      go_wp2_with fail
      refine (refs_any A3 (l.eraseIdx (atN l k)) cap3 _ hel LE.out RI.out).mono ?_
      rintro e w5 ⟨A5, cap5, hc5, rfl, own5, b5⟩
      have B5 := hide (B4.out.trans (b5.mono B4.out.size))
      have O5 := hide (own5.more B4.out.size)
      clear b5 own5
      go_wp2
      go_ret2
      rw [DE.out, Z.out]
      exact ⟨A5, cap5, hc5, rfl, O5.out, B5.out⟩
end Go.Proofs.Ytmmeabfeehnajaa
