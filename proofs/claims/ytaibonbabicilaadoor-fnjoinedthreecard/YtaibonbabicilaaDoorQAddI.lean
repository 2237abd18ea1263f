/-
  What impl's map of texts does: add, objs.
-/
import Derived.Test.YtaibonbabicilaaDoorQRep
import Derived.Test.YtaibonbabicilaaDoorQRow
import Derived.Test.YtaibonbabicilaaDoorQAddM
import Derived.Test.YtaibonbabicilaaDoorQIter
import Derived.Test.YtaibonbabicilaaDoorQAddS
namespace Go.Proofs.YtaibonbabicilaaDoor
open Go.RowKit Go.Maps

set_option maxRecDepth 100000 in
set_option maxHeartbeats 1000000 in
theorem add_any (bm n : Nat) (l : List Pr) (t : ByteArray) (w : World) (hm : TRep w bm n l) (hn : n ≤ 1000) (hl : l.length ≤ 1000) (hts : t.size ≤ maxLen) (hT : Tabs w) :
    Calls Tryd.prog 41 #[.map (some bm), .string t] w fun e w' => w.grownBy w' (some bm) ∧
      ((addOk l t = false ∧ e = .returned (.tuple #[.string ByteArray.empty, .bool false])) ∨ (addOk l t = true ∧ e = .returned (.tuple #[.string (idL t), .bool true]) ∧ TRep w' bm (n + 1) (setL l (idL t) t))) := by
  have HM := hide hm
  have HS := hide hts
  have hks := idL_max t
  unfold maxLen at hts
  clear hm
  by_cases ht : t.size ≤ 2000
  · have hb : ¬ (2000 : Int) < (t.size : Int) := by omega
    have I := hide (idI_any t w ht hT)
    clear hT
    go_enter Tryd.func41, Tryd.ntmps41
    go_wp2_with fail
    refine I.out.mono ?_
    rintro e w1 ⟨rfl, b1⟩
    have G1 := hide (Below.toGrown b1 (some bm))
    have M1 := hide (HM.out.below b1)
    have hlook := M1.out.look hks
    have hlen := M1.out.len 3
    clear b1 I HM
    cases hh : hasB l (idL t)
    · rw [hh] at hlook
      by_cases h60 : l.length < 60
      · have c : decide ((60 : Int) ≤ (l.length : Int)) = false := decide_eq_false (by omega)
        have OK := hide (addOk_new ht hh h60)
        obtain ⟨w2, hst, m2, g2⟩ := M1.out.store (by unfold maxLen; omega) hks HS.out
        have M2 := hide m2
        have G2 := hide (G1.out.trans g2)
        clear m2 g2 M1 G1 hh
        generalize valOf l (idL t) = vv at hlook
        generalize l.length = n0 at hlen c
        generalize hkk : idL t = k at hlook hst ⊢
        have HK := hide hkk
        clear hkk
        go_wp2
        go_ret2
        exact ⟨G2.out, .inr ⟨OK.out, by rw [HK.out]; rfl, M2.out⟩⟩
      · have c : decide ((60 : Int) ≤ (l.length : Int)) = true := decide_eq_true (by omega)
        have OK := hide (addOk_full hh (by omega))
        clear M1 hh
        generalize valOf l (idL t) = vv at *
        generalize l.length = n0 at *
        generalize setL l (idL t) t = l2 at *
        generalize idL t = k at *
        go_wp2
        go_ret2
        exact ⟨G1.out, .inl ⟨OK.out, rfl⟩⟩
    · rw [hh] at hlook
      by_cases he : valOf l (idL t) = t
      · have c := eqS_yes he
        have c2 := neS_no he
        have OK := hide (addOk_same ht hh he)
        obtain ⟨w2, hst, m2, g2⟩ := M1.out.store (by unfold maxLen; omega) hks HS.out
        have M2 := hide m2
        have G2 := hide (G1.out.trans g2)
        clear m2 g2 M1 G1 hh hlen he
        generalize valOf l (idL t) = vv at hlook c c2
        generalize hkk : idL t = k at hlook hst ⊢
        have HK := hide hkk
        clear hkk
        go_wp2
        go_ret2
        exact ⟨G2.out, .inr ⟨OK.out, by rw [HK.out]; rfl, M2.out⟩⟩
      · have c := eqS_no he
        have c2 := neS_yes he
        have OK := hide (addOk_other (stepOk_no hh he))
        clear M1 hh hlen he
        generalize valOf l (idL t) = vv at *
        generalize setL l (idL t) t = l2 at *
        generalize idL t = k at *
        go_wp2
        go_ret2
        exact ⟨G1.out, .inl ⟨OK.out, rfl⟩⟩
  · have hb : (2000 : Int) < (t.size : Int) := by omega
    have OK := hide (addOk_long (l := l) (t := t) (by omega))
    go_enter Tryd.func41, Tryd.ntmps41
    go_wp2
    go_ret2
    exact ⟨World.grownBy.refl _ _, .inl ⟨OK.out, rfl⟩⟩

/-- the ids of l, in a row of the call's own -/
def KOwn (w : World) (B : Nat) (v : Value) (l : List Pr) : Prop := w.ownsRow B 9 1 v l.length (l.map fun p => Value.string p.1)
theorem KOwn.form {w : World} {B : Nat} {v : Value} {l : List Pr} (h : KOwn w B v l) : ∃ A cap, v = .slice A l.length cap ∧ (∀ g, rowOf A = some g → B ≤ g ∧ g < w.heap.size) := by
  have hlt := h.lt
  rcases h.2 with ⟨e, e'⟩ | ⟨g, c, cur, e, hb, hg, _⟩
  · exact ⟨none, 0, by rw [e, e'], fun g hg => by cases hg⟩
  · refine ⟨_, _, e, fun g' hg' => ?_⟩
    subst e
    exact hlt g' (by rw [rowOf_own]; exact hg')
theorem KOwn.cell {w : World} {B : Nat} {A : Option Addr} {cap : Nat} {l : List Pr} (h : KOwn w B (.slice A l.length cap) l) {i : Nat} (hi : i < l.length) : ∃ g, A = some ⟨g, 0, none⟩ ∧ g < w.heap.size ∧ w.cell? ⟨g, i, none⟩ = some (.string l[i].1) := by
  have h' := h
  rcases h.2 with ⟨e, e'⟩ | ⟨g, c, cur, e, hb, hg, _⟩
  · omega
  · injection e with e1 e2 e3
    subst e1
    refine ⟨g, rfl, (Array.getElem?_eq_some_iff.1 hg).1, ?_⟩
    have := h'.cellAt i (by omega)
    rw [List.getElem?_map, List.getElem?_eq_getElem hi] at this
    exact this
theorem KOwn.kept {w w' : World} {B : Nat} {A A' : Option Addr} {cap : Nat} {l : List Pr} (h : KOwn w B (.slice A l.length cap) l) (hg : w.grownBy w' (rowOf A')) (hne : ∀ g, rowOf A = some g → rowOf A' ≠ some g) : KOwn w' B (.slice A l.length cap) l := by
  refine World.ownsRow.kept h hg ?_
  rw [rowOf_own]
  cases e : rowOf A with
  | none => exact .inl rfl
  | some g => exact .inr (fun x => hne g e x.symm)
theorem encs (l : List Pr) : (l.map fun p => p.1.data.toList).map encStr = l.map fun p => Value.string p.1 := by
  rw [List.map_map]
  refine List.map_congr_left fun p _ => ?_
  simp [encStr]

set_option maxRecDepth 100000 in
set_option maxHeartbeats 1000000 in
/-- the ids of the map, sorted -/
theorem sorted_any (bm n : Nat) (l : List Pr) (w : World) (hm : TRep w bm n l) (hl : l.length ≤ 1000) :
    Calls Tryd.prog 64 #[.func (.func 81) #[] #[.pointer (some ⟨w.heap.size, 0, none⟩)]] (w.alloc (.cells #[.map (some bm)] 60)) fun e w' => ∃ A cap, e = .returned (.slice A l.length cap) ∧ KOwn w' (w.heap.size + 1) (.slice A l.length cap) l ∧ Below (w.heap.size + 1) (w.alloc (.cells #[.map (some bm)] 60)) w' := by
  obtain ⟨D, h, r⟩ := hm
  have hsz := TRep.size h r
  refine (callsIn_wide.1 (Tryd.slices_Sorted_keys_64_65 bm n D _ w h (by rw [hsz]; unfold maxLen; omega) (by rw [hsz]; omega))).mono ?_
  rintro e w' ⟨v, ss, rfl, hS, hrow, _, hb⟩
  have hk := sorted_keys r.1 hS (TRep.perm h r)
  have hlen : ss.length = l.length := by rw [hS.length_eq, ← (TRep.perm h r).length_eq, List.length_map]
  rw [hk, hlen, encs] at hrow
  have e1 : (w.alloc (.cells #[.map (some bm)] 60)).heap.size = w.heap.size + 1 := by simp
  rw [e1] at hrow hb
  have hK : KOwn w' (w.heap.size + 1) v l := hrow
  obtain ⟨A, cap, rfl, _⟩ := hK.form
  exact ⟨A, cap, rfl, hK, hb⟩

set_option maxRecDepth 100000 in
set_option maxHeartbeats 1000000 in
theorem objs_any (bm n : Nat) (l : List Pr) (w : World) (hm : TRep w bm n l) (hl : l.length ≤ 1000) (hlens : lens l) :
    Calls Tryd.prog 42 #[.map (some bm)] w (RetOwn w.heap.size l w) := by
  obtain ⟨i0, hi, hz0, hz1, hz2⟩ := info_parts infoP
  have HM := hide hm
  have hlen := hm.len 3
  have hbm := hm.lt
  have HL := hide hlens
  have HR := hide (show Ris l by obtain ⟨D, _, r⟩ := hm; exact r.1)
  clear hm hlens
  generalize hn0 : l.length = n0 at *
  have HN := hide hn0
  clear hn0
  go_enter Tryd.func42, Tryd.ntmps42
  go_wp2_with (at_make; refine wpList_make_own _ rfl _ _ 24 rfl w.heap.size 43 i0 _ 2 Tryd.underlying24 hi hz0 hz1 _ _ _ n0 rfl rfl (by omega) (by rw [hz2]; omega) (by unfold maxLen; omega) (Nat.le_refl _) ?_)
  intro w1 own1 g1
  have O1 := hide (Own.made own1)
  have B1 := hide ((Below.refl w.heap.size w).grown g1 (Nat.le_refl _) (by simp))
  have M1 := hide (HM.out.kept g1 (by simp))
  have row1 := (Own.made own1).row
  have R1 := hide row1
  clear own1 g1 HM hlen row1
  go_wp2_with fail
  refine (callsIn_wide.1 (Tryd.maps_Keys_65 (some bm) w1)).mono ?_
  rintro e w2 ⟨rfl, rfl⟩
  go_wp2_with fail
  refine (sorted_any bm n l w1 M1.out (by rw [HN.out]; omega)).mono ?_
  rintro e w3 ⟨AS, capS, rfl, k3, b3⟩
  have b3' := ((Below.refl w1.heap.size w1).alloc (Nat.le_refl _) (.cells #[.map (some bm)] 60)).trans (b3.mono (Nat.le_succ _))
  have O3 := hide (O1.out.below b3')
  have M3 := hide (M1.out.below b3')
  have B3 := hide (B1.out.trans (b3'.mono B1.out.size))
  obtain ⟨AS', capS', eS, hrow⟩ := k3.form
  have eS1 : AS' = AS := by injection eS with e1 e2 e3; exact e1.symm
  rw [eS1] at hrow
  have N3 : Hid (∀ g, rowOf AS = some g → rowOf (some (⟨w.heap.size, 0, none⟩ : Addr)) ≠ some g) := hide (fun g hg h => by
    have h1 := (hrow g hg).1
    have h2 : w.heap.size = g := by simpa [rowOf] using h
    have h3 := B1.out.size
    omega)
  have K3 := hide (show KOwn w3 w.heap.size (.slice AS l.length capS) l by
    refine ⟨k3.1, ?_⟩
    rcases k3.2 with e | ⟨g, c, cur, e, hb, r⟩
    · exact .inl e
    · exact .inr ⟨g, c, cur, e, by have := B1.out.size; omega, r⟩)
  clear eS eS1 hrow k3 b3 b3' O1 M1
  rw [HN.out]
  go_wp2
  go_loopw [3, 13] (fun ov iv wr => ∃ (k : Nat) (d : List Pr) (A : Option Addr) (cap : Nat), k ≤ n0 ∧ Hid (d.length = k) ∧ iv = .int .i64 k ∧ ov = .slice A d.length cap ∧ Hid (d = l.take k) ∧ Hid (Own wr w.heap.size A cap d) ∧ Hid (KOwn wr w.heap.size (.slice AS l.length capS) l) ∧ Hid (TRep wr bm n l) ∧ Hid (∀ g, rowOf AS = some g → rowOf A ≠ some g) ∧ Hid (Below w.heap.size w wr)) (fun _ i _ => n0 - (intOf i).toNat)
  case atStart => exact ⟨0, [], _, n0, Nat.zero_le _, rfl, rfl, rfl, rfl, O3, K3, M3, N3, B3⟩
  case round =>
    clear O3 K3 M3 N3 B3
    obtain ⟨k, d, A, cap, hk, hdk, rfl, rfl, D, O, S, M, N, Q⟩ := hrel
    by_cases hlt : k < n0
    · have hkl : k < l.length := by rw [HN.out]; omega
      obtain ⟨g, rfl, hg, c⟩ := S.out.cell hkl
      obtain ⟨s1, s2⟩ := HL.out k hkl
      have hget := M.out.get s1
      have HT : Hid (d ++ [((l[k]'hkl).1, (l[k]'hkl).2)] = l.take (k + 1)) := hide (by rw [D.out, List.take_succ_eq_append_getElem hkl])
      rw [val_of HR.out (show ((l[k]'hkl).1, (l[k]'hkl).2) ∈ l from List.getElem_mem hkl)] at hget
      clear D
      generalize (l[k]'hkl).1 = y at *
      generalize (l[k]'hkl).2 = v at *
      go_wp2_with (at_builtin; refine wpList_app (l := d) (l' := [(y, v)]) 24 Tryd.underlying24 rfl (.tmp 17) (.tmp 23) rfl rfl rfl rfl rfl (O.out.alloc _) (PIn.one wr y v s1 s2 _) (Nat.le_trans Q.out.size (by simp)) (by have := hdk.out; simp; omega) ?_; intro A3 cap3 w3 own3 g3 r3; have B3 := hide (Q.out.trans (((Below.refl _ wr).alloc Q.out.size (.cells #[.string y, .string v] 43)).trans ((O.out.alloc (.cells #[.string y, .string v] 43)).grownBelow (by rw [rowOf_own]; exact g3) (Nat.le_trans Q.out.size (by simp))))); have O3 := hide own3; have S3 := hide (KOwn.kept (World.ownsRow.kept S.out (World.grownBy_alloc wr (.cells #[.string y, .string v] 43) none) (by rw [rowOf_own]; exact .inr (by simp [rowOf]))) g3 N.out); have M3 := hide ((M.out.kept (World.grownBy_alloc wr (.cells #[.string y, .string v] 43) none) (by simp)).kept g3 (fun x => by have h9 := (O.out.row bm x.symm).1; omega)); have N3 : Hid (∀ g', rowOf (some (⟨g, 0, none⟩ : Addr)) = some g' → rowOf A3 ≠ some g') := hide (fun g' hg' x => r3.elim (fun r3 => N.out g' hg' (by rw [← r3]; exact x)) (fun r3 => by have h8 := rowOf_some hg'; rw [r3] at x; injection x with x; simp at x; omega)); clear own3 g3 r3)
      go_roundw
      case rel => exact ⟨k + 1, d ++ [(y, v)], A3, cap3, by omega, hide (by rw [List.length_append, hdk.out]; rfl), by go_num, by rw [show (d ++ [(y, v)]).length = d.length + 1 by simp], HT, O3, S3, M3, N3, B3⟩
      case measure => simp [intOf]; omega
    · have E : Hid (d = l) := hide (by rw [D.out, show k = l.length by rw [HN.out]; omega, List.take_length])
      have ek : Hid (k = n0) := hide (by omega)
      have hgt : ¬ ((k : Int) < (n0 : Int)) := by omega
      clear hlt D N S M
      go_wp2
      go_ret
      refine ⟨A, cap, ?_, ?_, ?_, Q.out⟩
      · rw [← E.out]; exact O.out.cap_le
      · rw [← E.out]; rfl
      · rw [← E.out]; exact O.out
end Go.Proofs.YtaibonbabicilaaDoor
