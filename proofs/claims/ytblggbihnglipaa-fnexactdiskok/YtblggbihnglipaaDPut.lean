/-
  What spec.l11Put answers: the files with one more, in a row of the call's own (as the reference's loop makes it).
-/
import Derived.Test.YtblggbihnglipaaDCut
namespace Go.Proofs.Ytblggbihnglipaa
open Go.RowKit

/-- one step: the new file ahead of the first that is not less; the old one of that name is left out -/
def putStep (key v : ByteArray) (s : List Pr × Bool) (p : Pr) : List Pr × Bool :=
  let o := if !s.2 && !(ltB p.1 key) then s.1 ++ [(key, v)] else s.1
  (if p.1.toList == key.toList then o else o ++ [p], s.2 || !(ltB p.1 key))
def putTo (l : List Pr) (key v : ByteArray) (k : Nat) : List Pr × Bool := (l.take k).foldl (putStep key v) ([], false)
theorem putTo_next {l : List Pr} {k : Nat} (h : k < l.length) (key v : ByteArray) : putTo l key v (k + 1) = putStep key v (putTo l key v k) l[k] := by
  unfold putTo
  rw [List.take_succ_eq_append_getElem h, List.foldl_append]
  rfl
theorem putTo_len (l : List Pr) (key v : ByteArray) : ∀ k, k ≤ l.length → (putTo l key v k).1.length ≤ k + (if (putTo l key v k).2 then 1 else 0)
  | 0, _ => by simp [putTo]
  | k + 1, h => by
    have ih := putTo_len l key v k (by omega)
    rw [putTo_next (by omega)]
    unfold putStep
    cases hd : (putTo l key v k).2 <;> cases hs : ltB (l[k]'(by omega)).1 key <;> cases he : ((l[k]'(by omega)).1.toList == key.toList) <;> simp [hd] at ih ⊢ <;> omega
theorem eqS_of {a b : ByteArray} (h : (a.toList == b.toList) = true) : a = b := by
  have e := beq_iff_eq.1 h
  rw [Go.ByteArray.toList_eq, Go.ByteArray.toList_eq] at e
  exact Go.WideShapes.bytes_inj e
def putF (l : List Pr) (key v : ByteArray) : List Pr := if (putTo l key v l.length).2 then (putTo l key v l.length).1 else (putTo l key v l.length).1 ++ [(key, v)]
set_option maxRecDepth 100000 in
set_option maxHeartbeats 2000000 in
theorem l11Put_any (A : Option Addr) (l : List Pr) (cap : Nat) (key v : ByteArray) (w : World) (hl : l.length ≤ 1048576) (hks : key.size ≤ maxLen) (hvs : v.size ≤ maxLen) (hin : PIn w w.heap.size A l) :
    Calls Try.prog 77 #[.slice A l.length cap, .string key, .string v] w (RetF (putF l key v) w) := by
  have IN := hide hin
  clear hin
  have O0 := hide (Own.built w w.heap.size (Nat.le_refl _))
  have B0 := hide ((Below.refl w.heap.size w).alloc (Nat.le_refl _) (.cells #[] 86))
  have LEN := hide (fun k h => putTo_len l key v k h)
  have PF : Hid (putF l key v = if (putTo l key v l.length).2 then (putTo l key v l.length).1 else (putTo l key v l.length).1 ++ [(key, v)]) := hide rfl
  generalize hn : l.length = n at *
  have HN := hide hn
  clear hn
  go_enter Try.func77, Try.ntmps77
  go_wp2
  go_loopw [7, 8, 9] (fun ov dv iv wr => ∃ (k : Nat) (A2 : Option Addr) (c2 : Nat), k ≤ n ∧ ov = .slice A2 (putTo l key v k).1.length c2 ∧ dv = .bool (putTo l key v k).2 ∧ iv = .int .i64 k ∧ Hid (Own wr w.heap.size A2 c2 (putTo l key v k).1) ∧ Hid (Below w.heap.size w wr)) (fun _ _ i _ => n - (intOf i).toNat)
  case atStart => exact ⟨0, _, 0, Nat.zero_le _, rfl, rfl, rfl, O0, B0⟩
  case round =>
    clear O0 B0
    obtain ⟨k, A2, c2, hk, rfl, rfl, rfl, O, Q⟩ := hrel
    have hqs := Q.out.size
    have ln := LEN.out k hk
    have ln2 : (putTo l key v k).1.length ≤ n + 1 := by split at ln <;> omega
    by_cases hlt : k < n
    · have hkl : k < l.length := by rw [HN.out]; omega
      have in1 := (IN.out.below Q.out).more hqs
      have sz := in1.1 k hkl
      obtain ⟨b, off, rfl, hbB, hc⟩ := IN.out.2 (by rw [HN.out]; omega)
      obtain ⟨c1, c3⟩ := hc k hkl
      have CC := hide (fun (W : World) (h : Below w.heap.size w W) => (⟨(h.cell (p := ⟨b, off + k * 2, none⟩) hbB).trans c1, (h.cell (p := ⟨b, off + k * 2 + 1, none⟩) hbB).trans c3⟩ : _ ∧ _))
      have ST := hide (putTo_next hkl key v)
      unfold putStep at ST
      generalize (putTo l key v k).1 = m at *
      generalize (putTo l key v k).2 = dn at *
      have c1w := (CC.out wr Q.out).1
      have c3w := (CC.out wr Q.out).2
      have XP : Hid (((l[k]'hkl).1, (l[k]'hkl).2) = l[k]'hkl) := hide rfl
      generalize hp : l[k]'hkl = p at *
      obtain ⟨x, t⟩ := p
      simp only at *
      clear in1 hc c1 c3 ln hp XP
      have G : Hid (∀ A3 c3 w3 o d, putTo l key v (k + 1) = (o, d) → Own w3 w.heap.size A3 c3 o → Below w.heap.size w w3 → True) := hide (fun _ _ _ _ _ _ _ _ => trivial)
      clear G
      cases hs : (x.toList == key.toList)
      · have hne : (x.toList != key.toList) = true := by rw [bne, hs]; rfl
        have xne : ¬ x = key := fun e => by rw [eqS_yes e] at hs; cases hs
        cases dn
        · cases hlt2 : ltB x key
          · have E : Hid (putTo l key v (k + 1) = (m ++ [(key, v)] ++ [(x, t)], true)) := hide (by rw [ST.out, hs, hlt2]; rfl)
            have g1 : Op.bytesLess x.toList key.toList = false := hlt2
            have g2 : Op.bytesLess key.toList x.toList = true := by
              rcases ltB_tri x key with h | h | h
              · rw [hlt2] at h; cases h
              · exact absurd h xne
              · exact h
            have hl1 : (m ++ [(key, v)] ++ [(x, t)]).length = m.length + 1 + 1 := by simp
            have hl2 : (m ++ [(key, v)]).length = m.length + 1 := by simp
            clear ST hlt2
            go_wp2_with (first | (at_builtin; refine wpList_app (l := m) (l' := [(key, v)]) 28 Try.underlying28 rfl (.tmp 28) (.tmp 32) rfl rfl rfl (by simp) rfl (O.out.alloc _) (PIn.one wr key v hks hvs _) (Nat.le_trans hqs (by simp)) (by simp; omega) ?_; intro A3 cap3 w3 own3 g3 r3; have B3 := hide (Q.out.trans (((Below.refl _ wr).alloc hqs (.cells #[.string key, .string v] 86)).trans ((O.out.alloc (.cells #[.string key, .string v] 86)).grownBelow (by rw [rowOf_own]; exact g3) (Nat.le_trans hqs (by simp))))); have O3 := hide own3; have hq3 := B3.out.size; obtain ⟨e3, f3⟩ := CC.out w3 B3.out; clear own3 g3 r3) | (at_builtin; refine wpList_app (l := m ++ [(key, v)]) (l' := [(x, t)]) 28 Try.underlying28 rfl (.tmp 41) (.tmp 46) rfl rfl rfl (by simp) rfl (O3.out.alloc _) (PIn.one w3 x t sz.1 sz.2 _) (Nat.le_trans hq3 (by simp)) (by simp; omega) ?_; intro A4 cap4 w4 own4 g4 r4; have B4 := hide (B3.out.trans (((Below.refl _ w3).alloc hq3 (.cells #[.string x, .string t] 86)).trans ((O3.out.alloc (.cells #[.string x, .string t] 86)).grownBelow (by rw [rowOf_own]; exact g4) (Nat.le_trans hq3 (by simp))))); have O4 := hide own4; have hq4 := B4.out.size; obtain ⟨e4, f4⟩ := CC.out w4 B4.out; clear own4 g4 r4))
            go_roundw
            case rel => exact ⟨k + 1, A4, cap4, by omega, by rw [E.out, hl1], by rw [E.out], by go_num, by rw [E.out]; exact O4, B4⟩
            case measure => simp [intOf]; omega
          · have E : Hid (putTo l key v (k + 1) = (m ++ [(x, t)], false)) := hide (by rw [ST.out, hs, hlt2]; rfl)
            have g1 : Op.bytesLess x.toList key.toList = true := hlt2
            have g2 : Op.bytesLess key.toList x.toList = false := ltB_asymm hlt2
            have hl1 : (m ++ [(x, t)]).length = m.length + 1 := by simp
            clear ST hlt2
            go_wp2_with (at_builtin; refine wpList_app (l := m) (l' := [(x, t)]) 28 Try.underlying28 rfl (.tmp 41) (.tmp 46) rfl rfl rfl (by simp) rfl (O.out.alloc _) (PIn.one wr x t sz.1 sz.2 _) (Nat.le_trans hqs (by simp)) (by simp; omega) ?_; intro A3 cap3 w3 own3 g3 r3; have B3 := hide (Q.out.trans (((Below.refl _ wr).alloc hqs (.cells #[.string x, .string t] 86)).trans ((O.out.alloc (.cells #[.string x, .string t] 86)).grownBelow (by rw [rowOf_own]; exact g3) (Nat.le_trans hqs (by simp))))); have O3 := hide own3; have hq3 := B3.out.size; obtain ⟨e3, f3⟩ := CC.out w3 B3.out; clear own3 g3 r3)
            go_roundw
            case rel => exact ⟨k + 1, A3, cap3, by omega, by rw [E.out, hl1], by rw [E.out], by go_num, by rw [E.out]; exact O3, B3⟩
            case measure => simp [intOf]; omega
        · have E : Hid (putTo l key v (k + 1) = (m ++ [(x, t)], true)) := hide (by rw [ST.out, hs]; rfl)
          have hl1 : (m ++ [(x, t)]).length = m.length + 1 := by simp
          clear ST
          go_wp2_with (at_builtin; refine wpList_app (l := m) (l' := [(x, t)]) 28 Try.underlying28 rfl (.tmp 41) (.tmp 46) rfl rfl rfl (by simp) rfl (O.out.alloc _) (PIn.one wr x t sz.1 sz.2 _) (Nat.le_trans hqs (by simp)) (by simp; omega) ?_; intro A3 cap3 w3 own3 g3 r3; have B3 := hide (Q.out.trans (((Below.refl _ wr).alloc hqs (.cells #[.string x, .string t] 86)).trans ((O.out.alloc (.cells #[.string x, .string t] 86)).grownBelow (by rw [rowOf_own]; exact g3) (Nat.le_trans hqs (by simp))))); have O3 := hide own3; have hq3 := B3.out.size; obtain ⟨e3, f3⟩ := CC.out w3 B3.out; clear own3 g3 r3)
          go_roundw
          case rel => exact ⟨k + 1, A3, cap3, by omega, by rw [E.out, hl1], by rw [E.out], by go_num, by rw [E.out]; exact O3, B3⟩
          case measure => simp [intOf]; omega
      · have hne : (x.toList != key.toList) = false := by rw [bne, hs]; rfl
        have xeq : x = key := eqS_of hs
        have hlt2 : ltB x key = false := by rw [xeq]; exact ltB_irrefl _
        have g1 : Op.bytesLess x.toList key.toList = false := hlt2
        have g2 : (Op.bytesLess key.toList x.toList || key.toList == x.toList) = true := by rw [xeq]; simp
        have g3 : (key.toList == x.toList) = true := by rw [xeq]; simp
        clear xeq
        cases dn
        · have E : Hid (putTo l key v (k + 1) = (m ++ [(key, v)], true)) := hide (by rw [ST.out, hs, hlt2]; rfl)
          have hl1 : (m ++ [(key, v)]).length = m.length + 1 := by simp
          clear ST hlt2
          go_wp2_with (at_builtin; refine wpList_app (l := m) (l' := [(key, v)]) 28 Try.underlying28 rfl (.tmp 28) (.tmp 32) rfl rfl rfl (by simp) rfl (O.out.alloc _) (PIn.one wr key v hks hvs _) (Nat.le_trans hqs (by simp)) (by simp; omega) ?_; intro A3 cap3 w3 own3 g3 r3; have B3 := hide (Q.out.trans (((Below.refl _ wr).alloc hqs (.cells #[.string key, .string v] 86)).trans ((O.out.alloc (.cells #[.string key, .string v] 86)).grownBelow (by rw [rowOf_own]; exact g3) (Nat.le_trans hqs (by simp))))); have O3 := hide own3; have hq3 := B3.out.size; obtain ⟨e3, f3⟩ := CC.out w3 B3.out; clear own3 g3 r3)
          go_roundw
          case rel => exact ⟨k + 1, A3, cap3, by omega, by rw [E.out, hl1], by rw [E.out], by go_num, by rw [E.out]; exact O3, B3⟩
          case measure => simp [intOf]; omega
        · have E : Hid (putTo l key v (k + 1) = (m, true)) := hide (by rw [ST.out, hs]; rfl)
          clear ST hlt2
          go_wp2
          go_roundw
          case rel => exact ⟨k + 1, A2, c2, by omega, by rw [E.out], by rw [E.out], by go_num, by rw [E.out]; exact O, Q⟩
          case measure => simp [intOf]; omega
    · obtain rfl : k = n := by omega
      have hgt : ¬ ((k : Int) < (k : Int)) := by omega
      generalize (putTo l key v k).1 = m at *
      generalize (putTo l key v k).2 = dn at *
      clear hlt
      cases dn
      · have E : Hid (putF l key v = m ++ [(key, v)]) := hide PF.out
        have CC : Hid (∀ W : World, Below w.heap.size w W → True ∧ True) := hide (fun _ _ => ⟨trivial, trivial⟩)
        have hl1 : (m ++ [(key, v)]).length = m.length + 1 := by simp
        go_wp2_with (at_builtin; refine wpList_app (l := m) (l' := [(key, v)]) 28 Try.underlying28 rfl (.tmp 50) (.tmp 54) rfl rfl rfl (by simp) rfl (O.out.alloc _) (PIn.one wr key v hks hvs _) (Nat.le_trans hqs (by simp)) (by simp; omega) ?_; intro A3 cap3 w3 own3 g3 r3; have B3 := hide (Q.out.trans (((Below.refl _ wr).alloc hqs (.cells #[.string key, .string v] 86)).trans ((O.out.alloc (.cells #[.string key, .string v] 86)).grownBelow (by rw [rowOf_own]; exact g3) (Nat.le_trans hqs (by simp))))); have O3 := hide own3; have hq3 := B3.out.size; obtain ⟨e3, f3⟩ := CC.out w3 B3.out; clear own3 g3 r3)
        go_ret
        exact ⟨A3, cap3, by rw [E.out, hl1]; rfl, by rw [E.out]; exact O3.out, B3.out⟩
      · have E : Hid (putF l key v = m) := hide PF.out
        go_wp2
        go_ret
        exact ⟨A2, c2, by rw [E.out]; rfl, by rw [E.out]; exact O.out, Q.out⟩
end Go.Proofs.Ytblggbihnglipaa
