/-
  What spec.l11Cut answers: the files without one, in a row of the call's own.
-/
import Derived.Test.YtblggbihnglipaaDFrm
namespace Go.Proofs.Ytblggbihnglipaa
open Go.RowKit

theorem cutF1_next {l : List Pr} {k : Nat} (h : k < l.length) (key : ByteArray) : cutF1 (l.take (k + 1)) key = cutF1 (l.take k) key ++ (if l[k].1.toList == key.toList then [] else [l[k]]) := by
  unfold cutF1
  rw [List.take_succ_eq_append_getElem h, List.filter_append]
  congr 1
  cases hs : (l[k].1.toList == key.toList) <;> simp [hs]
theorem cutF1_len (l : List Pr) (key : ByteArray) : (cutF1 l key).length ≤ l.length := List.length_filter_le _ _
def RetF (l : List Pr) (w : World) (e : Ending) (w' : World) : Prop := ∃ A cap, e = .returned (.slice A l.length cap) ∧ Own w' w.heap.size A cap l ∧ Below w.heap.size w w'
set_option maxRecDepth 100000 in
set_option maxHeartbeats 1000000 in
theorem l11Cut_any (A : Option Addr) (l : List Pr) (cap : Nat) (key : ByteArray) (w : World) (hl : l.length ≤ 1048576) (hin : PIn w w.heap.size A l) :
    Calls Try.prog 78 #[.slice A l.length cap, .string key] w (RetF (cutF1 l key) w) := by
  have IN := hide hin
  clear hin
  have O0 := hide (Own.built w w.heap.size (Nat.le_refl _))
  have B0 := hide ((Below.refl w.heap.size w).alloc (Nat.le_refl _) (.cells #[] 86))
  generalize hn : l.length = n at *
  have HN := hide hn
  clear hn
  go_enter Try.func78, Try.ntmps78
  go_wp2
  go_loopw [5, 6] (fun ov iv wr => ∃ (k : Nat) (A2 : Option Addr) (c2 : Nat), k ≤ n ∧ ov = .slice A2 (cutF1 (l.take k) key).length c2 ∧ iv = .int .i64 k ∧ Hid (Own wr w.heap.size A2 c2 (cutF1 (l.take k) key)) ∧ Hid (Below w.heap.size w wr)) (fun _ i _ => n - (intOf i).toNat)
  case atStart => exact ⟨0, _, 0, Nat.zero_le _, rfl, rfl, O0, B0⟩
  case round =>
    clear O0 B0
    obtain ⟨k, A2, c2, hk, rfl, rfl, O, Q⟩ := hrel
    have hqs := Q.out.size
    by_cases hlt : k < n
    · have hkl : k < l.length := by rw [HN.out]; omega
      have in1 := (IN.out.below Q.out).more hqs
      have sz := in1.1 k hkl
      obtain ⟨b, off, rfl, hbB, hc⟩ := in1.2 (by omega)
      obtain ⟨c1, c3⟩ := hc k hkl
      have ST := hide (cutF1_next hkl key)
      have ln := cutF1_len (l.take k) key
      have lt : (l.take k).length ≤ n := by rw [List.length_take, HN.out]; omega
      cases hs : ((l[k]'hkl).1.toList == key.toList)
      · have hne : ((l[k]'hkl).1.toList != key.toList) = true := by rw [bne, hs]; rfl
        have E : Hid (cutF1 (l.take (k + 1)) key = cutF1 (l.take k) key ++ [((l[k]'hkl).1, (l[k]'hkl).2)]) := hide (by rw [ST.out, hs]; rfl)
        generalize (l[k]'hkl).1 = x at *
        generalize (l[k]'hkl).2 = t at *
        generalize cutF1 (l.take k) key = m at *
        have hl1 : (m ++ [(x, t)]).length = m.length + 1 := by simp
        clear in1 hc ST
        go_wp2_with (at_builtin; refine wpList_app (l := m) (l' := [(x, t)]) 28 Try.underlying28 rfl (.tmp 21) (.tmp 26) rfl rfl rfl rfl rfl (O.out.alloc _) (PIn.one wr x t sz.1 sz.2 _) (Nat.le_trans hqs (by simp)) (by simp; omega) ?_; intro A3 cap3 w3 own3 g3 r3; have B3 := hide (Q.out.trans (((Below.refl _ wr).alloc hqs (.cells #[.string x, .string t] 86)).trans ((O.out.alloc (.cells #[.string x, .string t] 86)).grownBelow (by rw [rowOf_own]; exact g3) (Nat.le_trans hqs (by simp))))); have O3 := hide own3; clear own3 g3 r3)
        go_roundw
        case rel => exact ⟨k + 1, A3, cap3, by omega, by rw [E.out, hl1], by go_num, by rw [E.out]; exact O3, B3⟩
        case measure => simp [intOf]; omega
      · have hne : ((l[k]'hkl).1.toList != key.toList) = false := by rw [bne, hs]; rfl
        have E : Hid (cutF1 (l.take (k + 1)) key = cutF1 (l.take k) key) := hide (by rw [ST.out, hs]; simp)
        generalize (l[k]'hkl).1 = x at *
        generalize (l[k]'hkl).2 = t at *
        generalize cutF1 (l.take k) key = m at *
        clear in1 hc ST
        go_wp2
        go_roundw
        case rel => exact ⟨k + 1, A2, c2, by omega, by rw [E.out], by go_num, by rw [E.out]; exact O, Q⟩
        case measure => simp [intOf]; omega
    · have E : Hid (cutF1 (l.take k) key = cutF1 l key) := hide (by rw [List.take_of_length_le (by rw [HN.out]; omega)])
      have hgt : ¬ ((k : Int) < (n : Int)) := by omega
      rw [E.out] at O ⊢
      clear hlt
      go_wp2
      go_ret
      exact ⟨A2, c2, rfl, O.out, Q.out⟩
end Go.Proofs.Ytblggbihnglipaa
