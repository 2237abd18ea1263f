/-
  What Inverse answers, in the reference and in the program.
-/
import Derived.Test.YtcpalnkcjcgaeaaHMem
import Derived.Test.YtcpalnkcjcgaeaaPStr0
import Derived.Deep.RegionLaw
import Derived.RegionTactic
import Derived.StillTailTactics
import Derived.Deep.RegionHeld3
namespace Go.Proofs.Ytcpalnkcjcgaeaa
open Go.RowKit

/-- a change, turned round -/
def invC (c : Ch) : Ch := (c.1, c.2.2.1, c.2.1, c.2.2.2.2, c.2.2.2.1)
theorem invC_c {c : Ch} (h : cC c) : cC (invC c) := ⟨h.1, h.2.2, h.2.1⟩
def invL (l : List Ch) : List Ch := l.map invC
theorem invL_len (l : List Ch) : (invL l).length = l.length := by simp [invL]
theorem inv_step (l : List Ch) (k : Nat) (h : k < l.length) : invL (l.take k) ++ [invC l[k]] = invL (l.take (k + 1)) := by unfold invL; rw [List.take_succ_eq_append_getElem h, List.map_append]; rfl

set_option maxRecDepth 100000 in
set_option maxHeartbeats 1000000 in
theorem implInverse_any (A : Option Addr) (l : List Ch) (cap : Nat) (w : World) (hl : l.length ≤ 1048576) (hin : HIn w w.heap.size A l) :
    Calls Try.prog 21 #[.slice A l.length cap] w (RetC w.heap.size (invL l) w) := by
  obtain ⟨i0, hi, hz0, hz1, hz2⟩ := info_parts infoC
  have IN := hide hin
  clear hin
  generalize hn : l.length = n at *
  have HN := hide hn
  clear hn
  go_enter Try.func21, Try.ntmps21
  go_wp2_with (at_make; refine wpList_make_own _ rfl _ _ 27 rfl w.heap.size 45 i0 _ 5 Try.underlying27 hi hz0 hz1 _ _ _ n rfl rfl (by omega) (by rw [hz2]; omega) (by unfold maxLen; omega) (Nat.le_refl _) ?_)
  intro w1 own1 g1
  have O1 := hide (HOwn.made own1)
  have B1 := hide ((Below.refl w.heap.size w).grown g1 (Nat.le_refl _) (by simp))
  clear own1 g1
  go_wp2
  go_loopw [3, 11] (fun ov iv wr => ∃ (k : Nat) (A2 : Option Addr) (cap2 : Nat) (d : List Ch), k ≤ n ∧ iv = .int .i64 k ∧ ov = .slice A2 d.length cap2 ∧ Hid (d = invL (l.take k)) ∧ Hid (d.length = k) ∧ Hid (HOwn wr w.heap.size A2 cap2 d) ∧ Hid (Below w.heap.size w wr)) (fun _ i _ => n - (intOf i).toNat)
  case atStart => exact ⟨0, _, n, [], Nat.zero_le _, rfl, rfl, rfl, rfl, O1, B1⟩
  case round =>
    clear O1 B1
    obtain ⟨k, A2, cap2, d, hk, rfl, rfl, D, L, O, Q⟩ := hrel
    have hqs := Q.out.size
    by_cases hlt : k < n
    · have hkl : k < l.length := by rw [HN.out]; omega
      have hin2 := IN.out.below Q.out
      obtain ⟨b, off, rfl, hbB, hc⟩ := hin2.2 (by rw [HN.out]; omega)
      obtain ⟨c1, c2, c3, c4, c5⟩ := hc k hkl
      have sz := hide (invC_c (hin2.1 k hkl))
      have DS := hide (inv_step l k hkl)
      rw [← D.out] at DS
      unfold invC at sz DS
      generalize (l[k]'hkl).1 = x1 at *
      generalize (l[k]'hkl).2.1 = x2 at *
      generalize (l[k]'hkl).2.2.1 = x3 at *
      generalize (l[k]'hkl).2.2.2.1 = x4 at *
      generalize (l[k]'hkl).2.2.2.2 = x5 at *
      clear hin2 hc D
      go_wp2_with (at_builtin; (refine wpList_appC (l := d) (l' := [(x1, x3, x2, x5, x4)]) 27 Try.underlying27 rfl (.tmp 15) (.tmp 27) rfl rfl rfl rfl rfl ((O.out.alloc _).alloc _) (HIn.oneAt (w := wr.alloc (.cells #[.string x1, .string x2, .string x3, .bool x4, .bool x5] 45)) (x1, x3, x2, x5, x4) sz.out _ (by simp)) (by simp) (Nat.le_trans hqs (by simp; omega)) (by have := L.out; simp; omega) ?_; intro A3 cap3 w3 own3 g3 r3; have B3 := hide (Q.out.trans ((((Below.refl _ wr).alloc hqs (.cells #[.string x1, .string x2, .string x3, .bool x4, .bool x5] 45)).alloc (Nat.le_trans hqs (by simp)) (.cells (arrC (x1, x3, x2, x5, x4)) 45)).trans (((O.out.alloc (.cells #[.string x1, .string x2, .string x3, .bool x4, .bool x5] 45)).alloc (.cells (arrC (x1, x3, x2, x5, x4)) 45)).grownBelow (by rw [rowOf_own]; exact g3) (Nat.le_trans hqs (by simp; omega))))); have O3 := hide own3; clear own3 g3 r3))
      rw [DS.out] at O3
      have L3 : Hid ((invL (l.take (k + 1))).length = k + 1) := hide (by rw [invL_len, List.length_take]; omega)
      go_wp2
      exact ⟨⟨k + 1, A3, cap3, invL (l.take (k + 1)), by omega, by go_num, by rw [← DS.out]; simp, rfl, L3, O3, B3⟩, by simp [intOf]; omega⟩
    · have E : Hid (d = invL l) := hide (by rw [D.out, show k = l.length by rw [HN.out]; omega, List.take_length])
      have hgt : ¬ ((k : Int) < (n : Int)) := by omega
      clear hlt D L
      go_wp2
      go_ret
      refine ⟨A2, cap2, ?_, ?_, ?_, Q.out⟩
      · rw [← E.out]; exact O.out.cap_le
      · rw [← E.out]; rfl
      · rw [← E.out]; exact O.out

set_option maxRecDepth 100000 in
set_option maxHeartbeats 2000000 in
theorem specInverse_any (A : Option Addr) (l : List Ch) (cap : Nat) (w : World) (hl : l.length ≤ 1048576) (hin : HIn w w.heap.size A l) :
    Calls Try.prog 26 #[.slice A l.length cap] w (RetC w.heap.size (invL l) w) := by
  have IN := hide hin
  clear hin
  have O1 := hide (HOwn.built w w.heap.size (Nat.le_refl _))
  have B1 := hide ((Below.refl w.heap.size w).alloc (Nat.le_refl _) (.cells #[] 45))
  generalize hn : l.length = n at *
  have HN := hide hn
  clear hn
  go_enter Try.func26, Try.ntmps26
  go_wp2
  go_loopw [3, 4] (fun ov iv wr => ∃ (k : Nat) (A2 : Option Addr) (cap2 : Nat) (d : List Ch), k ≤ n ∧ iv = .int .i64 k ∧ ov = .slice A2 d.length cap2 ∧ Hid (d = invL (l.take k)) ∧ Hid (d.length = k) ∧ Hid (HOwn wr w.heap.size A2 cap2 d) ∧ Hid (Below w.heap.size w wr)) (fun _ i _ => n - (intOf i).toNat)
  case atStart => exact ⟨0, _, 0, [], Nat.zero_le _, rfl, rfl, rfl, rfl, O1, B1⟩
  case round =>
    clear O1 B1
    obtain ⟨k, A2, cap2, d, hk, rfl, rfl, D, L, O, Q⟩ := hrel
    by_cases hlt : k < n
    · have hkl : k < l.length := by rw [HN.out]; omega
      obtain ⟨b, off, rfl, hbB, hc⟩ := IN.out.2 (by rw [HN.out]; omega)
      have C0 := hide (hc k hkl)
      obtain ⟨c1, c2, c3, c4, c5⟩ := (hc k hkl).keep (w' := wr) fun o => (cell_below Q.out b o hbB)
      have sz := hide (invC_c (IN.out.1 k hkl))
      have DS := hide (inv_step l k hkl)
      rw [← D.out] at DS
      unfold invC at sz DS
      unfold At5 at C0
      have hki : (k : Int) < (n : Int) := by omega
      generalize (l[k]'hkl).1 = x1 at *
      generalize (l[k]'hkl).2.1 = x2 at *
      generalize (l[k]'hkl).2.2.1 = x3 at *
      generalize (l[k]'hkl).2.2.2.1 = x4 at *
      generalize (l[k]'hkl).2.2.2.2 = x5 at *
      clear hc D
      go_wp2
      have O2 : Hid (HOwn wr.drew w.heap.size A2 cap2 d) := hide O.out.drew
      have Q2 : Hid (Below w.heap.size w wr.drew) := hide Q.out.drew
      have hqs : w.heap.size ≤ wr.drew.heap.size := Q2.out.size
      have IN3 : Hid (HIn (wr.drew.alloc (.cells (arrC (x1, x3, x2, x5, x4)) 45)) (wr.heap.size + 1) (some ⟨wr.heap.size, 0, none⟩) [(x1, x3, x2, x5, x4)]) := hide (HIn.oneAt (w := wr.drew) (x1, x3, x2, x5, x4) sz.out _ rfl)
      go_region_held3 (fun w' => w'.cell? ⟨b, off + k * 5, none⟩ = some (.string x1) ∧ w'.cell? ⟨b, off + k * 5 + 1, none⟩ = some (.string x2) ∧ w'.cell? ⟨b, off + k * 5 + 2, none⟩ = some (.string x3) ∧ w'.cell? ⟨b, off + k * 5 + 3, none⟩ = some (.bool x4) ∧ w'.cell? ⟨b, off + k * 5 + 4, none⟩ = some (.bool x5)) (first | go_keep | exact ⟨cellB B3.out hbB C0.out.1, cellB B3.out hbB C0.out.2.1, cellB B3.out hbB C0.out.2.2.1, cellB B3.out hbB C0.out.2.2.2.1, cellB B3.out hbB C0.out.2.2.2.2⟩)
        (first | (refine step_appC (n := d.length) (m := 1) (A := A2) (cap := cap2) (A' := some ⟨wr.heap.size, 0, none⟩) (c := 1) (l := d) (l' := [(x1, x3, x2, x5, x4)]) 27 Try.underlying27 rfl (.tmp 12) (.tmp 39) rfl (by simp [Act.eval]) (by simp [Act.eval]) rfl rfl (O2.out.alloc _) IN3.out (by simp) (Nat.le_trans hqs (by simp)) (by have := L.out; simp; omega) ?_; intro A3 cap3 w3 own3 g3 r3; have B3 := hide (Q2.out.trans (((Below.refl _ wr.drew).alloc hqs (.cells (arrC (x1, x3, x2, x5, x4)) 45)).trans ((O2.out.alloc (.cells (arrC (x1, x3, x2, x5, x4)) 45)).grownBelow (by rw [rowOf_own]; exact g3) (Nat.le_trans hqs (by simp))))); have O3 := hide own3; clear own3 g3 r3))
      rw [DS.out] at O3
      have L3 : Hid ((invL (l.take (k + 1))).length = k + 1) := hide (by rw [invL_len, List.length_take]; omega)
      go_wp2
      exact ⟨⟨k + 1, A3, cap3, invL (l.take (k + 1)), by omega, by go_num, by rw [← DS.out]; simp, rfl, L3, O3, B3⟩, by simp [intOf]; omega⟩
    · have E : Hid (d = invL l) := hide (by rw [D.out, show k = l.length by rw [HN.out]; omega, List.take_length])
      have hgt : ¬ ((k : Int) < (n : Int)) := by omega
      clear hlt D L
      go_wp2
      go_ret
      refine ⟨A2, cap2, ?_, ?_, ?_, Q.out⟩
      · rw [← E.out]; exact O.out.cap_le
      · rw [← E.out]; rfl
      · rw [← E.out]; exact O.out
end Go.Proofs.Ytcpalnkcjcgaeaa
