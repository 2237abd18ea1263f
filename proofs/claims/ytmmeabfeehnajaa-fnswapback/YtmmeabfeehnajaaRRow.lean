/-
  Rows of pointers made out of others; the refs of a table, written out.
-/
import Derived.Test.YtmmeabfeehnajaaRFind
import Derived.Test.YtmmeabfeehnajaaRRefsI
import Derived.RegionTactic
namespace Go.Proofs.Ytmmeabfeehnajaa
open Go.RowKit

theorem POwn.made {w : World} {B n cap : Nat} (h : w.ownsRow B 63 1 (.slice (some ⟨n, 0, none⟩) 0 cap) 0 []) : POwn w B (some ⟨n, 0, none⟩) cap [] := h
theorem eraseN_eq (l : List Nat) (k : Nat) : ([] ++ l.take k) ++ l.drop (k + 1) = l.eraseIdx k := by rw [List.nil_append, List.eraseIdx_eq_take_drop_succ]
theorem POwn.alloc {w : World} {B : Nat} {A : Option Addr} {cap : Nat} {l : List Nat} (h : POwn w B A cap l) (o : Obj) : POwn (w.alloc o) B A cap l := h.below ((Below.refl _ _).alloc (Nat.le_refl _) o)
def RetP (B : Nat) (l : List Nat) (w : World) (e : Ending) (w' : World) : Prop := ∃ A cap, l.length ≤ cap ∧ e = .returned (.slice A l.length cap) ∧ POwn w' B A cap l ∧ Below B w w'

set_option maxRecDepth 100000 in
set_option maxHeartbeats 2000000 in
theorem withoutR_any (A : Option Addr) (l : List Nat) (cap k : Nat) (w : World) (hl : l.length ≤ 65536) (hc : l.length ≤ cap) (hk : k < l.length) (hin : QIn w w.heap.size A l) :
    Calls Try.prog 45 #[.slice A l.length cap, .int .i64 k] w (RetP w.heap.size (l.eraseIdx k) w) := by
  obtain ⟨i0, hi, hz0, hz1, hz2⟩ := info_parts infoR
  have K1 := hide (run_cutP_h 53 Try.underlying53 A l.length cap k (by omega))
  have K2 := hide (run_cutP_l 53 Try.underlying53 A l.length cap (k + 1) (by omega))
  have IN1 := hide (hin.take cap k)
  have IN2 := hide (hin.drop hc (k + 1))
  have e1 : (l.take k).length = k := by rw [List.length_take]; omega
  have e2 : (l.drop (k + 1)).length = l.length - (k + 1) := by rw [List.length_drop]
  have E1 := hide e1
  have E2 := hide e2
  have E3 := hide (eraseN_eq l k)
  clear hin e1 e2
  generalize l.take k = la at *
  generalize l.drop (k + 1) = lb at *
  generalize l.length = n at *
  go_enter Try.func45, Try.ntmps45
  go_wp2_with (at_make; refine wpList_make_own _ rfl _ _ 53 rfl w.heap.size 63 i0 _ 1 Try.underlying53 hi hz0 hz1 _ _ _ n rfl rfl (by omega) (by rw [hz2]; omega) (by unfold maxLen; omega) (Nat.le_refl _) ?_)
  intro w1 own1 g1
  have O1 := hide (POwn.made own1)
  have B1 := hide ((Below.refl w.heap.size w).grown g1 (Nat.le_refl _) (by simp))
  have h1 := K1.out
  have h2 := K2.out
  have q1 : ((k + 1 : Nat) : Int) = (k : Int) + 1 := by omega
  rw [q1] at h2
  clear own1 g1 q1
  go_wp2_with (first
    | (at_builtin; refine wpList_appP 53 Try.underlying53 rfl (.tmp 9) (.tmp 12) rfl rfl rfl rfl E1.out.symm O1.out (IN1.out.below B1.out) B1.out.size (by rw [E1.out]; simp; omega) ?_; intro A2 cap2 w2 own2 g2 r2; have B2 := hide (B1.out.trans (O1.out.grownBelow g2 B1.out.size)); have O2 := hide own2; clear own2 g2 r2)
    | (at_builtin; refine wpList_appP 53 Try.underlying53 rfl (.tmp 14) (.tmp 18) rfl rfl rfl (by simp) E2.out.symm O2.out (IN2.out.below B2.out) B2.out.size (by rw [List.length_append, E1.out, E2.out]; simp; omega) ?_; intro A3 cap3 w3 own3 g3 r3; have B3 := hide (B2.out.trans (O2.out.grownBelow g3 B2.out.size)); have O3 := hide own3; clear own3 g3 r3))
  go_ret
  have O4 := O3.out
  rw [E3.out] at O4
  exact ⟨A3, cap3, O4.cap_le, by rw [← E3.out]; simp, O4, B3.out⟩

theorem withN_eq (bs : List Nat) (k g : Nat) : (([] ++ bs.take k) ++ [g]) ++ bs.drop k = bs.take k ++ g :: bs.drop k := by simp
set_option maxRecDepth 100000 in
set_option maxHeartbeats 2000000 in
theorem withR_any (A : Option Addr) (l : List Pr) (cap : Nat) (bs : List Nat) (g : Nat) (k v : ByteArray) (w : World) (lo : Nat) (hl : l.length ≤ 65536) (hp : PRefs w lo A cap bs l) (hr : risesTo l l.length) (hg : RefAt w g (k, v)) (hh : hasB l k = false) :
    Calls Try.prog 59 #[.slice A l.length cap, .pointer (some ⟨g, 0, none⟩)] w (RetP w.heap.size (bs.take (atN l k) ++ g :: bs.drop (atN l k)) w) := by
  obtain ⟨i0, hi, hz0, hz1, hz2⟩ := info_parts infoR
  have P := hide hp
  have HR := hide hr
  have c0 := hg.c1
  have hme := method_rsortKey
  have hle := atN_le l k
  have hcap := hp.1.cap_le
  have hbl := hp.2.1
  clear hp hr hg
  go_enter Try.func59, Try.ntmps59
  go_wp2_with fail
  refine (rsortKey_any g k _ c0).mono ?_
  rintro e w0 ⟨rfl, rfl⟩
  go_wp2_with fail
  refine (placeR_any A l cap k _ hl P.out.rin HR.out).mono ?_
  rintro e w1 ⟨rfl, b1⟩
  rw [hh]
  have B1 := hide b1
  have QI1 := hide (P.out.below b1).1.qin
  clear b1 c0 hme
  have K1 := run_cutP_h 53 Try.underlying53 A l.length cap (atN l k) (by omega)
  have K2 := run_cutP_l 53 Try.underlying53 A l.length cap (atN l k) (by omega)
  have IN1 := hide (QI1.out.take cap (atN l k))
  have IN2 := hide (QI1.out.drop hcap (atN l k))
  have E1 := hide (show (bs.take (atN l k)).length = atN l k by rw [List.length_take]; omega)
  have E2 := hide (show (bs.drop (atN l k)).length = l.length - atN l k by rw [List.length_drop, hbl])
  have E3 := hide (withN_eq bs (atN l k) g)
  clear QI1 P
  generalize bs.take (atN l k) = la at *
  generalize bs.drop (atN l k) = lb at *
  generalize atN l k = m at *
  generalize l.length = n at *
  go_wp2_with (at_make; refine wpList_make_own _ rfl _ _ 53 rfl w1.heap.size 63 i0 _ 1 Try.underlying53 hi hz0 hz1 _ _ _ (n + 1) rfl rfl (by omega) (by rw [hz2]; omega) (by unfold maxLen; omega) (Nat.le_refl _) ?_)
  intro w2 own2 g2
  have O2 := hide (POwn.made own2)
  have B2 := hide ((Below.refl w1.heap.size w1).grown g2 (Nat.le_refl _) (by simp))
  clear own2 g2
  go_wp2_with (first
    | (at_builtin; refine wpList_appP 53 Try.underlying53 rfl (.tmp 25) (.tmp 28) rfl rfl rfl rfl E1.out.symm O2.out (IN1.out.below B2.out) B2.out.size (by rw [E1.out]; simp; omega) ?_; intro A3 cap3 w3 own3 g3 r3; have B3 := hide (B2.out.trans (O2.out.grownBelow g3 B2.out.size)); have O3 := hide own3; clear own3 g3 r3)
    | (at_builtin; refine wpList_appP (l' := [g]) 53 Try.underlying53 rfl (.tmp 30) (.tmp 32) rfl rfl rfl (by simp) rfl (O3.out.alloc _) (QIn.one g _ rfl) (Nat.le_trans B3.out.size (by simp)) (by rw [List.length_append, E1.out]; simp; omega) ?_; intro A4 cap4 w4 own4 g4 r4; have b4 := (O3.out.alloc (.cells #[pv g] 63)).grownBelow g4 (Nat.le_trans B3.out.size (by simp)); have b4' := ((Below.refl w1.heap.size w3).alloc B3.out.size (.cells #[pv g] 63)).trans b4; have B4 := hide (B3.out.trans b4'); have O4 := hide own4; clear own4 g4 r4 b4 b4')
    | (at_builtin; refine wpList_appP 53 Try.underlying53 rfl (.tmp 34) (.tmp 37) rfl rfl rfl (by simp) E2.out.symm O4.out (IN2.out.below B4.out) B4.out.size (by rw [List.length_append, List.length_append, E1.out, E2.out]; simp; omega) ?_; intro A5 cap5 w5 own5 g5 r5; have b5 := O4.out.grownBelow g5 B4.out.size; have B5 := hide (B4.out.trans b5); have O5 := hide own5; clear own5 g5 r5 b5))
  go_ret
  have O6 := O5.out
  rw [E3.out] at O6
  exact ⟨A5, cap5, O6.cap_le, by rw [← E3.out]; simp, O6.more B1.out.size, B1.out.trans (B5.out.mono B1.out.size)⟩

set_option maxRecDepth 100000 in
set_option maxHeartbeats 2000000 in
theorem refs_any (A : Option Addr) (l : List Pr) (cap : Nat) (w : World) (hl : l.length ≤ 65536) (hln : lens l) (hin : RIn w w.heap.size A l) :
    Calls Try.prog 37 #[.agg #[.slice A l.length cap]] w (RetOwn w.heap.size l w) := by
  obtain ⟨i0, hi, hz0, hz1, hz2⟩ := info_parts infoP
  have IN := hide hin
  have LN := hide hln
  have T := hide (TB.new w A l.length cap rfl)
  have bx : Hid (Below w.heap.size w (w.alloc (.cells #[.slice A l.length cap] 55))) := hide ((Below.refl _ _).alloc (Nat.le_refl _) _)
  have hz : (w.alloc (.cells #[.slice A l.length cap] 55)).heap.size = w.heap.size + 1 := by simp
  have r1 := T.out.c
  clear hin hln
  generalize hn : l.length = n at *
  have HN := hide hn
  clear hn
  go_enter Try.func37, Try.ntmps37
  go_wp2_with (at_make; refine wpList_make_own _ rfl _ _ 24 rfl (w.heap.size + 1) 37 i0 _ 2 Try.underlying24 hi hz0 hz1 _ _ _ n rfl rfl (by omega) (by rw [hz2]; omega) (by unfold maxLen; omega) (by simp) ?_)
  intro w1 own1 g1
  have O1 := hide (Own.made own1)
  have b1 := (Below.refl (w.heap.size + 1) (w.alloc (.cells #[.slice A n cap] 55))).grown g1 (by simp) (by simp)
  have B1 := hide (bx.out.trans (b1.mono (by omega)))
  have r2 := (T.out.below b1 (by omega)).c
  have zz := b1.size
  rw [hz] at zz
  clear own1 g1 b1 r1
  go_wp2
  go_loopw [3, 13] (fun ov iv wr => ∃ (k : Nat) (A2 : Option Addr) (cap2 : Nat), k ≤ n ∧ iv = .int .i64 k ∧ ov = .slice A2 k cap2 ∧ w.heap.size + 1 ≤ wr.heap.size ∧ Hid (Own wr (w.heap.size + 1) A2 cap2 (l.take k)) ∧ Hid (Below w.heap.size w wr)) (fun _ i _ => n - (intOf i).toNat)
  case atStart => exact ⟨0, _, n, Nat.zero_le _, rfl, rfl, by have := zz; omega, O1, B1⟩
  case round =>
    clear O1 B1
    obtain ⟨k, A2, cap2, hk, rfl, rfl, hz2', O, Q⟩ := hrel
    have hqs := Q.out.size
    by_cases hlt : k < n
    · have hkl : k < l.length := by rw [HN.out]; omega
      obtain ⟨b, off, rfl, hbB, hc⟩ := (IN.out.below Q.out) (by omega)
      obtain ⟨g, hg, c1, c2, c3⟩ := hc k hkl
      simp only [pv] at c1
      obtain ⟨s1, s2⟩ := LN.out k hkl
      have TK : Hid (l.take k ++ [((l[k]'hkl).1, (l[k]'hkl).2)] = l.take (k + 1)) := hide (by rw [List.take_succ_eq_append_getElem hkl])
      have LK : Hid ((l.take k).length = k) := hide (by rw [List.length_take]; omega)
      have hki : (k : Int) < (n : Int) := by omega
      clear hc
      generalize (l[k]'hkl).1 = x at *
      generalize (l[k]'hkl).2 = y at *
      go_wp2_with (at_builtin; refine wpList_app (l := l.take k) (l' := [(x, y)]) 24 Try.underlying24 rfl (.tmp 17) (.tmp 21) rfl rfl rfl LK.out.symm rfl (O.out.alloc _) (PIn.one wr x y s1 s2 _) (Nat.le_trans hz2' (by simp)) (by rw [LK.out]; simp; omega) ?_; intro A6 cap6 w6 own6 g6 r6; have B6 := hide (Q.out.trans (((Below.refl _ wr).alloc hqs (.cells #[.string x, .string y] 37)).trans (((O.out.alloc (.cells #[.string x, .string y] 37)).grownBelow (by rw [rowOf_own]; exact g6) (Nat.le_trans hz2' (by simp))).mono (by omega)))); have O6 := hide own6; have z6 := g6.size; clear own6 g6 r6)
      rw [TK.out] at O6
      have z7 : w.heap.size + 1 ≤ w6.heap.size := by simp at z6; omega
      exact ⟨⟨k + 1, A6, cap6, by omega, by go_num, (by simp; omega), z7, O6, B6⟩, by simp [intOf]; omega⟩
    · obtain rfl : k = n := by omega
      have TK : Hid (l.take k = l) := hide (by rw [← HN.out, List.take_length])
      have hkk : ¬ (k : Int) < (k : Int) := by omega
      rw [TK.out] at O
      go_wp2
      go_ret
      have hcc := O.out.cap_le
      exact ⟨A2, cap2, hcc, by rw [HN.out]; rfl, O.out.more (by omega), Q.out⟩
end Go.Proofs.Ytmmeabfeehnajaa
