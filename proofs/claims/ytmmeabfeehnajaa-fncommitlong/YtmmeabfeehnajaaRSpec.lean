/-
  What spec.RefOf, spec.SetRef, spec.SwapRef, spec.DropRef answer.
-/
import Derived.Test.YtmmeabfeehnajaaRDropS
import Derived.Test.YtmmeabfeehnajaaPStr
namespace Go.Proofs.Ytmmeabfeehnajaa
open Go.RowKit

theorem emp_list {s : ByteArray} : (s.toList == ([] : List UInt8)) = decide (s = ByteArray.empty) := by
  have e1 : (ByteArray.empty).toList = [] := by rw [Go.ByteArray.toList_eq]; rfl
  by_cases h : s = ByteArray.empty
  · rw [decide_eq_true h, h, e1]; rfl
  · rw [decide_eq_false h, ← e1]; exact eqS_no h
theorem emp_arr {s : ByteArray} : (s.toList == (⟨#[]⟩ : ByteArray).toList) = decide (s = ByteArray.empty) := by
  have e1 : (⟨#[]⟩ : ByteArray).toList = [] := by rw [Go.ByteArray.toList_eq]
  rw [e1]; exact emp_list

set_option maxRecDepth 100000 in
set_option maxHeartbeats 1000000 in
theorem specRefOf_any (A : Option Addr) (l : List Pr) (cap : Nat) (key : ByteArray) (w : World) (B : Nat) (hl : l.length ≤ maxLen) (hin : PIn w B A l) :
    Calls Try.prog 15 #[.slice A l.length cap, .string key] w fun e w' => e = .returned (.tuple #[.string (gotV l key), .bool (gotB l key)]) ∧ Quiet w w' := by
  have R := hide (l1At_any A l cap key w B hl hin)
  have hle := atN_le l key
  cases hm : refB l
  · have Z := hide (ret_sb (gotV_no (k := key) hm) (gotB_no (k := key) hm))
    go_enter Try.func15, Try.ntmps15
    go_wp2_with (first | (go_at_call 41; refine R.out.mono ?_; rintro e w' ⟨rfl, rfl⟩) | (go_at_call 19; refine (specRefsOk_any A l cap _ B hl hin).mono ?_; rintro e w' ⟨rfl, q⟩))
    go_ret2
    exact ⟨Z.out.symm, q⟩
  · have RO := hide (specRefsOk_any A l cap w B hl hin)
    rw [hm] at RO
    by_cases hlt : atN l key < l.length
    · have ne : ((atN l key : Int) == (l.length : Int)) = false := by rw [beq_eq_false_iff_ne]; omega
      have hli : (atN l key : Int) < (l.length : Int) := by omega
      by_cases he : (l[atN l key]'hlt).1 = key
      · have Z := hide (ret_sb ((gotV_yes hm).trans (valOf_yes hlt he)) ((gotB_yes (k := key) hm).trans (hasB_yes hlt he)))
        have d1 := eqS_yes he
        have IN := hide hin
        go_enter Try.func15, Try.ntmps15
        go_wp2_with fail
        refine R.out.mono ?_
        rintro e w' ⟨rfl, rfl⟩
        go_wp2_with fail
        refine RO.out.mono ?_
        rintro e w1 ⟨rfl, q⟩
        obtain ⟨b, off, rfl, hbB, hc⟩ := (IN.out.quiet q).2 (by omega)
        obtain ⟨c1, c2⟩ := hc (atN l key) hlt
        generalize (l[atN l key]'hlt).1 = s at *
        generalize (l[atN l key]'hlt).2 = v at *
        generalize atN l key = m at *
        clear hin hc he IN R RO
        go_wp2
        go_ret2
        exact ⟨Z.out.symm, q⟩
      · have Z := hide (ret_sb ((gotV_yes hm).trans (valOf_no (hasB_no hlt he))) ((gotB_yes (k := key) hm).trans (hasB_no hlt he)))
        have d1 := eqS_no he
        have IN := hide hin
        go_enter Try.func15, Try.ntmps15
        go_wp2_with fail
        refine R.out.mono ?_
        rintro e w' ⟨rfl, rfl⟩
        go_wp2_with fail
        refine RO.out.mono ?_
        rintro e w1 ⟨rfl, q⟩
        obtain ⟨b, off, rfl, hbB, hc⟩ := (IN.out.quiet q).2 (by omega)
        obtain ⟨c1, c2⟩ := hc (atN l key) hlt
        generalize (l[atN l key]'hlt).1 = s at *
        generalize (l[atN l key]'hlt).2 = v at *
        generalize atN l key = m at *
        clear hin hc he IN R RO
        go_wp2
        go_ret2
        exact ⟨Z.out.symm, q⟩
    · have Z := hide (ret_sb ((gotV_yes hm).trans (valOf_no (hasB_end hlt))) ((gotB_yes (k := key) hm).trans (hasB_end hlt)))
      have ne : ((atN l key : Int) == (l.length : Int)) = true := by rw [beq_iff_eq]; omega
      clear hin
      go_enter Try.func15, Try.ntmps15
      go_wp2_with fail
      refine R.out.mono ?_
      rintro e w' ⟨rfl, rfl⟩
      go_wp2_with fail
      refine RO.out.mono ?_
      rintro e w1 ⟨rfl, q⟩
      go_wp2
      go_ret2
      exact ⟨Z.out.symm, q⟩

set_option maxRecDepth 100000 in
set_option maxHeartbeats 2000000 in
theorem specSetRef_any (A : Option Addr) (l : List Pr) (cap : Nat) (k v : ByteArray) (w : World) (hl : l.length ≤ maxLen) (hc : l.length ≤ cap) (hin : PIn w w.heap.size A l) (hks : k.size ≤ maxLen) (hvs : v.size ≤ maxLen) :
    Calls Try.prog 12 #[.slice A l.length cap, .string k, .string v] w (RetOwnB w.heap.size (stL l k v) (stB l k v) w) := by
  cases hm : refB l
  · have Z := hide (stB_not (l := l) (k := k) (v := v) (fun z => by rw [hm] at z; exact absurd z.1 (by simp)))
    go_enter Try.func12, Try.ntmps12
    go_wp2_with fail
    refine (specRefsOk_any A l cap _ _ hl hin).mono ?_
    rintro e w1 ⟨rfl, q1⟩
    rw [hm]
    go_wp2
    go_ret2
    exact retOwnB_no (stL_no Z.out) Z.out (q1.below _)
  have RO := hide (specRefsOk_any A l cap w _ hl hin)
  rw [hm] at RO
  cases hk : keyB k
  · have Z := hide (stB_not (l := l) (k := k) (v := v) (fun z => by rw [hk] at z; exact absurd z.2.1 (by simp)))
    go_enter Try.func12, Try.ntmps12
    go_wp2_with fail
    refine RO.out.mono ?_
    rintro e w1 ⟨rfl, q1⟩
    go_wp2_with fail
    refine (l1Key_any k _ hks).mono ?_
    rintro e w2 ⟨rfl, rfl⟩
    rw [hk]
    go_wp2
    go_ret2
    exact retOwnB_no (stL_no Z.out) Z.out (q1.below _)
  cases hv : QI.idB v
  · have Z := hide (stB_not (l := l) (k := k) (v := v) (fun z => by rw [hv] at z; exact absurd z.2.2.1 (by simp)))
    go_enter Try.func12, Try.ntmps12
    go_wp2_with fail
    refine RO.out.mono ?_
    rintro e w1 ⟨rfl, q1⟩
    go_wp2_with fail
    refine (l1Key_any k _ hks).mono ?_
    rintro e w2 ⟨rfl, rfl⟩
    rw [hk]
    go_wp2_with fail
    refine (QI.specIdOk_any v _ hvs).mono ?_
    rintro e w2 ⟨rfl, rfl⟩
    rw [hv]
    go_wp2
    go_ret2
    exact retOwnB_no (stL_no Z.out) Z.out (q1.below _)
  have HM := hide (setS_eq l k v)
  have HS := hide (setS_setL (refB_iff.1 hm).2.2 k v)
  have hdl := delL_len l k
  have h20 := (refB_iff.1 hm).1
  have hsl := (len_set_le l k v).2
  have HK := hide hk
  have HV := hide hv
  have HR := hide hm
  go_enter Try.func12, Try.ntmps12
  go_wp2_with fail
  refine RO.out.mono ?_
  rintro e w0 ⟨rfl, q0⟩
  go_wp2_with fail
  refine (l1Key_any k _ hks).mono ?_
  rintro e w' ⟨rfl, rfl⟩
  rw [hk]
  go_wp2_with fail
  refine (QI.specIdOk_any v _ hvs).mono ?_
  rintro e w' ⟨rfl, rfl⟩
  rw [hv]
  have B0 := hide (q0.below w.heap.size)
  clear q0 RO hm hk hv
  go_wp2_with fail
  refine (l1Drop_any A l cap k w0 (by omega) hc ((hin.below B0.out).more B0.out.size)).mono ?_
  rintro e w1 ⟨A1, cap1, hc1, rfl, own1, b1⟩
  have B1 := hide (B0.out.trans (b1.mono B0.out.size))
  have in1 := own1.pin
  clear b1 own1 hin B0
  generalize delL l k = d at *
  go_wp2_with fail
  refine (l1At_any A1 d cap1 k w1 w1.heap.size (by unfold maxLen; omega) in1).mono ?_
  rintro e w1' ⟨rfl, rfl⟩
  have hle := atN_le d k
  have K1 := run_cut_h 24 Try.underlying24 A1 d.length cap1 (atN d k) (by omega)
  have K2 := run_cut_l 24 Try.underlying24 A1 d.length cap1 (atN d k) (by omega)
  have IN1 := hide (in1.take cap1 (atN d k))
  have IN2 := hide (in1.drop hc1 (atN d k))
  have E1 := hide (show (d.take (atN d k)).length = atN d k by rw [List.length_take]; omega)
  have E2 := hide (show (d.drop (atN d k)).length = d.length - atN d k by rw [List.length_drop])
  have O1 := hide (Own.built w1 w1.heap.size (Nat.le_refl _))
  have B2 := hide ((Below.refl w1.heap.size w1).alloc (Nat.le_refl _) (.cells #[] 37))
  have IN1b := hide (IN1.out.below B2.out)
  clear in1
  generalize d.take (atN d k) = la at *
  generalize d.drop (atN d k) = lb at *
  generalize atN d k = m at *
  generalize hnn : d.length = n at *
  have HNN := hide hnn
  clear hnn
  have hsm : (setS l k v).length ≤ maxLen := by rw [HS.out]; unfold maxLen; omega
  go_wp2_with (first
    | (at_builtin; refine wpList_app 24 Try.underlying24 rfl (.tmp 30) (.tmp 33) rfl rfl rfl rfl E1.out.symm O1.out IN1b.out B2.out.size (by rw [E1.out]; simp; omega) ?_; intro A3 cap3 w3 own3 g3 r3; have b3 := O1.out.grownBelow (by rw [rowOf_own]; exact g3) B2.out.size; have B3 := hide (B2.out.trans b3); have O3 := hide own3; have IN3 := hide (IN2.out.below B3.out); clear own3 g3 b3)
    | (at_builtin; refine wpList_app 24 Try.underlying24 rfl (.tmp 35) (.tmp 39) rfl rfl rfl (by simp) rfl (O3.out.alloc _) (PIn.one w3 k v hks hvs _) (Nat.le_trans B3.out.size (by simp)) (by rw [List.length_append, E1.out]; simp; omega) ?_; intro A4 cap4 w4 own4 g4 r4; have b4 := (O3.out.alloc (.cells #[.string k, .string v] 37)).grownBelow (by rw [rowOf_own]; exact g4) (Nat.le_trans B3.out.size (by simp)); have b4' := ((Below.refl w1.heap.size w3).alloc B3.out.size (.cells #[.string k, .string v] 37)).trans b4; have B4 := hide (B3.out.trans b4'); have O4 := hide own4; have IN4 := hide (IN3.out.below b4'); clear own4 g4 b4 b4')
    | (at_builtin; refine wpList_app 24 Try.underlying24 rfl (.tmp 41) (.tmp 44) rfl rfl rfl (by simp) E2.out.symm O4.out IN4.out B4.out.size (by rw [List.length_append, List.length_append, E1.out, E2.out]; simp; omega) ?_; intro A5 cap5 w5 own5 g5 r5; have b5 := O4.out.grownBelow (by rw [rowOf_own]; exact g5) B4.out.size; have B5 := hide (B1.out.trans ((B4.out.trans b5).mono B1.out.size)); have O5 := hide own5; clear own5 g5 b5)
    | fail)
  have O6 := O5.out
  rw [HM.out] at O6
  have LL : Hid (la.length + (lb.length + 1) = (setS l k v).length) := hide (by rw [← HM.out]; simp)
  have O7 := hide (O6.more B1.out.size)
  have hcap := O6.cap_le
  have PI := hide O6.pin
  clear O6 O5
  rw [LL.out]
  cases hs : refB (setS l k v)
  · have Z := hide (stB_not (l := l) (k := k) (v := v) (fun z => by rw [HS.out, refB_set z.1 z.2.1 z.2.2.1 z.2.2.2] at hs; cases hs))
    refine (specRefsOk_any A5 (setS l k v) cap5 _ _ hsm PI.out).mono ?_
    rintro e w6 ⟨rfl, q6⟩
    rw [hs]
    have B6 := hide (B5.out.trans (q6.below _))
    go_wp2
    go_ret2
    exact retOwnB_no (stL_no Z.out) Z.out B6.out
  · have Z := hide (stB_iff.2 ⟨HR.out, HK.out, HV.out, by rw [← HS.out]; exact (refB_iff.1 hs).1⟩)
    refine (specRefsOk_any A5 (setS l k v) cap5 _ _ hsm PI.out).mono ?_
    rintro e w6 ⟨rfl, q6⟩
    rw [hs]
    have B6 := hide (B5.out.trans (q6.below _))
    have O8 := hide (O7.out.below (q6.below _))
    clear q6
    go_wp2
    go_ret2
    refine ⟨A5, cap5, ?_, ?_, ?_, B6.out⟩
    · rw [stL_yes Z.out, ← HS.out]; exact hcap
    · rw [stL_yes Z.out, Z.out, ← HS.out]; rfl
    · rw [stL_yes Z.out, ← HS.out]; exact O8.out
end Go.Proofs.Ytmmeabfeehnajaa
