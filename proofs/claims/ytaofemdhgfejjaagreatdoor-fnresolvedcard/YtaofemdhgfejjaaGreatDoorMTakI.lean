/-
  What impl.taken and impl.Resolved answer.
-/
import Derived.Test.YtaofemdhgfejjaaGreatDoorMAnsI
import Derived.Test.YtaofemdhgfejjaaGreatDoorMLaw
namespace Go.Proofs.YtaofemdhgfejjaaGreatDoor
open Go.RowKit

theorem ris_to {l : List Pr} (h : Ris l) : risesTo l l.length := ris_iff.2 h

set_option maxRecDepth 100000 in
set_option maxHeartbeats 4000000 in
theorem taken_any (Am : Option Addr) (m : List Pr) (cm : Nat) (Ak : Option Addr) (ks : List ByteArray) (ck : Nat) (Af : Option Addr) (f : List Pr) (cf : Nat) (w : World) (B : Nat) (hB : B ≤ w.heap.size) (hm : m.length ≤ 200) (hk : ks.length ≤ 200) (hf : f.length ≤ 200) (om : Own w B Am cm m) (zk : ZIn w w.heap.size Ak ks) (inf : PIn w w.heap.size Af f) (rm : Ris m) (rf : Ris f) (hks : ∀ k ∈ ks, k.size ≤ maxLen) :
    Calls Tryz.prog 37 #[.slice Am m.length cm, .slice Ak ks.length ck, .slice Af f.length cf] w fun e w' => ∃ A cap, e = .returned (.slice A (takeL f m ks).length cap) ∧ Own w' B A cap (takeL f m ks) ∧ Below w.heap.size w w' := by
  have OM := hide om
  have ZK := hide zk
  have IF_ := hide inf
  have RM := hide rm
  have RF := hide (ris_to rf)
  have KS := hide hks
  have VS := hide (fun k => valOf_max inf.1 k)
  clear om zk inf rm rf hks
  generalize hn : ks.length = n at hk ⊢
  have HN := hide hn
  clear hn
  go_enter Tryz.func37, Tryz.ntmps37
  go_wp2
  go_loopw [0, 14] (fun o i wr => ∃ (k : Nat) (A : Option Addr) (cap : Nat), k ≤ n ∧ i = .int .i64 k ∧ o = .slice A (takeL f m (ks.take k)).length cap ∧ Hid (Own wr B A cap (takeL f m (ks.take k))) ∧ Hid (Below w.heap.size w wr)) (fun _ i _ => n - (intOf i).toNat)
  case atStart => exact ⟨0, Am, cm, Nat.zero_le _, rfl, rfl, OM, Below.refl _ _⟩
  case round =>
    clear OM
    obtain ⟨k, A, cap, hkn, rfl, rfl, O, Q⟩ := hrel
    have LL : (takeL f m (ks.take k)).length ≤ 400 := by have := takeL_len f (ks.take k) m; rw [List.length_take] at this; omega
    by_cases hlt : k < n
    · have hkl : k < ks.length := by rw [HN.out]; exact hlt
      obtain ⟨gk, off, rfl, hbB, hc⟩ := (ZK.out.below Q.out) (by omega)
      have cK := hc k hkl
      have S := hide (takeL_succ f m ks k hkl)
      have RX := hide (takeL_ris f (ks.take k) RM.out)
      have KZ := hide (KS.out _ (List.getElem_mem hkl))
      clear hc
      generalize ks[k]'hkl = key at *
      generalize takeL f m (ks.take k) = x at *
      have VZ := hide (VS.out key)
      have PL := hide (place_any A x cap key wr (by omega) O.out.pin (ris_to RX.out))
      have HO := hide (fun W (b : Below w.heap.size w W) => holdingOf_any Af f cf key W (by omega) ((IF_.out.below b).more b.size) RF.out)
      go_wp2_with fail
      refine PL.out.mono ?_
      rintro e w1 ⟨rfl, b1⟩
      have Q1 := hide (Q.out.trans (b1.mono Q.out.size))
      have O1 := hide (O.out.below b1)
      clear b1 PL O Q cK
      have LD : (delL x key).length ≤ 400 := by have := del_len x key; omega
      have RD := hide (ris_del RX.out key)
      cases hh : hasB x key
      · have ED : Hid (delL x key = x) := hide (by unfold delL; rw [hh]; rfl)
        generalize atN x key = at_ at *
        clear hh
        rw [← ED.out] at O1
        have e9 : x.length = (delL x key).length := by rw [ED.out]
        rw [e9]
        clear e9
        have Q2 := Q1
        have O2 := O1
        clear Q1 O1
        go_wp2_with fail
        refine (HO.out _ Q2.out).mono ?_
        rintro e w3 ⟨rfl, b3⟩
        have Q3 := hide ((Q2.out.trans (b3.mono Q2.out.size)).alloc (Q2.out.trans (b3.mono Q2.out.size)).size (.cells #[.string (valOf f key), .bool (hasB f key)] 91))
        have O3 := hide ((O2.out.below b3).alloc (.cells #[.string (valOf f key), .bool (hasB f key)] 91))
        clear b3 O2 Q2 HO
        cases hg : hasB f key
        · have E := hide (S.out.trans (takeOne_no hg))
          rw [hg] at Q3 O3
          clear hg S
          generalize valOf f key = v at *
          rw [← E.out] at O3
          go_wp2
          go_roundw
          case rel => exact ⟨k + 1, A, cap, by omega, by go_num, by rw [E.out], O3, Q3⟩
          case measure => simp [intOf]; omega
        · have E := hide (S.out.trans (takeOne_yes hg))
          rw [hg] at Q3 O3
          clear hg S
          generalize valOf f key = v at *
          have BW := hide (Nat.le_trans hB Q3.out.size)
          have WI := hide (with_any A (delL x key) cap key v (w3.alloc (.cells #[.string v, .bool true] 91)) (by omega) O3.out.cap_le O3.out.pin (ris_to RD.out) KZ.out VZ.out)
          go_wp2_with fail
          refine WI.out.mono ?_
          rintro e w5 ⟨A5, cap5, hc5, rfl, o5, b5⟩
          have Q5 := hide (Q3.out.trans (b5.mono Q3.out.size))
          rw [← E.out] at o5
          have O5 := hide (o5.more BW.out)
          rw [← E.out]
          clear o5 b5 WI O3 Q3 hc5
          go_wp2
          go_roundw
          case rel => exact ⟨k + 1, A5, cap5, by omega, by go_num, rfl, O5, Q5⟩
          case measure => simp [intOf]; omega
      · have ED : Hid (delL x key = x.eraseIdx (atN x key)) := hide (by unfold delL; rw [hh]; rfl)
        have hat : atN x key < x.length := (hasB_iff.1 hh).1
        have WO := hide (without_any A x cap (atN x key) w1 (by omega) O1.out.cap_le hat O1.out.pin)
        rw [← ED.out] at WO
        generalize atN x key = at_ at *
        clear hh hat ED
        have BW1 := hide (Nat.le_trans hB Q1.out.size)
        go_wp2_with fail
        refine WO.out.mono ?_
        rintro e w2 ⟨A2, cap2, hc2, rfl, o2, b2⟩
        have Q2 := hide (Q1.out.trans (b2.mono Q1.out.size))
        have O2 := hide (o2.more BW1.out)
        clear o2 b2 hc2 WO O1 Q1
        go_wp2_with fail
        refine (HO.out _ Q2.out).mono ?_
        rintro e w3 ⟨rfl, b3⟩
        have Q3 := hide ((Q2.out.trans (b3.mono Q2.out.size)).alloc (Q2.out.trans (b3.mono Q2.out.size)).size (.cells #[.string (valOf f key), .bool (hasB f key)] 91))
        have O3 := hide ((O2.out.below b3).alloc (.cells #[.string (valOf f key), .bool (hasB f key)] 91))
        clear b3 O2 Q2 HO
        cases hg : hasB f key
        · have E := hide (S.out.trans (takeOne_no hg))
          rw [hg] at Q3 O3
          clear hg S
          generalize valOf f key = v at *
          rw [← E.out] at O3
          go_wp2
          go_roundw
          case rel => exact ⟨k + 1, A2, cap2, by omega, by go_num, by rw [E.out], O3, Q3⟩
          case measure => simp [intOf]; omega
        · have E := hide (S.out.trans (takeOne_yes hg))
          rw [hg] at Q3 O3
          clear hg S
          generalize valOf f key = v at *
          have BW := hide (Nat.le_trans hB Q3.out.size)
          have WI := hide (with_any A2 (delL x key) cap2 key v (w3.alloc (.cells #[.string v, .bool true] 91)) (by omega) O3.out.cap_le O3.out.pin (ris_to RD.out) KZ.out VZ.out)
          go_wp2_with fail
          refine WI.out.mono ?_
          rintro e w5 ⟨A5, cap5, hc5, rfl, o5, b5⟩
          have Q5 := hide (Q3.out.trans (b5.mono Q3.out.size))
          rw [← E.out] at o5
          have O5 := hide (o5.more BW.out)
          rw [← E.out]
          clear o5 b5 WI O3 Q3 hc5
          go_wp2
          go_roundw
          case rel => exact ⟨k + 1, A5, cap5, by omega, by go_num, rfl, O5, Q5⟩
          case measure => simp [intOf]; omega
    · obtain rfl : k = n := by omega
      have E : Hid (ks.take k = ks) := hide (List.take_of_length_le (by rw [HN.out]; exact Nat.le_refl _))
      rw [E.out] at O
      rw [E.out]
      go_wp2
      go_ret
      exact ⟨A, cap, rfl, O.out, Q.out⟩

set_option maxRecDepth 100000 in
set_option maxHeartbeats 2000000 in
theorem implResolved_any (A0 A1 A2 : Option Addr) (l0 l1 l2 : List Pr) (c0 c1 c2 : Nat) (side : Int) (a : Addr) (w : World) (h0 : l0.length ≤ maxLen) (h1 : l1.length ≤ maxLen) (h2 : l2.length ≤ maxLen) (i0 : PIn w w.heap.size A0 l0) (i1 : PIn w w.heap.size A1 l1) (i2 : PIn w w.heap.size A2 l2) (hE : Errs w a) :
    Calls Tryz.prog 17 #[.slice A0 l0.length c0, .slice A1 l1.length c1, .slice A2 l2.length c2, .int .i64 side] w (RetOwnB w.heap.size (rsL l0 l1 l2 side) (rsB l0 l1 l2 side) w) := by
  have M := hide (mergerOf_any A0 A1 A2 l0 l1 l2 c0 c1 c2 a w h0 h1 h2 i0 i1 i2 hE)
  have HE := hide hE
  have I1 := hide i1
  have I2 := hide i2
  have KM : Hid (∀ x ∈ badM l0 l1 l2, x.size ≤ maxLen) := hide (fun x h => merK_max i0.1 i1.1 i2.1 (List.mem_filter.1 h).1)
  clear i0 i1 i2 hE
  go_enter Tryz.func17, Tryz.ntmps17
  go_wp2_with fail
  refine M.out.mono ?_
  rintro e w1 ⟨b1, ⟨hg, p, rfl, hc⟩ | ⟨hg, A, cap, Ab, cb, hcap, ow, zw, ap, hcase⟩⟩
  · have E1 := HE.out.below b1
    have x1 := E1.1
    have hn : rsB l0 l1 l2 side = false := rsB_not (fun x => by rw [hg] at x; cases x.1)
    have F := hide (retOwnB_no (rsL_no hn) hn b1)
    clear M b1 hg hn
    go_wp2_with (go_at_call 26; refine (is_refusal p 0 a _ hc).mono ?_; rintro e w' ⟨rfl, rfl⟩)
    go_ret2
    exact F.out
  · have E1 := HE.out.below b1
    have x1 := E1.1
    obtain ⟨hm0, hm1, hm2, hm3⟩ := mgB_iff.1 hg
    have n0 := (mapB_iff.1 hm0).1
    have n1 := (mapB_iff.1 hm1).1
    have n2 := (mapB_iff.1 hm2).1
    have n3 := (mapB_iff.1 hm3).1
    have n4 := badM_len l0 l1 l2
    have OW := hide ow
    have ZW := hide zw
    have B1 := hide b1
    have EE := hide E1
    have HG := hide hg
    have R0 := hide (mapB_ris hm0)
    have R1 := hide (mapB_ris hm1)
    have R2 := hide (mapB_ris hm2)
    have R3 := hide (mapB_ris hm3)
    -- errors.Is answers false
    have IS : Hid (∀ W, ∃ er, (e = .returned (.tuple #[.slice A (merM l0 l1 l2 l0).length cap, er])) ∧ Calls Tryz.prog 26 #[er, .iface 181 (.pointer (some a))] W fun e w' => e = .returned (.bool false) ∧ W = w') := hide (fun W => by
      rcases hcase with ⟨hb, rfl⟩ | ⟨hb, p, hp, rfl, hc⟩
      · exact ⟨_, rfl, is_nil a W⟩
      · exact ⟨_, rfl, is_clash _ a W⟩)
    have CL : Hid (∃ er, (e = .returned (.tuple #[.slice A (merM l0 l1 l2 l0).length cap, er])) ∧ (∀ W, Calls Tryz.prog 26 #[er, .iface 181 (.pointer (some a))] W fun e w' => e = .returned (.bool false) ∧ W = w') ∧ Calls Tryz.prog 27 #[er] w1 fun e w2 => ∃ Ak ck, e = .returned (.slice Ak (badM l0 l1 l2).length ck) ∧ ZIn w2 w2.heap.size Ak (badM l0 l1 l2) ∧ Below w1.heap.size w1 w2) := hide (by
      rcases hcase with ⟨hb, rfl⟩ | ⟨hb, p, hp, rfl, hc⟩
      · refine ⟨_, rfl, fun W => is_nil a W, (clashing_nil _).mono ?_⟩
        rintro e w2 ⟨rfl, b2⟩
        exact ⟨none, 0, by rw [hb]; rfl, fun h => by rw [hb] at h; simp at h, b2⟩
      · refine ⟨_, rfl, fun W => is_clash _ a W, (clashing_hit p _ a _ EE.out hp hc).mono ?_⟩
        rintro e w2 ⟨rfl, b2⟩
        exact ⟨Ab, cb, rfl, (ZW.out.below b2).zin, b2⟩)
    obtain ⟨er, rfl, is_no, cl⟩ := CL.out
    have IN := hide is_no
    have CC := hide cl
    clear IS CL is_no cl hcase M b1 hg ow zw ap E1 hm0 hm1 hm2 hm3 ZW
    by_cases hs : side = 1 ∨ side = 2
    · have FIN : Hid (∀ (f : List Pr) (w2 : World) (A5 : Option Addr) (cap5 : Nat), f = sideL l1 l2 side → Own w2 w.heap.size A5 cap5 (takeL f (merM l0 l1 l2 l0) (badM l0 l1 l2)) → Below w.heap.size w w2 →
          (mapB (takeL f (merM l0 l1 l2 l0) (badM l0 l1 l2)) = true → RetOwnB w.heap.size (rsL l0 l1 l2 side) (rsB l0 l1 l2 side) w (.returned (.tuple #[.slice A5 (takeL f (merM l0 l1 l2 l0) (badM l0 l1 l2)).length cap5, .bool true])) w2) ∧ (mapB (takeL f (merM l0 l1 l2 l0) (badM l0 l1 l2)) = false → RetOwnB w.heap.size (rsL l0 l1 l2 side) (rsB l0 l1 l2 side) w (.returned (.tuple #[.slice none 0 0, .bool false])) w2)) := hide (fun f w2 A5 cap5 hf o b => by
        have e := take_mer (f := f) R0.out R1.out R2.out (by rw [hf]; exact side_or l1 l2 side)
        rw [e] at o ⊢
        refine ⟨fun hm => ?_, fun hm => ?_⟩
        · have hy : rsB l0 l1 l2 side = true := rsB_iff.2 ⟨HG.out, hs, by rw [← hf]; exact hm⟩
          rw [rsL_yes hy, hy, ← hf]
          exact ⟨A5, cap5, o.cap_le, rfl, o, b⟩
        · have hn : rsB l0 l1 l2 side = false := rsB_not (fun x => by rw [← hf, hm] at x; cases x.2.2)
          exact retOwnB_no (rsL_no hn) hn b)
      by_cases hh : side = 2
      · have e2 : l2 = sideL l1 l2 side := by unfold sideL; rw [if_pos hh]
        have FF := hide (fun w2 A5 cap5 => FIN.out l2 w2 A5 cap5 e2)
        have IF_ := I2
        have RF := R2
        clear e2 hs FIN HG I1 I2
        subst hh
        have TL := hide (takeL_len l2 (badM l0 l1 l2) (merM l0 l1 l2 l0))
        have TK := hide (fun W Ak ck hBW o2 zk inf => taken_any A (merM l0 l1 l2 l0) cap Ak (badM l0 l1 l2) ck A2 l2 c2 W w.heap.size hBW (by omega) (by omega) (by omega) o2 zk inf R3.out RF.out KM.out)
        generalize takeL l2 (merM l0 l1 l2 l0) (badM l0 l1 l2) = tl at *
        generalize merM l0 l1 l2 l0 = mm at *
        generalize badM l0 l1 l2 = kk at *
        go_wp2_with fail
        refine (IN.out _).mono ?_
        rintro e w' ⟨rfl, rfl⟩
        go_wp2_with fail
        refine CC.out.mono ?_
        rintro e w2 ⟨Ak, ck, rfl, zk, b2⟩
        have B2 := hide (B1.out.trans (b2.mono B1.out.size))
        have T2 := hide (TK.out w2 Ak ck B2.out.size (OW.out.below b2) zk ((IF_.out.below B2.out).more B2.out.size))
        clear zk b2 CC B1 OW IN TK
        go_wp2_with fail
        refine T2.out.mono ?_
        rintro e w3 ⟨A5, cap5, rfl, o5, b5⟩
        have B5 := hide (B2.out.trans (b5.mono B2.out.size))
        have O5 := hide o5
        clear o5 b5 T2 B2
        have hlm : tl.length ≤ maxLen := by have := TL.out; unfold maxLen; omega
        go_wp2_with fail
        refine (implMapOk_any A5 tl cap5 _ hlm O5.out.pin).mono ?_
        rintro e w4 ⟨rfl, b6⟩
        have G := hide (FF.out w4 A5 cap5 (O5.out.below b6) (B5.out.trans (b6.mono B5.out.size)))
        clear b6 O5 B5 FF
        cases hmm : mapB tl
        · have G1 := hide (G.out.2 hmm)
          clear G hmm
          go_wp2
          go_ret2
          exact G1.out
        · have G1 := hide (G.out.1 hmm)
          clear G hmm
          go_wp2
          go_ret2
          exact G1.out
      · have e2 : l1 = sideL l1 l2 side := by unfold sideL; rw [if_neg hh]
        have h1' : side = 1 := by omega
        have FF := hide (fun w2 A5 cap5 => FIN.out l1 w2 A5 cap5 e2)
        have IF_ := I1
        have RF := R1
        clear e2 hh hs FIN HG I1 I2
        subst h1'
        have TL := hide (takeL_len l1 (badM l0 l1 l2) (merM l0 l1 l2 l0))
        have TK := hide (fun W Ak ck hBW o2 zk inf => taken_any A (merM l0 l1 l2 l0) cap Ak (badM l0 l1 l2) ck A1 l1 c1 W w.heap.size hBW (by omega) (by omega) (by omega) o2 zk inf R3.out RF.out KM.out)
        generalize takeL l1 (merM l0 l1 l2 l0) (badM l0 l1 l2) = tl at *
        generalize merM l0 l1 l2 l0 = mm at *
        generalize badM l0 l1 l2 = kk at *
        go_wp2_with fail
        refine (IN.out _).mono ?_
        rintro e w' ⟨rfl, rfl⟩
        go_wp2_with fail
        refine CC.out.mono ?_
        rintro e w2 ⟨Ak, ck, rfl, zk, b2⟩
        have B2 := hide (B1.out.trans (b2.mono B1.out.size))
        have T2 := hide (TK.out w2 Ak ck B2.out.size (OW.out.below b2) zk ((IF_.out.below B2.out).more B2.out.size))
        clear zk b2 CC B1 OW IN TK
        go_wp2_with fail
        refine T2.out.mono ?_
        rintro e w3 ⟨A5, cap5, rfl, o5, b5⟩
        have B5 := hide (B2.out.trans (b5.mono B2.out.size))
        have O5 := hide o5
        clear o5 b5 T2 B2
        have hlm : tl.length ≤ maxLen := by have := TL.out; unfold maxLen; omega
        go_wp2_with fail
        refine (implMapOk_any A5 tl cap5 _ hlm O5.out.pin).mono ?_
        rintro e w4 ⟨rfl, b6⟩
        have G := hide (FF.out w4 A5 cap5 (O5.out.below b6) (B5.out.trans (b6.mono B5.out.size)))
        clear b6 O5 B5 FF
        cases hmm : mapB tl
        · have G1 := hide (G.out.2 hmm)
          clear G hmm
          go_wp2
          go_ret2
          exact G1.out
        · have G1 := hide (G.out.1 hmm)
          clear G hmm
          go_wp2
          go_ret2
          exact G1.out
    · have d1 : (side != 1) = true := by simp; omega
      have d2 : (side != 2) = true := by simp; omega
      have hn : rsB l0 l1 l2 side = false := rsB_not (fun x => hs x.2.1)
      have F := hide (retOwnB_no (rsL_no hn) hn B1.out)
      clear hs hn
      generalize (merM l0 l1 l2 l0).length = nn at *
      go_wp2_with (go_at_call 26; refine (IN.out _).mono ?_; rintro e w' ⟨rfl, rfl⟩)
      go_ret2
      exact F.out
end Go.Proofs.YtaofemdhgfejjaaGreatDoor
