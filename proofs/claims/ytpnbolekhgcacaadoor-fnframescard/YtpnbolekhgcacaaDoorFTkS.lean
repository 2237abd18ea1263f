/-
  What spec.TakeFrames answers.
-/
import Derived.Test.YtpnbolekhgcacaaDoorFTkL
import Derived.Test.YtpnbolekhgcacaaDoorPCls
namespace Go.Proofs.YtpnbolekhgcacaaDoor
open Go.RowKit

/-- the first j of four bytes at p, as a number -/
def numTo (s : ByteArray) (p : Nat) : Nat → Nat
  | 0 => 0
  | j + 1 => 256 * numTo s p j + byN s (p + j)
theorem numTo_4 (s : ByteArray) (p : Nat) : numTo s p 4 = sizeAt s p := by
  show 256 * (256 * (256 * (256 * 0 + byN s (p + 0)) + byN s (p + 1)) + byN s (p + 2)) + byN s (p + 3) = _
  unfold sizeAt
  simp only [Nat.add_zero]
  omega
theorem numTo_lt (s : ByteArray) (p : Nat) : ∀ j, j ≤ 4 → numTo s p j < 256 ^ j
  | 0, _ => by show (0 : Nat) < 1; decide
  | j + 1, h => by
    have ih := numTo_lt s p j (by omega)
    have := byN_lt s (p + j)
    have e : numTo s p (j + 1) = 256 * numTo s p j + byN s (p + j) := rfl
    rw [e, Nat.pow_succ]
    omega
theorem numTo_small (s : ByteArray) (p : Nat) {j : Nat} (h : j ≤ 4) : numTo s p j < 4294967296 := by
  have h1 := numTo_lt s p j h
  have h2 : 256 ^ j ≤ 256 ^ 4 := Nat.pow_le_pow_right (by decide) h
  omega

set_option maxRecDepth 100000 in
set_option maxHeartbeats 1000000 in
theorem specTakeFrames_any (s : ByteArray) (w : World) (hs : s.size ≤ 1048576) :
    Calls Tryd.prog 8 #[.string s] w (RetFr s w) := by
  have O0 := hide (ZOwn.built w w.heap.size (Nat.le_refl _))
  have B0 := hide ((Below.refl w.heap.size w).alloc (Nat.le_refl _) (.cells #[] 9))
  go_enter Tryd.func8, Tryd.ntmps8
  go_wp2
  go_loopw [4, 5] (fun ov pv wr => ∃ (l : List ByteArray) (p : Nat) (A : Option Addr) (cap : Nat), ov = .slice A l.length cap ∧ pv = .int .i64 p ∧ p ≤ s.size ∧ l.length ≤ s.size ∧ Hid (SoFar s l p) ∧ Hid (ZOwn wr w.heap.size A cap l) ∧ Hid (Below w.heap.size w wr)) (fun _ p _ => s.size + 1 - (intOf p).toNat)
  case atStart => exact ⟨[], 0, _, 0, rfl, rfl, Nat.zero_le _, Nat.zero_le _, soFar_start s, O0, B0⟩
  case round =>
    clear O0 B0
    obtain ⟨l, p, A, cap, rfl, rfl, hp, hl, F, O, Q⟩ := hrel
    have hqs := Q.out.size
    by_cases h8 : p + 8 ≤ s.size
    · have h8d : decide ((p : Int) + 8 ≤ (s.size : Int)) = true := decide_eq_true (by omega)
      go_wp2
      clear h8d
      go_loopw [6, 7] (fun nv jv wx => ∃ j : Nat, j ≤ 4 ∧ nv = .int .i64 (numTo s p j : Int) ∧ jv = .int .i64 j ∧ wx = wr) (fun _ j _ => 4 - (intOf j).toNat)
      case atStart => exact ⟨0, Nat.zero_le _, rfl, rfl, rfl⟩
      case round =>
        obtain ⟨j, hj, rfl, rfl, rfl⟩ := hrel
        by_cases hj4 : j < 4
        · have hb : p + j < s.size := by omega
          have hn := numTo_small s p hj
          have ST : Hid (numTo s p (j + 1) = 256 * numTo s p j + s[p + j].toNat) := hide (by rw [← byN_in hb]; rfl)
          have hlt := s[p + j].toNat_lt
          have ht : ((p : Int) + (j : Int)).toNat = p + j := by omega
          generalize numTo s p j = n at *
          go_wp2
          go_roundw
          case rel => exact ⟨j + 1, by omega, by rw [ST.out]; go_num, by go_num, trivial⟩
          case measure => simp [intOf]; omega
        · have e4 : Hid (j = 4) := hide (by omega)
          have hgt : ¬ ((j : Int) < 4) := by omega
          have NE : Hid (numTo s p j = sizeAt s p) := hide (by rw [e4.out, numTo_4])
          have hns := numTo_small s p hj
          rw [NE.out] at hns ⊢
          clear hj4
          have t1 : ((p : Int) + 8).toNat = p + 8 := by omega
          have t2 : ((p : Int) + 8 + (sizeAt s p : Int)).toNat = p + 8 + sizeAt s p := by omega
          have t3 : ((p : Int) + 4).toNat = p + 4 := by omega
          have YES : Hid (sizeAt s p ≤ 100000 → p + 8 + sizeAt s p ≤ s.size → strOfNums (le4 (crcN (dataAt s p))) = s.extract (p + 4) (p + 8) → okAt s p) := hide (fun a b c => ⟨h8, a, b, c⟩)
          have NO : Hid (okAt s p → sizeAt s p ≤ 100000 ∧ p + 8 + sizeAt s p ≤ s.size ∧ strOfNums (le4 (crcN (dataAt s p))) = s.extract (p + 4) (p + 8)) := hide (fun h => ⟨h.2.1, h.2.2.1, h.2.2.2⟩)
          have END := hide (fun h => soFar_end F.out (p := p) h)
          have NXT := hide (fun h => soFar_next F.out (p := p) h)
          have DA : Hid (dataAt s p = s.extract (p + 8) (p + 8 + sizeAt s p)) := hide rfl
          clear F e4 NE
          by_cases c1 : 100000 < sizeAt s p
          · have N := hide (END.out (fun h => by have := (NO.out h).1; omega))
            generalize sizeAt s p = n at *
            have d1 : decide ((100000 : Int) < (n : Int)) = true := decide_eq_true (by omega)
            clear YES NO END NXT DA
            go_wp2
            refine wp_region_cls (by kernel_rfl) (by kernel_rfl) wr.heap.size ?_
            repeat (go_big_quiet_step ((fail)))
            refine wpQuiet_nil ?_
            intro _ hw'
            obtain ⟨u, hw''⟩ := hw'
            subst hw''
            have Q1 := hide (Q.out.trans (u.below.mono hqs))
            have O1 := hide (O.out.below u.below)
            go_wp2
            go_ret2
            exact ⟨A, cap, by rw [N.out]; rfl, by rw [N.out]; exact O1.out, Q1.out⟩
          · by_cases c2 : s.size < p + 8 + sizeAt s p
            · have N := hide (END.out (fun h => by have := (NO.out h).2.1; omega))
              generalize sizeAt s p = n at *
              have d1 : decide ((100000 : Int) < (n : Int)) = false := decide_eq_false (by omega)
              have d2 : decide ((s.size : Int) < (p : Int) + 8 + (n : Int)) = true := decide_eq_true (by omega)
              clear YES NO END NXT DA
              go_wp2
              refine wp_region_cls (by kernel_rfl) (by kernel_rfl) wr.heap.size ?_
              repeat (go_big_quiet_step ((fail)))
              refine wpQuiet_nil ?_
              intro _ hw'
              obtain ⟨u, hw''⟩ := hw'
              subst hw''
              have Q1 := hide (Q.out.trans (u.below.mono hqs))
              have O1 := hide (O.out.below u.below)
              go_wp2
              go_ret2
              exact ⟨A, cap, by rw [N.out]; rfl, by rw [N.out]; exact O1.out, Q1.out⟩
            · have C := hide (fun W => l12Sum_any (dataAt s p) W (by unfold dataAt maxLen; rw [ByteArray.size_extract]; omega))
              have zd : (dataAt s p).size ≤ sizeAt s p := by unfold dataAt; rw [ByteArray.size_extract]; omega
              by_cases c3 : strOfNums (le4 (crcN (dataAt s p))) = s.extract (p + 4) (p + 8)
              · have N := hide (NXT.out (YES.out (by omega) (by omega) c3))
                have e1 := neS_no' c3
                have e2 := eqS_yes c3
                have DE := DA.out.symm
                clear YES NO END NXT DA c3
                generalize dataAt s p = x at *
                generalize sizeAt s p = n at *
                generalize strOfNums (le4 (crcN x)) = y at *
                generalize ZE : s.extract (p + 4) (p + 8) = z at *
                have d1 : decide ((100000 : Int) < (n : Int)) = false := decide_eq_false (by omega)
                have d2 : decide ((s.size : Int) < (p : Int) + 8 + (n : Int)) = false := decide_eq_false (by omega)
                have r1 : ∀ W : World, (Instr.slice 9 (.string s) (some (.int .i64 ((p : Int) + 8))) (some (.int .i64 ((p : Int) + 8 + (n : Int)))) none).run Tryd.prog W = .ok (.string x) W := fun W => by
                  rw [run_slice_string W 9 s .i64 .i64 _ _ Tryd.underlying9 (by omega) (by omega) (by omega), t1, t2, DE]
                have r2 : ∀ W : World, (Instr.slice 9 (.string s) (some (.int .i64 ((p : Int) + 4))) (some (.int .i64 ((p : Int) + 8))) none).run Tryd.prog W = .ok (.string z) W := fun W => by
                  rw [run_slice_string W 9 s .i64 .i64 _ _ Tryd.underlying9 (by omega) (by omega) (by omega), t1, t3, ZE]
                have hl1 : (l ++ [x]).length = l.length + 1 := by simp
                have h1 := N.out.1
                have h2 := N.out.2.1
                rw [hl1] at h2
                go_wp2
                refine wp_region_cls (by kernel_rfl) (by kernel_rfl) wr.heap.size ?_
                repeat (go_big_quiet_step ((go_at_call 17; exact cls_call (Nat.le_refl _) (C.out _))))
                refine wpQuiet_nil ?_
                intro _ hw'
                obtain ⟨u, hw''⟩ := hw'
                subst hw''
                have Q1 := hide (Q.out.trans (u.below.mono hqs))
                have O1 := hide (O.out.below u.below)
                have hq1 := Q1.out.size
                clear C Q O
                generalize u.wo = w1 at *
                go_wp2_with (at_builtin; refine wpList_appZ (l := l) (l' := [x]) 24 Tryd.underlying24 rfl (.tmp 56) (.tmp 65) rfl rfl rfl rfl rfl (O1.out.alloc _) (ZIn.one x _ rfl) (Nat.le_trans hq1 (by simp)) (by simp; omega) ?_; intro A3 cap3 w3 own3 g3 r3; have B3 := hide (Q1.out.trans (((Below.refl _ w1).alloc hq1 (.cells #[Value.string x] 9)).trans ((O1.out.alloc (.cells #[Value.string x] 9)).grownBelow g3 (Nat.le_trans hq1 (by simp))))); have O3 := hide own3; clear own3 g3 r3)
                go_roundw
                case rel => exact ⟨l ++ [x], p + 8 + n, A3, cap3, by rw [hl1], by go_num, h1, by rw [hl1]; omega, N, O3, B3⟩
                case measure => simp [intOf]; omega
              · have N := hide (END.out (fun h => c3 (NO.out h).2.2))
                have e1 := neS_yes' c3
                have e2 := eqS_no c3
                have DE := DA.out.symm
                clear YES NO END NXT DA c3
                generalize dataAt s p = x at *
                generalize sizeAt s p = n at *
                generalize strOfNums (le4 (crcN x)) = y at *
                generalize ZE : s.extract (p + 4) (p + 8) = z at *
                have d1 : decide ((100000 : Int) < (n : Int)) = false := decide_eq_false (by omega)
                have d2 : decide ((s.size : Int) < (p : Int) + 8 + (n : Int)) = false := decide_eq_false (by omega)
                have r1 : ∀ W : World, (Instr.slice 9 (.string s) (some (.int .i64 ((p : Int) + 8))) (some (.int .i64 ((p : Int) + 8 + (n : Int)))) none).run Tryd.prog W = .ok (.string x) W := fun W => by
                  rw [run_slice_string W 9 s .i64 .i64 _ _ Tryd.underlying9 (by omega) (by omega) (by omega), t1, t2, DE]
                have r2 : ∀ W : World, (Instr.slice 9 (.string s) (some (.int .i64 ((p : Int) + 4))) (some (.int .i64 ((p : Int) + 8))) none).run Tryd.prog W = .ok (.string z) W := fun W => by
                  rw [run_slice_string W 9 s .i64 .i64 _ _ Tryd.underlying9 (by omega) (by omega) (by omega), t1, t3, ZE]
                go_wp2
                refine wp_region_cls (by kernel_rfl) (by kernel_rfl) wr.heap.size ?_
                repeat (go_big_quiet_step ((go_at_call 17; exact cls_call (Nat.le_refl _) (C.out _))))
                refine wpQuiet_nil ?_
                intro _ hw'
                obtain ⟨u, hw''⟩ := hw'
                subst hw''
                have Q1 := hide (Q.out.trans (u.below.mono hqs))
                have O1 := hide (O.out.below u.below)
                go_wp2
                go_ret2
                exact ⟨A, cap, by rw [N.out]; rfl, by rw [N.out]; exact O1.out, Q1.out⟩
    · have no : ¬ okAt s p := fun h => h8 h.1
      have N := hide (soFar_end F.out no)
      have hgt : ¬ ((p : Int) + 8 ≤ (s.size : Int)) := by omega
      clear h8 no F
      go_wp2
      go_ret2
      exact ⟨A, cap, by rw [N.out]; rfl, by rw [N.out]; exact O.out, Q.out⟩
end Go.Proofs.YtpnbolekhgcacaaDoor
