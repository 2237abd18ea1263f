/-
  What spec.l11Files answers.
-/
import Derived.Test.YtblggbihnglipaaDFiS
import Derived.Test.YtblggbihnglipaaPCls
import Derived.Deep.QuietTactic
import Derived.IntWalk
import Derived.WalkKit
import Derived.WalkLawsBesides
import Derived.ProofKit
namespace Go.Proofs.Ytblggbihnglipaa
open Go.RowKit

theorem same_belowD {P : Program} {f : FuncId} {args : Array Value} {w : World} {v : Value} (h : Calls P f args w fun e w' => e = .returned v ∧ w = w') : Calls P f args w fun e w' => e = .returned v ∧ Below w.heap.size w w' :=
  h.mono fun _ _ ⟨a, b⟩ => ⟨a, b ▸ Below.refl _ _⟩
/-- the first k files are so, but for the sum -/
def filTo (l : List Pr) (k : Nat) : Prop := (∀ i (h : i < l.length), i < k → nameP l[i].1) ∧ risesTo l k
theorem filTo_zero (l : List Pr) : filTo l 0 := ⟨fun _ _ h => absurd h (by omega), fun _ _ h => absurd h (by omega)⟩
theorem filTo_next {l : List Pr} {k : Nat} (hk : k < l.length) (h : filTo l k) (h1 : nameP l[k].1) (h2 : ∀ (_ : 0 < k), ltB (l[k - 1]'(by omega)).1 l[k].1 = true) : filTo l (k + 1) := by
  refine ⟨fun i hi hik => ?_, fun i hi hik => ?_⟩
  · rcases Nat.lt_or_ge i k with g | g
    · exact h.1 i hi g
    · obtain rfl : i = k := by omega
      exact h1
  · rcases Nat.lt_or_ge (i + 1) k with g | g
    · exact h.2 i hi g
    · obtain rfl : k = i + 1 := by omega
      have := h2 (by omega)
      simpa using this
theorem fil_name {l : List Pr} {k : Nat} (hk : k < l.length) (h : ¬ nameP l[k].1) : ¬ filesP l := fun hp => h (hp.2.1 _ (List.getElem_mem hk))
theorem fil_rise {l : List Pr} {k : Nat} (hk : k < l.length) (h0 : 0 < k) (h : ltB (l[k - 1]'(by omega)).1 l[k].1 = false) : ¬ filesP l := fun hp => by
  have e : ltB (l[k - 1]'(by omega)).1 (l[k - 1 + 1]'(by omega)).1 = true := hp.2.2.1 (k - 1) (by omega) (by omega)
  simp only [show k - 1 + 1 = k by omega] at e
  rw [h] at e
  cases e
theorem fil_end {l : List Pr} (h60 : l.length ≤ 60) (h : filTo l l.length) : filesP l ↔ sumF l ≤ 200000 := by
  constructor
  · intro hp; exact hp.2.2.2
  · intro hs
    refine ⟨h60, fun p hp => ?_, h.2, hs⟩
    obtain ⟨i, hi, rfl⟩ := List.mem_iff_getElem.1 hp
    exact h.1 i hi hi
set_option maxRecDepth 100000 in
set_option maxHeartbeats 1000000 in
theorem l11Files_any (A : Option Addr) (l : List Pr) (cap : Nat) (w : World) (hl : l.length ≤ maxLen) (hin : PIn w w.heap.size A l) (hd : sumF l ≤ 1099511627776) :
    Calls Try.prog 41 #[.slice A l.length cap] w fun e w' => e = .returned (.bool (filesB l)) ∧ Below w.heap.size w w' := by
  unfold maxLen at hl
  by_cases h60 : 60 < l.length
  · have E := hide (filesB_no (l := l) (fun h => by have := h.1; omega))
    generalize l.length = n at *
    have d1 : (60 : Int) < (n : Int) := by omega
    go_enter Try.func41, Try.ntmps41
    go_wp2
    go_ret
    exact ⟨ret_bool E.out.symm, Below.refl _ _⟩
  · have IN := hide hin
    have SD := hide hd
    have d0 : ¬ ((60 : Int) < (l.length : Int)) := by omega
    clear hin hd
    generalize hn : l.length = n at *
    have HN := hide hn
    clear hn
    go_enter Try.func41, Try.ntmps41
    go_wp2
    go_loopw [3, 4] (fun sv iv wr => ∃ k : Nat, k ≤ n ∧ sv = .int .i64 (sumF (l.take k) : Int) ∧ iv = .int .i64 k ∧ Hid (filTo l k) ∧ Hid (Below w.heap.size w wr)) (fun _ i _ => n - (intOf i).toNat)
    case atStart => exact ⟨0, Nat.zero_le _, rfl, rfl, filTo_zero l, Below.refl _ _⟩
    case round =>
      obtain ⟨k, hk, rfl, rfl, F, Q⟩ := hrel
      have hqs := Q.out.size
      by_cases hlt : k < n
      · have hkl : k < l.length := by rw [HN.out]; omega
        have in1 := (IN.out.below Q.out).more hqs
        have s1 := (in1.1 k hkl).1
        have s2 := (in1.1 k hkl).2
        obtain ⟨b, off, rfl, hbB, hc⟩ := in1.2 (by omega)
        obtain ⟨c1, c2⟩ := hc k hkl
        have z1 := sumF_take_le l (k + 1)
        have ST := hide (sumF_take_next hkl)
        have z2 := SD.out
        have zz : sumF (l.take k) + (l[k]'hkl).2.size ≤ 1099511627776 := by rw [← ST.out]; omega
        have NM := hide (fun h => fil_name hkl h)
        have y1 := cls_cell (B := wr.heap.size) hbB c1
        have y2 := cls_cell (B := wr.heap.size) hbB c2
        have LN := hide (fun W => l11Name_any (l[k]'hkl).1 W s1)
        by_cases hnm : nameP (l[k]'hkl).1
        · rw [nameB_yes hnm] at LN
          rcases Nat.eq_zero_or_pos k with h0 | h0
          · have FN := hide (filTo_next hkl F.out hnm (fun h => absurd h (by omega)))
            have g1 : decide ((0 : Int) < (k : Int)) = false := decide_eq_false (by omega)
            have g2 : decide (0 < k) = false := decide_eq_false (by omega)
            generalize (l[k]'hkl).1 = x at *
            generalize (l[k]'hkl).2 = t at *
            generalize sumF (l.take k) = sm at *
            clear in1 hc z1 z2 NM F h0
            go_wp2
            refine wp_region_cls (by kernel_rfl) (by kernel_rfl) wr.heap.size ?_
            repeat (go_big_quiet_step ((go_at_call 76; exact cls_call (Nat.le_refl _) (same_belowD (LN.out _)))))
            refine wpQuiet_nil ?_
            intro _ hw'
            obtain ⟨u, hw''⟩ := hw'
            subst hw''
            have Q1 := hide (Q.out.trans (u.below.mono hqs))
            have c2u := (u.below.cell (p := ⟨b, off + k * 2 + 1, none⟩) hbB).trans c2
            go_wp2
            go_roundw
            case rel => exact ⟨k + 1, by omega, by rw [ST.out]; go_num, by go_num, FN, Q1⟩
            case measure => simp [intOf]; omega
          · have hkp : k - 1 < l.length := by omega
            obtain ⟨c3, _⟩ := hc (k - 1) hkp
            have y3 := cls_cell (B := wr.heap.size) hbB c3
            have g1 : decide ((0 : Int) < (k : Int)) = true := decide_eq_true (by omega)
            have g2 : decide (0 < k) = true := decide_eq_true h0
            have e3 : ((k : Int) - 1) = ((k - 1 : Nat) : Int) := by omega
            have e4 : ((k : Int) - 1).toNat = k - 1 := by omega
            have b1 : (0 : Int) ≤ (k : Int) - 1 := by omega
            have b2 : (k : Int) - 1 < (n : Int) := by omega
            have q1 : IntKind.i64.wrap ((k : Int) - 1) = (k : Int) - 1 := IntWalk.i64_in _ (by omega)
            have q3 : (1 : Int) ≤ (k : Int) := by omega
            clear e3
            cases hr : ltB (l[k - 1]'hkp).1 (l[k]'hkl).1
            · have E := hide (filesB_no (fil_rise hkl h0 hr))
              have hr2 : Op.bytesLess (l[k - 1]'hkp).1.toList (l[k]'hkl).1.toList = false := hr
              have le : (ltB (l[k]'hkl).1 (l[k - 1]'hkp).1 || (l[k]'hkl).1.toList == (l[k - 1]'hkp).1.toList) = true := by
                by_cases he : (l[k]'hkl).1 = (l[k - 1]'hkp).1
                · rw [eqS_yes he, Bool.or_true]
                · rcases ltB_tri (l[k - 1]'hkp).1 (l[k]'hkl).1 with h | h | h
                  · rw [hr] at h; cases h
                  · exact absurd h.symm he
                  · rw [h]; rfl
              unfold ltB at le
              generalize (l[k]'hkl).1 = x at *
              generalize (l[k - 1]'hkp).1 = xp at *
              generalize (l[k]'hkl).2 = t at *
              generalize sumF (l.take k) = sm at *
              clear in1 hc z1 z2 NM F h0 hr
              go_wp2
              refine wp_region_cls (by kernel_rfl) (by kernel_rfl) wr.heap.size ?_
              repeat (go_big_quiet_step ((go_at_call 76; exact cls_call (Nat.le_refl _) (same_belowD (LN.out _)))))
              refine wpQuiet_nil ?_
              intro _ hw'
              obtain ⟨u, hw''⟩ := hw'
              subst hw''
              have Q1 := hide (Q.out.trans (u.below.mono hqs))
              have c2u := (u.below.cell (p := ⟨b, off + k * 2 + 1, none⟩) hbB).trans c2
              go_wp2
              go_ret
              exact ⟨ret_bool E.out.symm, Q1.out⟩
            · have FN := hide (filTo_next hkl F.out hnm (fun _ => hr))
              have hr2 : Op.bytesLess (l[k - 1]'hkp).1.toList (l[k]'hkl).1.toList = true := hr
              have l1 : ltB (l[k]'hkl).1 (l[k - 1]'hkp).1 = false := ltB_asymm hr
              have l2 : ((l[k]'hkl).1.toList == (l[k - 1]'hkp).1.toList) = false := eqS_no (fun e => by rw [e, ltB_irrefl] at hr; cases hr)
              unfold ltB at l1
              generalize (l[k]'hkl).1 = x at *
              generalize (l[k - 1]'hkp).1 = xp at *
              generalize (l[k]'hkl).2 = t at *
              generalize sumF (l.take k) = sm at *
              clear in1 hc z1 z2 NM F h0 hr
              go_wp2
              refine wp_region_cls (by kernel_rfl) (by kernel_rfl) wr.heap.size ?_
              repeat (go_big_quiet_step ((go_at_call 76; exact cls_call (Nat.le_refl _) (same_belowD (LN.out _)))))
              refine wpQuiet_nil ?_
              intro _ hw'
              obtain ⟨u, hw''⟩ := hw'
              subst hw''
              have Q1 := hide (Q.out.trans (u.below.mono hqs))
              have c2u := (u.below.cell (p := ⟨b, off + k * 2 + 1, none⟩) hbB).trans c2
              go_wp2
              go_roundw
              case rel => exact ⟨k + 1, by omega, by rw [ST.out]; go_num, by go_num, FN, Q1⟩
              case measure => simp [intOf]; omega
        · have E := hide (filesB_no (NM.out hnm))
          rw [nameB_no hnm] at LN
          generalize (l[k]'hkl).1 = x at *
          generalize (l[k]'hkl).2 = t at *
          generalize sumF (l.take k) = sm at *
          clear in1 hc z1 z2 NM F
          go_wp2
          refine wp_region_cls (by kernel_rfl) (by kernel_rfl) wr.heap.size ?_
          repeat (go_big_quiet_step ((go_at_call 76; exact cls_call (Nat.le_refl _) (same_belowD (LN.out _)))))
          refine wpQuiet_nil ?_
          intro _ hw'
          obtain ⟨u, hw''⟩ := hw'
          subst hw''
          have Q1 := hide (Q.out.trans (u.below.mono hqs))
          have c2u := (u.below.cell (p := ⟨b, off + k * 2 + 1, none⟩) hbB).trans c2
          go_wp2
          go_ret
          exact ⟨ret_bool E.out.symm, Q1.out⟩
      · have ek : k = n := by omega
        have F2 := F.out
        have hgt : ¬ ((k : Int) < (n : Int)) := by omega
        have ES : Hid (sumF (l.take k) = sumF l) := hide (by rw [List.take_of_length_le (by rw [HN.out]; omega)])
        have FE := hide (fil_end (l := l) (by rw [HN.out]; omega) (by rw [HN.out, ← ek]; exact F2))
        rw [ES.out]
        clear hlt F F2
        by_cases hs : sumF l ≤ 200000
        · have E := hide (filesB_yes (FE.out.2 hs))
          generalize sumF l = sm at *
          have g1 : decide ((sm : Int) ≤ 200000) = true := decide_eq_true (by omega)
          have g2 : decide (sm ≤ 200000) = true := decide_eq_true hs
          go_wp2
          go_ret
          exact ⟨ret_bool E.out.symm, Q.out⟩
        · have E := hide (filesB_no (fun h => hs (FE.out.1 h)))
          generalize sumF l = sm at *
          have g1 : decide ((sm : Int) ≤ 200000) = false := decide_eq_false (by omega)
          have g2 : decide (sm ≤ 200000) = false := decide_eq_false hs
          go_wp2
          go_ret
          exact ⟨ret_bool E.out.symm, Q.out⟩
end Go.Proofs.Ytblggbihnglipaa
