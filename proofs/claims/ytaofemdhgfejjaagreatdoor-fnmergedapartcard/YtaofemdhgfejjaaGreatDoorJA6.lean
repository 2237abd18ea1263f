/-
  For every code, laws.FnMergedApart returns true: where both of drawn maps changed nothing in common the merger is the one's changes behind the other one's. No conditions but that the two variables (the sentinel of refusals, the type error's handle) hold what the program's text lays (the card ties them).
-/
import Derived.Test.YtaofemdhgfejjaaGreatDoorJA5
/-
  impl.edited: a map with one change done.
-/
namespace Go.Proofs.YtaofemdhgfejjaaGreatDoor
open Go.RowKit

theorem te_gain_gain (v : Value) (W : World) : (Instr.typeAssert (.iface 119 v) 74 119 true).run Tryz.prog W = .ok (.tuple #[v, .bool true]) W := by kernel_rfl
theorem te_turn_gain (v : Value) (W : World) : (Instr.typeAssert (.iface 121 v) 74 119 true).run Tryz.prog W = .ok (.tuple #[.agg #[.string ⟨#[]⟩, .string ⟨#[]⟩], .bool false]) W := by kernel_rfl
theorem te_turn_turn (v : Value) (W : World) : (Instr.typeAssert (.iface 121 v) 74 121 true).run Tryz.prog W = .ok (.tuple #[v, .bool true]) W := by kernel_rfl
theorem te_loss_gain (v : Value) (W : World) : (Instr.typeAssert (.iface 117 v) 74 119 true).run Tryz.prog W = .ok (.tuple #[.agg #[.string ⟨#[]⟩, .string ⟨#[]⟩], .bool false]) W := by kernel_rfl
theorem te_loss_turn (v : Value) (W : World) : (Instr.typeAssert (.iface 117 v) 74 121 true).run Tryz.prog W = .ok (.tuple #[.agg #[.string ⟨#[]⟩, .string ⟨#[]⟩, .string ⟨#[]⟩, .string ⟨#[]⟩], .bool false]) W := by kernel_rfl
theorem te_loss_loss (v : Value) (W : World) : (Instr.typeAssert (.iface 117 v) 74 117 true).run Tryz.prog W = .ok (.tuple #[v, .bool true]) W := by kernel_rfl
theorem te_idle_gain (v : Value) (W : World) : (Instr.typeAssert (.iface 123 v) 74 119 true).run Tryz.prog W = .ok (.tuple #[.agg #[.string ⟨#[]⟩, .string ⟨#[]⟩], .bool false]) W := by kernel_rfl
theorem te_idle_loss (v : Value) (W : World) : (Instr.typeAssert (.iface 123 v) 74 117 true).run Tryz.prog W = .ok (.tuple #[.agg #[.string ⟨#[]⟩, .string ⟨#[]⟩], .bool false]) W := by kernel_rfl
theorem te_idle_turn (v : Value) (W : World) : (Instr.typeAssert (.iface 123 v) 74 121 true).run Tryz.prog W = .ok (.tuple #[.agg #[.string ⟨#[]⟩, .string ⟨#[]⟩, .string ⟨#[]⟩, .string ⟨#[]⟩], .bool false]) W := by kernel_rfl

set_option maxRecDepth 100000 in
set_option maxHeartbeats 4000000 in
theorem edited_any (A : Option Addr) (l : List Pr) (cap : Nat) (x o n : ByteArray) (p q : Bool) (w : World) (B : Nat) (hl : l.length ≤ 65536) (hown : Own w B A cap l) (hB : B ≤ w.heap.size) (hr : risesTo l l.length) (hx : x.size ≤ maxLen) (hn : n.size ≤ maxLen) (hq : q = false → hasB l x = p) :
    Calls Tryz.prog 43 #[.slice A l.length cap, editV x o n p q] w (RetOwn B (stepM l (x, o, n, p, q)) w) := by
  have HR := hide hr
  have O := hide hown
  have hc := hown.cap_le
  clear hr hown
  rcases q with _ | _
  · have hh := hq rfl
    have hs := hide (stepM_no (m := l) (c := (x, o, n, p, false)) rfl)
    clear hq
    rcases p with _ | _
    · have E : Hid (stepM l (x, o, n, false, false) = l) := hide (by rw [hs.out]; unfold delL; rw [show hasB l (x, o, n, false, false).1 = false from hh]; rfl)
      have t1 := te_idle_gain
      have t2 := te_idle_loss
      have t3 := te_idle_turn
      rw [editV]
      clear hs
      go_enter Tryz.func43, Tryz.ntmps43
      go_wp2
      go_ret
      rw [E.out]
      exact ⟨A, cap, hc, rfl, O.out, Below.refl _ _⟩
    · have E : Hid (stepM l (x, o, n, true, false) = l.eraseIdx (atN l x)) := hide (by rw [hs.out]; unfold delL; rw [if_pos (show hasB l (x, o, n, true, false).1 = true from hh)])
      have t1 := te_loss_gain
      have t2 := te_loss_turn
      have t3 := te_loss_loss
      obtain ⟨hlt, he⟩ := hasB_iff.1 hh
      clear hs he
      rw [editV]
      go_enter Tryz.func43, Tryz.ntmps43
      go_wp2_with fail
      have bx : Hid (Below w.heap.size w (w.alloc (.cells #[.string x, .string o] 117))) := hide ((Below.refl _ _).alloc (Nat.le_refl _) _)
      refine (place_any A l cap x _ hl ((O.out.pin.below bx.out).more bx.out.size) HR.out).mono ?_
      rintro e w2 ⟨rfl, b2⟩
      have B2 := hide (bx.out.trans (b2.mono bx.out.size))
      clear b2 bx
      go_wp2_with fail
      refine (without_any A l cap (atN l x) _ hl hc hlt ((O.out.pin.below B2.out).more B2.out.size)).mono ?_
      rintro e w3 ⟨A3, cap3, hc3, rfl, own3, b3⟩
      have B3 := hide (B2.out.trans (b3.mono B2.out.size))
      have O3 := hide (own3.more (Nat.le_trans hB B2.out.size))
      clear b3 own3
      go_wp2
      go_ret
      rw [E.out]
      exact ⟨A3, cap3, hc3, rfl, O3.out, B3.out.mono hB⟩
  · have E := hide (stepM_yes (m := l) (c := (x, o, n, p, true)) rfl)
    clear hq
    rcases p with _ | _
    · have t1 := te_gain_gain
      rw [editV]
      go_enter Tryz.func43, Tryz.ntmps43
      go_wp2_with fail
      have bx : Hid (Below w.heap.size w (w.alloc (.cells #[.string x, .string n] 119))) := hide ((Below.refl _ _).alloc (Nat.le_refl _) _)
      refine (with_any A l cap x n _ hl hc ((O.out.pin.below bx.out).more bx.out.size) HR.out hx hn).mono ?_
      rintro e w3 ⟨A3, cap3, hc3, rfl, own3, b3⟩
      have B3 := hide (bx.out.trans (b3.mono bx.out.size))
      have O3 := hide (own3.more (Nat.le_trans hB bx.out.size))
      clear b3 own3
      go_wp2
      go_ret
      rw [E.out]
      exact ⟨A3, cap3, hc3, rfl, O3.out, B3.out.mono hB⟩
    · have t1 := te_turn_gain
      have t2 := te_turn_turn
      rw [editV]
      go_enter Tryz.func43, Tryz.ntmps43
      go_wp2_with fail
      have bx : Hid (Below w.heap.size w (w.alloc (.cells #[.string x, .string o, .string x, .string n] 121))) := hide ((Below.refl _ _).alloc (Nat.le_refl _) _)
      refine (with_any A l cap x n _ hl hc ((O.out.pin.below bx.out).more bx.out.size) HR.out hx hn).mono ?_
      rintro e w3 ⟨A3, cap3, hc3, rfl, own3, b3⟩
      have B3 := hide (bx.out.trans (b3.mono bx.out.size))
      have O3 := hide (own3.more (Nat.le_trans hB bx.out.size))
      clear b3 own3
      go_wp2
      go_ret
      rw [E.out]
      exact ⟨A3, cap3, hc3, rfl, O3.out, B3.out.mono hB⟩
end Go.Proofs.YtaofemdhgfejjaaGreatDoor
/-
  slices.Clone of pairs.
-/
namespace Go.Proofs.YtaofemdhgfejjaaGreatDoor
open Go.RowKit

theorem nil_yes (n cap : Nat) (w : World) : (binOp BinOp.eql 62 (.slice none n cap) (.slice none 0 0)).run Tryz.prog w = .ok (.bool true) w := by kernel_rfl
theorem nil_no (a : Addr) (n cap : Nat) (w : World) : (binOp BinOp.eql 62 (.slice (some a) n cap) (.slice none 0 0)).run Tryz.prog w = .ok (.bool false) w := by kernel_rfl
set_option maxRecDepth 100000 in
set_option maxHeartbeats 2000000 in
theorem clone_any (A : Option Addr) (l : List Pr) (cap : Nat) (w : World) (hl : l.length ≤ 1200000) (hin : PIn w w.heap.size A l) :
    Calls Tryz.prog 41 #[.slice A l.length cap] w (RetOwn w.heap.size l w) := by
  cases A with
  | none =>
    have h0 : l = [] := by
      rcases Nat.eq_zero_or_pos l.length with e | e
      · exact List.eq_nil_of_length_eq_zero e
      · obtain ⟨_, _, x, _⟩ := hin.2 e
        cases x
    subst h0
    clear hin
    have hnil := nil_yes
    go_enter Tryz.func41, Tryz.ntmps41
    go_wp2
    go_ret
    exact ⟨none, 0, by simp, rfl, Own.nil _ _, Below.refl _ _⟩
  | some a =>
    have IN := hide hin
    have E0 : Hid ([] ++ l = l) := hide (by simp)
    clear hin
    generalize hnn : l.length = n at *
    have HNN := hide hnn
    clear hnn
    have hnil := nil_no
    go_enter Tryz.func41, Tryz.ntmps41
    go_wp2_with (at_builtin; refine wpList_app 62 Tryz.underlying62 rfl (.tmp 5) (.tmp 6) rfl rfl rfl rfl HNN.out.symm (Own.built w w.heap.size (Nat.le_refl _)) (IN.out.below ((Below.refl _ _).alloc (Nat.le_refl _) _)) (by simp) (by rw [HNN.out]; simp; omega) ?_; intro A3 cap3 w3 own3 g3 r3; have b3 := hide (((Below.refl _ w).alloc (Nat.le_refl _) _).trans ((Own.built w w.heap.size (Nat.le_refl _)).grownBelow (by rw [rowOf_own]; exact g3) (by simp))); have O3 := hide own3; clear own3 g3)
    go_ret
    have O4 := O3.out
    rw [E0.out] at O4
    have hc := O4.cap_le
    rw [HNN.out] at hc
    exact ⟨A3, cap3, by rw [HNN.out]; exact hc, by simp [HNN.out], O4, b3.out⟩
end Go.Proofs.YtaofemdhgfejjaaGreatDoor
/-
  What impl.Applied answers.
-/
namespace Go.Proofs.YtaofemdhgfejjaaGreatDoor
open Go.RowKit

set_option maxRecDepth 100000 in
set_option maxHeartbeats 16000000 in
theorem implApplied_any (A : Option Addr) (m : List Pr) (cap : Nat) (A' : Option Addr) (l : List Ch) (cap' : Nat) (w : World) (hm : m.length ≤ maxLen) (hl : l.length ≤ 1048576) (hin : PIn w w.heap.size A m) (hin' : HIn w w.heap.size A' l) :
    Calls Tryz.prog 21 #[.slice A m.length cap, .slice A' l.length cap'] w (RetOwnB w.heap.size (appL m l) (appB m l) w) := by
  have hlm : l.length ≤ maxLen := by unfold maxLen; omega
  cases hmB : mapB m
  · have Z := hide (appB_map (l := l) hmB)
    go_enter Tryz.func21, Tryz.ntmps21
    go_wp2_with fail
    refine (implMapOk_any A m cap _ hm hin).mono ?_
    rintro e w1 ⟨rfl, b1⟩
    rw [hmB]
    go_wp2
    go_ret2
    exact retOwnB_no (appL_no Z.out) Z.out b1
  cases hrB : risesB (cp l)
  · have Z := hide (appB_cp (m := m) hrB)
    go_enter Tryz.func21, Tryz.ntmps21
    go_wp2_with fail
    refine (implMapOk_any A m cap _ hm hin).mono ?_
    rintro e w1 ⟨rfl, b1⟩
    rw [hmB]
    go_wp2_with fail
    refine (risesC_any A' l cap' _ hlm ((hin'.below b1).more b1.size)).mono ?_
    rintro e w2 ⟨rfl, b2⟩
    rw [hrB]
    have B2 := hide (b1.trans (b2.mono b1.size))
    clear b1 b2
    go_wp2
    go_ret2
    exact retOwnB_no (appL_no Z.out) Z.out B2.out
  · have h40 := (mapB_iff.1 hmB).1
    have RM := hide (mapB_ris hmB)
    have HM := hide hmB
    have HR := hide (risesB_iff.1 hrB)
    have HMR := hide (mapB_iff.1 hmB).2.2
    have IN := hide hin
    have INL := hide hin'
    have E0 : Hid (m = appM m (l.take 0)) := hide (by simp [appM])
    go_enter Tryz.func21, Tryz.ntmps21
    go_wp2_with fail
    refine (implMapOk_any A m cap _ hm hin).mono ?_
    rintro e w1 ⟨rfl, b1⟩
    rw [hmB]
    go_wp2_with fail
    refine (risesC_any A' l cap' _ hlm ((hin'.below b1).more b1.size)).mono ?_
    rintro e w2 ⟨rfl, b2⟩
    rw [hrB]
    have B2 := hide (b1.trans (b2.mono b1.size))
    clear b1 b2 hin hin' hmB hrB
    go_wp2_with fail
    refine (clone_any A m cap _ (by omega) ((IN.out.below B2.out).more B2.out.size)).mono ?_
    rintro e w3 ⟨A3, cap3, hc3, rfl, own3, b3⟩
    have B3 := hide (B2.out.trans (b3.mono B2.out.size))
    have O3 := hide (own3.more B2.out.size)
    clear b3 own3 B2
    go_wp2
    generalize hnn : l.length = nn at hl ⊢
    have HN := hide hnn
    clear hnn hlm
    go_loopw [6, 21] (fun ov iv wr => ∃ (k : Nat) (A3 : Option Addr) (cap3 : Nat) (N : List Pr), k ≤ nn ∧ iv = .int .i64 k ∧ ov = .slice A3 N.length cap3 ∧ N.length ≤ 81 ∧ Hid (N = appM m (l.take k)) ∧ Hid (∀ i (h : i < l.length), i < k → fitB m l[i] = true) ∧ Hid (Own wr w.heap.size A3 cap3 N) ∧ Hid (Below w.heap.size w wr)) (fun _ i _ => nn - (intOf i).toNat)
    case atStart => exact ⟨0, A3, cap3, m, Nat.zero_le _, rfl, rfl, by omega, E0, hide (fun i _ h => absurd h (by omega)), O3, B3⟩
    case round =>
      clear O3 B3 E0 hc3
      obtain ⟨k, A4, cap4, N, hk, rfl, rfl, hNL, HNE, H, O, Q⟩ := hrel
      have hqs := Q.out.size
      by_cases hlt : k < nn
      · have hkl : k < l.length := by rw [HN.out]; omega
        have hin2 := INL.out.below Q.out
        obtain ⟨b, off, rfl, hbB, hc⟩ := hin2.2 (by omega)
        obtain ⟨c1, c2, c3, c4, c5⟩ := hc k hkl
        obtain ⟨s1, _, s3⟩ := hin2.1 k hkl
        have RN : Hid (Ris N) := hide (by rw [HNE.out]; exact ris_app _ RM.out)
        have F0 := hide (fun h => appB_fit0 HM.out HR.out hkl h)
        have LK : Hid (lk N (l[k]'hkl).1 = lk m (l[k]'hkl).1) := hide (by rw [HNE.out]; exact lk_take RM.out HR.out hkl)
        have FS : Hid (fitB m (l[k]'hkl) = true → ∀ i (h : i < l.length), i < k + 1 → fitB m l[i] = true) := hide (fun h i hi hik => by
          rcases Nat.lt_or_ge i k with g | g
          · exact H.out i hi g
          · obtain rfl : i = k := by omega
            exact h)
        have FL : Hid (80 < N.length → appB m l = false) := hide (fun h => appB_long (k := k) (by omega) (by rw [← HNE.out]; exact h))
        have ES := hide (appM_succ m l k hkl)
        rw [← HNE.out] at ES
        have hki : (k : Int) < (nn : Int) := by omega
        clear hc hin2 H
        generalize (l[k]'hkl) = c at *
        obtain ⟨x, o, n, p, q⟩ := c
        simp only at c1 c2 c3 c4 c5 s1 s3
        have bx : Hid (Below w.heap.size wr (wr.alloc (.cells #[.string x, .string o, .string n, .bool p, .bool q] 45))) := hide ((Below.refl _ _).alloc hqs _)
        have bb : Hid (Below wr.heap.size wr (wr.alloc (.cells #[.string x, .string o, .string n, .bool p, .bool q] 45))) := hide ((Below.refl _ _).alloc (Nat.le_refl _) _)
        have hbw : wr.heap.size < (wr.alloc (.cells #[.string x, .string o, .string n, .bool p, .bool q] 45)).heap.size := by simp
        have y1 : (wr.alloc (.cells #[.string x, .string o, .string n, .bool p, .bool q] 45)).cell? ⟨wr.heap.size, 0, none⟩ = some (.string x) := by simp [go_sem]
        have y2 : (wr.alloc (.cells #[.string x, .string o, .string n, .bool p, .bool q] 45)).cell? ⟨wr.heap.size, 1, none⟩ = some (.string o) := by simp [go_sem]
        have y3 : (wr.alloc (.cells #[.string x, .string o, .string n, .bool p, .bool q] 45)).cell? ⟨wr.heap.size, 2, none⟩ = some (.string n) := by simp [go_sem]
        have y4 : (wr.alloc (.cells #[.string x, .string o, .string n, .bool p, .bool q] 45)).cell? ⟨wr.heap.size, 3, none⟩ = some (.bool p) := by simp [go_sem]
        have y5 : (wr.alloc (.cells #[.string x, .string o, .string n, .bool p, .bool q] 45)).cell? ⟨wr.heap.size, 4, none⟩ = some (.bool q) := by simp [go_sem]
        have O1 := hide (O.out.alloc (.cells #[.string x, .string o, .string n, .bool p, .bool q] 45))
        have Q1 := hide (Q.out.trans bx.out)
        go_wp2_with fail
        generalize wr.alloc (.cells #[.string x, .string o, .string n, .bool p, .bool q] 45) = W1 at *
        refine (fits_any A m cap x o n p q _ (by omega) ((IN.out.below Q1.out).more Q1.out.size) HMR.out s1 s3).mono ?_
        rintro e w2 ⟨rfl, b2⟩
        have z1 : w2.cell? ⟨wr.heap.size, 0, none⟩ = some (.string x) := cellB b2 hbw y1
        have z2 : w2.cell? ⟨wr.heap.size, 1, none⟩ = some (.string o) := cellB b2 hbw y2
        have z3 : w2.cell? ⟨wr.heap.size, 2, none⟩ = some (.string n) := cellB b2 hbw y3
        have z4 : w2.cell? ⟨wr.heap.size, 3, none⟩ = some (.bool p) := cellB b2 hbw y4
        have z5 : w2.cell? ⟨wr.heap.size, 4, none⟩ = some (.bool q) := cellB b2 hbw y5
        have Q2 := hide (Q1.out.trans (b2.mono Q1.out.size))
        have O2 := hide (O1.out.below b2)
        clear b2 y1 y2 y3 y4 y5 c1 c2 c3 c4 c5 O O1 Q Q1 bx bb hbw
        cases hF : fitB m (x, o, n, p, q)
        · have Z : Hid (appB m l = false) := hide (F0.out hF)
          clear O2 F0 FS FL ES
          go_wp2
          go_ret2
          exact retOwnB_no (appL_no Z.out) Z.out Q2.out
        · by_cases hlong : 80 < N.length
          · have Z : Hid (appB m l = false) := hide (FL.out hlong)
            have dl : decide ((80 : Int) < (N.length : Int)) = true := decide_eq_true (by omega)
            clear O2 F0 FS FL ES
            go_wp2
            go_ret2
            exact retOwnB_no (appL_no Z.out) Z.out Q2.out
          · have dl : decide ((80 : Int) < (N.length : Int)) = false := decide_eq_false (by omega)
            have FN := hide (FS.out hF)
            have HP : Hid (hasB N x = p) := hide ((lk_eq.1 LK.out).1.trans (fitB_iff.1 hF).2.2.1)
            have hlen : (stepM N (x, o, n, p, q)).length ≤ 81 := by
              unfold stepM
              split
              · have := setL_len N x n; simp only; omega
              · have := delL_len N x; simp only; omega
            clear F0 FS FL LK
            go_wp2_with fail
            refine (editOf_any x o n p q _).mono ?_
            rintro e w3 ⟨rfl, b3⟩
            have Q3 := hide (Q2.out.trans (b3.mono Q2.out.size))
            have O3 := hide (O2.out.below b3)
            clear b3 Q2 O2 z1 z2 z3 z4 z5
            go_wp2_with fail
            refine (edited_any A4 N cap4 x o n p q _ w.heap.size (by omega) O3.out Q3.out.size (ris_iff.2 RN.out) s1 s3 (fun _ => HP.out)).mono ?_
            rintro e w4 ⟨A5, cap5, hc5, rfl, own5, b4⟩
            have Q4 := hide (Q3.out.trans b4)
            have O4 := hide own5
            clear own5 b4 Q3 O3
            go_wp2
            exact ⟨⟨k + 1, A5, cap5, stepM N (x, o, n, p, q), by omega, by go_num, rfl, hlen, hide ES.out.symm, FN, O4, Q4⟩, by simp [intOf]; omega⟩
      · obtain rfl : k = nn := by omega
        have E : Hid (N = appM m l) := hide (by rw [HNE.out, ← HN.out, List.take_length])
        have AA : Hid (∀ i (h : i < l.length), fitB m l[i] = true) := hide (fun i hi => H.out i hi (by rw [HN.out] at hi; exact hi))
        have hkk : ¬ (k : Int) < (k : Int) := by omega
        have hNm : N.length ≤ maxLen := by unfold maxLen; omega
        cases he : mapB N
        · have Z : Hid (appB m l = false) := hide (appB_end (by rw [← E.out]; exact he))
          go_wp2_with fail
          refine (implMapOk_any A4 N cap4 _ hNm O.out.pin).mono ?_
          rintro e w5 ⟨rfl, b5⟩
          rw [he]
          have Q5 := hide (Q.out.trans (b5.mono hqs))
          clear b5
          go_wp2
          go_ret2
          exact retOwnB_no (appL_no Z.out) Z.out Q5.out
        · have Z : Hid (appB m l = true) := hide (appB_all HM.out HR.out AA.out (by rw [← E.out]; exact he))
          go_wp2_with fail
          refine (implMapOk_any A4 N cap4 _ hNm O.out.pin).mono ?_
          rintro e w5 ⟨rfl, b5⟩
          rw [he]
          have Q5 := hide (Q.out.trans (b5.mono hqs))
          have O5 := hide (O.out.below b5)
          have hc5 := O.out.cap_le
          clear b5 O
          go_wp2
          go_ret2
          refine ⟨A4, cap4, ?_, ?_, ?_, Q5.out⟩
          · rw [appL_yes Z.out, ← E.out]; exact hc5
          · rw [appL_yes Z.out, Z.out, ← E.out]; rfl
          · rw [appL_yes Z.out, ← E.out]; exact O5.out
end Go.Proofs.YtaofemdhgfejjaaGreatDoor
namespace Go.Proofs.YtaofemdhgfejjaaGreatDoor.LMergedApart
open Go.RowKit Go.ChangeShapes Go.WideShapes Go.ChangeAt
open Go.ChangeMaps (open_string shut_string)

set_option maxRecDepth 100000 in
set_option maxHeartbeats 2000000 in
theorem walk (A : Option Addr) (n : Nat) (cap : Nat) (a : Addr) (w : World) (hl : n ≤ maxLen) (hin : CIn w w.heap.size A n) (hE : Errs w a) :
    Calls Tryz.prog 5 #[.slice A n cap] w fun e w' => e = .returned (.bool true) ∧ Below w.heap.size w w' := by
  by_cases hbig : 1048576 < n
  · have d : decide (1048576 < n) = true := decide_eq_true hbig
    go_enter Tryz.func5, Tryz.ntmps5
    go_wp2_with (go_at_call 7; refine (big_any A n cap _ hl).mono ?_; rintro e w' ⟨rfl, rfl⟩)
    go_ret
    exact ⟨rfl, Below.refl _ _⟩
  have hn : n ≤ 1048576 := by omega
  have d : decide (1048576 < n) = false := decide_eq_false hbig
  have IN := hide hin
  have HE := hide hE
  have HZ := hide hE.2.2
  have B0 := hide (Below.refl w.heap.size w)
  clear hin hE
  go_enter Tryz.func5, Tryz.ntmps5
  go_wp2_with fail
  refine (big_any A n cap w hl).mono ?_
  rintro e w' ⟨rfl, rfl⟩
  go_wp2_with fail
  refine (drawMerged_any A n cap w hn IN.out).mono ?_
  rintro e w1 ⟨A0, c0, l0, A1, c1, l1, A2, c2, l2, rfl, hc0, hc1, hc2, m0, m1, m2, o0, o1, o2, b1⟩
  have B1 := hide (B0.out.trans (b1.mono B0.out.size))
  have O_1 := hide (o0.more B0.out.size)
  have P_1 := hide (o1.more B0.out.size)
  have R_1 := hide (o2.more B0.out.size)
  clear b1 B0 o0 o1 o2
  have n0 := (mapB_iff.1 m0).1
  have n1 := (mapB_iff.1 m1).1
  have n2 := (mapB_iff.1 m2).1
  have M0 := hide m0
  have M1 := hide m1
  have M2 := hide m2
  have MX : (40 : Nat) ≤ maxLen := by unfold maxLen; omega
  clear m0 m1 m2 IN
  have hk1 := mgL_len l0 l1 l2
  have hk2 := mgK_len l0 l1 l2
  have es := eqL_self (mgL l0 l1 l2)
  have KM : (120 : Nat) ≤ maxLen := by unfold maxLen; omega
  go_wp2_with fail
  refine (implMerged_any A0 A1 A2 l0 l1 l2 c0 c1 c2 a _ (by omega) (by omega) (by omega) O_1.out.pin P_1.out.pin R_1.out.pin (HE.out.belowB B1.out HZ.out.1 HZ.out.2)).mono ?_
  rintro e w2 ⟨AM, cM, AK, cK, hcM, rfl, oM, zM, b2, _⟩
  have B2 := hide (B1.out.trans (b2.mono B1.out.size))
  have O_2 := hide (O_1.out.below b2)
  have P_2 := hide (P_1.out.below b2)
  have R_2 := hide (R_1.out.below b2)
  have M_2 := hide (oM.more B1.out.size)
  have K_2 := hide (zM.more B1.out.size)
  clear b2 B1 O_1 P_1 R_1 oM zM
  go_wp2_with fail
  refine (specMerged_any A0 A1 A2 l0 l1 l2 c0 c1 c2 _ (by omega) (by omega) (by omega) O_2.out.pin P_2.out.pin R_2.out.pin).mono ?_
  rintro e w3 ⟨AV, cV, AT, cT, hcV, rfl, oV, zV, b3, _⟩
  have B3 := hide (B2.out.trans (b3.mono B2.out.size))
  have O_3 := hide (O_2.out.below b3)
  have P_3 := hide (P_2.out.below b3)
  have R_3 := hide (R_2.out.below b3)
  have M_3 := hide (M_2.out.below b3)
  have K_3 := hide (K_2.out.below b3)
  have V_3 := hide (oV.more B2.out.size)
  have T_3 := hide (zV.more B2.out.size)
  clear b3 B2 O_2 P_2 R_2 M_2 K_2 oV zV
  have ne : (mgB l0 l1 l2 != mgB l0 l1 l2) = false := by simp
  have eqq : (mgB l0 l1 l2 == mgB l0 l1 l2) = true := by simp
  go_wp2_with fail
  refine (sameMap_any AM AV (mgL l0 l1 l2) (mgL l0 l1 l2) cM cV _ _ _ (by omega) (by omega) M_3.out.pin V_3.out.pin).mono ?_
  rintro e w4 ⟨rfl, b4⟩
  replace b4 := b4.below w3.heap.size
  have B4 := hide (B3.out.trans (b4.mono B3.out.size))
  have O_4 := hide (O_3.out.below b4)
  have P_4 := hide (P_3.out.below b4)
  have R_4 := hide (R_3.out.below b4)
  have M_4 := hide (M_3.out.below b4)
  have K_4 := hide (K_3.out.below b4)
  have V_4 := hide (V_3.out.below b4)
  have T_4 := hide (T_3.out.below b4)
  clear b4 B3 O_3 P_3 R_3 M_3 K_3 V_3 T_3
  rw [es]
  go_wp2_with fail
  refine (sameTexts_same AK AT (mgK l0 l1 l2) cK cT _ _ _ (by omega) K_4.out.zin T_4.out.zin).mono ?_
  rintro e w5 ⟨rfl, b5⟩
  replace b5 := b5.below w4.heap.size
  have B5 := hide (B4.out.trans (b5.mono B4.out.size))
  have O_5 := hide (O_4.out.below b5)
  have P_5 := hide (P_4.out.below b5)
  have R_5 := hide (R_4.out.below b5)
  have M_5 := hide (M_4.out.below b5)
  have K_5 := hide (K_4.out.below b5)
  have V_5 := hide (V_4.out.below b5)
  have T_5 := hide (T_4.out.below b5)
  clear b5 B4 O_4 P_4 R_4 M_4 K_4 V_4 T_4
  cases hg : mgB l0 l1 l2
  · skip
    go_wp2_with fail
    refine (sameMap_any AM AV (mgL l0 l1 l2) (mgL l0 l1 l2) cM cV _ _ _ (by omega) (by omega) M_5.out.pin V_5.out.pin).mono ?_
    rintro e w6 ⟨rfl, b6⟩
    replace b6 := b6.below w5.heap.size
    have B6 := hide (B5.out.trans (b6.mono B5.out.size))
    have O_6 := hide (O_5.out.below b6)
    have P_6 := hide (P_5.out.below b6)
    have R_6 := hide (R_5.out.below b6)
    have M_6 := hide (M_5.out.below b6)
    have K_6 := hide (K_5.out.below b6)
    have V_6 := hide (V_5.out.below b6)
    have T_6 := hide (T_5.out.below b6)
    clear b6 B5 O_5 P_5 R_5 M_5 K_5 V_5 T_5
    rw [es]
    go_wp2_with fail
    refine (sameTexts_same AK AT (mgK l0 l1 l2) cK cT _ _ _ (by omega) K_6.out.zin T_6.out.zin).mono ?_
    rintro e w7 ⟨rfl, b7⟩
    replace b7 := b7.below w6.heap.size
    have B7 := hide (B6.out.trans (b7.mono B6.out.size))
    have O_7 := hide (O_6.out.below b7)
    have P_7 := hide (P_6.out.below b7)
    have R_7 := hide (R_6.out.below b7)
    have M_7 := hide (M_6.out.below b7)
    have K_7 := hide (K_6.out.below b7)
    have V_7 := hide (V_6.out.below b7)
    have T_7 := hide (T_6.out.below b7)
    clear b7 B6 O_6 P_6 R_6 M_6 K_6 V_6 T_6
    go_wp2
    go_ret
    exact ⟨rfl, B7.out⟩
  have HG := hide hg
  clear hg ne eqq
  clear V_5
  clear T_5
  have h0c := O_5.out.cap_le
  have h1c := P_5.out.cap_le
  have h2c := R_5.out.cap_le
  have dx := diffL_len l0 l1
  have dy := diffL_len l0 l2
  have DX := hide (dif_yes M0.out M1.out)
  have DY := hide (dif_yes M0.out M2.out)
  go_wp2_with fail
  refine (implDiffOf_any A0 l0 c0 A1 l1 c1 _ (by omega) (by omega) h0c h1c O_5.out.pin P_5.out.pin).mono ?_
  rintro e w6 ⟨AX, cX, hcX, rfl, oX, b6⟩
  have B6 := hide (B5.out.trans (b6.mono B5.out.size))
  have O_6 := hide (O_5.out.below b6)
  have P_6 := hide (P_5.out.below b6)
  have R_6 := hide (R_5.out.below b6)
  have M_6 := hide (M_5.out.below b6)
  have K_6 := hide (K_5.out.below b6)
  have X_6 := hide (oX.more B5.out.size)
  clear b6 B5 O_5 P_5 R_5 M_5 K_5 oX
  go_wp2_with fail
  refine (implDiffOf_any A0 l0 c0 A2 l2 c2 _ (by omega) (by omega) h0c h2c O_6.out.pin R_6.out.pin).mono ?_
  rintro e w7 ⟨AY, cY, hcY, rfl, oY, b7⟩
  have B7 := hide (B6.out.trans (b7.mono B6.out.size))
  have O_7 := hide (O_6.out.below b7)
  have P_7 := hide (P_6.out.below b7)
  have R_7 := hide (R_6.out.below b7)
  have M_7 := hide (M_6.out.below b7)
  have K_7 := hide (K_6.out.below b7)
  have X_7 := hide (X_6.out.below b7)
  have Y_7 := hide (oY.more B6.out.size)
  clear b7 B6 O_6 P_6 R_6 M_6 K_6 X_6 oY
  clear P_7
  clear R_7
  clear K_7
  skip
  generalize diffL l0 l1 = dX at *
  generalize diffL l0 l2 = dY at *
  go_wp2
  go_loopw [16] (fun i wr => ∃ j : Nat, j ≤ dX.length ∧ i = .int .i64 j ∧ Hid (∀ c ∈ dX.take j, ∀ d ∈ dY, c.1 ≠ d.1) ∧ Hid (Own wr w.heap.size A0 c0 l0) ∧ Hid (Own wr w.heap.size AM cM (mgL l0 l1 l2)) ∧ Hid (HOwn wr w.heap.size AX cX dX) ∧ Hid (HOwn wr w.heap.size AY cY dY) ∧ Hid (Below w.heap.size w wr)) (fun i _ => dX.length - (intOf i).toNat)
  case atStart => exact ⟨0, Nat.zero_le _, rfl, hide (fun c hc => by simp at hc), O_7, M_7, X_7, Y_7, B7⟩
  case round =>
    clear B7 O_7 M_7 X_7 Y_7
    obtain ⟨j, hj, rfl, AP, O_200, M_200, X_200, Y_200, B200⟩ := hrel
    by_cases hlt : j < dX.length
    · skip
      have hin1 := X_200.out.pin
      obtain ⟨bb, off, rfl, hbB, hc⟩ := hin1.2 (by omega)
      have x1 := (hc j hlt).1
      have SX : Hid (dX.take (j + 1) = dX.take j ++ [dX[j]'hlt]) := hide (List.take_succ_eq_append_getElem hlt)
      clear hc hin1
      generalize dX[j]'hlt = cx at *
      have X1 := hide x1
      clear x1
      go_wp2
      go_loopw [17] (fun i wr2 => ∃ k : Nat, k ≤ dY.length ∧ i = .int .i64 k ∧ Hid (∀ d ∈ dY.take k, cx.1 ≠ d.1) ∧ Hid (Quiet wr wr2)) (fun i _ => dY.length - (intOf i).toNat)
      case atStart => exact ⟨0, Nat.zero_le _, rfl, hide (fun d hd => by simp at hd), Quiet.refl _⟩
      case round =>
        obtain ⟨k, hk, rfl, AQ, QQ⟩ := hrel
        by_cases hlt2 : k < dY.length
        · skip
          have hin2 := Y_200.out.pin
          obtain ⟨b2, off2, rfl, hbB2, hc2⟩ := hin2.2 (by omega)
          have y1 := (QQ.out.cell _).trans (hc2 k hlt2).1
          have x1 := (QQ.out.cell _).trans X1.out
          have SY : Hid (dY.take (k + 1) = dY.take k ++ [dY[k]'hlt2]) := hide (List.take_succ_eq_append_getElem hlt2)
          clear hc2 hin2
          generalize dY[k]'hlt2 = cy at *
          by_cases he : cx.1 = cy.1
          · have d1 := eqS_yes he
            generalize cx.1 = kx at *
            generalize cy.1 = ky at *
            clear he
            go_wp2
            go_quiet (fail)
            go_wp2
            go_ret
            exact ⟨rfl, B200.out.trans ((QQ.out.drewN _).below _)⟩
          · have d1 := eqS_no he
            have AQ2 : Hid (∀ d ∈ dY.take (k + 1), cx.1 ≠ d.1) := hide (fun d hd => by
              rw [SY.out, List.mem_append, List.mem_singleton] at hd
              rcases hd with hd | rfl
              · exact AQ.out d hd
              · exact he)
            clear SY he AQ
            generalize hkx : cx.1 = kx at x1 d1
            generalize hky : cy.1 = ky at y1 d1
            have HKX := hide hkx
            have HKY := hide hky
            clear hkx hky
            go_wp2
            go_quiet (fail)
            go_wp2
            go_roundw
            case rel => exact ⟨k + 1, by omega, by go_num, hide (fun d hd => by rw [← HKX.out]; exact AQ2.out d hd), QQ.out.drewN _⟩
            case measure => simp [intOf]; omega
        · skip
          have hge : ¬ ((k : Int) < (dY.length : Int)) := by omega
          have AP2 : Hid (∀ c ∈ dX.take (j + 1), ∀ d ∈ dY, c.1 ≠ d.1) := hide (fun c hc d hd => by
            rw [SX.out, List.mem_append, List.mem_singleton] at hc
            rcases hc with hc | rfl
            · exact AP.out c hc d hd
            · exact AQ.out d (by rw [List.take_of_length_le (by omega)]; exact hd))
          have O_201 := hide (O_200.out.below (QQ.out.below _))
          have M_201 := hide (M_200.out.below (QQ.out.below _))
          have X_201 := hide (X_200.out.below (QQ.out.below _))
          have Y_201 := hide (Y_200.out.below (QQ.out.below _))
          have B201 := hide (B200.out.trans (QQ.out.below _))
          clear AP AQ SX X1 B200 QQ O_200 M_200 X_200 Y_200
          go_wp2
          go_roundw
          case rel => exact ⟨j + 1, by omega, by go_num, AP2, O_201, M_201, X_201, Y_201, B201⟩
          case measure => simp [intOf]; omega
    · skip
      have hge : ¬ ((j : Int) < (dX.length : Int)) := by omega
      have AD : Hid (apartD (difM l0 l1) (difM l0 l2)) := hide (by
        rw [← DX.out, ← DY.out]
        intro c hc d hd
        exact AP.out c (by rw [List.take_of_length_le (by omega)]; exact hc) d hd)
      have eX := DX.out
      have eY := DY.out
      obtain ⟨t1, t2, t3⟩ := apart_ok HG.out AD.out
      have P1 := hide (fun W cc x y => implApplied_any A0 l0 c0 AX dX cc W (by omega) (by omega) x y)
      have P2 := hide (fun W A3 c3 x y => implApplied_any A3 l1 c3 AY dY cY W (by omega) (by omega) x y)
      rw [show appL l0 dX = l1 by rw [eX]; exact dif_appL M0.out M1.out, show appB l0 dX = true by rw [eX]; exact dif_ok M0.out M1.out] at P1
      rw [show appL l1 dY = mgL l0 l1 l2 by rw [eY]; exact t2, show appB l1 dY = true by rw [eY]; exact t1] at P2
      rw [t3]
      clear AP AD eX eY t1 t2 t3
      go_wp2_with fail
      refine (P1.out _ cX O_200.out.pin X_200.out.pin).mono ?_
      rintro e w201 ⟨A3, c3, hc3, rfl, o3, b201⟩
      have B201 := hide (B200.out.trans (b201.mono B200.out.size))
      have O_201 := hide (O_200.out.below b201)
      have M_201 := hide (M_200.out.below b201)
      have X_201 := hide (X_200.out.below b201)
      have Y_201 := hide (Y_200.out.below b201)
      have N_201 := hide (o3.more B200.out.size)
      clear b201 B200 O_200 M_200 X_200 Y_200 o3
      clear O_201
      clear X_201
      go_wp2_with fail
      refine (P2.out _ A3 c3 N_201.out.pin Y_201.out.pin).mono ?_
      rintro e w202 ⟨A4, c4, hc4, rfl, o4, b202⟩
      have B202 := hide (B201.out.trans (b202.mono B201.out.size))
      have M_202 := hide (M_201.out.below b202)
      have Y_202 := hide (Y_201.out.below b202)
      have N_202 := hide (N_201.out.below b202)
      have Q_202 := hide (o4.more B201.out.size)
      clear b202 B201 M_201 Y_201 N_201 o4
      clear N_202
      clear Y_202
      go_wp2_with fail
      refine (sameMap_any A4 AM (mgL l0 l1 l2) (mgL l0 l1 l2) c4 cM _ _ _ (by omega) (by omega) Q_202.out.pin M_202.out.pin).mono ?_
      rintro e w203 ⟨rfl, b203⟩
      replace b203 := b203.below w202.heap.size
      have B203 := hide (B202.out.trans (b203.mono B202.out.size))
      have M_203 := hide (M_202.out.below b203)
      have Q_203 := hide (Q_202.out.below b203)
      clear b203 B202 M_202 Q_202
      rw [es]
      go_wp2
      go_ret
      exact ⟨rfl, B203.out⟩

set_option maxRecDepth 100000 in
theorem contract (H : Type) (enc : TypeId × Value → H) (W : World) (base : Nat) (args : Array Value) (ds gs : List (DataW H)) (before : List MemPlace)
    (hval0 : ∀ (j : Nat) t v, Tryz.f5.params[j]? = some t → args[j]? = some v → Value.okWide Tryz.prog W .any base t v)
    (hW : DataW.Whole enc Tryz.prog Tryz.f5.params.toList Rows.fnMergedApartSpec.vars false W args.toList ds gs before) (hL : laidMetH Tryz.prog Rows.fnMergedApartRow.laid W) :
    Calls Tryz.prog 5 args W fun e W' => ∃ v, e = .returned v ∧ Rows.fnMergedApartSpec.post enc Tryz.prog Tryz.f5 false true false false W args v W' := by
  have hval : ∀ (j : Nat) t v, Tryz.f5.params[j]? = some t → args[j]? = some v → Value.okWide Tryz.prog W .any base t v := hval0
  obtain ⟨a, hT, hvar⟩ := errs_of hL.1 hL.2
  have hW' := hW
  obtain ⟨p, q, hA0, hV0, rfl, hfz, hnd⟩ := hW
  have hA : DataW.TrodAll enc Tryz.prog W 0 (fun _ => true) true Tryz.f5.params.toList args.toList ds p := hA0
  have hV : DataW.TrodVars enc Tryz.prog W (fun _ => true) ["loop.example/g00652/impl.errNotRight"] gs q := hV0
  obtain ⟨rfl, rfl⟩ := hV.unique (vars_read1 enc gErr tErr Tryz.underlying52 hvar trivial _)
  rw [Tryz.params5] at hA hval
  obtain ⟨v0, vs0, d0, ds0, p0, q0, hargs, rfl, rfl, h0, r0⟩ := trodAll_cons hA
  obtain ⟨rfl, rfl, rfl⟩ := trodAll_nil r0
  obtain rfl : args = #[v0] := by cases args; simp_all
  obtain ⟨A0, n0, cap0, rfl⟩ := okWide_slice Tryz.underlying22 (hval 0 22 v0 rfl rfl)
  have lt0 : ∀ x ∈ p0, x.block < W.heap.size := by obtain ⟨m, hm⟩ := h0; exact DataW.trod_lt m _ _ _ hm
  obtain ⟨l0, rfl, hl0, hin0⟩ := open_code h0
  clear hA0 hval0
  refine (walk A0 n0 cap0 a W hl0 hin0 hT).mono fun e W' ⟨he, bel⟩ => ?_
  subst he
  exact ⟨_, rfl, _, _, _, [], _, _, hW', trodAll_mk1 (shut_bool Tryz.underlying4 _), (trodAll_cons_mk (Below.trod laidOut (by kernel_rfl) (of_decide_eq_true (by kernel_rfl)) h0 bel lt0) trodAll_mk0), vars_read1 enc gErr tErr Tryz.underlying52 (var?_below bel gErr (var_lt gErr hvar) hvar) trivial _, bel.frame _, fun h => by cases h⟩

/-- a world for the witness: the variables hold what their initialisers lay -/
noncomputable def laidWorld (os : Os) : World := layAll (World.holding Tryz.prog os ⟨#[], #[], []⟩)
theorem laid_met (os : Os) : laidMetH Tryz.prog Rows.fnMergedApartRow.laid ((laidWorld os).forCall (fun _ _ => 0) ⟨#[], #[.slice none 0 0], []⟩).memory :=
  laidMetH_of_parts (laidMet_of_run' 8 (by kernel_rfl) (by kernel_rfl)) (by kernel_rfl)
theorem reads (os : Os) {H : Type} (enc : TypeId × Value → H) : ∃ x, DataW.whole enc Tryz.prog ((laidWorld os).forCall (fun _ _ => 0) ⟨#[], #[.slice none 0 0], []⟩).memory Tryz.f5.params.toList Rows.fnMergedApartSpec.vars false (#[.slice none 0 0] : Array Value).toList 8 = some x :=
  Option.isSome_iff_exists.1 (by kernel_rfl)
set_option maxRecDepth 100000 in
theorem lifted (os : Os) (started : os.Started) (H : Type) (enc : TypeId × Value → H) (F : Stop.Interp) :
    ReturnsInHanded {} Tryz.checked os 5 .any ((OpenSpec.ofChange Rows.fnMergedApartSpec).preRow enc Tryz.prog Tryz.f5 Rows.fnMergedApartRow.domain false Rows.fnMergedApartRow.laid) (((OpenSpec.ofChange Rows.fnMergedApartSpec).at F).post enc Tryz.prog Tryz.f5 false true false false) := by
  obtain ⟨x, hx⟩ := reads os enc
  refine returnsInHanded_of_row (C := Tryz.checked) (s := OpenSpec.ofChange Rows.fnMergedApartSpec) own started (by kernel_rfl) Tryz.func5
    (witness_row_at (enc := enc) (C := Tryz.checked) false (laidWorld os) #[.slice none 0 0] rfl (by kernel_rfl) (by kernel_rfl) (by kernel_rfl)
      (OpenSpec.preRow_of_cond 8 hx rfl (fun k hk => by cases hk) (by kernel_rfl) (laid_met os))) ?_
  intro W base args ds gs before hval hW _ _ _ hL _ _
  exact contract H enc W base args ds gs before hval hW hL
theorem said : Rows.FnMergedApartSaid :=
  OpenClaim.holds_of_cond 5 Tryz.f5 rfl rfl rfl rfl rfl rfl rfl ⟨rfl, rfl, rfl, rfl, rfl⟩ rfl rfl rfl rfl rfl (by kernel_rfl) Tryz.func5 (by kernel_rfl)
    (of_decide_eq_true (by kernel_rfl)) (by unfold Func.isWrapper; first | (rw [if_pos (by decide +kernel)]; kernel_rfl) | (rw [if_neg (by decide +kernel)]; exact ⟨rfl, rfl⟩))
    (fun os started H enc _ F => by rw [OpenClaim.pre_eq_preRow]; exact lifted os started H enc F)
theorem plain (f : FuncId) (fn : Func) (hf : Tryz.pinned.checked.prog.funcNamed "loop.example/g00652/laws.FnMergedApart" = some f) (hfn : Tryz.pinned.checked.prog.funcs[f]? = some fn) :
    true = Tryz.pinned.checked.prog.looks [] ∧ ∀ (j : Nat) t, fn.params[j]? = some t → Tryz.pinned.checked.prog.wantsStandIn t = false := by
  obtain rfl : f = 5 := Option.some.inj ((show Tryz.prog.funcNamed "loop.example/g00652/laws.FnMergedApart" = some 5 by kernel_rfl).symm.trans hf) |>.symm
  obtain rfl : fn = Tryz.f5 := (Option.some.inj (Tryz.func5.symm.trans hfn)).symm
  refine ⟨by kernel_rfl, fun j t ht => ?_⟩
  rw [Tryz.params5] at ht
  have hm := Array.mem_of_getElem? ht
  simp only [List.mem_toArray, List.mem_cons, List.not_mem_nil, or_false] at hm
  subst hm
  exact (show Tryz.prog.wantsStandIn 22 = false by kernel_rfl)
theorem card : Rows.FnMergedApartCardSaid :=
  Claim7.holds_tied_plain_at .later [] _ _ _ _ said (fun _ h => by cases h) (by kernel_rfl) (fun _ h => by cases h) fnMergedApart_row_tie rfl ⟨rfl, rfl⟩ (by kernel_rfl) rfl plain (by kernel_rfl)

end Go.Proofs.YtaofemdhgfejjaaGreatDoor.LMergedApart
namespace Go.Proofs.YtaofemdhgfejjaaGreatDoor
theorem fnMergedApart_proved : Rows.FnMergedApartCardSaid := LMergedApart.card
end Go.Proofs.YtaofemdhgfejjaaGreatDoor
