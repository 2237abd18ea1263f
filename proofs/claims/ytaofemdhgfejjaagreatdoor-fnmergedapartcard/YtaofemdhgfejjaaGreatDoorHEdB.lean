/-
  What impl.editsBetween answers.
-/
import Derived.Test.YtaofemdhgfejjaaGreatDoorHDif
import Derived.Test.YtaofemdhgfejjaaGreatDoorHLaw
import Derived.Test.YtaofemdhgfejjaaGreatDoorPStr0
import Derived.BigQuiet
import Derived.Deep.QuietTactic
import Derived.StillTailTactics
import Derived.IntWalk
namespace Go.Proofs.YtaofemdhgfejjaaGreatDoor
open Go.RowKit

def lenV : Value → Nat
  | .slice _ n _ => n
  | _ => 0
theorem edb_drewN {B : Nat} {w w' : World} (h : Below B w w') (n : Nat) : Below B w (w'.drewN n) := h.trans (Quiet.below ⟨n, rfl⟩ _)
/-- a slice that is gone through from its first pair on -/
def Cur (w : World) (A : Option Addr) (cap n : Nat) (l : List Pr) : Prop := PIn w w.heap.size A l ∧ l.length ≤ cap ∧ l.length = n
theorem Cur.first {w wr : World} {A : Option Addr} {cap n : Nat} {p : Pr} {l : List Pr} (h : Cur w A cap n (p :: l)) (hb : Below w.heap.size w wr) :
    ∃ b off, A = some ⟨b, off, none⟩ ∧ b < w.heap.size ∧ wr.cell? ⟨b, off, none⟩ = some (.string p.1) ∧ wr.cell? ⟨b, off + 1, none⟩ = some (.string p.2) ∧ p.1.size ≤ maxLen ∧ p.2.size ≤ maxLen := by
  obtain ⟨b, off, e, hlt, hc⟩ := (h.1.below hb).2 (by simp)
  obtain ⟨h1, h2⟩ := hc 0 (by simp)
  obtain ⟨s1, s2⟩ := h.1.1 0 (by simp)
  exact ⟨b, off, e, hlt, by simpa using h1, by simpa using h2, s1, s2⟩
theorem Cur.next {w : World} {A : Option Addr} {cap n : Nat} {p : Pr} {l : List Pr} (h : Cur w A cap n (p :: l)) : Cur w (cutA A cap 1) (cap - 1) (n - 1) l := by
  obtain ⟨h1, h2, h3⟩ := h
  refine ⟨?_, by simp at h2; omega, by simp at h3; omega⟩
  have := h1.drop h2 1
  simpa using this
theorem EOwn.cap_le {w : World} {B : Nat} {A : Option Addr} {cap : Nat} {l : List Ch} (h : EOwn w B A cap l) : l.length ≤ cap := by
  rcases h.2 with ⟨e, e'⟩ | ⟨g, c, cur, e, _, _, hnc, _⟩
  · injection e with e1 e2 e3; omega
  · injection e with e1 e2 e3; omega
theorem one_cell (w : World) (u : Value) (t : TypeId) {g : Nat} (hg : w.heap.size = g) : (w.alloc (.cells #[u] t)).cell? ⟨g, 0, none⟩ = some u := by subst hg; exact cell_of_row _ w.heap.size 0 #[u] t (0, 0) (heap_alloc_new w _)
theorem cut1 (A : Option Addr) (n cap : Nat) (h : 1 ≤ n) (w : World) : (Instr.slice 24 (.slice A n cap) (some (.int .i64 1)) none none).run Tryz.prog w = .ok (.slice (cutA A cap 1) (n - 1) (cap - 1)) w := run_cut_l 24 Tryz.underlying24 A n cap 1 h w

/-- a row of edits of the call's own comes back -/
def RetE (B : Nat) (l : List Ch) (w : World) (e : Ending) (w' : World) : Prop := ∃ A cap, l.length ≤ cap ∧ e = .returned (.slice A l.length cap) ∧ EOwn w' B A cap l ∧ Below B w w'
set_option maxRecDepth 100000 in
set_option maxHeartbeats 8000000 in
theorem editsBetween_any (A : Option Addr) (a : List Pr) (cap : Nat) (A' : Option Addr) (b : List Pr) (cap' : Nat) (w : World) (hla : a.length ≤ 1000) (hlb : b.length ≤ 1000) (hca : a.length ≤ cap) (hcb : b.length ≤ cap') (hin : PIn w w.heap.size A a) (hin' : PIn w w.heap.size A' b) :
    Calls Tryz.prog 39 #[.slice A a.length cap, .slice A' b.length cap'] w (RetE w.heap.size (difM a b) w) := by
  have CA : Hid (Cur w A cap a.length a) := hide ⟨hin, hca, rfl⟩
  have CB : Hid (Cur w A' cap' b.length b) := hide ⟨hin', hcb, rfl⟩
  have O1 := hide (EOwn.nil w w.heap.size)
  have B1 := hide (Below.refl w.heap.size w)
  clear hin hin' hca hcb
  generalize a.length = na at hla CA ⊢
  generalize b.length = nb at hlb CB ⊢
  go_enter Tryz.func39, Tryz.ntmps39
  go_wp2
  go_loopw [0, 1, 5] (fun av bv ov wr => ∃ (a' b' : List Pr) (n1 n2 : Nat) (Aa : Option Addr) (ca : Nat) (Ab : Option Addr) (cb : Nat) (A2 : Option Addr) (cap2 : Nat) (d : List Ch), av = .slice Aa n1 ca ∧ bv = .slice Ab n2 cb ∧ ov = .slice A2 d.length cap2 ∧ Hid (Cur w Aa ca n1 a') ∧ Hid (Cur w Ab cb n2 b') ∧ Hid (d ++ difM a' b' = difM a b) ∧ Hid (d.length + n1 + n2 ≤ na + nb) ∧ Hid (EOwn wr w.heap.size A2 cap2 d) ∧ Hid (Below w.heap.size w wr)) (fun av bv _ _ => lenV av + lenV bv)
  case atStart => exact ⟨a, b, na, nb, _, _, _, _, _, 0, [], rfl, rfl, rfl, CA, CB, hide (by simp), hide (by simp), O1, B1⟩
  case round =>
    clear O1 B1 CA CB
    obtain ⟨a', b', n1, n2, Aa, ca, Ab, cb, A2, cap2, d, rfl, rfl, rfl, CA, CB, D, L, O, Q⟩ := hrel
    have hqs := Q.out.size
    have l1 := CA.out.2.2
    have l2 := CB.out.2.2
    rcases a' with _ | ⟨p, a1⟩
    · have t1 : decide (0 < n1) = false := decide_eq_false (by simp at l1; omega)
      have u1 : ((n1 : Int) == 0) = true := by rw [beq_iff_eq]; simp at l1; omega
      rcases b' with _ | ⟨q, b1⟩
      · have t2 : decide (0 < n2) = false := decide_eq_false (by simp at l2; omega)
        have E : Hid (d = difM a b) := hide (by have h7 := D.out; rw [difM_nil, List.append_nil] at h7; exact h7)
        clear D L l1 l2 CA CB
        go_wp2
        go_ret
        refine ⟨A2, cap2, ?_, ?_, ?_, Q.out⟩
        · rw [← E.out]; exact O.out.cap_le
        · rw [← E.out]; rfl
        · rw [← E.out]; exact O.out
      · have DS : Hid ((d ++ [gainC q]) ++ difM [] b1 = difM a b) := hide (by rw [← D.out, difM_b, List.append_assoc]; rfl)
        have t2 : decide (0 < n2) = true := decide_eq_true (by simp at l2; omega)
        have u2 : ((n2 : Int) == 0) = false := by rw [beq_eq_false_iff_ne]; simp at l2; omega
        obtain ⟨bb, ob, rfl, hbb, g1, g2, sb1, sb2⟩ := CB.out.first Q.out
        have hn2 : 1 ≤ n2 := by simp at l2; omega
        have hn2i : (0 : Int) < (n2 : Int) := by omega
        have NB := hide CB.out.next
        have K2 := cut1 (some ⟨bb, ob, none⟩) n2 cb hn2
        have EV := hide (edV_gain q)
        clear D
        generalize hqu : q.1 = u at *
        generalize hqv : q.2 = v at *
        clear l1 l2
        go_wp2
        go_quiet (fail)
        have Q_1 : Hid (Below w.heap.size w (wr.drewN nq)) := hide (edb_drewN Q.out nq)
        have O_1 : Hid (EOwn (wr.drewN nq) w.heap.size A2 cap2 d) := hide O.out
        have hq_1 : w.heap.size ≤ (wr.drewN nq).heap.size := hqs
        have g1_1 : (wr.drewN nq).cell? ⟨bb, ob, none⟩ = some (.string u) := g1
        have g2_1 : (wr.drewN nq).cell? ⟨bb, ob + 1, none⟩ = some (.string v) := g2
        clear Q O hqs g1 g2
        generalize wr.drewN nq = W1 at *
        go_wp2
        go_quiet (fail)
        have Q_2 : Hid (Below w.heap.size w (W1.drewN nq)) := hide (edb_drewN Q_1.out nq)
        have O_2 : Hid (EOwn (W1.drewN nq) w.heap.size A2 cap2 d) := hide O_1.out
        have hq_2 : w.heap.size ≤ (W1.drewN nq).heap.size := hq_1
        have g1_2 : (W1.drewN nq).cell? ⟨bb, ob, none⟩ = some (.string u) := g1_1
        have g2_2 : (W1.drewN nq).cell? ⟨bb, ob + 1, none⟩ = some (.string v) := g2_1
        clear Q_1 O_1 hq_1 g1_1 g2_1
        generalize W1.drewN nq = W2 at *
        go_wp2_with (at_builtin; (refine wpList_appE (l := d) (c := gainC q) 71 Tryz.underlying71 rfl (.tmp 83) (.tmp 89) rfl rfl rfl rfl (O_2.out.alloc _) (by rw [EV.out]; exact one_cell _ _ _ (by simp)) (Nat.le_trans hq_2 (by simp)) (by have := L.out; omega) ?_; intro A3 cap3 w3 own3 g3 r3; have B3 := hide (Q_2.out.trans (((Below.refl _ _).alloc hq_2 (.cells #[.iface 119 (.agg #[.string u, .string v])] 74)).trans ((O_2.out.alloc (.cells #[.iface 119 (.agg #[.string u, .string v])] 74)).grownBelow (by rw [rowOf_own]; exact g3) (Nat.le_trans hq_2 (by simp))))); have O3 := hide own3; clear own3 g3 r3))
        have L3 : Hid ((d ++ [gainC q]).length + n1 + (n2 - 1) ≤ na + nb) := hide (by have := L.out; simp; omega)
        exact ⟨⟨_, b1, n1, n2 - 1, _, _, _, _, A3, cap3, d ++ [gainC q], rfl, rfl, by simp, CA, NB, DS, hide (by have := L3.out; omega), O3, B3⟩, by simp [lenV]; omega⟩
    · have t1 : decide (0 < n1) = true := decide_eq_true (by simp at l1; omega)
      have u1 : ((n1 : Int) == 0) = false := by rw [beq_eq_false_iff_ne]; simp at l1; omega
      rcases b' with _ | ⟨q, b1⟩
      · have DS : Hid ((d ++ [lossC p]) ++ difM a1 [] = difM a b) := hide (by rw [← D.out, difM_a, List.append_assoc]; rfl)
        have t2 : decide (0 < n2) = false := decide_eq_false (by simp at l2; omega)
        have u2 : ((n2 : Int) == 0) = true := by rw [beq_iff_eq]; simp at l2; omega
        obtain ⟨ba, oa, rfl, hba, c1, c2, sa1, sa2⟩ := CA.out.first Q.out
        have hn1 : 1 ≤ n1 := by simp at l1; omega
        have hn1i : (0 : Int) < (n1 : Int) := by omega
        have NA := hide CA.out.next
        have K1 := cut1 (some ⟨ba, oa, none⟩) n1 ca hn1
        have EV := hide (edV_loss p)
        clear D
        generalize hpx : p.1 = x at *
        generalize hpy : p.2 = y at *
        clear l1 l2
        go_wp2
        go_quiet (fail)
        have Q_1 : Hid (Below w.heap.size w (wr.drewN nq)) := hide (edb_drewN Q.out nq)
        have O_1 : Hid (EOwn (wr.drewN nq) w.heap.size A2 cap2 d) := hide O.out
        have hq_1 : w.heap.size ≤ (wr.drewN nq).heap.size := hqs
        have c1_1 : (wr.drewN nq).cell? ⟨ba, oa, none⟩ = some (.string x) := c1
        have c2_1 : (wr.drewN nq).cell? ⟨ba, oa + 1, none⟩ = some (.string y) := c2
        clear Q O hqs c1 c2
        generalize wr.drewN nq = W1 at *
        go_wp2_with (at_builtin; (refine wpList_appE (l := d) (c := lossC p) 71 Tryz.underlying71 rfl (.tmp 58) (.tmp 64) rfl rfl rfl rfl (O_1.out.alloc _) (by rw [EV.out]; exact one_cell _ _ _ (by simp)) (Nat.le_trans hq_1 (by simp)) (by have := L.out; omega) ?_; intro A3 cap3 w3 own3 g3 r3; have B3 := hide (Q_1.out.trans (((Below.refl _ _).alloc hq_1 (.cells #[.iface 117 (.agg #[.string x, .string y])] 74)).trans ((O_1.out.alloc (.cells #[.iface 117 (.agg #[.string x, .string y])] 74)).grownBelow (by rw [rowOf_own]; exact g3) (Nat.le_trans hq_1 (by simp))))); have O3 := hide own3; clear own3 g3 r3))
        have L3 : Hid ((d ++ [lossC p]).length + (n1 - 1) + n2 ≤ na + nb) := hide (by have := L.out; simp; omega)
        exact ⟨⟨a1, _, n1 - 1, n2, _, _, _, _, A3, cap3, d ++ [lossC p], rfl, rfl, by simp, NA, CB, DS, hide (by have := L3.out; omega), O3, B3⟩, by simp [lenV]; omega⟩
      · rcases ltB_tri p.1 q.1 with hlt | heq | hgt
        · have DS : Hid ((d ++ [lossC p]) ++ difM a1 (q :: b1) = difM a b) := hide (by rw [← D.out, difM_lt hlt, List.append_assoc]; rfl)
          have r1 : Op.bytesLess p.1.toList q.1.toList = true := hlt
          have t2 : decide (0 < n2) = true := decide_eq_true (by simp at l2; omega)
          have u2 : ((n2 : Int) == 0) = false := by rw [beq_eq_false_iff_ne]; simp at l2; omega
          obtain ⟨bb, ob, rfl, hbb, g1, g2, sb1, sb2⟩ := CB.out.first Q.out
          have hn2 : 1 ≤ n2 := by simp at l2; omega
          have hn2i : (0 : Int) < (n2 : Int) := by omega
          obtain ⟨ba, oa, rfl, hba, c1, c2, sa1, sa2⟩ := CA.out.first Q.out
          have hn1 : 1 ≤ n1 := by simp at l1; omega
          have hn1i : (0 : Int) < (n1 : Int) := by omega
          have NA := hide CA.out.next
          have K1 := cut1 (some ⟨ba, oa, none⟩) n1 ca hn1
          have EV := hide (edV_loss p)
          clear D
          clear hlt
          generalize hpx : p.1 = x at *
          generalize hpy : p.2 = y at *
          generalize hqu : q.1 = u at *
          generalize hqv : q.2 = v at *
          clear l1 l2
          go_wp2
          go_quiet (fail)
          have Q_1 : Hid (Below w.heap.size w (wr.drewN nq)) := hide (edb_drewN Q.out nq)
          have O_1 : Hid (EOwn (wr.drewN nq) w.heap.size A2 cap2 d) := hide O.out
          have hq_1 : w.heap.size ≤ (wr.drewN nq).heap.size := hqs
          have c1_1 : (wr.drewN nq).cell? ⟨ba, oa, none⟩ = some (.string x) := c1
          have c2_1 : (wr.drewN nq).cell? ⟨ba, oa + 1, none⟩ = some (.string y) := c2
          have g1_1 : (wr.drewN nq).cell? ⟨bb, ob, none⟩ = some (.string u) := g1
          have g2_1 : (wr.drewN nq).cell? ⟨bb, ob + 1, none⟩ = some (.string v) := g2
          clear Q O hqs c1 c2 g1 g2
          generalize wr.drewN nq = W1 at *
          go_wp2_with (at_builtin; (refine wpList_appE (l := d) (c := lossC p) 71 Tryz.underlying71 rfl (.tmp 58) (.tmp 64) rfl rfl rfl rfl (O_1.out.alloc _) (by rw [EV.out]; exact one_cell _ _ _ (by simp)) (Nat.le_trans hq_1 (by simp)) (by have := L.out; omega) ?_; intro A3 cap3 w3 own3 g3 r3; have B3 := hide (Q_1.out.trans (((Below.refl _ _).alloc hq_1 (.cells #[.iface 117 (.agg #[.string x, .string y])] 74)).trans ((O_1.out.alloc (.cells #[.iface 117 (.agg #[.string x, .string y])] 74)).grownBelow (by rw [rowOf_own]; exact g3) (Nat.le_trans hq_1 (by simp))))); have O3 := hide own3; clear own3 g3 r3))
          have L3 : Hid ((d ++ [lossC p]).length + (n1 - 1) + n2 ≤ na + nb) := hide (by have := L.out; simp; omega)
          exact ⟨⟨a1, _, n1 - 1, n2, _, _, _, _, A3, cap3, d ++ [lossC p], rfl, rfl, by simp, NA, CB, DS, hide (by have := L3.out; omega), O3, B3⟩, by simp [lenV]; omega⟩
        · have r1 : Op.bytesLess p.1.toList q.1.toList = false := by rw [heq]; exact ltB_irrefl _
          have r2 : Op.bytesLess q.1.toList p.1.toList = false := by rw [heq]; exact ltB_irrefl _
          by_cases hv : p.2 = q.2
          · have DS : Hid (d ++ difM a1 b1 = difM a b) := hide (by rw [← D.out, difM_same heq hv])
            have r3 := eqS_yes hv
            have t2 : decide (0 < n2) = true := decide_eq_true (by simp at l2; omega)
            have u2 : ((n2 : Int) == 0) = false := by rw [beq_eq_false_iff_ne]; simp at l2; omega
            obtain ⟨bb, ob, rfl, hbb, g1, g2, sb1, sb2⟩ := CB.out.first Q.out
            have hn2 : 1 ≤ n2 := by simp at l2; omega
            have hn2i : (0 : Int) < (n2 : Int) := by omega
            obtain ⟨ba, oa, rfl, hba, c1, c2, sa1, sa2⟩ := CA.out.first Q.out
            have hn1 : 1 ≤ n1 := by simp at l1; omega
            have hn1i : (0 : Int) < (n1 : Int) := by omega
            have NA := hide CA.out.next
            have K1 := cut1 (some ⟨ba, oa, none⟩) n1 ca hn1
            have NB := hide CB.out.next
            have K2 := cut1 (some ⟨bb, ob, none⟩) n2 cb hn2
            clear D
            clear hv heq
            generalize hpx : p.1 = x at *
            generalize hpy : p.2 = y at *
            generalize hqu : q.1 = u at *
            generalize hqv : q.2 = v at *
            clear l1 l2
            go_wp2
            go_quiet (fail)
            have Q_1 : Hid (Below w.heap.size w (wr.drewN nq)) := hide (edb_drewN Q.out nq)
            have O_1 : Hid (EOwn (wr.drewN nq) w.heap.size A2 cap2 d) := hide O.out
            have hq_1 : w.heap.size ≤ (wr.drewN nq).heap.size := hqs
            have c1_1 : (wr.drewN nq).cell? ⟨ba, oa, none⟩ = some (.string x) := c1
            have c2_1 : (wr.drewN nq).cell? ⟨ba, oa + 1, none⟩ = some (.string y) := c2
            have g1_1 : (wr.drewN nq).cell? ⟨bb, ob, none⟩ = some (.string u) := g1
            have g2_1 : (wr.drewN nq).cell? ⟨bb, ob + 1, none⟩ = some (.string v) := g2
            clear Q O hqs c1 c2 g1 g2
            generalize wr.drewN nq = W1 at *
            go_wp2
            go_quiet (fail)
            have Q_2 : Hid (Below w.heap.size w (W1.drewN nq)) := hide (edb_drewN Q_1.out nq)
            have O_2 : Hid (EOwn (W1.drewN nq) w.heap.size A2 cap2 d) := hide O_1.out
            have hq_2 : w.heap.size ≤ (W1.drewN nq).heap.size := hq_1
            have c1_2 : (W1.drewN nq).cell? ⟨ba, oa, none⟩ = some (.string x) := c1_1
            have c2_2 : (W1.drewN nq).cell? ⟨ba, oa + 1, none⟩ = some (.string y) := c2_1
            have g1_2 : (W1.drewN nq).cell? ⟨bb, ob, none⟩ = some (.string u) := g1_1
            have g2_2 : (W1.drewN nq).cell? ⟨bb, ob + 1, none⟩ = some (.string v) := g2_1
            clear Q_1 O_1 hq_1 c1_1 c2_1 g1_1 g2_1
            generalize W1.drewN nq = W2 at *
            go_wp2
            go_quiet (fail)
            have Q_3 : Hid (Below w.heap.size w (W2.drewN nq)) := hide (edb_drewN Q_2.out nq)
            have O_3 : Hid (EOwn (W2.drewN nq) w.heap.size A2 cap2 d) := hide O_2.out
            have hq_3 : w.heap.size ≤ (W2.drewN nq).heap.size := hq_2
            have c1_3 : (W2.drewN nq).cell? ⟨ba, oa, none⟩ = some (.string x) := c1_2
            have c2_3 : (W2.drewN nq).cell? ⟨ba, oa + 1, none⟩ = some (.string y) := c2_2
            have g1_3 : (W2.drewN nq).cell? ⟨bb, ob, none⟩ = some (.string u) := g1_2
            have g2_3 : (W2.drewN nq).cell? ⟨bb, ob + 1, none⟩ = some (.string v) := g2_2
            clear Q_2 O_2 hq_2 c1_2 c2_2 g1_2 g2_2
            generalize W2.drewN nq = W3 at *
            go_wp2
            go_quiet (fail)
            have Q4 : Hid (Below w.heap.size w (W3.drewN nq)) := hide (edb_drewN Q_3.out nq)
            have O4 : Hid (EOwn (W3.drewN nq) w.heap.size A2 cap2 d) := hide O_3.out
            go_wp2
            exact ⟨⟨a1, b1, n1 - 1, n2 - 1, _, _, _, _, A2, cap2, d, rfl, rfl, rfl, NA, NB, DS, hide (by have := L.out; omega), O4, Q4⟩, by simp [lenV]; omega⟩
          · have DS : Hid ((d ++ [turnC p q]) ++ difM a1 b1 = difM a b) := hide (by rw [← D.out, difM_turn heq hv, List.append_assoc]; rfl)
            have r3 := eqS_no hv
            have t2 : decide (0 < n2) = true := decide_eq_true (by simp at l2; omega)
            have u2 : ((n2 : Int) == 0) = false := by rw [beq_eq_false_iff_ne]; simp at l2; omega
            obtain ⟨bb, ob, rfl, hbb, g1, g2, sb1, sb2⟩ := CB.out.first Q.out
            have hn2 : 1 ≤ n2 := by simp at l2; omega
            have hn2i : (0 : Int) < (n2 : Int) := by omega
            obtain ⟨ba, oa, rfl, hba, c1, c2, sa1, sa2⟩ := CA.out.first Q.out
            have hn1 : 1 ≤ n1 := by simp at l1; omega
            have hn1i : (0 : Int) < (n1 : Int) := by omega
            have NA := hide CA.out.next
            have K1 := cut1 (some ⟨ba, oa, none⟩) n1 ca hn1
            have NB := hide CB.out.next
            have K2 := cut1 (some ⟨bb, ob, none⟩) n2 cb hn2
            have KC := hide (And.intro ((Q.out.cell (p := ⟨ba, oa, none⟩) hba).symm.trans c1) (And.intro ((Q.out.cell (p := ⟨ba, oa + 1, none⟩) hba).symm.trans c2) (And.intro ((Q.out.cell (p := ⟨bb, ob, none⟩) hbb).symm.trans g1) ((Q.out.cell (p := ⟨bb, ob + 1, none⟩) hbb).symm.trans g2))))
            have hp1 : 0 < n1 := hn1
            have hp2 : 0 < n2 := hn2
            have EV := hide (edV_turn p q heq)
            clear D
            clear hv heq
            generalize hpx : p.1 = x at *
            generalize hpy : p.2 = y at *
            generalize hqu : q.1 = u at *
            generalize hqv : q.2 = v at *
            clear l1 l2
            go_wp2
            go_quiet (fail)
            have Q_1 : Hid (Below w.heap.size w (wr.drewN nq)) := hide (edb_drewN Q.out nq)
            have O_1 : Hid (EOwn (wr.drewN nq) w.heap.size A2 cap2 d) := hide O.out
            have hq_1 : w.heap.size ≤ (wr.drewN nq).heap.size := hqs
            have c1_1 : (wr.drewN nq).cell? ⟨ba, oa, none⟩ = some (.string x) := c1
            have c2_1 : (wr.drewN nq).cell? ⟨ba, oa + 1, none⟩ = some (.string y) := c2
            have g1_1 : (wr.drewN nq).cell? ⟨bb, ob, none⟩ = some (.string u) := g1
            have g2_1 : (wr.drewN nq).cell? ⟨bb, ob + 1, none⟩ = some (.string v) := g2
            clear Q O hqs c1 c2 g1 g2
            generalize wr.drewN nq = W1 at *
            go_wp2
            go_quiet (fail)
            have Q_2 : Hid (Below w.heap.size w (W1.drewN nq)) := hide (edb_drewN Q_1.out nq)
            have O_2 : Hid (EOwn (W1.drewN nq) w.heap.size A2 cap2 d) := hide O_1.out
            have hq_2 : w.heap.size ≤ (W1.drewN nq).heap.size := hq_1
            have c1_2 : (W1.drewN nq).cell? ⟨ba, oa, none⟩ = some (.string x) := c1_1
            have c2_2 : (W1.drewN nq).cell? ⟨ba, oa + 1, none⟩ = some (.string y) := c2_1
            have g1_2 : (W1.drewN nq).cell? ⟨bb, ob, none⟩ = some (.string u) := g1_1
            have g2_2 : (W1.drewN nq).cell? ⟨bb, ob + 1, none⟩ = some (.string v) := g2_1
            clear Q_1 O_1 hq_1 c1_1 c2_1 g1_1 g2_1
            generalize W1.drewN nq = W2 at *
            go_wp2
            go_quiet (fail)
            have Q_3 : Hid (Below w.heap.size w (W2.drewN nq)) := hide (edb_drewN Q_2.out nq)
            have O_3 : Hid (EOwn (W2.drewN nq) w.heap.size A2 cap2 d) := hide O_2.out
            have hq_3 : w.heap.size ≤ (W2.drewN nq).heap.size := hq_2
            have c1_3 : (W2.drewN nq).cell? ⟨ba, oa, none⟩ = some (.string x) := c1_2
            have c2_3 : (W2.drewN nq).cell? ⟨ba, oa + 1, none⟩ = some (.string y) := c2_2
            have g1_3 : (W2.drewN nq).cell? ⟨bb, ob, none⟩ = some (.string u) := g1_2
            have g2_3 : (W2.drewN nq).cell? ⟨bb, ob + 1, none⟩ = some (.string v) := g2_2
            clear Q_2 O_2 hq_2 c1_2 c2_2 g1_2 g2_2
            generalize W2.drewN nq = W3 at *
            go_wp2
            have O4 : Hid (EOwn W3.drew w.heap.size A2 cap2 d) := hide O_3.out.drew
            have Q4 : Hid (Below w.heap.size w W3.drew) := hide Q_3.out.drew
            have hq4 : w.heap.size ≤ W3.drew.heap.size := hq_3
            have CE : Hid ((W3.drew.alloc (.cells #[.iface 121 (.agg #[.string x, .string y, .string u, .string v])] 74)).cell? ⟨W3.heap.size, 0, none⟩ = some (edV (turnC p q))) := hide (by rw [EV.out]; exact one_cell _ _ _ rfl)
            have C0 := hide (And.intro c1_3 (And.intro c2_3 (And.intro g1_3 g2_3)))
            go_region_held3 (fun w' => w'.cell? ⟨ba, oa, none⟩ = some (.string x) ∧ w'.cell? ⟨ba, oa + 1, none⟩ = some (.string y) ∧ w'.cell? ⟨bb, ob, none⟩ = some (.string u) ∧ w'.cell? ⟨bb, ob + 1, none⟩ = some (.string v)) (first | go_keep | exact ⟨cellB B3.out hba KC.out.1, cellB B3.out hba KC.out.2.1, cellB B3.out hbb KC.out.2.2.1, cellB B3.out hbb KC.out.2.2.2⟩)
              (first | (refine step_appE (n := d.length) (A := A2) (cap := cap2) (g := W3.heap.size) (l := d) (c := turnC p q) 71 Tryz.underlying71 rfl (.tmp 23) (.tmp 32) rfl (by simp [Act.eval]) (by simp [Act.eval]) rfl (O4.out.alloc _) CE.out (Nat.le_trans hq4 (by simp)) (by have := L.out; omega) ?_; intro A3 cap3 w3 own3 g3 r3; have B3 := hide (Q4.out.trans (((Below.refl _ W3.drew).alloc hq4 (.cells #[.iface 121 (.agg #[.string x, .string y, .string u, .string v])] 74)).trans ((O4.out.alloc (.cells #[.iface 121 (.agg #[.string x, .string y, .string u, .string v])] 74)).grownBelow (by rw [rowOf_own]; exact g3) (Nat.le_trans hq4 (by simp))))); have O3 := hide own3; clear own3 g3 r3))
            go_wp2
            go_quiet (fail)
            have Q5 : Hid (Below w.heap.size w (w3.drewN nq)) := hide (edb_drewN B3.out nq)
            have O5 : Hid (EOwn (w3.drewN nq) w.heap.size A3 cap3 (d ++ [turnC p q])) := hide O3.out
            go_wp2
            exact ⟨⟨a1, b1, n1 - 1, n2 - 1, _, _, _, _, A3, cap3, d ++ [turnC p q], rfl, rfl, by simp, NA, NB, DS, hide (by have := L.out; simp; omega), O5, Q5⟩, by simp [lenV]; omega⟩
        · have DS : Hid ((d ++ [gainC q]) ++ difM (p :: a1) b1 = difM a b) := hide (by rw [← D.out, difM_gt hgt, List.append_assoc]; rfl)
          have r1 : Op.bytesLess p.1.toList q.1.toList = false := ltB_asymm hgt
          have r2 : Op.bytesLess q.1.toList p.1.toList = true := hgt
          have t2 : decide (0 < n2) = true := decide_eq_true (by simp at l2; omega)
          have u2 : ((n2 : Int) == 0) = false := by rw [beq_eq_false_iff_ne]; simp at l2; omega
          obtain ⟨bb, ob, rfl, hbb, g1, g2, sb1, sb2⟩ := CB.out.first Q.out
          have hn2 : 1 ≤ n2 := by simp at l2; omega
          have hn2i : (0 : Int) < (n2 : Int) := by omega
          obtain ⟨ba, oa, rfl, hba, c1, c2, sa1, sa2⟩ := CA.out.first Q.out
          have hn1 : 1 ≤ n1 := by simp at l1; omega
          have hn1i : (0 : Int) < (n1 : Int) := by omega
          have NB := hide CB.out.next
          have K2 := cut1 (some ⟨bb, ob, none⟩) n2 cb hn2
          have EV := hide (edV_gain q)
          clear D
          clear hgt
          generalize hpx : p.1 = x at *
          generalize hpy : p.2 = y at *
          generalize hqu : q.1 = u at *
          generalize hqv : q.2 = v at *
          clear l1 l2
          go_wp2
          go_quiet (fail)
          have Q_1 : Hid (Below w.heap.size w (wr.drewN nq)) := hide (edb_drewN Q.out nq)
          have O_1 : Hid (EOwn (wr.drewN nq) w.heap.size A2 cap2 d) := hide O.out
          have hq_1 : w.heap.size ≤ (wr.drewN nq).heap.size := hqs
          have c1_1 : (wr.drewN nq).cell? ⟨ba, oa, none⟩ = some (.string x) := c1
          have c2_1 : (wr.drewN nq).cell? ⟨ba, oa + 1, none⟩ = some (.string y) := c2
          have g1_1 : (wr.drewN nq).cell? ⟨bb, ob, none⟩ = some (.string u) := g1
          have g2_1 : (wr.drewN nq).cell? ⟨bb, ob + 1, none⟩ = some (.string v) := g2
          clear Q O hqs c1 c2 g1 g2
          generalize wr.drewN nq = W1 at *
          go_wp2
          go_quiet (fail)
          have Q_2 : Hid (Below w.heap.size w (W1.drewN nq)) := hide (edb_drewN Q_1.out nq)
          have O_2 : Hid (EOwn (W1.drewN nq) w.heap.size A2 cap2 d) := hide O_1.out
          have hq_2 : w.heap.size ≤ (W1.drewN nq).heap.size := hq_1
          have c1_2 : (W1.drewN nq).cell? ⟨ba, oa, none⟩ = some (.string x) := c1_1
          have c2_2 : (W1.drewN nq).cell? ⟨ba, oa + 1, none⟩ = some (.string y) := c2_1
          have g1_2 : (W1.drewN nq).cell? ⟨bb, ob, none⟩ = some (.string u) := g1_1
          have g2_2 : (W1.drewN nq).cell? ⟨bb, ob + 1, none⟩ = some (.string v) := g2_1
          clear Q_1 O_1 hq_1 c1_1 c2_1 g1_1 g2_1
          generalize W1.drewN nq = W2 at *
          go_wp2_with (at_builtin; (refine wpList_appE (l := d) (c := gainC q) 71 Tryz.underlying71 rfl (.tmp 83) (.tmp 89) rfl rfl rfl rfl (O_2.out.alloc _) (by rw [EV.out]; exact one_cell _ _ _ (by simp)) (Nat.le_trans hq_2 (by simp)) (by have := L.out; omega) ?_; intro A3 cap3 w3 own3 g3 r3; have B3 := hide (Q_2.out.trans (((Below.refl _ _).alloc hq_2 (.cells #[.iface 119 (.agg #[.string u, .string v])] 74)).trans ((O_2.out.alloc (.cells #[.iface 119 (.agg #[.string u, .string v])] 74)).grownBelow (by rw [rowOf_own]; exact g3) (Nat.le_trans hq_2 (by simp))))); have O3 := hide own3; clear own3 g3 r3))
          have L3 : Hid ((d ++ [gainC q]).length + n1 + (n2 - 1) ≤ na + nb) := hide (by have := L.out; simp; omega)
          exact ⟨⟨_, b1, n1, n2 - 1, _, _, _, _, A3, cap3, d ++ [gainC q], rfl, rfl, by simp, CA, NB, DS, hide (by have := L3.out; omega), O3, B3⟩, by simp [lenV]; omega⟩
end Go.Proofs.YtaofemdhgfejjaaGreatDoor
