/-
  For every code, laws.FnMergedApart returns true: where both of drawn maps changed nothing in common the merger is the one's changes behind the other one's. No conditions but that the two variables (the sentinel of refusals, the type error's handle) hold what the program's text lays (the card ties them).
-/
import Derived.Test.YtaofemdhgfejjaaGreatDoorChecked
import Derived.ProofKit
import Derived.OpenShut
import Derived.Deep.SlicePairs
import Derived.Deep.Slices
import Derived.BigQuiet
import Derived.Deep.QuietTactic
import Derived.StillTailTactics
import Derived.IntWalk
import Derived.Deep.Quiet
import Derived.Test.YtaofemdhgfejjaaGreatDoorJA3
/-
  What the laws' own helpers on lists of pairs answer: toPairS, eqPairS.
-/
namespace Go.Proofs.YtaofemdhgfejjaaGreatDoor
open Go.RowKit

theorem infoPair : (Tryz.prog.info? 60).map (fun i => (i.zero, i.size, i.bytes)) = some (some (.agg #[.string ByteArray.empty, .string ByteArray.empty]), 2, 32) := by kernel_rfl

theorem made_pairs (n : Nat) : (madeCells #[Value.string ByteArray.empty, Value.string ByteArray.empty] (n * 2)).toList = pcells (List.replicate n emp) := by
  apply List.ext_getElem?
  intro j
  by_cases hj : j < n * 2
  · have h2 := pcells_get (List.replicate n emp) (j / 2) (by simp; omega)
    rcases Nat.mod_two_eq_zero_or_one j with e | e
    · have hj2 : j / 2 * 2 = j := by omega
      rw [hj2] at h2
      rw [h2.1]
      simp [madeCells, hj, e, emp]
    · have hj2 : j / 2 * 2 + 1 = j := by omega
      rw [hj2] at h2
      rw [h2.2]
      simp [madeCells, hj, e, emp]
  · rw [List.getElem?_eq_none (by simp [madeCells]; omega), List.getElem?_eq_none (by rw [pcells_length]; simp; omega)]

theorem set_step (l : List Pr) (n k : Nat) (hk : k < l.length) (hn : l.length = n) : (l.take k ++ List.replicate (n - k) emp).set k (l[k].1, l[k].2) = l.take (k + 1) ++ List.replicate (n - (k + 1)) emp := by
  have hlen : (l.take k).length = k := by rw [List.length_take]; omega
  have h1 : (l.take k ++ List.replicate (n - k) emp).set k (l[k].1, l[k].2) = l.take k ++ (List.replicate (n - k) emp).set 0 (l[k].1, l[k].2) := by
    rw [List.set_append_right _ _ (by omega), hlen, Nat.sub_self]
  rw [h1, show n - k = n - (k + 1) + 1 by omega, List.replicate_succ, List.set_cons_zero, List.take_succ_eq_append_getElem hk, List.append_assoc]
  rfl

end Go.Proofs.YtaofemdhgfejjaaGreatDoor
/-
  An argument that is a list of pairs, opened.
-/
namespace Go.Proofs.YtaofemdhgfejjaaGreatDoor
open Go.ChangeShapes Go.WideShapes Go.ChangeAt Go.RowKit Go.Deep

section
variable {H : Type} {enc : TypeId × Value → H} {W : World}
end
end Go.Proofs.YtaofemdhgfejjaaGreatDoor
/-
  What the laws' own helpers on changes answer: szChange, toChange, eqChange, szChangeS, toChangeS, eqChangeS; an argument that is a list of changes, opened.
-/
namespace Go.Proofs.YtaofemdhgfejjaaGreatDoor
open Go.RowKit

def eqC (p q : Ch) : Bool := decide (p = q)
theorem eqC_yes {p q : Ch} (h : p = q) : eqC p q = true := decide_eq_true h
theorem eqC_no {p q : Ch} (h : ¬ p = q) : eqC p q = false := decide_eq_false h
def eqCL (l l' : List Ch) : Bool := decide (l = l')
theorem eqCL_yes {p q : List Ch} (h : p = q) : eqCL p q = true := decide_eq_true h
theorem eqCL_no {p q : List Ch} (h : ¬ p = q) : eqCL p q = false := decide_eq_false h
theorem eqCL_self (p : List Ch) : eqCL p p = true := eqCL_yes rfl
theorem neB_yes {a b : Bool} (h : ¬ a = b) : (a != b) = true := by cases a <;> cases b <;> simp_all
theorem eqBf {a b : Bool} (h : ¬ a = b) : (a == b) = false := by cases a <;> cases b <;> simp_all

theorem made_changes (n : Nat) : (madeCells (arrC emC) (n * 5)).toList = ccells (List.replicate n emC) := by
  apply List.ext_getElem?
  intro j
  by_cases hj : j < n * 5
  · obtain ⟨p0, p1, p2, p3, p4⟩ := ccells_get (List.replicate n emC) (j / 5) (by simp; omega)
    have hj5 : j = j / 5 * 5 + j % 5 := by omega
    have hm : j % 5 < 5 := Nat.mod_lt _ (by omega)
    have hmm : (madeCells (arrC emC) (n * 5)).toList[j]? = some ((arrC emC).getD (j % 5) default) := by simp [madeCells, hj, arrC]
    rw [hmm]
    generalize j % 5 = r at hj5 hm
    match r, hm with
    | 0, _ => rw [show j / 5 * 5 = j by omega] at p0; rw [p0]; simp [arrC, emC]
    | 1, _ => rw [show j / 5 * 5 + 1 = j by omega] at p1; rw [p1]; simp [arrC, emC]
    | 2, _ => rw [show j / 5 * 5 + 2 = j by omega] at p2; rw [p2]; simp [arrC, emC]
    | 3, _ => rw [show j / 5 * 5 + 3 = j by omega] at p3; rw [p3]; simp [arrC, emC]
    | 4, _ => rw [show j / 5 * 5 + 4 = j by omega] at p4; rw [p4]; simp [arrC, emC]
  · rw [List.getElem?_eq_none (by simp [madeCells]; omega), List.getElem?_eq_none (by rw [ccells_length]; simp; omega)]
theorem set_stepC (l : List Ch) (n k : Nat) (hk : k < l.length) (hn : l.length = n) : (l.take k ++ List.replicate (n - k) emC).set k l[k] = l.take (k + 1) ++ List.replicate (n - (k + 1)) emC := by
  have hlen : (l.take k).length = k := by rw [List.length_take]; omega
  have h1 : (l.take k ++ List.replicate (n - k) emC).set k l[k] = l.take k ++ (List.replicate (n - k) emC).set 0 l[k] := by
    rw [List.set_append_right _ _ (by omega), hlen, Nat.sub_self]
  rw [h1, show n - k = n - (k + 1) + 1 by omega, List.replicate_succ, List.set_cons_zero, List.take_succ_eq_append_getElem hk, List.append_assoc]
  rfl
end Go.Proofs.YtaofemdhgfejjaaGreatDoor
/-
  What impl.editsBetween answers.
-/
namespace Go.Proofs.YtaofemdhgfejjaaGreatDoor
open Go.RowKit

def lenV : Value → Nat
  | .slice _ n _ => n
  | _ => 0
theorem edb_drewN {B : Nat} {w w' : World} (h : Below B w w') (n : Nat) : Below B w (w'.drewN n) := h.trans (Quiet.below ⟨n, rfl⟩ _)
/-- a slice that is gone through from its first pair on -/
def Cur (w : World) (A : Option Addr) (cap n : Nat) (l : List Pr) : Prop := PIn w w.heap.size A l ∧ l.length ≤ cap ∧ l.length = n
theorem Cur.first {w wr : World} {A : Option Addr} {cap n : Nat} {p : Pr} {l : List Pr} (h : Cur w A cap n (p :: l)) (hb : Below w.heap.size w wr) :
    ∃ b off, A = some ⟨b, off, none⟩ ∧ b < w.heap.size ∧ wr.cell? ⟨b, off, none⟩ = some (.string p.1) ∧ wr.cell? ⟨b, off + 1, none⟩ = some (.string p.2) ∧ p.1.size ≤ maxLen ∧ p.2.size ≤ maxLen := by
  obtain ⟨b, off, e, hlt, hc⟩ := (h.1.below hb).2 (by simp)
  obtain ⟨h1, h2⟩ := hc 0 (by simp)
  obtain ⟨s1, s2⟩ := h.1.1 0 (by simp)
  exact ⟨b, off, e, hlt, by simpa using h1, by simpa using h2, s1, s2⟩
theorem Cur.next {w : World} {A : Option Addr} {cap n : Nat} {p : Pr} {l : List Pr} (h : Cur w A cap n (p :: l)) : Cur w (cutA A cap 1) (cap - 1) (n - 1) l := by
  obtain ⟨h1, h2, h3⟩ := h
  refine ⟨?_, by simp at h2; omega, by simp at h3; omega⟩
  have := h1.drop h2 1
  simpa using this
theorem EOwn.cap_le {w : World} {B : Nat} {A : Option Addr} {cap : Nat} {l : List Ch} (h : EOwn w B A cap l) : l.length ≤ cap := by
  rcases h.2 with ⟨e, e'⟩ | ⟨g, c, cur, e, _, _, hnc, _⟩
  · injection e with e1 e2 e3; omega
  · injection e with e1 e2 e3; omega
theorem one_cell (w : World) (u : Value) (t : TypeId) {g : Nat} (hg : w.heap.size = g) : (w.alloc (.cells #[u] t)).cell? ⟨g, 0, none⟩ = some u := by subst hg; exact cell_of_row _ w.heap.size 0 #[u] t (0, 0) (heap_alloc_new w _)
theorem cut1 (A : Option Addr) (n cap : Nat) (h : 1 ≤ n) (w : World) : (Instr.slice 24 (.slice A n cap) (some (.int .i64 1)) none none).run Tryz.prog w = .ok (.slice (cutA A cap 1) (n - 1) (cap - 1)) w := run_cut_l 24 Tryz.underlying24 A n cap 1 h w

/-- a row of edits of the call's own comes back -/
def RetE (B : Nat) (l : List Ch) (w : World) (e : Ending) (w' : World) : Prop := ∃ A cap, l.length ≤ cap ∧ e = .returned (.slice A l.length cap) ∧ EOwn w' B A cap l ∧ Below B w w'
set_option maxRecDepth 100000 in
set_option maxHeartbeats 8000000 in
theorem editsBetween_any (A : Option Addr) (a : List Pr) (cap : Nat) (A' : Option Addr) (b : List Pr) (cap' : Nat) (w : World) (hla : a.length ≤ 1000) (hlb : b.length ≤ 1000) (hca : a.length ≤ cap) (hcb : b.length ≤ cap') (hin : PIn w w.heap.size A a) (hin' : PIn w w.heap.size A' b) :
    Calls Tryz.prog 39 #[.slice A a.length cap, .slice A' b.length cap'] w (RetE w.heap.size (difM a b) w) := by
  have CA : Hid (Cur w A cap a.length a) := hide ⟨hin, hca, rfl⟩
  have CB : Hid (Cur w A' cap' b.length b) := hide ⟨hin', hcb, rfl⟩
  have O1 := hide (EOwn.nil w w.heap.size)
  have B1 := hide (Below.refl w.heap.size w)
  clear hin hin' hca hcb
  generalize a.length = na at hla CA ⊢
  generalize b.length = nb at hlb CB ⊢
  go_enter Tryz.func39, Tryz.ntmps39
  go_wp2
  go_loopw [0, 1, 5] (fun av bv ov wr => ∃ (a' b' : List Pr) (n1 n2 : Nat) (Aa : Option Addr) (ca : Nat) (Ab : Option Addr) (cb : Nat) (A2 : Option Addr) (cap2 : Nat) (d : List Ch), av = .slice Aa n1 ca ∧ bv = .slice Ab n2 cb ∧ ov = .slice A2 d.length cap2 ∧ Hid (Cur w Aa ca n1 a') ∧ Hid (Cur w Ab cb n2 b') ∧ Hid (d ++ difM a' b' = difM a b) ∧ Hid (d.length + n1 + n2 ≤ na + nb) ∧ Hid (EOwn wr w.heap.size A2 cap2 d) ∧ Hid (Below w.heap.size w wr)) (fun av bv _ _ => lenV av + lenV bv)
  case atStart => exact ⟨a, b, na, nb, _, _, _, _, _, 0, [], rfl, rfl, rfl, CA, CB, hide (by simp), hide (by simp), O1, B1⟩
  case round =>
    clear O1 B1 CA CB
    obtain ⟨a', b', n1, n2, Aa, ca, Ab, cb, A2, cap2, d, rfl, rfl, rfl, CA, CB, D, L, O, Q⟩ := hrel
    have hqs := Q.out.size
    have l1 := CA.out.2.2
    have l2 := CB.out.2.2
    rcases a' with _ | ⟨p, a1⟩
    · have t1 : decide (0 < n1) = false := decide_eq_false (by simp at l1; omega)
      have u1 : ((n1 : Int) == 0) = true := by rw [beq_iff_eq]; simp at l1; omega
      rcases b' with _ | ⟨q, b1⟩
      · have t2 : decide (0 < n2) = false := decide_eq_false (by simp at l2; omega)
        have E : Hid (d = difM a b) := hide (by have h7 := D.out; rw [difM_nil, List.append_nil] at h7; exact h7)
        clear D L l1 l2 CA CB
        go_wp2
        go_ret
        refine ⟨A2, cap2, ?_, ?_, ?_, Q.out⟩
        · rw [← E.out]; exact O.out.cap_le
        · rw [← E.out]; rfl
        · rw [← E.out]; exact O.out
      · have DS : Hid ((d ++ [gainC q]) ++ difM [] b1 = difM a b) := hide (by rw [← D.out, difM_b, List.append_assoc]; rfl)
        have t2 : decide (0 < n2) = true := decide_eq_true (by simp at l2; omega)
        have u2 : ((n2 : Int) == 0) = false := by rw [beq_eq_false_iff_ne]; simp at l2; omega
        obtain ⟨bb, ob, rfl, hbb, g1, g2, sb1, sb2⟩ := CB.out.first Q.out
        have hn2 : 1 ≤ n2 := by simp at l2; omega
        have hn2i : (0 : Int) < (n2 : Int) := by omega
        have NB := hide CB.out.next
        have K2 := cut1 (some ⟨bb, ob, none⟩) n2 cb hn2
        have EV := hide (edV_gain q)
        clear D
        generalize hqu : q.1 = u at *
        generalize hqv : q.2 = v at *
        clear l1 l2
        go_wp2
        go_quiet (fail)
        have Q_1 : Hid (Below w.heap.size w (wr.drewN nq)) := hide (edb_drewN Q.out nq)
        have O_1 : Hid (EOwn (wr.drewN nq) w.heap.size A2 cap2 d) := hide O.out
        have hq_1 : w.heap.size ≤ (wr.drewN nq).heap.size := hqs
        have g1_1 : (wr.drewN nq).cell? ⟨bb, ob, none⟩ = some (.string u) := g1
        have g2_1 : (wr.drewN nq).cell? ⟨bb, ob + 1, none⟩ = some (.string v) := g2
        clear Q O hqs g1 g2
        generalize wr.drewN nq = W1 at *
        go_wp2
        go_quiet (fail)
        have Q_2 : Hid (Below w.heap.size w (W1.drewN nq)) := hide (edb_drewN Q_1.out nq)
        have O_2 : Hid (EOwn (W1.drewN nq) w.heap.size A2 cap2 d) := hide O_1.out
        have hq_2 : w.heap.size ≤ (W1.drewN nq).heap.size := hq_1
        have g1_2 : (W1.drewN nq).cell? ⟨bb, ob, none⟩ = some (.string u) := g1_1
        have g2_2 : (W1.drewN nq).cell? ⟨bb, ob + 1, none⟩ = some (.string v) := g2_1
        clear Q_1 O_1 hq_1 g1_1 g2_1
        generalize W1.drewN nq = W2 at *
        go_wp2_with (at_builtin; (refine wpList_appE (l := d) (c := gainC q) 71 Tryz.underlying71 rfl (.tmp 83) (.tmp 89) rfl rfl rfl rfl (O_2.out.alloc _) (by rw [EV.out]; exact one_cell _ _ _ (by simp)) (Nat.le_trans hq_2 (by simp)) (by have := L.out; omega) ?_; intro A3 cap3 w3 own3 g3 r3; have B3 := hide (Q_2.out.trans (((Below.refl _ _).alloc hq_2 (.cells #[.iface 119 (.agg #[.string u, .string v])] 74)).trans ((O_2.out.alloc (.cells #[.iface 119 (.agg #[.string u, .string v])] 74)).grownBelow (by rw [rowOf_own]; exact g3) (Nat.le_trans hq_2 (by simp))))); have O3 := hide own3; clear own3 g3 r3))
        have L3 : Hid ((d ++ [gainC q]).length + n1 + (n2 - 1) ≤ na + nb) := hide (by have := L.out; simp; omega)
        exact ⟨⟨_, b1, n1, n2 - 1, _, _, _, _, A3, cap3, d ++ [gainC q], rfl, rfl, by simp, CA, NB, DS, hide (by have := L3.out; omega), O3, B3⟩, by simp [lenV]; omega⟩
    · have t1 : decide (0 < n1) = true := decide_eq_true (by simp at l1; omega)
      have u1 : ((n1 : Int) == 0) = false := by rw [beq_eq_false_iff_ne]; simp at l1; omega
      rcases b' with _ | ⟨q, b1⟩
      · have DS : Hid ((d ++ [lossC p]) ++ difM a1 [] = difM a b) := hide (by rw [← D.out, difM_a, List.append_assoc]; rfl)
        have t2 : decide (0 < n2) = false := decide_eq_false (by simp at l2; omega)
        have u2 : ((n2 : Int) == 0) = true := by rw [beq_iff_eq]; simp at l2; omega
        obtain ⟨ba, oa, rfl, hba, c1, c2, sa1, sa2⟩ := CA.out.first Q.out
        have hn1 : 1 ≤ n1 := by simp at l1; omega
        have hn1i : (0 : Int) < (n1 : Int) := by omega
        have NA := hide CA.out.next
        have K1 := cut1 (some ⟨ba, oa, none⟩) n1 ca hn1
        have EV := hide (edV_loss p)
        clear D
        generalize hpx : p.1 = x at *
        generalize hpy : p.2 = y at *
        clear l1 l2
        go_wp2
        go_quiet (fail)
        have Q_1 : Hid (Below w.heap.size w (wr.drewN nq)) := hide (edb_drewN Q.out nq)
        have O_1 : Hid (EOwn (wr.drewN nq) w.heap.size A2 cap2 d) := hide O.out
        have hq_1 : w.heap.size ≤ (wr.drewN nq).heap.size := hqs
        have c1_1 : (wr.drewN nq).cell? ⟨ba, oa, none⟩ = some (.string x) := c1
        have c2_1 : (wr.drewN nq).cell? ⟨ba, oa + 1, none⟩ = some (.string y) := c2
        clear Q O hqs c1 c2
        generalize wr.drewN nq = W1 at *
        go_wp2_with (at_builtin; (refine wpList_appE (l := d) (c := lossC p) 71 Tryz.underlying71 rfl (.tmp 58) (.tmp 64) rfl rfl rfl rfl (O_1.out.alloc _) (by rw [EV.out]; exact one_cell _ _ _ (by simp)) (Nat.le_trans hq_1 (by simp)) (by have := L.out; omega) ?_; intro A3 cap3 w3 own3 g3 r3; have B3 := hide (Q_1.out.trans (((Below.refl _ _).alloc hq_1 (.cells #[.iface 117 (.agg #[.string x, .string y])] 74)).trans ((O_1.out.alloc (.cells #[.iface 117 (.agg #[.string x, .string y])] 74)).grownBelow (by rw [rowOf_own]; exact g3) (Nat.le_trans hq_1 (by simp))))); have O3 := hide own3; clear own3 g3 r3))
        have L3 : Hid ((d ++ [lossC p]).length + (n1 - 1) + n2 ≤ na + nb) := hide (by have := L.out; simp; omega)
        exact ⟨⟨a1, _, n1 - 1, n2, _, _, _, _, A3, cap3, d ++ [lossC p], rfl, rfl, by simp, NA, CB, DS, hide (by have := L3.out; omega), O3, B3⟩, by simp [lenV]; omega⟩
      · rcases ltB_tri p.1 q.1 with hlt | heq | hgt
        · have DS : Hid ((d ++ [lossC p]) ++ difM a1 (q :: b1) = difM a b) := hide (by rw [← D.out, difM_lt hlt, List.append_assoc]; rfl)
          have r1 : Op.bytesLess p.1.toList q.1.toList = true := hlt
          have t2 : decide (0 < n2) = true := decide_eq_true (by simp at l2; omega)
          have u2 : ((n2 : Int) == 0) = false := by rw [beq_eq_false_iff_ne]; simp at l2; omega
          obtain ⟨bb, ob, rfl, hbb, g1, g2, sb1, sb2⟩ := CB.out.first Q.out
          have hn2 : 1 ≤ n2 := by simp at l2; omega
          have hn2i : (0 : Int) < (n2 : Int) := by omega
          obtain ⟨ba, oa, rfl, hba, c1, c2, sa1, sa2⟩ := CA.out.first Q.out
          have hn1 : 1 ≤ n1 := by simp at l1; omega
          have hn1i : (0 : Int) < (n1 : Int) := by omega
          have NA := hide CA.out.next
          have K1 := cut1 (some ⟨ba, oa, none⟩) n1 ca hn1
          have EV := hide (edV_loss p)
          clear D
          clear hlt
          generalize hpx : p.1 = x at *
          generalize hpy : p.2 = y at *
          generalize hqu : q.1 = u at *
          generalize hqv : q.2 = v at *
          clear l1 l2
          go_wp2
          go_quiet (fail)
          have Q_1 : Hid (Below w.heap.size w (wr.drewN nq)) := hide (edb_drewN Q.out nq)
          have O_1 : Hid (EOwn (wr.drewN nq) w.heap.size A2 cap2 d) := hide O.out
          have hq_1 : w.heap.size ≤ (wr.drewN nq).heap.size := hqs
          have c1_1 : (wr.drewN nq).cell? ⟨ba, oa, none⟩ = some (.string x) := c1
          have c2_1 : (wr.drewN nq).cell? ⟨ba, oa + 1, none⟩ = some (.string y) := c2
          have g1_1 : (wr.drewN nq).cell? ⟨bb, ob, none⟩ = some (.string u) := g1
          have g2_1 : (wr.drewN nq).cell? ⟨bb, ob + 1, none⟩ = some (.string v) := g2
          clear Q O hqs c1 c2 g1 g2
          generalize wr.drewN nq = W1 at *
          go_wp2_with (at_builtin; (refine wpList_appE (l := d) (c := lossC p) 71 Tryz.underlying71 rfl (.tmp 58) (.tmp 64) rfl rfl rfl rfl (O_1.out.alloc _) (by rw [EV.out]; exact one_cell _ _ _ (by simp)) (Nat.le_trans hq_1 (by simp)) (by have := L.out; omega) ?_; intro A3 cap3 w3 own3 g3 r3; have B3 := hide (Q_1.out.trans (((Below.refl _ _).alloc hq_1 (.cells #[.iface 117 (.agg #[.string x, .string y])] 74)).trans ((O_1.out.alloc (.cells #[.iface 117 (.agg #[.string x, .string y])] 74)).grownBelow (by rw [rowOf_own]; exact g3) (Nat.le_trans hq_1 (by simp))))); have O3 := hide own3; clear own3 g3 r3))
          have L3 : Hid ((d ++ [lossC p]).length + (n1 - 1) + n2 ≤ na + nb) := hide (by have := L.out; simp; omega)
          exact ⟨⟨a1, _, n1 - 1, n2, _, _, _, _, A3, cap3, d ++ [lossC p], rfl, rfl, by simp, NA, CB, DS, hide (by have := L3.out; omega), O3, B3⟩, by simp [lenV]; omega⟩
        · have r1 : Op.bytesLess p.1.toList q.1.toList = false := by rw [heq]; exact ltB_irrefl _
          have r2 : Op.bytesLess q.1.toList p.1.toList = false := by rw [heq]; exact ltB_irrefl _
          by_cases hv : p.2 = q.2
          · have DS : Hid (d ++ difM a1 b1 = difM a b) := hide (by rw [← D.out, difM_same heq hv])
            have r3 := eqS_yes hv
            have t2 : decide (0 < n2) = true := decide_eq_true (by simp at l2; omega)
            have u2 : ((n2 : Int) == 0) = false := by rw [beq_eq_false_iff_ne]; simp at l2; omega
            obtain ⟨bb, ob, rfl, hbb, g1, g2, sb1, sb2⟩ := CB.out.first Q.out
            have hn2 : 1 ≤ n2 := by simp at l2; omega
            have hn2i : (0 : Int) < (n2 : Int) := by omega
            obtain ⟨ba, oa, rfl, hba, c1, c2, sa1, sa2⟩ := CA.out.first Q.out
            have hn1 : 1 ≤ n1 := by simp at l1; omega
            have hn1i : (0 : Int) < (n1 : Int) := by omega
            have NA := hide CA.out.next
            have K1 := cut1 (some ⟨ba, oa, none⟩) n1 ca hn1
            have NB := hide CB.out.next
            have K2 := cut1 (some ⟨bb, ob, none⟩) n2 cb hn2
            clear D
            clear hv heq
            generalize hpx : p.1 = x at *
            generalize hpy : p.2 = y at *
            generalize hqu : q.1 = u at *
            generalize hqv : q.2 = v at *
            clear l1 l2
            go_wp2
            go_quiet (fail)
            have Q_1 : Hid (Below w.heap.size w (wr.drewN nq)) := hide (edb_drewN Q.out nq)
            have O_1 : Hid (EOwn (wr.drewN nq) w.heap.size A2 cap2 d) := hide O.out
            have hq_1 : w.heap.size ≤ (wr.drewN nq).heap.size := hqs
            have c1_1 : (wr.drewN nq).cell? ⟨ba, oa, none⟩ = some (.string x) := c1
            have c2_1 : (wr.drewN nq).cell? ⟨ba, oa + 1, none⟩ = some (.string y) := c2
            have g1_1 : (wr.drewN nq).cell? ⟨bb, ob, none⟩ = some (.string u) := g1
            have g2_1 : (wr.drewN nq).cell? ⟨bb, ob + 1, none⟩ = some (.string v) := g2
            clear Q O hqs c1 c2 g1 g2
            generalize wr.drewN nq = W1 at *
            go_wp2
            go_quiet (fail)
            have Q_2 : Hid (Below w.heap.size w (W1.drewN nq)) := hide (edb_drewN Q_1.out nq)
            have O_2 : Hid (EOwn (W1.drewN nq) w.heap.size A2 cap2 d) := hide O_1.out
            have hq_2 : w.heap.size ≤ (W1.drewN nq).heap.size := hq_1
            have c1_2 : (W1.drewN nq).cell? ⟨ba, oa, none⟩ = some (.string x) := c1_1
            have c2_2 : (W1.drewN nq).cell? ⟨ba, oa + 1, none⟩ = some (.string y) := c2_1
            have g1_2 : (W1.drewN nq).cell? ⟨bb, ob, none⟩ = some (.string u) := g1_1
            have g2_2 : (W1.drewN nq).cell? ⟨bb, ob + 1, none⟩ = some (.string v) := g2_1
            clear Q_1 O_1 hq_1 c1_1 c2_1 g1_1 g2_1
            generalize W1.drewN nq = W2 at *
            go_wp2
            go_quiet (fail)
            have Q_3 : Hid (Below w.heap.size w (W2.drewN nq)) := hide (edb_drewN Q_2.out nq)
            have O_3 : Hid (EOwn (W2.drewN nq) w.heap.size A2 cap2 d) := hide O_2.out
            have hq_3 : w.heap.size ≤ (W2.drewN nq).heap.size := hq_2
            have c1_3 : (W2.drewN nq).cell? ⟨ba, oa, none⟩ = some (.string x) := c1_2
            have c2_3 : (W2.drewN nq).cell? ⟨ba, oa + 1, none⟩ = some (.string y) := c2_2
            have g1_3 : (W2.drewN nq).cell? ⟨bb, ob, none⟩ = some (.string u) := g1_2
            have g2_3 : (W2.drewN nq).cell? ⟨bb, ob + 1, none⟩ = some (.string v) := g2_2
            clear Q_2 O_2 hq_2 c1_2 c2_2 g1_2 g2_2
            generalize W2.drewN nq = W3 at *
            go_wp2
            go_quiet (fail)
            have Q4 : Hid (Below w.heap.size w (W3.drewN nq)) := hide (edb_drewN Q_3.out nq)
            have O4 : Hid (EOwn (W3.drewN nq) w.heap.size A2 cap2 d) := hide O_3.out
            go_wp2
            exact ⟨⟨a1, b1, n1 - 1, n2 - 1, _, _, _, _, A2, cap2, d, rfl, rfl, rfl, NA, NB, DS, hide (by have := L.out; omega), O4, Q4⟩, by simp [lenV]; omega⟩
          · have DS : Hid ((d ++ [turnC p q]) ++ difM a1 b1 = difM a b) := hide (by rw [← D.out, difM_turn heq hv, List.append_assoc]; rfl)
            have r3 := eqS_no hv
            have t2 : decide (0 < n2) = true := decide_eq_true (by simp at l2; omega)
            have u2 : ((n2 : Int) == 0) = false := by rw [beq_eq_false_iff_ne]; simp at l2; omega
            obtain ⟨bb, ob, rfl, hbb, g1, g2, sb1, sb2⟩ := CB.out.first Q.out
            have hn2 : 1 ≤ n2 := by simp at l2; omega
            have hn2i : (0 : Int) < (n2 : Int) := by omega
            obtain ⟨ba, oa, rfl, hba, c1, c2, sa1, sa2⟩ := CA.out.first Q.out
            have hn1 : 1 ≤ n1 := by simp at l1; omega
            have hn1i : (0 : Int) < (n1 : Int) := by omega
            have NA := hide CA.out.next
            have K1 := cut1 (some ⟨ba, oa, none⟩) n1 ca hn1
            have NB := hide CB.out.next
            have K2 := cut1 (some ⟨bb, ob, none⟩) n2 cb hn2
            have KC := hide (And.intro ((Q.out.cell (p := ⟨ba, oa, none⟩) hba).symm.trans c1) (And.intro ((Q.out.cell (p := ⟨ba, oa + 1, none⟩) hba).symm.trans c2) (And.intro ((Q.out.cell (p := ⟨bb, ob, none⟩) hbb).symm.trans g1) ((Q.out.cell (p := ⟨bb, ob + 1, none⟩) hbb).symm.trans g2))))
            have hp1 : 0 < n1 := hn1
            have hp2 : 0 < n2 := hn2
            have EV := hide (edV_turn p q heq)
            clear D
            clear hv heq
            generalize hpx : p.1 = x at *
            generalize hpy : p.2 = y at *
            generalize hqu : q.1 = u at *
            generalize hqv : q.2 = v at *
            clear l1 l2
            go_wp2
            go_quiet (fail)
            have Q_1 : Hid (Below w.heap.size w (wr.drewN nq)) := hide (edb_drewN Q.out nq)
            have O_1 : Hid (EOwn (wr.drewN nq) w.heap.size A2 cap2 d) := hide O.out
            have hq_1 : w.heap.size ≤ (wr.drewN nq).heap.size := hqs
            have c1_1 : (wr.drewN nq).cell? ⟨ba, oa, none⟩ = some (.string x) := c1
            have c2_1 : (wr.drewN nq).cell? ⟨ba, oa + 1, none⟩ = some (.string y) := c2
            have g1_1 : (wr.drewN nq).cell? ⟨bb, ob, none⟩ = some (.string u) := g1
            have g2_1 : (wr.drewN nq).cell? ⟨bb, ob + 1, none⟩ = some (.string v) := g2
            clear Q O hqs c1 c2 g1 g2
            generalize wr.drewN nq = W1 at *
            go_wp2
            go_quiet (fail)
            have Q_2 : Hid (Below w.heap.size w (W1.drewN nq)) := hide (edb_drewN Q_1.out nq)
            have O_2 : Hid (EOwn (W1.drewN nq) w.heap.size A2 cap2 d) := hide O_1.out
            have hq_2 : w.heap.size ≤ (W1.drewN nq).heap.size := hq_1
            have c1_2 : (W1.drewN nq).cell? ⟨ba, oa, none⟩ = some (.string x) := c1_1
            have c2_2 : (W1.drewN nq).cell? ⟨ba, oa + 1, none⟩ = some (.string y) := c2_1
            have g1_2 : (W1.drewN nq).cell? ⟨bb, ob, none⟩ = some (.string u) := g1_1
            have g2_2 : (W1.drewN nq).cell? ⟨bb, ob + 1, none⟩ = some (.string v) := g2_1
            clear Q_1 O_1 hq_1 c1_1 c2_1 g1_1 g2_1
            generalize W1.drewN nq = W2 at *
            go_wp2
            go_quiet (fail)
            have Q_3 : Hid (Below w.heap.size w (W2.drewN nq)) := hide (edb_drewN Q_2.out nq)
            have O_3 : Hid (EOwn (W2.drewN nq) w.heap.size A2 cap2 d) := hide O_2.out
            have hq_3 : w.heap.size ≤ (W2.drewN nq).heap.size := hq_2
            have c1_3 : (W2.drewN nq).cell? ⟨ba, oa, none⟩ = some (.string x) := c1_2
            have c2_3 : (W2.drewN nq).cell? ⟨ba, oa + 1, none⟩ = some (.string y) := c2_2
            have g1_3 : (W2.drewN nq).cell? ⟨bb, ob, none⟩ = some (.string u) := g1_2
            have g2_3 : (W2.drewN nq).cell? ⟨bb, ob + 1, none⟩ = some (.string v) := g2_2
            clear Q_2 O_2 hq_2 c1_2 c2_2 g1_2 g2_2
            generalize W2.drewN nq = W3 at *
            go_wp2
            have O4 : Hid (EOwn W3.drew w.heap.size A2 cap2 d) := hide O_3.out.drew
            have Q4 : Hid (Below w.heap.size w W3.drew) := hide Q_3.out.drew
            have hq4 : w.heap.size ≤ W3.drew.heap.size := hq_3
            have CE : Hid ((W3.drew.alloc (.cells #[.iface 121 (.agg #[.string x, .string y, .string u, .string v])] 74)).cell? ⟨W3.heap.size, 0, none⟩ = some (edV (turnC p q))) := hide (by rw [EV.out]; exact one_cell _ _ _ rfl)
            have C0 := hide (And.intro c1_3 (And.intro c2_3 (And.intro g1_3 g2_3)))
            go_region_held3 (fun w' => w'.cell? ⟨ba, oa, none⟩ = some (.string x) ∧ w'.cell? ⟨ba, oa + 1, none⟩ = some (.string y) ∧ w'.cell? ⟨bb, ob, none⟩ = some (.string u) ∧ w'.cell? ⟨bb, ob + 1, none⟩ = some (.string v)) (first | go_keep | exact ⟨cellB B3.out hba KC.out.1, cellB B3.out hba KC.out.2.1, cellB B3.out hbb KC.out.2.2.1, cellB B3.out hbb KC.out.2.2.2⟩)
              (first | (refine step_appE (n := d.length) (A := A2) (cap := cap2) (g := W3.heap.size) (l := d) (c := turnC p q) 71 Tryz.underlying71 rfl (.tmp 23) (.tmp 32) rfl (by simp [Act.eval]) (by simp [Act.eval]) rfl (O4.out.alloc _) CE.out (Nat.le_trans hq4 (by simp)) (by have := L.out; omega) ?_; intro A3 cap3 w3 own3 g3 r3; have B3 := hide (Q4.out.trans (((Below.refl _ W3.drew).alloc hq4 (.cells #[.iface 121 (.agg #[.string x, .string y, .string u, .string v])] 74)).trans ((O4.out.alloc (.cells #[.iface 121 (.agg #[.string x, .string y, .string u, .string v])] 74)).grownBelow (by rw [rowOf_own]; exact g3) (Nat.le_trans hq4 (by simp))))); have O3 := hide own3; clear own3 g3 r3))
            go_wp2
            go_quiet (fail)
            have Q5 : Hid (Below w.heap.size w (w3.drewN nq)) := hide (edb_drewN B3.out nq)
            have O5 : Hid (EOwn (w3.drewN nq) w.heap.size A3 cap3 (d ++ [turnC p q])) := hide O3.out
            go_wp2
            exact ⟨⟨a1, b1, n1 - 1, n2 - 1, _, _, _, _, A3, cap3, d ++ [turnC p q], rfl, rfl, by simp, NA, NB, DS, hide (by have := L.out; simp; omega), O5, Q5⟩, by simp [lenV]; omega⟩
        · have DS : Hid ((d ++ [gainC q]) ++ difM (p :: a1) b1 = difM a b) := hide (by rw [← D.out, difM_gt hgt, List.append_assoc]; rfl)
          have r1 : Op.bytesLess p.1.toList q.1.toList = false := ltB_asymm hgt
          have r2 : Op.bytesLess q.1.toList p.1.toList = true := hgt
          have t2 : decide (0 < n2) = true := decide_eq_true (by simp at l2; omega)
          have u2 : ((n2 : Int) == 0) = false := by rw [beq_eq_false_iff_ne]; simp at l2; omega
          obtain ⟨bb, ob, rfl, hbb, g1, g2, sb1, sb2⟩ := CB.out.first Q.out
          have hn2 : 1 ≤ n2 := by simp at l2; omega
          have hn2i : (0 : Int) < (n2 : Int) := by omega
          obtain ⟨ba, oa, rfl, hba, c1, c2, sa1, sa2⟩ := CA.out.first Q.out
          have hn1 : 1 ≤ n1 := by simp at l1; omega
          have hn1i : (0 : Int) < (n1 : Int) := by omega
          have NB := hide CB.out.next
          have K2 := cut1 (some ⟨bb, ob, none⟩) n2 cb hn2
          have EV := hide (edV_gain q)
          clear D
          clear hgt
          generalize hpx : p.1 = x at *
          generalize hpy : p.2 = y at *
          generalize hqu : q.1 = u at *
          generalize hqv : q.2 = v at *
          clear l1 l2
          go_wp2
          go_quiet (fail)
          have Q_1 : Hid (Below w.heap.size w (wr.drewN nq)) := hide (edb_drewN Q.out nq)
          have O_1 : Hid (EOwn (wr.drewN nq) w.heap.size A2 cap2 d) := hide O.out
          have hq_1 : w.heap.size ≤ (wr.drewN nq).heap.size := hqs
          have c1_1 : (wr.drewN nq).cell? ⟨ba, oa, none⟩ = some (.string x) := c1
          have c2_1 : (wr.drewN nq).cell? ⟨ba, oa + 1, none⟩ = some (.string y) := c2
          have g1_1 : (wr.drewN nq).cell? ⟨bb, ob, none⟩ = some (.string u) := g1
          have g2_1 : (wr.drewN nq).cell? ⟨bb, ob + 1, none⟩ = some (.string v) := g2
          clear Q O hqs c1 c2 g1 g2
          generalize wr.drewN nq = W1 at *
          go_wp2
          go_quiet (fail)
          have Q_2 : Hid (Below w.heap.size w (W1.drewN nq)) := hide (edb_drewN Q_1.out nq)
          have O_2 : Hid (EOwn (W1.drewN nq) w.heap.size A2 cap2 d) := hide O_1.out
          have hq_2 : w.heap.size ≤ (W1.drewN nq).heap.size := hq_1
          have c1_2 : (W1.drewN nq).cell? ⟨ba, oa, none⟩ = some (.string x) := c1_1
          have c2_2 : (W1.drewN nq).cell? ⟨ba, oa + 1, none⟩ = some (.string y) := c2_1
          have g1_2 : (W1.drewN nq).cell? ⟨bb, ob, none⟩ = some (.string u) := g1_1
          have g2_2 : (W1.drewN nq).cell? ⟨bb, ob + 1, none⟩ = some (.string v) := g2_1
          clear Q_1 O_1 hq_1 c1_1 c2_1 g1_1 g2_1
          generalize W1.drewN nq = W2 at *
          go_wp2_with (at_builtin; (refine wpList_appE (l := d) (c := gainC q) 71 Tryz.underlying71 rfl (.tmp 83) (.tmp 89) rfl rfl rfl rfl (O_2.out.alloc _) (by rw [EV.out]; exact one_cell _ _ _ (by simp)) (Nat.le_trans hq_2 (by simp)) (by have := L.out; omega) ?_; intro A3 cap3 w3 own3 g3 r3; have B3 := hide (Q_2.out.trans (((Below.refl _ _).alloc hq_2 (.cells #[.iface 119 (.agg #[.string u, .string v])] 74)).trans ((O_2.out.alloc (.cells #[.iface 119 (.agg #[.string u, .string v])] 74)).grownBelow (by rw [rowOf_own]; exact g3) (Nat.le_trans hq_2 (by simp))))); have O3 := hide own3; clear own3 g3 r3))
          have L3 : Hid ((d ++ [gainC q]).length + n1 + (n2 - 1) ≤ na + nb) := hide (by have := L.out; simp; omega)
          exact ⟨⟨_, b1, n1, n2 - 1, _, _, _, _, A3, cap3, d ++ [gainC q], rfl, rfl, by simp, CA, NB, DS, hide (by have := L3.out; omega), O3, B3⟩, by simp [lenV]; omega⟩
end Go.Proofs.YtaofemdhgfejjaaGreatDoor
/-
  What spec.l6Diff answers.
-/
namespace Go.Proofs.YtaofemdhgfejjaaGreatDoor
open Go.RowKit

theorem drop_cons {l : List Pr} {i : Nat} (h : i < l.length) : l.drop i = l[i] :: l.drop (i + 1) := List.drop_eq_getElem_cons h
theorem dif_end {a b : List Pr} {i k : Nat} (ha : a.length ≤ i) (hb : b.length ≤ k) : difM (a.drop i) (b.drop k) = [] := by rw [List.drop_of_length_le ha, List.drop_of_length_le hb, difM_nil]
theorem dif_loss {a b : List Pr} {i k : Nat} (hi : i < a.length) (h : ∀ (hk : k < b.length), ltB a[i].1 b[k].1 = true) : difM (a.drop i) (b.drop k) = lossC a[i] :: difM (a.drop (i + 1)) (b.drop k) := by
  rw [drop_cons hi]
  by_cases hk : k < b.length
  · rw [drop_cons hk, difM_lt (h hk)]
  · rw [List.drop_of_length_le (l := b) (by omega), difM_a]
theorem dif_gain {a b : List Pr} {i k : Nat} (hk : k < b.length) (h : ∀ (hi : i < a.length), ltB b[k].1 a[i].1 = true) : difM (a.drop i) (b.drop k) = gainC b[k] :: difM (a.drop i) (b.drop (k + 1)) := by
  rw [drop_cons hk]
  by_cases hi : i < a.length
  · rw [drop_cons hi, difM_gt (h hi)]
  · rw [List.drop_of_length_le (l := a) (by omega), difM_b]
theorem dif_same {a b : List Pr} {i k : Nat} (hi : i < a.length) (hk : k < b.length) (h : a[i].1 = b[k].1) (h' : a[i].2 = b[k].2) : difM (a.drop i) (b.drop k) = difM (a.drop (i + 1)) (b.drop (k + 1)) := by
  rw [drop_cons hi, drop_cons hk, difM_same h h']
theorem dif_turn {a b : List Pr} {i k : Nat} (hi : i < a.length) (hk : k < b.length) (h : a[i].1 = b[k].1) (h' : ¬ a[i].2 = b[k].2) : difM (a.drop i) (b.drop k) = turnC a[i] b[k] :: difM (a.drop (i + 1)) (b.drop (k + 1)) := by
  rw [drop_cons hi, drop_cons hk, difM_turn h h']

theorem below_drewN {B : Nat} {w w' : World} (h : Below B w w') (n : Nat) : Below B w (w'.drewN n) := h.trans (Quiet.below ⟨n, rfl⟩ _)
/-- the box of the change that a round makes -/
def Box (w : World) (g : Nat) (c : Ch) : Prop := w.heap[g]? = some (.cells (arrC c) 45 (0, 0))
theorem Box.cells {w : World} {g : Nat} {c : Ch} (h : Box w g c) : At5 w g 0 c := ⟨cell_of_row _ g 0 _ _ (0, 0) h, cell_of_row _ g 1 _ _ (0, 0) h, cell_of_row _ g 2 _ _ (0, 0) h, cell_of_row _ g 3 _ _ (0, 0) h, cell_of_row _ g 4 _ _ (0, 0) h⟩
theorem Box.frozen {w : World} {g : Nat} {c : Ch} (h : Box w g c) (j : Nat) : w.frozen? ⟨g, j, none⟩ = false := by simp [World.frozen?, show w.heap[g]? = _ from h]
theorem box_set {w : World} {g : Nat} {cs : Array Value} {t : TypeId} (h : w.heap[g]? = some (.cells cs t (0, 0))) (j : Nat) (u : Value) : (w.setCell ⟨g, j, none⟩ u).heap[g]? = some (.cells (cs.setIfInBounds j u) t (0, 0)) := by
  have hlt := lt_of_block h
  have h' : w.heap[g] = .cells cs t (0, 0) := by simpa [Array.getElem?_eq_getElem hlt] using h
  show (w.heap.modify g _)[g]? = _
  rw [Array.getElem?_eq_getElem (by simpa using hlt), Array.getElem_modify_self, h']
  rfl
theorem Box.five {w : World} {g : Nat} {c : Ch} (h : Box w g c) (x y z : ByteArray) (p q : Bool) : Box (((((w.setCell ⟨g, 0, none⟩ (.string x)).setCell ⟨g, 1, none⟩ (.string y)).setCell ⟨g, 2, none⟩ (.string z)).setCell ⟨g, 3, none⟩ (.bool p)).setCell ⟨g, 4, none⟩ (.bool q)) g (x, y, z, p, q) :=
  box_set (box_set (box_set (box_set (box_set h 0 _) 1 _) 2 _) 3 _) 4 _
end Go.Proofs.YtaofemdhgfejjaaGreatDoor
/-
  What the edits tell back; what impl.DiffOf and spec.DiffOf answer.
-/
namespace Go.Proofs.YtaofemdhgfejjaaGreatDoor
open Go.RowKit

set_option maxRecDepth 100000 in
set_option maxHeartbeats 1000000 in
theorem gainChange_any (x n : ByteArray) (w : World) :
    Calls Tryz.prog 132 #[.agg #[.string x, .string n]] w fun e w' => e = .returned (.agg #[.string x, .string ByteArray.empty, .string n, .bool false, .bool true]) ∧ Below w.heap.size w w' := by
  go_enter Tryz.func132, Tryz.ntmps132
  go_wp2
  exact bodyPost_ret (v := .agg #[.string x, .string ByteArray.empty, .string n, .bool false, .bool true]) (by simp [results, Tryz.results132, go_sem]; rfl) rfl ⟨rfl, ((Below.refl _ _).alloc (Nat.le_refl _) _).alloc (by simp) _⟩
theorem method_gain (x n : ByteArray) (w : World) : (method 314 119 (.agg #[.string x, .string n]) "loop.example/g00652/impl.change").run Tryz.prog w = .ok (132, .agg #[.string x, .string n]) w := by kernel_rfl
set_option maxRecDepth 100000 in
set_option maxHeartbeats 1000000 in
theorem lossChange_any (x o : ByteArray) (w : World) :
    Calls Tryz.prog 131 #[.agg #[.string x, .string o]] w fun e w' => e = .returned (.agg #[.string x, .string o, .string ByteArray.empty, .bool true, .bool false]) ∧ Below w.heap.size w w' := by
  go_enter Tryz.func131, Tryz.ntmps131
  go_wp2
  exact bodyPost_ret (v := .agg #[.string x, .string o, .string ByteArray.empty, .bool true, .bool false]) (by simp [results, Tryz.results131, go_sem]; rfl) rfl ⟨rfl, ((Below.refl _ _).alloc (Nat.le_refl _) _).alloc (by simp) _⟩
theorem method_loss (x o : ByteArray) (w : World) : (method 314 117 (.agg #[.string x, .string o]) "loop.example/g00652/impl.change").run Tryz.prog w = .ok (131, .agg #[.string x, .string o]) w := by kernel_rfl
set_option maxRecDepth 100000 in
set_option maxHeartbeats 1000000 in
theorem turnChange_any (x' o x n : ByteArray) (w : World) :
    Calls Tryz.prog 133 #[.agg #[.string x', .string o, .string x, .string n]] w fun e w' => e = .returned (.agg #[.string x, .string o, .string n, .bool true, .bool true]) ∧ Below w.heap.size w w' := by
  go_enter Tryz.func133, Tryz.ntmps133
  go_wp2
  exact bodyPost_ret (v := .agg #[.string x, .string o, .string n, .bool true, .bool true]) (by simp [results, Tryz.results133, go_sem]) rfl ⟨rfl, ((Below.refl _ _).alloc (Nat.le_refl _) _).alloc (by simp) _⟩
theorem method_turn (x' o x n : ByteArray) (w : World) : (method 314 121 (.agg #[.string x', .string o, .string x, .string n]) "loop.example/g00652/impl.change").run Tryz.prog w = .ok (133, .agg #[.string x', .string o, .string x, .string n]) w := by kernel_rfl
set_option maxRecDepth 100000 in
set_option maxHeartbeats 1000000 in
theorem idleChange_any (x : ByteArray) (w : World) :
    Calls Tryz.prog 134 #[.agg #[.string x]] w fun e w' => e = .returned (.agg #[.string x, .string ByteArray.empty, .string ByteArray.empty, .bool false, .bool false]) ∧ Below w.heap.size w w' := by
  go_enter Tryz.func134, Tryz.ntmps134
  go_wp2
  exact bodyPost_ret (v := .agg #[.string x, .string ByteArray.empty, .string ByteArray.empty, .bool false, .bool false]) (by simp [results, Tryz.results134, go_sem]; rfl) rfl ⟨rfl, ((Below.refl _ _).alloc (Nat.le_refl _) _).alloc (by simp) _⟩
theorem method_idle (x : ByteArray) (w : World) : (method 314 123 (.agg #[.string x]) "loop.example/g00652/impl.change").run Tryz.prog w = .ok (134, .agg #[.string x]) w := by kernel_rfl

/-- what an edit tells back of its change -/
def normC (c : Ch) : Ch := (c.1, if c.2.2.2.1 then c.2.1 else ByteArray.empty, if c.2.2.2.2 then c.2.2.1 else ByteArray.empty, c.2.2.2.1, c.2.2.2.2)
theorem norm_loss (p : Pr) : normC (lossC p) = lossC p := rfl
theorem norm_gain (p : Pr) : normC (gainC p) = gainC p := rfl
theorem norm_turn (p q : Pr) : normC (turnC p q) = turnC p q := rfl
theorem norm_dif : ∀ (n : Nat) (a b : List Pr), a.length + b.length ≤ n → ∀ c ∈ difM a b, normC c = c
  | n, [], [], _, c, h => by rw [difM_nil] at h; cases h
  | n, p :: a, [], hn, c, h => by
    rw [difM_a] at h
    rcases List.mem_cons.1 h with rfl | h
    · rfl
    · exact norm_dif (n - 1) a [] (by simp at hn ⊢; omega) c h
  | n, [], q :: b, hn, c, h => by
    rw [difM_b] at h
    rcases List.mem_cons.1 h with rfl | h
    · rfl
    · exact norm_dif (n - 1) [] b (by simp at hn ⊢; omega) c h
  | n, p :: a, q :: b, hn, c, h => by
    rcases ltB_tri p.1 q.1 with g | g | g
    · rw [difM_lt g] at h
      rcases List.mem_cons.1 h with rfl | h
      · rfl
      · exact norm_dif (n - 1) a (q :: b) (by simp at hn ⊢; omega) c h
    · by_cases g' : p.2 = q.2
      · rw [difM_same g g'] at h
        exact norm_dif (n - 1) a b (by simp at hn ⊢; omega) c h
      · rw [difM_turn g g'] at h
        rcases List.mem_cons.1 h with rfl | h
        · rfl
        · exact norm_dif (n - 1) a b (by simp at hn ⊢; omega) c h
    · rw [difM_gt g] at h
      rcases List.mem_cons.1 h with rfl | h
      · rfl
      · exact norm_dif (n - 1) (p :: a) b (by simp at hn ⊢; omega) c h
termination_by _ a b => a.length + b.length
theorem lens_tail {p : Pr} {l : List Pr} (h : lens (p :: l)) : lens l := fun i hi => by have := h (i + 1) (by simp; omega); simpa using this
theorem hlens_cons {c : Ch} {l : List Ch} (hc : cC c) (h : hlens l) : hlens (c :: l) := by
  intro i hi
  cases i with
  | zero => exact hc
  | succ i => exact h i (by simpa using hi)
/-- the texts of a change between two maps are theirs -/
theorem cC_dif : ∀ (n : Nat) (a b : List Pr), a.length + b.length ≤ n → lens a → lens b → hlens (difM a b)
  | n, [], [], _, _, _ => by rw [difM_nil]; exact hlens_nil
  | n, p :: a, [], hn, ha, hb => by
    rw [difM_a]
    exact hlens_cons ⟨(ha 0 (by simp)).1, (ha 0 (by simp)).2, by simp [lossC, maxLen]⟩ (cC_dif (n - 1) a [] (by simp at hn ⊢; omega) (lens_tail ha) hb)
  | n, [], q :: b, hn, ha, hb => by
    rw [difM_b]
    exact hlens_cons ⟨(hb 0 (by simp)).1, by simp [gainC, maxLen], (hb 0 (by simp)).2⟩ (cC_dif (n - 1) [] b (by simp at hn ⊢; omega) ha (lens_tail hb))
  | n, p :: a, q :: b, hn, ha, hb => by
    rcases ltB_tri p.1 q.1 with g | g | g
    · rw [difM_lt g]
      exact hlens_cons ⟨(ha 0 (by simp)).1, (ha 0 (by simp)).2, by simp [lossC, maxLen]⟩ (cC_dif (n - 1) a (q :: b) (by simp at hn ⊢; omega) (lens_tail ha) hb)
    · by_cases g' : p.2 = q.2
      · rw [difM_same g g']
        exact cC_dif (n - 1) a b (by simp at hn ⊢; omega) (lens_tail ha) (lens_tail hb)
      · rw [difM_turn g g']
        exact hlens_cons ⟨(hb 0 (by simp)).1, (ha 0 (by simp)).2, (hb 0 (by simp)).2⟩ (cC_dif (n - 1) a b (by simp at hn ⊢; omega) (lens_tail ha) (lens_tail hb))
    · rw [difM_gt g]
      exact hlens_cons ⟨(hb 0 (by simp)).1, by simp [gainC, maxLen], (hb 0 (by simp)).2⟩ (cC_dif (n - 1) (p :: a) b (by simp at hn ⊢; omega) ha (lens_tail hb))
termination_by _ a b => a.length + b.length

noncomputable def diffB (a b : List Pr) : Bool := mapB a && mapB b
noncomputable def diffL (a b : List Pr) : List Ch := if diffB a b = true then difM a b else []
/-- a list of changes of the call's own, and whether there is one -/
def RetChB (B : Nat) (l : List Ch) (b : Bool) (w : World) (e : Ending) (w' : World) : Prop := ∃ A cap, l.length ≤ cap ∧ e = .returned (.tuple #[.slice A l.length cap, .bool b]) ∧ HOwn w' B A cap l ∧ Below B w w'
theorem retChB_no {B : Nat} {l : List Ch} {b : Bool} {w w' : World} (hl : l = []) (hb : b = false) (h : Below B w w') : RetChB B l b w (.returned (.tuple #[.slice none 0 0, .bool false])) w' := by
  subst hl hb; exact ⟨none, 0, by simp, rfl, HOwn.nil _ _, h⟩
theorem diffL_no {a b : List Pr} (h : diffB a b = false) : diffL a b = [] := by unfold diffL; rw [h]; rfl
theorem diffL_yes {a b : List Pr} (h : diffB a b = true) : diffL a b = difM a b := by unfold diffL; rw [if_pos h]
theorem diffB_1 {a b : List Pr} (h : mapB a = false) : diffB a b = false := by unfold diffB; rw [h]; rfl
theorem diffB_2 {a b : List Pr} (h : mapB b = false) : diffB a b = false := by unfold diffB; rw [h, Bool.and_false]
theorem diffB_yes {a b : List Pr} (h : mapB a = true) (h' : mapB b = true) : diffB a b = true := by unfold diffB; rw [h, h']; rfl

set_option maxRecDepth 100000 in
set_option maxHeartbeats 4000000 in
theorem implDiffOf_any (A : Option Addr) (a : List Pr) (cap : Nat) (A' : Option Addr) (b : List Pr) (cap' : Nat) (w : World) (hla : a.length ≤ maxLen) (hlb : b.length ≤ maxLen) (hca : a.length ≤ cap) (hcb : b.length ≤ cap') (hin : PIn w w.heap.size A a) (hin' : PIn w w.heap.size A' b) :
    Calls Tryz.prog 19 #[.slice A a.length cap, .slice A' b.length cap'] w (RetChB w.heap.size (diffL a b) (diffB a b) w) := by
  cases ha : mapB a
  · have Z := hide (diffB_1 (b := b) ha)
    go_enter Tryz.func19, Tryz.ntmps19
    go_wp2_with fail
    refine (implMapOk_any A a cap _ hla hin).mono ?_
    rintro e w1 ⟨rfl, q1⟩
    rw [ha]
    go_wp2
    go_ret2
    exact retChB_no (diffL_no Z.out) Z.out q1
  · cases hb : mapB b
    · have Z := hide (diffB_2 (a := a) hb)
      go_enter Tryz.func19, Tryz.ntmps19
      go_wp2_with fail
      refine (implMapOk_any A a cap _ hla hin).mono ?_
      rintro e w1 ⟨rfl, q1⟩
      rw [ha]
      have in1 := (hin'.below q1).more q1.size
      go_wp2_with fail
      refine (implMapOk_any A' b cap' _ hlb in1).mono ?_
      rintro e w2 ⟨rfl, q2⟩
      rw [hb]
      have B2 := hide (q1.trans (q2.mono q1.size))
      clear q1 q2 in1
      go_wp2
      go_ret2
      exact retChB_no (diffL_no Z.out) Z.out B2.out
    · have Z := hide (diffB_yes ha hb)
      have h40 := (mapB_iff.1 ha).1
      have h41 := (mapB_iff.1 hb).1
      have NM := hide (norm_dif _ a b (Nat.le_refl _))
      have CD := hide (cC_dif _ a b (Nat.le_refl _) hin.1 hin'.1)
      have DL := hide (difM_len _ a b (Nat.le_refl _))
      have hme1 := method_gain
      have hme2 := method_loss
      have hme3 := method_turn
      have hme4 := method_idle
      go_enter Tryz.func19, Tryz.ntmps19
      go_wp2_with fail
      refine (implMapOk_any A a cap _ hla hin).mono ?_
      rintro e w1 ⟨rfl, q1⟩
      rw [ha]
      have in1 := (hin'.below q1).more q1.size
      go_wp2_with fail
      refine (implMapOk_any A' b cap' _ hlb in1).mono ?_
      rintro e w2 ⟨rfl, q2⟩
      rw [hb]
      have B2 := hide (q1.trans (q2.mono q1.size))
      clear q1 q2 in1
      go_wp2_with fail
      refine (editsBetween_any A a cap A' b cap' _ (by omega) (by omega) hca hcb ((hin.below B2.out).more B2.out.size) ((hin'.below B2.out).more B2.out.size)).mono ?_
      rintro e w3 ⟨A3, cap3, hc3, rfl, own3, b3⟩
      have B3 := hide (B2.out.trans (b3.mono B2.out.size))
      have E3 := hide own3
      have hdl : (difM a b).length ≤ 80 := by have := DL.out; omega
      have OZ := hide (HOwn.nil w3 w3.heap.size)
      have hdz := hide (show difM a b = difM a b from rfl)
      clear b3 own3 DL
      generalize hgd : difM a b = D at NM CD E3 hc3 hdl ⊢
      generalize hn : D.length = n at *
      have HN := hide hn
      have HD := hide hgd
      clear hn hgd hdz
      go_wp2
      go_loopw [6, 21] (fun ov iv wr => ∃ (k : Nat) (A2 : Option Addr) (cap2 : Nat) (d : List Ch), k ≤ n ∧ iv = .int .i64 k ∧ ov = .slice A2 d.length cap2 ∧ Hid (d = D.take k) ∧ Hid (d.length = k) ∧ Hid (HOwn wr w3.heap.size A2 cap2 d) ∧ Hid (Below w3.heap.size w3 wr)) (fun _ i _ => n - (intOf i).toNat)
      case atStart => exact ⟨0, _, 0, [], Nat.zero_le _, rfl, rfl, rfl, rfl, OZ, hide (Below.refl _ _)⟩
      case round =>
        clear OZ
        obtain ⟨k, A2, cap2, d, hk, rfl, rfl, HT, L, O, Q⟩ := hrel
        have hqs := Q.out.size
        by_cases hlt : k < n
        · have hkl : k < D.length := by rw [HN.out]; omega
          obtain ⟨g, rfl, hgl, hcell⟩ := (E3.out.below Q.out).cell hkl
          have sz := hide (CD.out k hkl)
          have DS : Hid (d ++ [D[k]'hkl] = D.take (k + 1)) := hide (by rw [HT.out, List.take_append_getElem])
          have NK := hide (NM.out _ (List.getElem_mem hkl))
          have L3 : Hid ((D.take (k + 1)).length = k + 1) := hide (by rw [List.length_take]; omega)
          have hki : (k : Int) < (n : Int) := by omega
          clear HT
          generalize D[k]'hkl = c at sz DS NK hcell
          obtain ⟨x, o, m, p, q⟩ := c
          have hw0 : w.heap.size ≤ w3.heap.size := B3.out.size
          rcases p with _ | _ <;> rcases q with _ | _
          · have NO := congrArg (fun z : Ch => z.2.1) NK.out
            have NN := congrArg (fun z : Ch => z.2.2.1) NK.out
            simp only [normC, Bool.false_eq_true, if_false] at NO NN
            subst NO
            subst NN
            simp only [edV, editV] at hcell
            clear NK
            go_wp2_with fail
            refine (idleChange_any x _).mono ?_
            rintro e w5 ⟨rfl, b5⟩
            have O5 := hide (O.out.below b5)
            have B5 := hide (Q.out.trans (b5.mono hqs))
            have hq5 := B5.out.size
            clear b5 O Q hcell
            go_wp2_with (at_builtin; (refine wpList_appC (l := d) (l' := [(x, ByteArray.empty, ByteArray.empty, false, false)]) 40 Tryz.underlying40 rfl (.tmp 25) (.tmp 28) rfl rfl rfl rfl rfl (O5.out.alloc _) (HIn.oneAt (x, ByteArray.empty, ByteArray.empty, false, false) sz.out _ (by simp)) (by simp) (Nat.le_trans hq5 (by simp)) (by have := L.out; simp; omega) ?_; intro A6 cap6 w6 own6 g6 r6; have B6 := hide (B5.out.trans (((Below.refl _ _).alloc hq5 (.cells (arrC (x, ByteArray.empty, ByteArray.empty, false, false)) 45)).trans ((O5.out.alloc (.cells (arrC (x, ByteArray.empty, ByteArray.empty, false, false)) 45)).grownBelow (by rw [rowOf_own]; exact g6) (Nat.le_trans hq5 (by simp))))); have O6 := hide own6; clear own6 g6 r6))
            rw [DS.out] at O6
            exact ⟨⟨k + 1, A6, cap6, D.take (k + 1), by omega, by go_num, by rw [← DS.out]; simp, rfl, L3, O6, B6⟩, by simp [intOf]; omega⟩
          · have NO := congrArg (fun z : Ch => z.2.1) NK.out
            have NN := congrArg (fun z : Ch => z.2.2.1) NK.out
            simp only [normC, if_true, Bool.false_eq_true, if_false] at NO NN
            subst NO
            simp only [edV, editV] at hcell
            clear NK
            go_wp2_with fail
            refine (gainChange_any x m _).mono ?_
            rintro e w5 ⟨rfl, b5⟩
            have O5 := hide (O.out.below b5)
            have B5 := hide (Q.out.trans (b5.mono hqs))
            have hq5 := B5.out.size
            clear b5 O Q hcell
            go_wp2_with (at_builtin; (refine wpList_appC (l := d) (l' := [(x, ByteArray.empty, m, false, true)]) 40 Tryz.underlying40 rfl (.tmp 25) (.tmp 28) rfl rfl rfl rfl rfl (O5.out.alloc _) (HIn.oneAt (x, ByteArray.empty, m, false, true) sz.out _ (by simp)) (by simp) (Nat.le_trans hq5 (by simp)) (by have := L.out; simp; omega) ?_; intro A6 cap6 w6 own6 g6 r6; have B6 := hide (B5.out.trans (((Below.refl _ _).alloc hq5 (.cells (arrC (x, ByteArray.empty, m, false, true)) 45)).trans ((O5.out.alloc (.cells (arrC (x, ByteArray.empty, m, false, true)) 45)).grownBelow (by rw [rowOf_own]; exact g6) (Nat.le_trans hq5 (by simp))))); have O6 := hide own6; clear own6 g6 r6))
            rw [DS.out] at O6
            exact ⟨⟨k + 1, A6, cap6, D.take (k + 1), by omega, by go_num, by rw [← DS.out]; simp, rfl, L3, O6, B6⟩, by simp [intOf]; omega⟩
          · have NO := congrArg (fun z : Ch => z.2.1) NK.out
            have NN := congrArg (fun z : Ch => z.2.2.1) NK.out
            simp only [normC, if_true, Bool.false_eq_true, if_false] at NO NN
            subst NN
            simp only [edV, editV] at hcell
            clear NK
            go_wp2_with fail
            refine (lossChange_any x o _).mono ?_
            rintro e w5 ⟨rfl, b5⟩
            have O5 := hide (O.out.below b5)
            have B5 := hide (Q.out.trans (b5.mono hqs))
            have hq5 := B5.out.size
            clear b5 O Q hcell
            go_wp2_with (at_builtin; (refine wpList_appC (l := d) (l' := [(x, o, ByteArray.empty, true, false)]) 40 Tryz.underlying40 rfl (.tmp 25) (.tmp 28) rfl rfl rfl rfl rfl (O5.out.alloc _) (HIn.oneAt (x, o, ByteArray.empty, true, false) sz.out _ (by simp)) (by simp) (Nat.le_trans hq5 (by simp)) (by have := L.out; simp; omega) ?_; intro A6 cap6 w6 own6 g6 r6; have B6 := hide (B5.out.trans (((Below.refl _ _).alloc hq5 (.cells (arrC (x, o, ByteArray.empty, true, false)) 45)).trans ((O5.out.alloc (.cells (arrC (x, o, ByteArray.empty, true, false)) 45)).grownBelow (by rw [rowOf_own]; exact g6) (Nat.le_trans hq5 (by simp))))); have O6 := hide own6; clear own6 g6 r6))
            rw [DS.out] at O6
            exact ⟨⟨k + 1, A6, cap6, D.take (k + 1), by omega, by go_num, by rw [← DS.out]; simp, rfl, L3, O6, B6⟩, by simp [intOf]; omega⟩
          · have NO := congrArg (fun z : Ch => z.2.1) NK.out
            have NN := congrArg (fun z : Ch => z.2.2.1) NK.out
            simp only [normC, if_true] at NO NN
            simp only [edV, editV] at hcell
            clear NK
            go_wp2_with fail
            refine (turnChange_any x o x m _).mono ?_
            rintro e w5 ⟨rfl, b5⟩
            have O5 := hide (O.out.below b5)
            have B5 := hide (Q.out.trans (b5.mono hqs))
            have hq5 := B5.out.size
            clear b5 O Q hcell
            go_wp2_with (at_builtin; (refine wpList_appC (l := d) (l' := [(x, o, m, true, true)]) 40 Tryz.underlying40 rfl (.tmp 25) (.tmp 28) rfl rfl rfl rfl rfl (O5.out.alloc _) (HIn.oneAt (x, o, m, true, true) sz.out _ (by simp)) (by simp) (Nat.le_trans hq5 (by simp)) (by have := L.out; simp; omega) ?_; intro A6 cap6 w6 own6 g6 r6; have B6 := hide (B5.out.trans (((Below.refl _ _).alloc hq5 (.cells (arrC (x, o, m, true, true)) 45)).trans ((O5.out.alloc (.cells (arrC (x, o, m, true, true)) 45)).grownBelow (by rw [rowOf_own]; exact g6) (Nat.le_trans hq5 (by simp))))); have O6 := hide own6; clear own6 g6 r6))
            rw [DS.out] at O6
            exact ⟨⟨k + 1, A6, cap6, D.take (k + 1), by omega, by go_num, by rw [← DS.out]; simp, rfl, L3, O6, B6⟩, by simp [intOf]; omega⟩
        · have E : Hid (d = D) := hide (by rw [HT.out, show k = D.length by rw [HN.out]; omega, List.take_length])
          have hgt : ¬ ((k : Int) < (n : Int)) := by omega
          have B6 := hide (B3.out.trans (Q.out.mono B3.out.size))
          have O6 := hide (O.out.more B3.out.size)
          clear hlt HT L O Q
          go_wp2
          go_ret2
          refine ⟨A2, cap2, ?_, ?_, ?_, B6.out⟩
          · rw [diffL_yes Z.out, HD.out, ← E.out]; exact O6.out.cap_le
          · rw [diffL_yes Z.out, Z.out, HD.out, ← E.out]; rfl
          · rw [diffL_yes Z.out, HD.out, ← E.out]; exact O6.out
end Go.Proofs.YtaofemdhgfejjaaGreatDoor
/-
  How many changes lead from one right map to another one.
-/
namespace Go.Proofs.YtaofemdhgfejjaaGreatDoor
open Go.RowKit
theorem diffL_len (a b : List Pr) : (diffL a b).length ≤ 80 := by
  cases h : diffB a b
  · rw [diffL_no h]; simp
  · rw [diffL_yes h]
    unfold diffB at h
    rw [Bool.and_eq_true] at h
    have h1 := (mapB_iff.1 h.1).1
    have h2 := (mapB_iff.1 h.2).1
    have := difM_len _ a b (Nat.le_refl _)
    omega
end Go.Proofs.YtaofemdhgfejjaaGreatDoor
/-
  Where a resolved merger is unlike the merger the key is told. Plain mathematics.
-/
namespace Go.Proofs.YtaofemdhgfejjaaGreatDoor
open Go.RowKit

theorem rs_dif {o a b : List Pr} {side : Int} (h : rsB o a b side = true) {c : Ch} (hc : c ∈ diffL (mgL o a b) (rsL o a b side)) : c.1 ∈ mgK o a b := by
  have h1 := mg_map (rs_mg h)
  have h2 := rs_map h
  rw [diffL_yes (diffB_yes h1 h2)] at hc
  exact rs_same h ((dif_char _ _ _ (Nat.le_refl _) (mapB_ris h1) (mapB_ris h2)).1 c hc).2
theorem dif_yes {a b : List Pr} (h1 : mapB a = true) (h2 : mapB b = true) : diffL a b = difM a b := diffL_yes (diffB_yes h1 h2)
end Go.Proofs.YtaofemdhgfejjaaGreatDoor
/-
  A region that draws its order, whose operations read and whose callees only make memory of their own: walked once. The class of worlds: those that are as w was below block B.
-/
namespace Go.Proofs.YtaofemdhgfejjaaGreatDoor
open Go.RowKit

/-- the worlds that are as w was below block B -/
def Cls (B : Nat) (w : World) : Type := { x : World // Below B w x }
def Cls.wo {B : Nat} {w : World} (u : Cls B w) : World := u.val
theorem Cls.below {B : Nat} {w : World} (u : Cls B w) : Below B w u.wo := u.property
def Cls.mk' {B : Nat} {w : World} (x : World) (h : Below B w x) : Cls B w := ⟨x, h⟩
instance clsNonempty {B : Nat} {w : World} : Nonempty (Cls B w) := ⟨Cls.mk' w (Below.refl B w)⟩
theorem wp_region_cls {P : Program} {id : Nat} {Q : Exit → Act → World → Prop} {a : Act} {w : World} {l : List Oper} (hm : P.follows .mixedOrders = true) (hB : Region.lexB .any l.toArray = true) (B : Nat)
    (h : wpQuiet P l.toArray (fun w' => ∃ u : Cls B w, w' = u.wo) (fun a' => ∀ w', (∃ u : Cls B w, w' = u.wo) → Q .normal a' w') l a) : (Code.region id l.toArray true).wp P Q a w :=
  wp_region_quiet (C := fun w' => ∃ u : Cls B w, w' = u.wo) hm hB ⟨Cls.mk' w.drew (Below.refl B w).drew, rfl⟩ (by simpa using h)
theorem cls_cell {B : Nat} {w : World} {p : Addr} {v : Value} (hp : p.block < B) (h : w.cell? p = some v) : ∀ u : Cls B w, u.wo.cell? p = some v := fun u => (u.below.cell hp).trans h
theorem cls_call {P : Program} {f : FuncId} {args : Array Value} {B : Nat} {w : World} {v : Value} {u : Cls B w} (hB : B ≤ w.heap.size) (h : Calls P f args u.wo fun e w' => e = .returned v ∧ Below u.wo.heap.size u.wo w') :
    Calls P f args u.wo fun e w'' => e = .returned v ∧ ∃ u' : Cls B w, w'' = u'.wo :=
  h.mono fun _ w' ⟨he, hb⟩ => ⟨he, Cls.mk' w' (u.below.trans (hb.mono (Nat.le_trans hB u.below.size))), rfl⟩
end Go.Proofs.YtaofemdhgfejjaaGreatDoor
/-
  What impl's sorted list of changes answers when asked whether it rises.
-/
namespace Go.Proofs.YtaofemdhgfejjaaGreatDoor
open Go.RowKit

theorem csortKey_any (x o n : ByteArray) (p q : Bool) (w : World) :
    Calls Tryz.prog 123 #[.agg #[.string x, .string o, .string n, .bool p, .bool q]] w fun e w' => e = .returned (.string x) ∧ Below w.heap.size w w' := by
  go_enter Tryz.func123, Tryz.ntmps123
  go_wp2
  go_ret
  exact ⟨rfl, (Below.refl _ _).alloc (Nat.le_refl _) _⟩

theorem method_csortKey (x1 x2 x3 x4 x5 : Value) (w : World) : (method 314 45 (.agg #[x1, x2, x3, x4, x5]) "loop.example/g00652/impl.sortKey").run Tryz.prog w = .ok (123, .agg #[x1, x2, x3, x4, x5]) w := by kernel_rfl

set_option maxRecDepth 100000 in
set_option maxHeartbeats 2000000 in
theorem risesC_any (A : Option Addr) (l : List Ch) (cap : Nat) (w : World) (hl : l.length ≤ maxLen) (hin : HIn w w.heap.size A l) :
    Calls Tryz.prog 40 #[.slice A l.length cap] w fun e w' => e = .returned (.bool (risesB (cp l))) ∧ Below w.heap.size w w' := by
  unfold maxLen at hl
  have HL := hide (cp_len l)
  generalize hn : l.length = n at *
  have HN := hide hn
  clear hn
  have hme := method_csortKey
  go_enter Tryz.func40, Tryz.ntmps40
  go_wp2
  go_loopw [3] (fun i wr => ∃ k : Nat, (k ≤ n ∨ k = 1) ∧ 1 ≤ k ∧ i = .int .i64 k ∧ Hid (risesTo (cp l) k) ∧ Hid (Below w.heap.size w wr)) (fun i _ => n - (intOf i).toNat)
  case atStart => exact ⟨1, .inr rfl, by omega, rfl, risesTo_one _, Below.refl _ w⟩
  case round =>
    obtain ⟨k, hk, h1, rfl, H, Q⟩ := hrel
    have hqs := Q.out.size
    by_cases hlt : k < n
    · have hin2 := hin.below Q.out
      obtain ⟨b, off, rfl, hbB, hc⟩ := hin2.2 (by rw [HN.out]; omega)
      have hkl : k < l.length := by rw [HN.out]; omega
      have hkp : k < (cp l).length := by rw [HL.out]; omega
      obtain ⟨c1, c2, c3, c4, c5⟩ := hc k hkl
      obtain ⟨d1, d2, d3, d4, d5⟩ := hc (k - 1) (by omega)
      have g1 := hide (cp_get l k hkp)
      have g2 := hide (cp_get l (k - 1) (by omega))
      have hbw : b < wr.heap.size := by omega
      have q1 : IntKind.i64.wrap ((k : Int) - 1) = (k : Int) - 1 := IntWalk.i64_in _ (by omega)
      have q2 : (0 : Int) ≤ (k : Int) - 1 := by omega
      have q3 : (1 : Int) ≤ (k : Int) := by omega
      have q4 : ((k : Int) - 1).toNat = k - 1 := by omega
      have q5 : (k : Int) - 1 < (n : Int) := by omega
      cases hrise : ltB (l[k - 1]'(by omega)).1 (l[k]'hkl).1
      · have Z := hide (risesB_no (l := cp l) (k := k - 1) (by omega) (by rw [g2.out]; simp only [show k - 1 + 1 = k by omega]; rw [g1.out]; exact hrise))
        have hrise2 : Op.bytesLess (l[k - 1]'(by omega)).1.toList (l[k]'hkl).1.toList = false := hrise
        generalize (l[k]'hkl) = e at *
        generalize (l[k - 1]'(by omega)) = e0 at *
        obtain ⟨x, o, m, p, q⟩ := e
        obtain ⟨x0, o0, m0, p0, r0⟩ := e0
        clear hin hin2 hc hrise hkl hkp g1 g2
        have y1 := cls_cell (B := wr.heap.size) hbw c1
        have y2 := cls_cell (B := wr.heap.size) hbw c2
        have y3 := cls_cell (B := wr.heap.size) hbw c3
        have y4 := cls_cell (B := wr.heap.size) hbw c4
        have y5 := cls_cell (B := wr.heap.size) hbw c5
        have u1 := cls_cell (B := wr.heap.size) hbw d1
        have u2 := cls_cell (B := wr.heap.size) hbw d2
        have u3 := cls_cell (B := wr.heap.size) hbw d3
        have u4 := cls_cell (B := wr.heap.size) hbw d4
        have u5 := cls_cell (B := wr.heap.size) hbw d5
        clear c1 c2 c3 c4 c5 d1 d2 d3 d4 d5
        go_wp2
        refine wp_region_cls (by kernel_rfl) (by kernel_rfl) wr.heap.size ?_
        repeat (go_big_quiet_step ((go_at_call 123; exact cls_call (Nat.le_refl _) (csortKey_any _ _ _ _ _ _))))
        refine wpQuiet_nil ?_
        intro _ hw'
        obtain ⟨u, hw''⟩ := hw'
        subst hw''
        clear q1 q4
        go_wp2
        go_ret
        exact ⟨ret_bool Z.out.symm, Q.out.trans (u.below.mono hqs)⟩
      · have Z := hide (risesTo_succ (l := cp l) (k := k - 1) (by omega) (by simpa [show k - 1 + 1 = k by omega] using H.out) (by rw [g2.out]; simp only [show k - 1 + 1 = k by omega]; rw [g1.out]; exact hrise))
        have hrise2 : Op.bytesLess (l[k - 1]'(by omega)).1.toList (l[k]'hkl).1.toList = true := hrise
        generalize (l[k]'hkl) = e at *
        generalize (l[k - 1]'(by omega)) = e0 at *
        obtain ⟨x, o, m, p, q⟩ := e
        obtain ⟨x0, o0, m0, p0, r0⟩ := e0
        clear hin hin2 hc hrise hkl hkp g1 g2
        have y1 := cls_cell (B := wr.heap.size) hbw c1
        have y2 := cls_cell (B := wr.heap.size) hbw c2
        have y3 := cls_cell (B := wr.heap.size) hbw c3
        have y4 := cls_cell (B := wr.heap.size) hbw c4
        have y5 := cls_cell (B := wr.heap.size) hbw c5
        have u1 := cls_cell (B := wr.heap.size) hbw d1
        have u2 := cls_cell (B := wr.heap.size) hbw d2
        have u3 := cls_cell (B := wr.heap.size) hbw d3
        have u4 := cls_cell (B := wr.heap.size) hbw d4
        have u5 := cls_cell (B := wr.heap.size) hbw d5
        clear c1 c2 c3 c4 c5 d1 d2 d3 d4 d5
        go_wp2
        refine wp_region_cls (by kernel_rfl) (by kernel_rfl) wr.heap.size ?_
        repeat (go_big_quiet_step ((go_at_call 123; exact cls_call (Nat.le_refl _) (csortKey_any _ _ _ _ _ _))))
        refine wpQuiet_nil ?_
        intro _ hw'
        obtain ⟨u, hw''⟩ := hw'
        subst hw''
        clear q1 q4
        go_wp2
        exact ⟨⟨k + 1, by omega, by omega, by go_num, by rw [show k + 1 = k - 1 + 2 by omega]; exact Z, hide (Q.out.trans (u.below.mono hqs))⟩, by simp [intOf]; omega⟩
    · have Z : Hid (risesB (cp l) = true) := hide (risesB_yes (by
        intro i hi hik
        exact H.out i hi (by rw [HL.out] at hi; omega)))
      go_wp2
      go_ret
      exact ⟨ret_bool Z.out.symm, Q.out⟩

end Go.Proofs.YtaofemdhgfejjaaGreatDoor
/-
  Small facts: when a change is right where it is done.
-/
namespace Go.Proofs.YtaofemdhgfejjaaGreatDoor
open Go.RowKit

theorem belowN {B : Nat} {w w' : World} (h : Below B w w') (n : Nat) : Below B w (w'.drewN n) := h.trans (Quiet.below ⟨n, rfl⟩ _)
theorem hasB_cases (m : List Pr) (x : ByteArray) : hasB m x = false ∨ hasB m x = true := by cases hasB m x <;> simp
theorem same_below {P : Program} {f : FuncId} {args : Array Value} {w : World} {v : Value} (h : Calls P f args w fun e w' => e = .returned v ∧ w = w') : Calls P f args w fun e w' => e = .returned v ∧ Below w.heap.size w w' :=
  h.mono fun _ _ ⟨he, hw⟩ => ⟨he, hw ▸ Below.refl _ _⟩
theorem emp_ne {s : ByteArray} (h : ¬ s = ByteArray.empty) : ((⟨#[]⟩ : ByteArray).toList == s.toList) = false ∧ (ByteArray.empty.toList == s.toList) = false ∧ (([] : List UInt8) == s.toList) = false ∧ (s.toList == ([] : List UInt8)) = false ∧ (s.toList == (⟨#[]⟩ : ByteArray).toList) = false := by
  have e0 : (⟨#[]⟩ : ByteArray) = ByteArray.empty := rfl
  have e1 : (ByteArray.empty).toList = [] := by rw [Go.ByteArray.toList_eq]; rfl
  have h1 := eqS_no (a := ByteArray.empty) (b := s) (fun e => h e.symm)
  have h2 := eqS_no (a := s) (b := ByteArray.empty) h
  refine ⟨by rw [e0]; exact h1, h1, by rw [← e1]; exact h1, by rw [← e1]; exact h2, by rw [e0]; exact h2⟩
theorem emp_eq {s : ByteArray} (h : s = ByteArray.empty) : ((⟨#[]⟩ : ByteArray).toList == s.toList) = true ∧ (ByteArray.empty.toList == s.toList) = true ∧ (([] : List UInt8) == s.toList) = true ∧ (s.toList == ([] : List UInt8)) = true ∧ (s.toList == (⟨#[]⟩ : ByteArray).toList) = true := by
  have e1 : (ByteArray.empty).toList = [] := by rw [Go.ByteArray.toList_eq]; rfl
  have e2 : (⟨#[]⟩ : ByteArray).toList = [] := e1
  subst h
  rw [e1, e2]
  exact ⟨rfl, rfl, rfl, rfl, rfl⟩
theorem fit_no_key {m : List Pr} {c : Ch} (h : keyB c.1 = false) : fitB m c = false := by unfold fitB; rw [h]; rfl
theorem fit_no {m : List Pr} {c : Ch} (h : ¬ (keyB c.1 = true ∧ valB c.2.2.1 = true ∧ hasB m c.1 = c.2.2.2.1 ∧ valOf m c.1 = c.2.1 ∧ (c.2.2.2.2 = true ∨ c.2.2.1 = ByteArray.empty))) : fitB m c = false := by
  cases e : fitB m c
  · rfl
  · exact absurd (fitB_iff.1 e) h
theorem fit_old {m : List Pr} {c : Ch} (h : c.2.2.2.1 = false) (h' : ¬ c.2.1 = ByteArray.empty) : fitB m c = false := fit_no fun x => h' (by rw [← x.2.2.2.1, valOf_no (by rw [x.2.2.1, h])])

end Go.Proofs.YtaofemdhgfejjaaGreatDoor
/-
  impl.fits: is a change right where it is done; impl.edited: a map with one change done.
-/
namespace Go.Proofs.YtaofemdhgfejjaaGreatDoor
open Go.RowKit


theorem editOf_true_true (x o n : ByteArray) (w : World) : Calls Tryz.prog 44 #[.agg #[.string x, .string o, .string n, .bool true, .bool true]] w fun e w' => e = .returned (.iface 121 (.agg #[.string x, .string o, .string x, .string n])) ∧ Below w.heap.size w w' := editOf_any x o n true true w
theorem editOf_true_false (x o n : ByteArray) (w : World) : Calls Tryz.prog 44 #[.agg #[.string x, .string o, .string n, .bool true, .bool false]] w fun e w' => e = .returned (.iface 117 (.agg #[.string x, .string o])) ∧ Below w.heap.size w w' := editOf_any x o n true false w
theorem editOf_false_true (x o n : ByteArray) (w : World) : Calls Tryz.prog 44 #[.agg #[.string x, .string o, .string n, .bool false, .bool true]] w fun e w' => e = .returned (.iface 119 (.agg #[.string x, .string n])) ∧ Below w.heap.size w w' := editOf_any x o n false true w
theorem editOf_false_false (x o n : ByteArray) (w : World) : Calls Tryz.prog 44 #[.agg #[.string x, .string o, .string n, .bool false, .bool false]] w fun e w' => e = .returned (.iface 123 (.agg #[.string x])) ∧ Below w.heap.size w w' := editOf_any x o n false false w
set_option maxRecDepth 100000 in
set_option maxHeartbeats 16000000 in
theorem fits_any (A : Option Addr) (m : List Pr) (cap : Nat) (x o n : ByteArray) (p q : Bool) (w : World) (hl : m.length ≤ 65536) (hin : PIn w w.heap.size A m) (hr : risesTo m m.length) (hx : x.size ≤ maxLen) (hn : n.size ≤ maxLen) :
    Calls Tryz.prog 42 #[.slice A m.length cap, .agg #[.string x, .string o, .string n, .bool p, .bool q]] w fun e w' => e = .returned (.bool (fitB m (x, o, n, p, q))) ∧ Below w.heap.size w w' := by
  have HR := hide hr
  have IN := hide hin
  have hme1 := method_gain
  have hme2 := method_loss
  have hme3 := method_turn
  have hme4 := method_idle
  have hle := atN_le m x
  clear hr hin
  cases hK : keyB x
  · have Z : Hid (fitB m (x, o, n, p, q) = false) := hide (fit_no_key hK)
    go_enter Tryz.func42, Tryz.ntmps42
    go_wp2
    have bx : Hid (Below w.heap.size w (w.alloc (.cells #[.string x, .string o, .string n, .bool p, .bool q] 45))) := hide ((Below.refl _ _).alloc (Nat.le_refl _) _)
    have hbw : w.heap.size < (w.alloc (.cells #[.string x, .string o, .string n, .bool p, .bool q] 45)).heap.size := by simp
    have c1 : (w.alloc (.cells #[.string x, .string o, .string n, .bool p, .bool q] 45)).cell? ⟨w.heap.size, 0, none⟩ = some (.string x) := by simp [go_sem]
    have c2 : (w.alloc (.cells #[.string x, .string o, .string n, .bool p, .bool q] 45)).cell? ⟨w.heap.size, 1, none⟩ = some (.string o) := by simp [go_sem]
    have c3 : (w.alloc (.cells #[.string x, .string o, .string n, .bool p, .bool q] 45)).cell? ⟨w.heap.size, 2, none⟩ = some (.string n) := by simp [go_sem]
    have c4 : (w.alloc (.cells #[.string x, .string o, .string n, .bool p, .bool q] 45)).cell? ⟨w.heap.size, 3, none⟩ = some (.bool p) := by simp [go_sem]
    have c5 : (w.alloc (.cells #[.string x, .string o, .string n, .bool p, .bool q] 45)).cell? ⟨w.heap.size, 4, none⟩ = some (.bool q) := by simp [go_sem]
    generalize w.alloc (.cells #[.string x, .string o, .string n, .bool p, .bool q] 45) = W1 at *
    have y1 := cls_cell (B := W1.heap.size) hbw c1
    have y2 := cls_cell (B := W1.heap.size) hbw c2
    have y3 := cls_cell (B := W1.heap.size) hbw c3
    have y4 := cls_cell (B := W1.heap.size) hbw c4
    have y5 := cls_cell (B := W1.heap.size) hbw c5
    refine wp_region_cls (by kernel_rfl) (by kernel_rfl) W1.heap.size ?_
    repeat (go_big_quiet_step ((first | (go_at_call 31; exact cls_call (Nat.le_refl _) (same_below (keyOk_any x _ hx))) | (go_at_call 32; exact cls_call (Nat.le_refl _) (same_below (valOk_any n _ hn))) | (go_at_call 44; exact cls_call (Nat.le_refl _) (editOf_any x o n p q _)) | (go_at_call 133; exact cls_call (Nat.le_refl _) (turnChange_any x o x n _)) | (go_at_call 131; exact cls_call (Nat.le_refl _) (lossChange_any x o _)) | (go_at_call 132; exact cls_call (Nat.le_refl _) (gainChange_any x n _)) | (go_at_call 134; exact cls_call (Nat.le_refl _) (idleChange_any x _)))))
    refine wpQuiet_nil ?_
    intro _ hw'
    obtain ⟨u, hw''⟩ := hw'
    subst hw''
    have BU := hide (bx.out.trans (u.below.mono bx.out.size))
    go_wp2
    go_ret
    exact ⟨ret_bool Z.out.symm, BU.out⟩
  cases hV : valB n
  · have Z : Hid (fitB m (x, o, n, p, q) = false) := hide (fit_no (fun z => by rw [show valB n = false from hV] at z; exact absurd z.2.1 (by simp)))
    go_enter Tryz.func42, Tryz.ntmps42
    go_wp2
    have bx : Hid (Below w.heap.size w (w.alloc (.cells #[.string x, .string o, .string n, .bool p, .bool q] 45))) := hide ((Below.refl _ _).alloc (Nat.le_refl _) _)
    have hbw : w.heap.size < (w.alloc (.cells #[.string x, .string o, .string n, .bool p, .bool q] 45)).heap.size := by simp
    have c1 : (w.alloc (.cells #[.string x, .string o, .string n, .bool p, .bool q] 45)).cell? ⟨w.heap.size, 0, none⟩ = some (.string x) := by simp [go_sem]
    have c2 : (w.alloc (.cells #[.string x, .string o, .string n, .bool p, .bool q] 45)).cell? ⟨w.heap.size, 1, none⟩ = some (.string o) := by simp [go_sem]
    have c3 : (w.alloc (.cells #[.string x, .string o, .string n, .bool p, .bool q] 45)).cell? ⟨w.heap.size, 2, none⟩ = some (.string n) := by simp [go_sem]
    have c4 : (w.alloc (.cells #[.string x, .string o, .string n, .bool p, .bool q] 45)).cell? ⟨w.heap.size, 3, none⟩ = some (.bool p) := by simp [go_sem]
    have c5 : (w.alloc (.cells #[.string x, .string o, .string n, .bool p, .bool q] 45)).cell? ⟨w.heap.size, 4, none⟩ = some (.bool q) := by simp [go_sem]
    generalize w.alloc (.cells #[.string x, .string o, .string n, .bool p, .bool q] 45) = W1 at *
    have y1 := cls_cell (B := W1.heap.size) hbw c1
    have y2 := cls_cell (B := W1.heap.size) hbw c2
    have y3 := cls_cell (B := W1.heap.size) hbw c3
    have y4 := cls_cell (B := W1.heap.size) hbw c4
    have y5 := cls_cell (B := W1.heap.size) hbw c5
    refine wp_region_cls (by kernel_rfl) (by kernel_rfl) W1.heap.size ?_
    repeat (go_big_quiet_step ((first | (go_at_call 31; exact cls_call (Nat.le_refl _) (same_below (keyOk_any x _ hx))) | (go_at_call 32; exact cls_call (Nat.le_refl _) (same_below (valOk_any n _ hn))) | (go_at_call 44; exact cls_call (Nat.le_refl _) (editOf_any x o n p q _)) | (go_at_call 133; exact cls_call (Nat.le_refl _) (turnChange_any x o x n _)) | (go_at_call 131; exact cls_call (Nat.le_refl _) (lossChange_any x o _)) | (go_at_call 132; exact cls_call (Nat.le_refl _) (gainChange_any x n _)) | (go_at_call 134; exact cls_call (Nat.le_refl _) (idleChange_any x _)))))
    refine wpQuiet_nil ?_
    intro _ hw'
    obtain ⟨u, hw''⟩ := hw'
    subst hw''
    have BU := hide (bx.out.trans (u.below.mono bx.out.size))
    go_wp2
    go_ret
    exact ⟨ret_bool Z.out.symm, BU.out⟩
  rcases p with _ | _ <;> rcases q with _ | _
  · by_cases ho : o = ByteArray.empty
    · have HO := hide ho
      by_cases hnn : n = ByteArray.empty
      · have HN := hide hnn
        obtain ⟨m1, m2, m3, m4, m5⟩ := emp_eq ho; clear ho
        obtain ⟨p1, p2, p3, p4, p5⟩ := emp_eq hnn; clear hnn
        go_enter Tryz.func42, Tryz.ntmps42
        go_wp2
        have bx : Hid (Below w.heap.size w (w.alloc (.cells #[.string x, .string o, .string n, .bool false, .bool false] 45))) := hide ((Below.refl _ _).alloc (Nat.le_refl _) _)
        have hbw : w.heap.size < (w.alloc (.cells #[.string x, .string o, .string n, .bool false, .bool false] 45)).heap.size := by simp
        have c1 : (w.alloc (.cells #[.string x, .string o, .string n, .bool false, .bool false] 45)).cell? ⟨w.heap.size, 0, none⟩ = some (.string x) := by simp [go_sem]
        have c2 : (w.alloc (.cells #[.string x, .string o, .string n, .bool false, .bool false] 45)).cell? ⟨w.heap.size, 1, none⟩ = some (.string o) := by simp [go_sem]
        have c3 : (w.alloc (.cells #[.string x, .string o, .string n, .bool false, .bool false] 45)).cell? ⟨w.heap.size, 2, none⟩ = some (.string n) := by simp [go_sem]
        have c4 : (w.alloc (.cells #[.string x, .string o, .string n, .bool false, .bool false] 45)).cell? ⟨w.heap.size, 3, none⟩ = some (.bool false) := by simp [go_sem]
        have c5 : (w.alloc (.cells #[.string x, .string o, .string n, .bool false, .bool false] 45)).cell? ⟨w.heap.size, 4, none⟩ = some (.bool false) := by simp [go_sem]
        generalize w.alloc (.cells #[.string x, .string o, .string n, .bool false, .bool false] 45) = W1 at *
        have y1 := cls_cell (B := W1.heap.size) hbw c1
        have y2 := cls_cell (B := W1.heap.size) hbw c2
        have y3 := cls_cell (B := W1.heap.size) hbw c3
        have y4 := cls_cell (B := W1.heap.size) hbw c4
        have y5 := cls_cell (B := W1.heap.size) hbw c5
        refine wp_region_cls (by kernel_rfl) (by kernel_rfl) W1.heap.size ?_
        repeat (go_big_quiet_step ((first | (go_at_call 31; exact cls_call (Nat.le_refl _) (same_below (keyOk_any x _ hx))) | (go_at_call 32; exact cls_call (Nat.le_refl _) (same_below (valOk_any n _ hn))) | (go_at_call 44; exact cls_call (Nat.le_refl _) (editOf_false_false x o n _)) | (go_at_call 133; exact cls_call (Nat.le_refl _) (turnChange_any x o x n _)) | (go_at_call 131; exact cls_call (Nat.le_refl _) (lossChange_any x o _)) | (go_at_call 132; exact cls_call (Nat.le_refl _) (gainChange_any x n _)) | (go_at_call 134; exact cls_call (Nat.le_refl _) (idleChange_any x _)))))
        refine wpQuiet_nil ?_
        intro _ hw'
        obtain ⟨u, hw''⟩ := hw'
        subst hw''
        have BU := hide (bx.out.trans (u.below.mono bx.out.size))
        rcases hasB_cases m x with hh | hh
        · have Z : Hid (fitB m (x, o, n, false, false) = true) := hide (fitB_iff.2 ⟨hK, hV, hh, by rw [valOf_no hh]; exact HO.out.symm, .inr HN.out⟩)
          have k1 : u.wo.cell? ⟨w.heap.size, 0, none⟩ = some (.string x) := cellB u.below hbw c1
          go_wp2_with fail
          refine (place_any A m cap x _ hl ((IN.out.below BU.out).more BU.out.size) HR.out).mono ?_
          rintro e w2 ⟨rfl, b2⟩
          have hbu : w.heap.size < u.wo.heap.size := by have := u.below.size; omega
          have e1 : w2.cell? ⟨w.heap.size, 1, none⟩ = some (.string o) := cellB b2 hbu (cellB u.below hbw c2)
          have e3 : w2.cell? ⟨w.heap.size, 3, none⟩ = some (.bool false) := cellB b2 hbu (cellB u.below hbw c4)
          have B2 := hide (BU.out.trans (b2.mono BU.out.size))
          rw [hh]
          clear b2 BU k1 y1 y2 y3 y4 y5 c1 c2 c3 c4 c5
          go_wp2
          go_quiet (fail)
          go_wp2
          go_ret
          exact ⟨ret_bool Z.out.symm, belowN B2.out _⟩
        · have Z : Hid (fitB m (x, o, n, false, false) = false) := hide (fit_no (fun z => by rw [show hasB m x = true from hh] at z; exact absurd z.2.2.1 (by simp)))
          have k1 : u.wo.cell? ⟨w.heap.size, 0, none⟩ = some (.string x) := cellB u.below hbw c1
          go_wp2_with fail
          refine (place_any A m cap x _ hl ((IN.out.below BU.out).more BU.out.size) HR.out).mono ?_
          rintro e w2 ⟨rfl, b2⟩
          have hbu : w.heap.size < u.wo.heap.size := by have := u.below.size; omega
          have e1 : w2.cell? ⟨w.heap.size, 1, none⟩ = some (.string o) := cellB b2 hbu (cellB u.below hbw c2)
          have e3 : w2.cell? ⟨w.heap.size, 3, none⟩ = some (.bool false) := cellB b2 hbu (cellB u.below hbw c4)
          have B2 := hide (BU.out.trans (b2.mono BU.out.size))
          rw [hh]
          clear b2 BU k1 y1 y2 y3 y4 y5 c1 c2 c3 c4 c5
          go_wp2
          go_quiet (fail)
          go_wp2
          go_ret
          exact ⟨ret_bool Z.out.symm, belowN B2.out _⟩
      · have Z : Hid (fitB m (x, o, n, false, false) = false) := hide (fit_no (fun z => z.2.2.2.2.elim (fun g => by cases g) hnn))
        obtain ⟨m1, m2, m3, m4, m5⟩ := emp_ne hnn
        obtain ⟨p1, p2, p3, p4, p5⟩ := emp_eq ho; clear ho
        go_enter Tryz.func42, Tryz.ntmps42
        go_wp2
        have bx : Hid (Below w.heap.size w (w.alloc (.cells #[.string x, .string o, .string n, .bool false, .bool false] 45))) := hide ((Below.refl _ _).alloc (Nat.le_refl _) _)
        have hbw : w.heap.size < (w.alloc (.cells #[.string x, .string o, .string n, .bool false, .bool false] 45)).heap.size := by simp
        have c1 : (w.alloc (.cells #[.string x, .string o, .string n, .bool false, .bool false] 45)).cell? ⟨w.heap.size, 0, none⟩ = some (.string x) := by simp [go_sem]
        have c2 : (w.alloc (.cells #[.string x, .string o, .string n, .bool false, .bool false] 45)).cell? ⟨w.heap.size, 1, none⟩ = some (.string o) := by simp [go_sem]
        have c3 : (w.alloc (.cells #[.string x, .string o, .string n, .bool false, .bool false] 45)).cell? ⟨w.heap.size, 2, none⟩ = some (.string n) := by simp [go_sem]
        have c4 : (w.alloc (.cells #[.string x, .string o, .string n, .bool false, .bool false] 45)).cell? ⟨w.heap.size, 3, none⟩ = some (.bool false) := by simp [go_sem]
        have c5 : (w.alloc (.cells #[.string x, .string o, .string n, .bool false, .bool false] 45)).cell? ⟨w.heap.size, 4, none⟩ = some (.bool false) := by simp [go_sem]
        generalize w.alloc (.cells #[.string x, .string o, .string n, .bool false, .bool false] 45) = W1 at *
        have y1 := cls_cell (B := W1.heap.size) hbw c1
        have y2 := cls_cell (B := W1.heap.size) hbw c2
        have y3 := cls_cell (B := W1.heap.size) hbw c3
        have y4 := cls_cell (B := W1.heap.size) hbw c4
        have y5 := cls_cell (B := W1.heap.size) hbw c5
        refine wp_region_cls (by kernel_rfl) (by kernel_rfl) W1.heap.size ?_
        repeat (go_big_quiet_step ((first | (go_at_call 31; exact cls_call (Nat.le_refl _) (same_below (keyOk_any x _ hx))) | (go_at_call 32; exact cls_call (Nat.le_refl _) (same_below (valOk_any n _ hn))) | (go_at_call 44; exact cls_call (Nat.le_refl _) (editOf_false_false x o n _)) | (go_at_call 133; exact cls_call (Nat.le_refl _) (turnChange_any x o x n _)) | (go_at_call 131; exact cls_call (Nat.le_refl _) (lossChange_any x o _)) | (go_at_call 132; exact cls_call (Nat.le_refl _) (gainChange_any x n _)) | (go_at_call 134; exact cls_call (Nat.le_refl _) (idleChange_any x _)))))
        refine wpQuiet_nil ?_
        intro _ hw'
        obtain ⟨u, hw''⟩ := hw'
        subst hw''
        have BU := hide (bx.out.trans (u.below.mono bx.out.size))
        go_wp2
        go_ret
        exact ⟨ret_bool Z.out.symm, BU.out⟩
    · have Z : Hid (fitB m (x, o, n, false, false) = false) := hide (fit_old rfl ho)
      obtain ⟨m1, m2, m3, m4, m5⟩ := emp_ne ho
      go_enter Tryz.func42, Tryz.ntmps42
      go_wp2
      have bx : Hid (Below w.heap.size w (w.alloc (.cells #[.string x, .string o, .string n, .bool false, .bool false] 45))) := hide ((Below.refl _ _).alloc (Nat.le_refl _) _)
      have hbw : w.heap.size < (w.alloc (.cells #[.string x, .string o, .string n, .bool false, .bool false] 45)).heap.size := by simp
      have c1 : (w.alloc (.cells #[.string x, .string o, .string n, .bool false, .bool false] 45)).cell? ⟨w.heap.size, 0, none⟩ = some (.string x) := by simp [go_sem]
      have c2 : (w.alloc (.cells #[.string x, .string o, .string n, .bool false, .bool false] 45)).cell? ⟨w.heap.size, 1, none⟩ = some (.string o) := by simp [go_sem]
      have c3 : (w.alloc (.cells #[.string x, .string o, .string n, .bool false, .bool false] 45)).cell? ⟨w.heap.size, 2, none⟩ = some (.string n) := by simp [go_sem]
      have c4 : (w.alloc (.cells #[.string x, .string o, .string n, .bool false, .bool false] 45)).cell? ⟨w.heap.size, 3, none⟩ = some (.bool false) := by simp [go_sem]
      have c5 : (w.alloc (.cells #[.string x, .string o, .string n, .bool false, .bool false] 45)).cell? ⟨w.heap.size, 4, none⟩ = some (.bool false) := by simp [go_sem]
      generalize w.alloc (.cells #[.string x, .string o, .string n, .bool false, .bool false] 45) = W1 at *
      have y1 := cls_cell (B := W1.heap.size) hbw c1
      have y2 := cls_cell (B := W1.heap.size) hbw c2
      have y3 := cls_cell (B := W1.heap.size) hbw c3
      have y4 := cls_cell (B := W1.heap.size) hbw c4
      have y5 := cls_cell (B := W1.heap.size) hbw c5
      refine wp_region_cls (by kernel_rfl) (by kernel_rfl) W1.heap.size ?_
      repeat (go_big_quiet_step ((first | (go_at_call 31; exact cls_call (Nat.le_refl _) (same_below (keyOk_any x _ hx))) | (go_at_call 32; exact cls_call (Nat.le_refl _) (same_below (valOk_any n _ hn))) | (go_at_call 44; exact cls_call (Nat.le_refl _) (editOf_false_false x o n _)) | (go_at_call 133; exact cls_call (Nat.le_refl _) (turnChange_any x o x n _)) | (go_at_call 131; exact cls_call (Nat.le_refl _) (lossChange_any x o _)) | (go_at_call 132; exact cls_call (Nat.le_refl _) (gainChange_any x n _)) | (go_at_call 134; exact cls_call (Nat.le_refl _) (idleChange_any x _)))))
      refine wpQuiet_nil ?_
      intro _ hw'
      obtain ⟨u, hw''⟩ := hw'
      subst hw''
      have BU := hide (bx.out.trans (u.below.mono bx.out.size))
      go_wp2
      go_ret
      exact ⟨ret_bool Z.out.symm, BU.out⟩
  · by_cases ho : o = ByteArray.empty
    · have HO := hide ho
      obtain ⟨m1, m2, m3, m4, m5⟩ := emp_eq ho; clear ho
      go_enter Tryz.func42, Tryz.ntmps42
      go_wp2
      have bx : Hid (Below w.heap.size w (w.alloc (.cells #[.string x, .string o, .string n, .bool false, .bool true] 45))) := hide ((Below.refl _ _).alloc (Nat.le_refl _) _)
      have hbw : w.heap.size < (w.alloc (.cells #[.string x, .string o, .string n, .bool false, .bool true] 45)).heap.size := by simp
      have c1 : (w.alloc (.cells #[.string x, .string o, .string n, .bool false, .bool true] 45)).cell? ⟨w.heap.size, 0, none⟩ = some (.string x) := by simp [go_sem]
      have c2 : (w.alloc (.cells #[.string x, .string o, .string n, .bool false, .bool true] 45)).cell? ⟨w.heap.size, 1, none⟩ = some (.string o) := by simp [go_sem]
      have c3 : (w.alloc (.cells #[.string x, .string o, .string n, .bool false, .bool true] 45)).cell? ⟨w.heap.size, 2, none⟩ = some (.string n) := by simp [go_sem]
      have c4 : (w.alloc (.cells #[.string x, .string o, .string n, .bool false, .bool true] 45)).cell? ⟨w.heap.size, 3, none⟩ = some (.bool false) := by simp [go_sem]
      have c5 : (w.alloc (.cells #[.string x, .string o, .string n, .bool false, .bool true] 45)).cell? ⟨w.heap.size, 4, none⟩ = some (.bool true) := by simp [go_sem]
      generalize w.alloc (.cells #[.string x, .string o, .string n, .bool false, .bool true] 45) = W1 at *
      have y1 := cls_cell (B := W1.heap.size) hbw c1
      have y2 := cls_cell (B := W1.heap.size) hbw c2
      have y3 := cls_cell (B := W1.heap.size) hbw c3
      have y4 := cls_cell (B := W1.heap.size) hbw c4
      have y5 := cls_cell (B := W1.heap.size) hbw c5
      refine wp_region_cls (by kernel_rfl) (by kernel_rfl) W1.heap.size ?_
      repeat (go_big_quiet_step ((first | (go_at_call 31; exact cls_call (Nat.le_refl _) (same_below (keyOk_any x _ hx))) | (go_at_call 32; exact cls_call (Nat.le_refl _) (same_below (valOk_any n _ hn))) | (go_at_call 44; exact cls_call (Nat.le_refl _) (editOf_false_true x o n _)) | (go_at_call 133; exact cls_call (Nat.le_refl _) (turnChange_any x o x n _)) | (go_at_call 131; exact cls_call (Nat.le_refl _) (lossChange_any x o _)) | (go_at_call 132; exact cls_call (Nat.le_refl _) (gainChange_any x n _)) | (go_at_call 134; exact cls_call (Nat.le_refl _) (idleChange_any x _)))))
      refine wpQuiet_nil ?_
      intro _ hw'
      obtain ⟨u, hw''⟩ := hw'
      subst hw''
      have BU := hide (bx.out.trans (u.below.mono bx.out.size))
      rcases hasB_cases m x with hh | hh
      · have Z : Hid (fitB m (x, o, n, false, true) = true) := hide (fitB_iff.2 ⟨hK, hV, hh, by rw [valOf_no hh]; exact HO.out.symm, .inl rfl⟩)
        have k1 : u.wo.cell? ⟨w.heap.size, 0, none⟩ = some (.string x) := cellB u.below hbw c1
        go_wp2_with fail
        refine (place_any A m cap x _ hl ((IN.out.below BU.out).more BU.out.size) HR.out).mono ?_
        rintro e w2 ⟨rfl, b2⟩
        have hbu : w.heap.size < u.wo.heap.size := by have := u.below.size; omega
        have e1 : w2.cell? ⟨w.heap.size, 1, none⟩ = some (.string o) := cellB b2 hbu (cellB u.below hbw c2)
        have e3 : w2.cell? ⟨w.heap.size, 3, none⟩ = some (.bool false) := cellB b2 hbu (cellB u.below hbw c4)
        have B2 := hide (BU.out.trans (b2.mono BU.out.size))
        rw [hh]
        clear b2 BU k1 y1 y2 y3 y4 y5 c1 c2 c3 c4 c5
        go_wp2
        go_quiet (fail)
        go_wp2
        go_ret
        exact ⟨ret_bool Z.out.symm, belowN B2.out _⟩
      · have Z : Hid (fitB m (x, o, n, false, true) = false) := hide (fit_no (fun z => by rw [show hasB m x = true from hh] at z; exact absurd z.2.2.1 (by simp)))
        have k1 : u.wo.cell? ⟨w.heap.size, 0, none⟩ = some (.string x) := cellB u.below hbw c1
        go_wp2_with fail
        refine (place_any A m cap x _ hl ((IN.out.below BU.out).more BU.out.size) HR.out).mono ?_
        rintro e w2 ⟨rfl, b2⟩
        have hbu : w.heap.size < u.wo.heap.size := by have := u.below.size; omega
        have e1 : w2.cell? ⟨w.heap.size, 1, none⟩ = some (.string o) := cellB b2 hbu (cellB u.below hbw c2)
        have e3 : w2.cell? ⟨w.heap.size, 3, none⟩ = some (.bool false) := cellB b2 hbu (cellB u.below hbw c4)
        have B2 := hide (BU.out.trans (b2.mono BU.out.size))
        rw [hh]
        clear b2 BU k1 y1 y2 y3 y4 y5 c1 c2 c3 c4 c5
        go_wp2
        go_quiet (fail)
        go_wp2
        go_ret
        exact ⟨ret_bool Z.out.symm, belowN B2.out _⟩
    · have Z : Hid (fitB m (x, o, n, false, true) = false) := hide (fit_old rfl ho)
      obtain ⟨m1, m2, m3, m4, m5⟩ := emp_ne ho
      go_enter Tryz.func42, Tryz.ntmps42
      go_wp2
      have bx : Hid (Below w.heap.size w (w.alloc (.cells #[.string x, .string o, .string n, .bool false, .bool true] 45))) := hide ((Below.refl _ _).alloc (Nat.le_refl _) _)
      have hbw : w.heap.size < (w.alloc (.cells #[.string x, .string o, .string n, .bool false, .bool true] 45)).heap.size := by simp
      have c1 : (w.alloc (.cells #[.string x, .string o, .string n, .bool false, .bool true] 45)).cell? ⟨w.heap.size, 0, none⟩ = some (.string x) := by simp [go_sem]
      have c2 : (w.alloc (.cells #[.string x, .string o, .string n, .bool false, .bool true] 45)).cell? ⟨w.heap.size, 1, none⟩ = some (.string o) := by simp [go_sem]
      have c3 : (w.alloc (.cells #[.string x, .string o, .string n, .bool false, .bool true] 45)).cell? ⟨w.heap.size, 2, none⟩ = some (.string n) := by simp [go_sem]
      have c4 : (w.alloc (.cells #[.string x, .string o, .string n, .bool false, .bool true] 45)).cell? ⟨w.heap.size, 3, none⟩ = some (.bool false) := by simp [go_sem]
      have c5 : (w.alloc (.cells #[.string x, .string o, .string n, .bool false, .bool true] 45)).cell? ⟨w.heap.size, 4, none⟩ = some (.bool true) := by simp [go_sem]
      generalize w.alloc (.cells #[.string x, .string o, .string n, .bool false, .bool true] 45) = W1 at *
      have y1 := cls_cell (B := W1.heap.size) hbw c1
      have y2 := cls_cell (B := W1.heap.size) hbw c2
      have y3 := cls_cell (B := W1.heap.size) hbw c3
      have y4 := cls_cell (B := W1.heap.size) hbw c4
      have y5 := cls_cell (B := W1.heap.size) hbw c5
      refine wp_region_cls (by kernel_rfl) (by kernel_rfl) W1.heap.size ?_
      repeat (go_big_quiet_step ((first | (go_at_call 31; exact cls_call (Nat.le_refl _) (same_below (keyOk_any x _ hx))) | (go_at_call 32; exact cls_call (Nat.le_refl _) (same_below (valOk_any n _ hn))) | (go_at_call 44; exact cls_call (Nat.le_refl _) (editOf_false_true x o n _)) | (go_at_call 133; exact cls_call (Nat.le_refl _) (turnChange_any x o x n _)) | (go_at_call 131; exact cls_call (Nat.le_refl _) (lossChange_any x o _)) | (go_at_call 132; exact cls_call (Nat.le_refl _) (gainChange_any x n _)) | (go_at_call 134; exact cls_call (Nat.le_refl _) (idleChange_any x _)))))
      refine wpQuiet_nil ?_
      intro _ hw'
      obtain ⟨u, hw''⟩ := hw'
      subst hw''
      have BU := hide (bx.out.trans (u.below.mono bx.out.size))
      go_wp2
      go_ret
      exact ⟨ret_bool Z.out.symm, BU.out⟩
  · by_cases hnn : n = ByteArray.empty
    · have HN := hide hnn
      obtain ⟨m1, m2, m3, m4, m5⟩ := emp_eq hnn; clear hnn
      go_enter Tryz.func42, Tryz.ntmps42
      go_wp2
      have bx : Hid (Below w.heap.size w (w.alloc (.cells #[.string x, .string o, .string n, .bool true, .bool false] 45))) := hide ((Below.refl _ _).alloc (Nat.le_refl _) _)
      have hbw : w.heap.size < (w.alloc (.cells #[.string x, .string o, .string n, .bool true, .bool false] 45)).heap.size := by simp
      have c1 : (w.alloc (.cells #[.string x, .string o, .string n, .bool true, .bool false] 45)).cell? ⟨w.heap.size, 0, none⟩ = some (.string x) := by simp [go_sem]
      have c2 : (w.alloc (.cells #[.string x, .string o, .string n, .bool true, .bool false] 45)).cell? ⟨w.heap.size, 1, none⟩ = some (.string o) := by simp [go_sem]
      have c3 : (w.alloc (.cells #[.string x, .string o, .string n, .bool true, .bool false] 45)).cell? ⟨w.heap.size, 2, none⟩ = some (.string n) := by simp [go_sem]
      have c4 : (w.alloc (.cells #[.string x, .string o, .string n, .bool true, .bool false] 45)).cell? ⟨w.heap.size, 3, none⟩ = some (.bool true) := by simp [go_sem]
      have c5 : (w.alloc (.cells #[.string x, .string o, .string n, .bool true, .bool false] 45)).cell? ⟨w.heap.size, 4, none⟩ = some (.bool false) := by simp [go_sem]
      generalize w.alloc (.cells #[.string x, .string o, .string n, .bool true, .bool false] 45) = W1 at *
      have y1 := cls_cell (B := W1.heap.size) hbw c1
      have y2 := cls_cell (B := W1.heap.size) hbw c2
      have y3 := cls_cell (B := W1.heap.size) hbw c3
      have y4 := cls_cell (B := W1.heap.size) hbw c4
      have y5 := cls_cell (B := W1.heap.size) hbw c5
      refine wp_region_cls (by kernel_rfl) (by kernel_rfl) W1.heap.size ?_
      repeat (go_big_quiet_step ((first | (go_at_call 31; exact cls_call (Nat.le_refl _) (same_below (keyOk_any x _ hx))) | (go_at_call 32; exact cls_call (Nat.le_refl _) (same_below (valOk_any n _ hn))) | (go_at_call 44; exact cls_call (Nat.le_refl _) (editOf_true_false x o n _)) | (go_at_call 133; exact cls_call (Nat.le_refl _) (turnChange_any x o x n _)) | (go_at_call 131; exact cls_call (Nat.le_refl _) (lossChange_any x o _)) | (go_at_call 132; exact cls_call (Nat.le_refl _) (gainChange_any x n _)) | (go_at_call 134; exact cls_call (Nat.le_refl _) (idleChange_any x _)))))
      refine wpQuiet_nil ?_
      intro _ hw'
      obtain ⟨u, hw''⟩ := hw'
      subst hw''
      have BU := hide (bx.out.trans (u.below.mono bx.out.size))
      rcases hasB_cases m x with hh | hh
      · have Z : Hid (fitB m (x, o, n, true, false) = false) := hide (fit_no (fun z => by rw [show hasB m x = false from hh] at z; exact absurd z.2.2.1 (by simp)))
        have k1 : u.wo.cell? ⟨w.heap.size, 0, none⟩ = some (.string x) := cellB u.below hbw c1
        go_wp2_with fail
        refine (place_any A m cap x _ hl ((IN.out.below BU.out).more BU.out.size) HR.out).mono ?_
        rintro e w2 ⟨rfl, b2⟩
        have hbu : w.heap.size < u.wo.heap.size := by have := u.below.size; omega
        have e1 : w2.cell? ⟨w.heap.size, 1, none⟩ = some (.string o) := cellB b2 hbu (cellB u.below hbw c2)
        have e3 : w2.cell? ⟨w.heap.size, 3, none⟩ = some (.bool true) := cellB b2 hbu (cellB u.below hbw c4)
        have B2 := hide (BU.out.trans (b2.mono BU.out.size))
        rw [hh]
        clear b2 BU k1 y1 y2 y3 y4 y5 c1 c2 c3 c4 c5
        go_wp2
        go_quiet (fail)
        go_wp2
        go_ret
        exact ⟨ret_bool Z.out.symm, belowN B2.out _⟩
      · obtain ⟨hlt, he⟩ := hasB_iff.1 hh
        have HV := hide (valOf_yes hlt he)
        have hla : (atN m x : Int) < (m.length : Int) := by omega
        by_cases ho : (m[atN m x]'hlt).2 = o
        · have Z : Hid (fitB m (x, o, n, true, false) = true) := hide (fitB_iff.2 ⟨hK, hV, hh, by rw [HV.out]; exact ho, .inr HN.out⟩)
          have d0 := eqS_yes ho
          have k1 : u.wo.cell? ⟨w.heap.size, 0, none⟩ = some (.string x) := cellB u.below hbw c1
          go_wp2_with fail
          refine (place_any A m cap x _ hl ((IN.out.below BU.out).more BU.out.size) HR.out).mono ?_
          rintro e w2 ⟨rfl, b2⟩
          have hbu : w.heap.size < u.wo.heap.size := by have := u.below.size; omega
          have e1 : w2.cell? ⟨w.heap.size, 1, none⟩ = some (.string o) := cellB b2 hbu (cellB u.below hbw c2)
          have e3 : w2.cell? ⟨w.heap.size, 3, none⟩ = some (.bool true) := cellB b2 hbu (cellB u.below hbw c4)
          have B2 := hide (BU.out.trans (b2.mono BU.out.size))
          rw [hh]
          have in2 := (IN.out.below B2.out)
          obtain ⟨b, off, rfl, hbB, hc⟩ := in2.2 (by omega)
          obtain ⟨f1, f2⟩ := hc (atN m x) hlt
          generalize (m[atN m x]'hlt).2 = v at *
          generalize atN m x = at0 at *
          clear hc in2 b2 BU k1 y1 y2 y3 y4 y5 c1 c2 c3 c4 c5
          go_wp2
          go_quiet (fail)
          go_wp2
          go_ret
          exact ⟨ret_bool Z.out.symm, belowN B2.out _⟩
        · have Z : Hid (fitB m (x, o, n, true, false) = false) := hide (fit_no (fun z => ho (by rw [← HV.out]; exact z.2.2.2.1)))
          have d0 := eqS_no ho
          have k1 : u.wo.cell? ⟨w.heap.size, 0, none⟩ = some (.string x) := cellB u.below hbw c1
          go_wp2_with fail
          refine (place_any A m cap x _ hl ((IN.out.below BU.out).more BU.out.size) HR.out).mono ?_
          rintro e w2 ⟨rfl, b2⟩
          have hbu : w.heap.size < u.wo.heap.size := by have := u.below.size; omega
          have e1 : w2.cell? ⟨w.heap.size, 1, none⟩ = some (.string o) := cellB b2 hbu (cellB u.below hbw c2)
          have e3 : w2.cell? ⟨w.heap.size, 3, none⟩ = some (.bool true) := cellB b2 hbu (cellB u.below hbw c4)
          have B2 := hide (BU.out.trans (b2.mono BU.out.size))
          rw [hh]
          have in2 := (IN.out.below B2.out)
          obtain ⟨b, off, rfl, hbB, hc⟩ := in2.2 (by omega)
          obtain ⟨f1, f2⟩ := hc (atN m x) hlt
          generalize (m[atN m x]'hlt).2 = v at *
          generalize atN m x = at0 at *
          clear hc in2 b2 BU k1 y1 y2 y3 y4 y5 c1 c2 c3 c4 c5
          go_wp2
          go_quiet (fail)
          go_wp2
          go_ret
          exact ⟨ret_bool Z.out.symm, belowN B2.out _⟩
    · have Z : Hid (fitB m (x, o, n, true, false) = false) := hide (fit_no (fun z => z.2.2.2.2.elim (fun g => by cases g) hnn))
      obtain ⟨m1, m2, m3, m4, m5⟩ := emp_ne hnn
      go_enter Tryz.func42, Tryz.ntmps42
      go_wp2
      have bx : Hid (Below w.heap.size w (w.alloc (.cells #[.string x, .string o, .string n, .bool true, .bool false] 45))) := hide ((Below.refl _ _).alloc (Nat.le_refl _) _)
      have hbw : w.heap.size < (w.alloc (.cells #[.string x, .string o, .string n, .bool true, .bool false] 45)).heap.size := by simp
      have c1 : (w.alloc (.cells #[.string x, .string o, .string n, .bool true, .bool false] 45)).cell? ⟨w.heap.size, 0, none⟩ = some (.string x) := by simp [go_sem]
      have c2 : (w.alloc (.cells #[.string x, .string o, .string n, .bool true, .bool false] 45)).cell? ⟨w.heap.size, 1, none⟩ = some (.string o) := by simp [go_sem]
      have c3 : (w.alloc (.cells #[.string x, .string o, .string n, .bool true, .bool false] 45)).cell? ⟨w.heap.size, 2, none⟩ = some (.string n) := by simp [go_sem]
      have c4 : (w.alloc (.cells #[.string x, .string o, .string n, .bool true, .bool false] 45)).cell? ⟨w.heap.size, 3, none⟩ = some (.bool true) := by simp [go_sem]
      have c5 : (w.alloc (.cells #[.string x, .string o, .string n, .bool true, .bool false] 45)).cell? ⟨w.heap.size, 4, none⟩ = some (.bool false) := by simp [go_sem]
      generalize w.alloc (.cells #[.string x, .string o, .string n, .bool true, .bool false] 45) = W1 at *
      have y1 := cls_cell (B := W1.heap.size) hbw c1
      have y2 := cls_cell (B := W1.heap.size) hbw c2
      have y3 := cls_cell (B := W1.heap.size) hbw c3
      have y4 := cls_cell (B := W1.heap.size) hbw c4
      have y5 := cls_cell (B := W1.heap.size) hbw c5
      refine wp_region_cls (by kernel_rfl) (by kernel_rfl) W1.heap.size ?_
      repeat (go_big_quiet_step ((first | (go_at_call 31; exact cls_call (Nat.le_refl _) (same_below (keyOk_any x _ hx))) | (go_at_call 32; exact cls_call (Nat.le_refl _) (same_below (valOk_any n _ hn))) | (go_at_call 44; exact cls_call (Nat.le_refl _) (editOf_true_false x o n _)) | (go_at_call 133; exact cls_call (Nat.le_refl _) (turnChange_any x o x n _)) | (go_at_call 131; exact cls_call (Nat.le_refl _) (lossChange_any x o _)) | (go_at_call 132; exact cls_call (Nat.le_refl _) (gainChange_any x n _)) | (go_at_call 134; exact cls_call (Nat.le_refl _) (idleChange_any x _)))))
      refine wpQuiet_nil ?_
      intro _ hw'
      obtain ⟨u, hw''⟩ := hw'
      subst hw''
      have BU := hide (bx.out.trans (u.below.mono bx.out.size))
      go_wp2
      go_ret
      exact ⟨ret_bool Z.out.symm, BU.out⟩
  · skip
    go_enter Tryz.func42, Tryz.ntmps42
    go_wp2
    have bx : Hid (Below w.heap.size w (w.alloc (.cells #[.string x, .string o, .string n, .bool true, .bool true] 45))) := hide ((Below.refl _ _).alloc (Nat.le_refl _) _)
    have hbw : w.heap.size < (w.alloc (.cells #[.string x, .string o, .string n, .bool true, .bool true] 45)).heap.size := by simp
    have c1 : (w.alloc (.cells #[.string x, .string o, .string n, .bool true, .bool true] 45)).cell? ⟨w.heap.size, 0, none⟩ = some (.string x) := by simp [go_sem]
    have c2 : (w.alloc (.cells #[.string x, .string o, .string n, .bool true, .bool true] 45)).cell? ⟨w.heap.size, 1, none⟩ = some (.string o) := by simp [go_sem]
    have c3 : (w.alloc (.cells #[.string x, .string o, .string n, .bool true, .bool true] 45)).cell? ⟨w.heap.size, 2, none⟩ = some (.string n) := by simp [go_sem]
    have c4 : (w.alloc (.cells #[.string x, .string o, .string n, .bool true, .bool true] 45)).cell? ⟨w.heap.size, 3, none⟩ = some (.bool true) := by simp [go_sem]
    have c5 : (w.alloc (.cells #[.string x, .string o, .string n, .bool true, .bool true] 45)).cell? ⟨w.heap.size, 4, none⟩ = some (.bool true) := by simp [go_sem]
    generalize w.alloc (.cells #[.string x, .string o, .string n, .bool true, .bool true] 45) = W1 at *
    have y1 := cls_cell (B := W1.heap.size) hbw c1
    have y2 := cls_cell (B := W1.heap.size) hbw c2
    have y3 := cls_cell (B := W1.heap.size) hbw c3
    have y4 := cls_cell (B := W1.heap.size) hbw c4
    have y5 := cls_cell (B := W1.heap.size) hbw c5
    refine wp_region_cls (by kernel_rfl) (by kernel_rfl) W1.heap.size ?_
    repeat (go_big_quiet_step ((first | (go_at_call 31; exact cls_call (Nat.le_refl _) (same_below (keyOk_any x _ hx))) | (go_at_call 32; exact cls_call (Nat.le_refl _) (same_below (valOk_any n _ hn))) | (go_at_call 44; exact cls_call (Nat.le_refl _) (editOf_true_true x o n _)) | (go_at_call 133; exact cls_call (Nat.le_refl _) (turnChange_any x o x n _)) | (go_at_call 131; exact cls_call (Nat.le_refl _) (lossChange_any x o _)) | (go_at_call 132; exact cls_call (Nat.le_refl _) (gainChange_any x n _)) | (go_at_call 134; exact cls_call (Nat.le_refl _) (idleChange_any x _)))))
    refine wpQuiet_nil ?_
    intro _ hw'
    obtain ⟨u, hw''⟩ := hw'
    subst hw''
    have BU := hide (bx.out.trans (u.below.mono bx.out.size))
    rcases hasB_cases m x with hh | hh
    · have Z : Hid (fitB m (x, o, n, true, true) = false) := hide (fit_no (fun z => by rw [show hasB m x = false from hh] at z; exact absurd z.2.2.1 (by simp)))
      have k1 : u.wo.cell? ⟨w.heap.size, 0, none⟩ = some (.string x) := cellB u.below hbw c1
      go_wp2_with fail
      refine (place_any A m cap x _ hl ((IN.out.below BU.out).more BU.out.size) HR.out).mono ?_
      rintro e w2 ⟨rfl, b2⟩
      have hbu : w.heap.size < u.wo.heap.size := by have := u.below.size; omega
      have e1 : w2.cell? ⟨w.heap.size, 1, none⟩ = some (.string o) := cellB b2 hbu (cellB u.below hbw c2)
      have e3 : w2.cell? ⟨w.heap.size, 3, none⟩ = some (.bool true) := cellB b2 hbu (cellB u.below hbw c4)
      have B2 := hide (BU.out.trans (b2.mono BU.out.size))
      rw [hh]
      clear b2 BU k1 y1 y2 y3 y4 y5 c1 c2 c3 c4 c5
      go_wp2
      go_quiet (fail)
      go_wp2
      go_ret
      exact ⟨ret_bool Z.out.symm, belowN B2.out _⟩
    · obtain ⟨hlt, he⟩ := hasB_iff.1 hh
      have HV := hide (valOf_yes hlt he)
      have hla : (atN m x : Int) < (m.length : Int) := by omega
      by_cases ho : (m[atN m x]'hlt).2 = o
      · have Z : Hid (fitB m (x, o, n, true, true) = true) := hide (fitB_iff.2 ⟨hK, hV, hh, by rw [HV.out]; exact ho, .inl rfl⟩)
        have d0 := eqS_yes ho
        have k1 : u.wo.cell? ⟨w.heap.size, 0, none⟩ = some (.string x) := cellB u.below hbw c1
        go_wp2_with fail
        refine (place_any A m cap x _ hl ((IN.out.below BU.out).more BU.out.size) HR.out).mono ?_
        rintro e w2 ⟨rfl, b2⟩
        have hbu : w.heap.size < u.wo.heap.size := by have := u.below.size; omega
        have e1 : w2.cell? ⟨w.heap.size, 1, none⟩ = some (.string o) := cellB b2 hbu (cellB u.below hbw c2)
        have e3 : w2.cell? ⟨w.heap.size, 3, none⟩ = some (.bool true) := cellB b2 hbu (cellB u.below hbw c4)
        have B2 := hide (BU.out.trans (b2.mono BU.out.size))
        rw [hh]
        have in2 := (IN.out.below B2.out)
        obtain ⟨b, off, rfl, hbB, hc⟩ := in2.2 (by omega)
        obtain ⟨f1, f2⟩ := hc (atN m x) hlt
        generalize (m[atN m x]'hlt).2 = v at *
        generalize atN m x = at0 at *
        clear hc in2 b2 BU k1 y1 y2 y3 y4 y5 c1 c2 c3 c4 c5
        go_wp2
        go_quiet (fail)
        go_wp2
        go_ret
        exact ⟨ret_bool Z.out.symm, belowN B2.out _⟩
      · have Z : Hid (fitB m (x, o, n, true, true) = false) := hide (fit_no (fun z => ho (by rw [← HV.out]; exact z.2.2.2.1)))
        have d0 := eqS_no ho
        have k1 : u.wo.cell? ⟨w.heap.size, 0, none⟩ = some (.string x) := cellB u.below hbw c1
        go_wp2_with fail
        refine (place_any A m cap x _ hl ((IN.out.below BU.out).more BU.out.size) HR.out).mono ?_
        rintro e w2 ⟨rfl, b2⟩
        have hbu : w.heap.size < u.wo.heap.size := by have := u.below.size; omega
        have e1 : w2.cell? ⟨w.heap.size, 1, none⟩ = some (.string o) := cellB b2 hbu (cellB u.below hbw c2)
        have e3 : w2.cell? ⟨w.heap.size, 3, none⟩ = some (.bool true) := cellB b2 hbu (cellB u.below hbw c4)
        have B2 := hide (BU.out.trans (b2.mono BU.out.size))
        rw [hh]
        have in2 := (IN.out.below B2.out)
        obtain ⟨b, off, rfl, hbB, hc⟩ := in2.2 (by omega)
        obtain ⟨f1, f2⟩ := hc (atN m x) hlt
        generalize (m[atN m x]'hlt).2 = v at *
        generalize atN m x = at0 at *
        clear hc in2 b2 BU k1 y1 y2 y3 y4 y5 c1 c2 c3 c4 c5
        go_wp2
        go_quiet (fail)
        go_wp2
        go_ret
        exact ⟨ret_bool Z.out.symm, belowN B2.out _⟩
end Go.Proofs.YtaofemdhgfejjaaGreatDoor
/-
  impl.edited: a map with one change done.
-/
namespace Go.Proofs.YtaofemdhgfejjaaGreatDoor
open Go.RowKit

theorem te_gain_gain (v : Value) (W : World) : (Instr.typeAssert (.iface 119 v) 74 119 true).run Tryz.prog W = .ok (.tuple #[v, .bool true]) W := by kernel_rfl
theorem te_turn_gain (v : Value) (W : World) : (Instr.typeAssert (.iface 121 v) 74 119 true).run Tryz.prog W = .ok (.tuple #[.agg #[.string ⟨#[]⟩, .string ⟨#[]⟩], .bool false]) W := by kernel_rfl
theorem te_turn_turn (v : Value) (W : World) : (Instr.typeAssert (.iface 121 v) 74 121 true).run Tryz.prog W = .ok (.tuple #[v, .bool true]) W := by kernel_rfl
theorem te_loss_gain (v : Value) (W : World) : (Instr.typeAssert (.iface 117 v) 74 119 true).run Tryz.prog W = .ok (.tuple #[.agg #[.string ⟨#[]⟩, .string ⟨#[]⟩], .bool false]) W := by kernel_rfl
theorem te_loss_turn (v : Value) (W : World) : (Instr.typeAssert (.iface 117 v) 74 121 true).run Tryz.prog W = .ok (.tuple #[.agg #[.string ⟨#[]⟩, .string ⟨#[]⟩, .string ⟨#[]⟩, .string ⟨#[]⟩], .bool false]) W := by kernel_rfl
theorem te_loss_loss (v : Value) (W : World) : (Instr.typeAssert (.iface 117 v) 74 117 true).run Tryz.prog W = .ok (.tuple #[v, .bool true]) W := by kernel_rfl
theorem te_idle_gain (v : Value) (W : World) : (Instr.typeAssert (.iface 123 v) 74 119 true).run Tryz.prog W = .ok (.tuple #[.agg #[.string ⟨#[]⟩, .string ⟨#[]⟩], .bool false]) W := by kernel_rfl
theorem te_idle_loss (v : Value) (W : World) : (Instr.typeAssert (.iface 123 v) 74 117 true).run Tryz.prog W = .ok (.tuple #[.agg #[.string ⟨#[]⟩, .string ⟨#[]⟩], .bool false]) W := by kernel_rfl
theorem te_idle_turn (v : Value) (W : World) : (Instr.typeAssert (.iface 123 v) 74 121 true).run Tryz.prog W = .ok (.tuple #[.agg #[.string ⟨#[]⟩, .string ⟨#[]⟩, .string ⟨#[]⟩, .string ⟨#[]⟩], .bool false]) W := by kernel_rfl

set_option maxRecDepth 100000 in
set_option maxHeartbeats 4000000 in
theorem edited_any (A : Option Addr) (l : List Pr) (cap : Nat) (x o n : ByteArray) (p q : Bool) (w : World) (B : Nat) (hl : l.length ≤ 65536) (hown : Own w B A cap l) (hB : B ≤ w.heap.size) (hr : risesTo l l.length) (hx : x.size ≤ maxLen) (hn : n.size ≤ maxLen) (hq : q = false → hasB l x = p) :
    Calls Tryz.prog 43 #[.slice A l.length cap, editV x o n p q] w (RetOwn B (stepM l (x, o, n, p, q)) w) := by
  have HR := hide hr
  have O := hide hown
  have hc := hown.cap_le
  clear hr hown
  rcases q with _ | _
  · have hh := hq rfl
    have hs := hide (stepM_no (m := l) (c := (x, o, n, p, false)) rfl)
    clear hq
    rcases p with _ | _
    · have E : Hid (stepM l (x, o, n, false, false) = l) := hide (by rw [hs.out]; unfold delL; rw [show hasB l (x, o, n, false, false).1 = false from hh]; rfl)
      have t1 := te_idle_gain
      have t2 := te_idle_loss
      have t3 := te_idle_turn
      rw [editV]
      clear hs
      go_enter Tryz.func43, Tryz.ntmps43
      go_wp2
      go_ret
      rw [E.out]
      exact ⟨A, cap, hc, rfl, O.out, Below.refl _ _⟩
    · have E : Hid (stepM l (x, o, n, true, false) = l.eraseIdx (atN l x)) := hide (by rw [hs.out]; unfold delL; rw [if_pos (show hasB l (x, o, n, true, false).1 = true from hh)])
      have t1 := te_loss_gain
      have t2 := te_loss_turn
      have t3 := te_loss_loss
      obtain ⟨hlt, he⟩ := hasB_iff.1 hh
      clear hs he
      rw [editV]
      go_enter Tryz.func43, Tryz.ntmps43
      go_wp2_with fail
      have bx : Hid (Below w.heap.size w (w.alloc (.cells #[.string x, .string o] 117))) := hide ((Below.refl _ _).alloc (Nat.le_refl _) _)
      refine (place_any A l cap x _ hl ((O.out.pin.below bx.out).more bx.out.size) HR.out).mono ?_
      rintro e w2 ⟨rfl, b2⟩
      have B2 := hide (bx.out.trans (b2.mono bx.out.size))
      clear b2 bx
      go_wp2_with fail
      refine (without_any A l cap (atN l x) _ hl hc hlt ((O.out.pin.below B2.out).more B2.out.size)).mono ?_
      rintro e w3 ⟨A3, cap3, hc3, rfl, own3, b3⟩
      have B3 := hide (B2.out.trans (b3.mono B2.out.size))
      have O3 := hide (own3.more (Nat.le_trans hB B2.out.size))
      clear b3 own3
      go_wp2
      go_ret
      rw [E.out]
      exact ⟨A3, cap3, hc3, rfl, O3.out, B3.out.mono hB⟩
  · have E := hide (stepM_yes (m := l) (c := (x, o, n, p, true)) rfl)
    clear hq
    rcases p with _ | _
    · have t1 := te_gain_gain
      rw [editV]
      go_enter Tryz.func43, Tryz.ntmps43
      go_wp2_with fail
      have bx : Hid (Below w.heap.size w (w.alloc (.cells #[.string x, .string n] 119))) := hide ((Below.refl _ _).alloc (Nat.le_refl _) _)
      refine (with_any A l cap x n _ hl hc ((O.out.pin.below bx.out).more bx.out.size) HR.out hx hn).mono ?_
      rintro e w3 ⟨A3, cap3, hc3, rfl, own3, b3⟩
      have B3 := hide (bx.out.trans (b3.mono bx.out.size))
      have O3 := hide (own3.more (Nat.le_trans hB bx.out.size))
      clear b3 own3
      go_wp2
      go_ret
      rw [E.out]
      exact ⟨A3, cap3, hc3, rfl, O3.out, B3.out.mono hB⟩
    · have t1 := te_turn_gain
      have t2 := te_turn_turn
      rw [editV]
      go_enter Tryz.func43, Tryz.ntmps43
      go_wp2_with fail
      have bx : Hid (Below w.heap.size w (w.alloc (.cells #[.string x, .string o, .string x, .string n] 121))) := hide ((Below.refl _ _).alloc (Nat.le_refl _) _)
      refine (with_any A l cap x n _ hl hc ((O.out.pin.below bx.out).more bx.out.size) HR.out hx hn).mono ?_
      rintro e w3 ⟨A3, cap3, hc3, rfl, own3, b3⟩
      have B3 := hide (bx.out.trans (b3.mono bx.out.size))
      have O3 := hide (own3.more (Nat.le_trans hB bx.out.size))
      clear b3 own3
      go_wp2
      go_ret
      rw [E.out]
      exact ⟨A3, cap3, hc3, rfl, O3.out, B3.out.mono hB⟩
end Go.Proofs.YtaofemdhgfejjaaGreatDoor
/-
  slices.Clone of pairs.
-/
namespace Go.Proofs.YtaofemdhgfejjaaGreatDoor
open Go.RowKit

theorem nil_yes (n cap : Nat) (w : World) : (binOp BinOp.eql 62 (.slice none n cap) (.slice none 0 0)).run Tryz.prog w = .ok (.bool true) w := by kernel_rfl
theorem nil_no (a : Addr) (n cap : Nat) (w : World) : (binOp BinOp.eql 62 (.slice (some a) n cap) (.slice none 0 0)).run Tryz.prog w = .ok (.bool false) w := by kernel_rfl
set_option maxRecDepth 100000 in
set_option maxHeartbeats 2000000 in
theorem clone_any (A : Option Addr) (l : List Pr) (cap : Nat) (w : World) (hl : l.length ≤ 1200000) (hin : PIn w w.heap.size A l) :
    Calls Tryz.prog 41 #[.slice A l.length cap] w (RetOwn w.heap.size l w) := by
  cases A with
  | none =>
    have h0 : l = [] := by
      rcases Nat.eq_zero_or_pos l.length with e | e
      · exact List.eq_nil_of_length_eq_zero e
      · obtain ⟨_, _, x, _⟩ := hin.2 e
        cases x
    subst h0
    clear hin
    have hnil := nil_yes
    go_enter Tryz.func41, Tryz.ntmps41
    go_wp2
    go_ret
    exact ⟨none, 0, by simp, rfl, Own.nil _ _, Below.refl _ _⟩
  | some a =>
    have IN := hide hin
    have E0 : Hid ([] ++ l = l) := hide (by simp)
    clear hin
    generalize hnn : l.length = n at *
    have HNN := hide hnn
    clear hnn
    have hnil := nil_no
    go_enter Tryz.func41, Tryz.ntmps41
    go_wp2_with (at_builtin; refine wpList_app 62 Tryz.underlying62 rfl (.tmp 5) (.tmp 6) rfl rfl rfl rfl HNN.out.symm (Own.built w w.heap.size (Nat.le_refl _)) (IN.out.below ((Below.refl _ _).alloc (Nat.le_refl _) _)) (by simp) (by rw [HNN.out]; simp; omega) ?_; intro A3 cap3 w3 own3 g3 r3; have b3 := hide (((Below.refl _ w).alloc (Nat.le_refl _) _).trans ((Own.built w w.heap.size (Nat.le_refl _)).grownBelow (by rw [rowOf_own]; exact g3) (by simp))); have O3 := hide own3; clear own3 g3)
    go_ret
    have O4 := O3.out
    rw [E0.out] at O4
    have hc := O4.cap_le
    rw [HNN.out] at hc
    exact ⟨A3, cap3, by rw [HNN.out]; exact hc, by simp [HNN.out], O4, b3.out⟩
end Go.Proofs.YtaofemdhgfejjaaGreatDoor
/-
  What impl.Applied answers.
-/
namespace Go.Proofs.YtaofemdhgfejjaaGreatDoor
open Go.RowKit

set_option maxRecDepth 100000 in
set_option maxHeartbeats 16000000 in
theorem implApplied_any (A : Option Addr) (m : List Pr) (cap : Nat) (A' : Option Addr) (l : List Ch) (cap' : Nat) (w : World) (hm : m.length ≤ maxLen) (hl : l.length ≤ 1048576) (hin : PIn w w.heap.size A m) (hin' : HIn w w.heap.size A' l) :
    Calls Tryz.prog 21 #[.slice A m.length cap, .slice A' l.length cap'] w (RetOwnB w.heap.size (appL m l) (appB m l) w) := by
  have hlm : l.length ≤ maxLen := by unfold maxLen; omega
  cases hmB : mapB m
  · have Z := hide (appB_map (l := l) hmB)
    go_enter Tryz.func21, Tryz.ntmps21
    go_wp2_with fail
    refine (implMapOk_any A m cap _ hm hin).mono ?_
    rintro e w1 ⟨rfl, b1⟩
    rw [hmB]
    go_wp2
    go_ret2
    exact retOwnB_no (appL_no Z.out) Z.out b1
  cases hrB : risesB (cp l)
  · have Z := hide (appB_cp (m := m) hrB)
    go_enter Tryz.func21, Tryz.ntmps21
    go_wp2_with fail
    refine (implMapOk_any A m cap _ hm hin).mono ?_
    rintro e w1 ⟨rfl, b1⟩
    rw [hmB]
    go_wp2_with fail
    refine (risesC_any A' l cap' _ hlm ((hin'.below b1).more b1.size)).mono ?_
    rintro e w2 ⟨rfl, b2⟩
    rw [hrB]
    have B2 := hide (b1.trans (b2.mono b1.size))
    clear b1 b2
    go_wp2
    go_ret2
    exact retOwnB_no (appL_no Z.out) Z.out B2.out
  · have h40 := (mapB_iff.1 hmB).1
    have RM := hide (mapB_ris hmB)
    have HM := hide hmB
    have HR := hide (risesB_iff.1 hrB)
    have HMR := hide (mapB_iff.1 hmB).2.2
    have IN := hide hin
    have INL := hide hin'
    have E0 : Hid (m = appM m (l.take 0)) := hide (by simp [appM])
    go_enter Tryz.func21, Tryz.ntmps21
    go_wp2_with fail
    refine (implMapOk_any A m cap _ hm hin).mono ?_
    rintro e w1 ⟨rfl, b1⟩
    rw [hmB]
    go_wp2_with fail
    refine (risesC_any A' l cap' _ hlm ((hin'.below b1).more b1.size)).mono ?_
    rintro e w2 ⟨rfl, b2⟩
    rw [hrB]
    have B2 := hide (b1.trans (b2.mono b1.size))
    clear b1 b2 hin hin' hmB hrB
    go_wp2_with fail
    refine (clone_any A m cap _ (by omega) ((IN.out.below B2.out).more B2.out.size)).mono ?_
    rintro e w3 ⟨A3, cap3, hc3, rfl, own3, b3⟩
    have B3 := hide (B2.out.trans (b3.mono B2.out.size))
    have O3 := hide (own3.more B2.out.size)
    clear b3 own3 B2
    go_wp2
    generalize hnn : l.length = nn at hl ⊢
    have HN := hide hnn
    clear hnn hlm
    go_loopw [6, 21] (fun ov iv wr => ∃ (k : Nat) (A3 : Option Addr) (cap3 : Nat) (N : List Pr), k ≤ nn ∧ iv = .int .i64 k ∧ ov = .slice A3 N.length cap3 ∧ N.length ≤ 81 ∧ Hid (N = appM m (l.take k)) ∧ Hid (∀ i (h : i < l.length), i < k → fitB m l[i] = true) ∧ Hid (Own wr w.heap.size A3 cap3 N) ∧ Hid (Below w.heap.size w wr)) (fun _ i _ => nn - (intOf i).toNat)
    case atStart => exact ⟨0, A3, cap3, m, Nat.zero_le _, rfl, rfl, by omega, E0, hide (fun i _ h => absurd h (by omega)), O3, B3⟩
    case round =>
      clear O3 B3 E0 hc3
      obtain ⟨k, A4, cap4, N, hk, rfl, rfl, hNL, HNE, H, O, Q⟩ := hrel
      have hqs := Q.out.size
      by_cases hlt : k < nn
      · have hkl : k < l.length := by rw [HN.out]; omega
        have hin2 := INL.out.below Q.out
        obtain ⟨b, off, rfl, hbB, hc⟩ := hin2.2 (by omega)
        obtain ⟨c1, c2, c3, c4, c5⟩ := hc k hkl
        obtain ⟨s1, _, s3⟩ := hin2.1 k hkl
        have RN : Hid (Ris N) := hide (by rw [HNE.out]; exact ris_app _ RM.out)
        have F0 := hide (fun h => appB_fit0 HM.out HR.out hkl h)
        have LK : Hid (lk N (l[k]'hkl).1 = lk m (l[k]'hkl).1) := hide (by rw [HNE.out]; exact lk_take RM.out HR.out hkl)
        have FS : Hid (fitB m (l[k]'hkl) = true → ∀ i (h : i < l.length), i < k + 1 → fitB m l[i] = true) := hide (fun h i hi hik => by
          rcases Nat.lt_or_ge i k with g | g
          · exact H.out i hi g
          · obtain rfl : i = k := by omega
            exact h)
        have FL : Hid (80 < N.length → appB m l = false) := hide (fun h => appB_long (k := k) (by omega) (by rw [← HNE.out]; exact h))
        have ES := hide (appM_succ m l k hkl)
        rw [← HNE.out] at ES
        have hki : (k : Int) < (nn : Int) := by omega
        clear hc hin2 H
        generalize (l[k]'hkl) = c at *
        obtain ⟨x, o, n, p, q⟩ := c
        simp only at c1 c2 c3 c4 c5 s1 s3
        have bx : Hid (Below w.heap.size wr (wr.alloc (.cells #[.string x, .string o, .string n, .bool p, .bool q] 45))) := hide ((Below.refl _ _).alloc hqs _)
        have bb : Hid (Below wr.heap.size wr (wr.alloc (.cells #[.string x, .string o, .string n, .bool p, .bool q] 45))) := hide ((Below.refl _ _).alloc (Nat.le_refl _) _)
        have hbw : wr.heap.size < (wr.alloc (.cells #[.string x, .string o, .string n, .bool p, .bool q] 45)).heap.size := by simp
        have y1 : (wr.alloc (.cells #[.string x, .string o, .string n, .bool p, .bool q] 45)).cell? ⟨wr.heap.size, 0, none⟩ = some (.string x) := by simp [go_sem]
        have y2 : (wr.alloc (.cells #[.string x, .string o, .string n, .bool p, .bool q] 45)).cell? ⟨wr.heap.size, 1, none⟩ = some (.string o) := by simp [go_sem]
        have y3 : (wr.alloc (.cells #[.string x, .string o, .string n, .bool p, .bool q] 45)).cell? ⟨wr.heap.size, 2, none⟩ = some (.string n) := by simp [go_sem]
        have y4 : (wr.alloc (.cells #[.string x, .string o, .string n, .bool p, .bool q] 45)).cell? ⟨wr.heap.size, 3, none⟩ = some (.bool p) := by simp [go_sem]
        have y5 : (wr.alloc (.cells #[.string x, .string o, .string n, .bool p, .bool q] 45)).cell? ⟨wr.heap.size, 4, none⟩ = some (.bool q) := by simp [go_sem]
        have O1 := hide (O.out.alloc (.cells #[.string x, .string o, .string n, .bool p, .bool q] 45))
        have Q1 := hide (Q.out.trans bx.out)
        go_wp2_with fail
        generalize wr.alloc (.cells #[.string x, .string o, .string n, .bool p, .bool q] 45) = W1 at *
        refine (fits_any A m cap x o n p q _ (by omega) ((IN.out.below Q1.out).more Q1.out.size) HMR.out s1 s3).mono ?_
        rintro e w2 ⟨rfl, b2⟩
        have z1 : w2.cell? ⟨wr.heap.size, 0, none⟩ = some (.string x) := cellB b2 hbw y1
        have z2 : w2.cell? ⟨wr.heap.size, 1, none⟩ = some (.string o) := cellB b2 hbw y2
        have z3 : w2.cell? ⟨wr.heap.size, 2, none⟩ = some (.string n) := cellB b2 hbw y3
        have z4 : w2.cell? ⟨wr.heap.size, 3, none⟩ = some (.bool p) := cellB b2 hbw y4
        have z5 : w2.cell? ⟨wr.heap.size, 4, none⟩ = some (.bool q) := cellB b2 hbw y5
        have Q2 := hide (Q1.out.trans (b2.mono Q1.out.size))
        have O2 := hide (O1.out.below b2)
        clear b2 y1 y2 y3 y4 y5 c1 c2 c3 c4 c5 O O1 Q Q1 bx bb hbw
        cases hF : fitB m (x, o, n, p, q)
        · have Z : Hid (appB m l = false) := hide (F0.out hF)
          clear O2 F0 FS FL ES
          go_wp2
          go_ret2
          exact retOwnB_no (appL_no Z.out) Z.out Q2.out
        · by_cases hlong : 80 < N.length
          · have Z : Hid (appB m l = false) := hide (FL.out hlong)
            have dl : decide ((80 : Int) < (N.length : Int)) = true := decide_eq_true (by omega)
            clear O2 F0 FS FL ES
            go_wp2
            go_ret2
            exact retOwnB_no (appL_no Z.out) Z.out Q2.out
          · have dl : decide ((80 : Int) < (N.length : Int)) = false := decide_eq_false (by omega)
            have FN := hide (FS.out hF)
            have HP : Hid (hasB N x = p) := hide ((lk_eq.1 LK.out).1.trans (fitB_iff.1 hF).2.2.1)
            have hlen : (stepM N (x, o, n, p, q)).length ≤ 81 := by
              unfold stepM
              split
              · have := setL_len N x n; simp only; omega
              · have := delL_len N x; simp only; omega
            clear F0 FS FL LK
            go_wp2_with fail
            refine (editOf_any x o n p q _).mono ?_
            rintro e w3 ⟨rfl, b3⟩
            have Q3 := hide (Q2.out.trans (b3.mono Q2.out.size))
            have O3 := hide (O2.out.below b3)
            clear b3 Q2 O2 z1 z2 z3 z4 z5
            go_wp2_with fail
            refine (edited_any A4 N cap4 x o n p q _ w.heap.size (by omega) O3.out Q3.out.size (ris_iff.2 RN.out) s1 s3 (fun _ => HP.out)).mono ?_
            rintro e w4 ⟨A5, cap5, hc5, rfl, own5, b4⟩
            have Q4 := hide (Q3.out.trans b4)
            have O4 := hide own5
            clear own5 b4 Q3 O3
            go_wp2
            exact ⟨⟨k + 1, A5, cap5, stepM N (x, o, n, p, q), by omega, by go_num, rfl, hlen, hide ES.out.symm, FN, O4, Q4⟩, by simp [intOf]; omega⟩
      · obtain rfl : k = nn := by omega
        have E : Hid (N = appM m l) := hide (by rw [HNE.out, ← HN.out, List.take_length])
        have AA : Hid (∀ i (h : i < l.length), fitB m l[i] = true) := hide (fun i hi => H.out i hi (by rw [HN.out] at hi; exact hi))
        have hkk : ¬ (k : Int) < (k : Int) := by omega
        have hNm : N.length ≤ maxLen := by unfold maxLen; omega
        cases he : mapB N
        · have Z : Hid (appB m l = false) := hide (appB_end (by rw [← E.out]; exact he))
          go_wp2_with fail
          refine (implMapOk_any A4 N cap4 _ hNm O.out.pin).mono ?_
          rintro e w5 ⟨rfl, b5⟩
          rw [he]
          have Q5 := hide (Q.out.trans (b5.mono hqs))
          clear b5
          go_wp2
          go_ret2
          exact retOwnB_no (appL_no Z.out) Z.out Q5.out
        · have Z : Hid (appB m l = true) := hide (appB_all HM.out HR.out AA.out (by rw [← E.out]; exact he))
          go_wp2_with fail
          refine (implMapOk_any A4 N cap4 _ hNm O.out.pin).mono ?_
          rintro e w5 ⟨rfl, b5⟩
          rw [he]
          have Q5 := hide (Q.out.trans (b5.mono hqs))
          have O5 := hide (O.out.below b5)
          have hc5 := O.out.cap_le
          clear b5 O
          go_wp2
          go_ret2
          refine ⟨A4, cap4, ?_, ?_, ?_, Q5.out⟩
          · rw [appL_yes Z.out, ← E.out]; exact hc5
          · rw [appL_yes Z.out, Z.out, ← E.out]; rfl
          · rw [appL_yes Z.out, ← E.out]; exact O5.out
end Go.Proofs.YtaofemdhgfejjaaGreatDoor
namespace Go.Proofs.YtaofemdhgfejjaaGreatDoor.LMergedApart
open Go.RowKit Go.ChangeShapes Go.WideShapes Go.ChangeAt
open Go.ChangeMaps (open_string shut_string)

set_option maxRecDepth 100000 in
set_option maxHeartbeats 2000000 in
theorem walk (A : Option Addr) (n : Nat) (cap : Nat) (a : Addr) (w : World) (hl : n ≤ maxLen) (hin : CIn w w.heap.size A n) (hE : Errs w a) :
    Calls Tryz.prog 5 #[.slice A n cap] w fun e w' => e = .returned (.bool true) ∧ Below w.heap.size w w' := by
  by_cases hbig : 1048576 < n
  · have d : decide (1048576 < n) = true := decide_eq_true hbig
    go_enter Tryz.func5, Tryz.ntmps5
    go_wp2_with (go_at_call 7; refine (big_any A n cap _ hl).mono ?_; rintro e w' ⟨rfl, rfl⟩)
    go_ret
    exact ⟨rfl, Below.refl _ _⟩
  have hn : n ≤ 1048576 := by omega
  have d : decide (1048576 < n) = false := decide_eq_false hbig
  have IN := hide hin
  have HE := hide hE
  have HZ := hide hE.2.2
  have B0 := hide (Below.refl w.heap.size w)
  clear hin hE
  go_enter Tryz.func5, Tryz.ntmps5
  go_wp2_with fail
  refine (big_any A n cap w hl).mono ?_
  rintro e w' ⟨rfl, rfl⟩
  go_wp2_with fail
  refine (drawMerged_any A n cap w hn IN.out).mono ?_
  rintro e w1 ⟨A0, c0, l0, A1, c1, l1, A2, c2, l2, rfl, hc0, hc1, hc2, m0, m1, m2, o0, o1, o2, b1⟩
  have B1 := hide (B0.out.trans (b1.mono B0.out.size))
  have O_1 := hide (o0.more B0.out.size)
  have P_1 := hide (o1.more B0.out.size)
  have R_1 := hide (o2.more B0.out.size)
  clear b1 B0 o0 o1 o2
  have n0 := (mapB_iff.1 m0).1
  have n1 := (mapB_iff.1 m1).1
  have n2 := (mapB_iff.1 m2).1
  have M0 := hide m0
  have M1 := hide m1
  have M2 := hide m2
  have MX : (40 : Nat) ≤ maxLen := by unfold maxLen; omega
  clear m0 m1 m2 IN
  have hk1 := mgL_len l0 l1 l2
  have hk2 := mgK_len l0 l1 l2
  have es := eqL_self (mgL l0 l1 l2)
  have KM : (120 : Nat) ≤ maxLen := by unfold maxLen; omega
  go_wp2_with fail
  refine (implMerged_any A0 A1 A2 l0 l1 l2 c0 c1 c2 a _ (by omega) (by omega) (by omega) O_1.out.pin P_1.out.pin R_1.out.pin (HE.out.belowB B1.out HZ.out.1 HZ.out.2)).mono ?_
  rintro e w2 ⟨AM, cM, AK, cK, hcM, rfl, oM, zM, b2, _⟩
  have B2 := hide (B1.out.trans (b2.mono B1.out.size))
  have O_2 := hide (O_1.out.below b2)
  have P_2 := hide (P_1.out.below b2)
  have R_2 := hide (R_1.out.below b2)
  have M_2 := hide (oM.more B1.out.size)
  have K_2 := hide (zM.more B1.out.size)
  clear b2 B1 O_1 P_1 R_1 oM zM
  go_wp2_with fail
  refine (specMerged_any A0 A1 A2 l0 l1 l2 c0 c1 c2 _ (by omega) (by omega) (by omega) O_2.out.pin P_2.out.pin R_2.out.pin).mono ?_
  rintro e w3 ⟨AV, cV, AT, cT, hcV, rfl, oV, zV, b3, _⟩
  have B3 := hide (B2.out.trans (b3.mono B2.out.size))
  have O_3 := hide (O_2.out.below b3)
  have P_3 := hide (P_2.out.below b3)
  have R_3 := hide (R_2.out.below b3)
  have M_3 := hide (M_2.out.below b3)
  have K_3 := hide (K_2.out.below b3)
  have V_3 := hide (oV.more B2.out.size)
  have T_3 := hide (zV.more B2.out.size)
  clear b3 B2 O_2 P_2 R_2 M_2 K_2 oV zV
  have ne : (mgB l0 l1 l2 != mgB l0 l1 l2) = false := by simp
  have eqq : (mgB l0 l1 l2 == mgB l0 l1 l2) = true := by simp
  go_wp2_with fail
  refine (sameMap_any AM AV (mgL l0 l1 l2) (mgL l0 l1 l2) cM cV _ _ _ (by omega) (by omega) M_3.out.pin V_3.out.pin).mono ?_
  rintro e w4 ⟨rfl, b4⟩
  replace b4 := b4.below w3.heap.size
  have B4 := hide (B3.out.trans (b4.mono B3.out.size))
  have O_4 := hide (O_3.out.below b4)
  have P_4 := hide (P_3.out.below b4)
  have R_4 := hide (R_3.out.below b4)
  have M_4 := hide (M_3.out.below b4)
  have K_4 := hide (K_3.out.below b4)
  have V_4 := hide (V_3.out.below b4)
  have T_4 := hide (T_3.out.below b4)
  clear b4 B3 O_3 P_3 R_3 M_3 K_3 V_3 T_3
  rw [es]
  go_wp2_with fail
  refine (sameTexts_same AK AT (mgK l0 l1 l2) cK cT _ _ _ (by omega) K_4.out.zin T_4.out.zin).mono ?_
  rintro e w5 ⟨rfl, b5⟩
  replace b5 := b5.below w4.heap.size
  have B5 := hide (B4.out.trans (b5.mono B4.out.size))
  have O_5 := hide (O_4.out.below b5)
  have P_5 := hide (P_4.out.below b5)
  have R_5 := hide (R_4.out.below b5)
  have M_5 := hide (M_4.out.below b5)
  have K_5 := hide (K_4.out.below b5)
  have V_5 := hide (V_4.out.below b5)
  have T_5 := hide (T_4.out.below b5)
  clear b5 B4 O_4 P_4 R_4 M_4 K_4 V_4 T_4
  cases hg : mgB l0 l1 l2
  · skip
    go_wp2_with fail
    refine (sameMap_any AM AV (mgL l0 l1 l2) (mgL l0 l1 l2) cM cV _ _ _ (by omega) (by omega) M_5.out.pin V_5.out.pin).mono ?_
    rintro e w6 ⟨rfl, b6⟩
    replace b6 := b6.below w5.heap.size
    have B6 := hide (B5.out.trans (b6.mono B5.out.size))
    have O_6 := hide (O_5.out.below b6)
    have P_6 := hide (P_5.out.below b6)
    have R_6 := hide (R_5.out.below b6)
    have M_6 := hide (M_5.out.below b6)
    have K_6 := hide (K_5.out.below b6)
    have V_6 := hide (V_5.out.below b6)
    have T_6 := hide (T_5.out.below b6)
    clear b6 B5 O_5 P_5 R_5 M_5 K_5 V_5 T_5
    rw [es]
    go_wp2_with fail
    refine (sameTexts_same AK AT (mgK l0 l1 l2) cK cT _ _ _ (by omega) K_6.out.zin T_6.out.zin).mono ?_
    rintro e w7 ⟨rfl, b7⟩
    replace b7 := b7.below w6.heap.size
    have B7 := hide (B6.out.trans (b7.mono B6.out.size))
    have O_7 := hide (O_6.out.below b7)
    have P_7 := hide (P_6.out.below b7)
    have R_7 := hide (R_6.out.below b7)
    have M_7 := hide (M_6.out.below b7)
    have K_7 := hide (K_6.out.below b7)
    have V_7 := hide (V_6.out.below b7)
    have T_7 := hide (T_6.out.below b7)
    clear b7 B6 O_6 P_6 R_6 M_6 K_6 V_6 T_6
    go_wp2
    go_ret
    exact ⟨rfl, B7.out⟩
  have HG := hide hg
  clear hg ne eqq
  clear V_5
  clear T_5
  have h0c := O_5.out.cap_le
  have h1c := P_5.out.cap_le
  have h2c := R_5.out.cap_le
  have dx := diffL_len l0 l1
  have dy := diffL_len l0 l2
  have DX := hide (dif_yes M0.out M1.out)
  have DY := hide (dif_yes M0.out M2.out)
  go_wp2_with fail
  refine (implDiffOf_any A0 l0 c0 A1 l1 c1 _ (by omega) (by omega) h0c h1c O_5.out.pin P_5.out.pin).mono ?_
  rintro e w6 ⟨AX, cX, hcX, rfl, oX, b6⟩
  have B6 := hide (B5.out.trans (b6.mono B5.out.size))
  have O_6 := hide (O_5.out.below b6)
  have P_6 := hide (P_5.out.below b6)
  have R_6 := hide (R_5.out.below b6)
  have M_6 := hide (M_5.out.below b6)
  have K_6 := hide (K_5.out.below b6)
  have X_6 := hide (oX.more B5.out.size)
  clear b6 B5 O_5 P_5 R_5 M_5 K_5 oX
  go_wp2_with fail
  refine (implDiffOf_any A0 l0 c0 A2 l2 c2 _ (by omega) (by omega) h0c h2c O_6.out.pin R_6.out.pin).mono ?_
  rintro e w7 ⟨AY, cY, hcY, rfl, oY, b7⟩
  have B7 := hide (B6.out.trans (b7.mono B6.out.size))
  have O_7 := hide (O_6.out.below b7)
  have P_7 := hide (P_6.out.below b7)
  have R_7 := hide (R_6.out.below b7)
  have M_7 := hide (M_6.out.below b7)
  have K_7 := hide (K_6.out.below b7)
  have X_7 := hide (X_6.out.below b7)
  have Y_7 := hide (oY.more B6.out.size)
  clear b7 B6 O_6 P_6 R_6 M_6 K_6 X_6 oY
  clear P_7
  clear R_7
  clear K_7
  skip
  generalize diffL l0 l1 = dX at *
  generalize diffL l0 l2 = dY at *
  go_wp2
  go_loopw [16] (fun i wr => ∃ j : Nat, j ≤ dX.length ∧ i = .int .i64 j ∧ Hid (∀ c ∈ dX.take j, ∀ d ∈ dY, c.1 ≠ d.1) ∧ Hid (Own wr w.heap.size A0 c0 l0) ∧ Hid (Own wr w.heap.size AM cM (mgL l0 l1 l2)) ∧ Hid (HOwn wr w.heap.size AX cX dX) ∧ Hid (HOwn wr w.heap.size AY cY dY) ∧ Hid (Below w.heap.size w wr)) (fun i _ => dX.length - (intOf i).toNat)
  case atStart => exact ⟨0, Nat.zero_le _, rfl, hide (fun c hc => by simp at hc), O_7, M_7, X_7, Y_7, B7⟩
  case round =>
    clear B7 O_7 M_7 X_7 Y_7
    obtain ⟨j, hj, rfl, AP, O_200, M_200, X_200, Y_200, B200⟩ := hrel
    by_cases hlt : j < dX.length
    · skip
      have hin1 := X_200.out.pin
      obtain ⟨bb, off, rfl, hbB, hc⟩ := hin1.2 (by omega)
      have x1 := (hc j hlt).1
      have SX : Hid (dX.take (j + 1) = dX.take j ++ [dX[j]'hlt]) := hide (List.take_succ_eq_append_getElem hlt)
      clear hc hin1
      generalize dX[j]'hlt = cx at *
      have X1 := hide x1
      clear x1
      go_wp2
      go_loopw [17] (fun i wr2 => ∃ k : Nat, k ≤ dY.length ∧ i = .int .i64 k ∧ Hid (∀ d ∈ dY.take k, cx.1 ≠ d.1) ∧ Hid (Quiet wr wr2)) (fun i _ => dY.length - (intOf i).toNat)
      case atStart => exact ⟨0, Nat.zero_le _, rfl, hide (fun d hd => by simp at hd), Quiet.refl _⟩
      case round =>
        obtain ⟨k, hk, rfl, AQ, QQ⟩ := hrel
        by_cases hlt2 : k < dY.length
        · skip
          have hin2 := Y_200.out.pin
          obtain ⟨b2, off2, rfl, hbB2, hc2⟩ := hin2.2 (by omega)
          have y1 := (QQ.out.cell _).trans (hc2 k hlt2).1
          have x1 := (QQ.out.cell _).trans X1.out
          have SY : Hid (dY.take (k + 1) = dY.take k ++ [dY[k]'hlt2]) := hide (List.take_succ_eq_append_getElem hlt2)
          clear hc2 hin2
          generalize dY[k]'hlt2 = cy at *
          by_cases he : cx.1 = cy.1
          · have d1 := eqS_yes he
            generalize cx.1 = kx at *
            generalize cy.1 = ky at *
            clear he
            go_wp2
            go_quiet (fail)
            go_wp2
            go_ret
            exact ⟨rfl, B200.out.trans ((QQ.out.drewN _).below _)⟩
          · have d1 := eqS_no he
            have AQ2 : Hid (∀ d ∈ dY.take (k + 1), cx.1 ≠ d.1) := hide (fun d hd => by
              rw [SY.out, List.mem_append, List.mem_singleton] at hd
              rcases hd with hd | rfl
              · exact AQ.out d hd
              · exact he)
            clear SY he AQ
            generalize hkx : cx.1 = kx at x1 d1
            generalize hky : cy.1 = ky at y1 d1
            have HKX := hide hkx
            have HKY := hide hky
            clear hkx hky
            go_wp2
            go_quiet (fail)
            go_wp2
            go_roundw
            case rel => exact ⟨k + 1, by omega, by go_num, hide (fun d hd => by rw [← HKX.out]; exact AQ2.out d hd), QQ.out.drewN _⟩
            case measure => simp [intOf]; omega
        · skip
          have hge : ¬ ((k : Int) < (dY.length : Int)) := by omega
          have AP2 : Hid (∀ c ∈ dX.take (j + 1), ∀ d ∈ dY, c.1 ≠ d.1) := hide (fun c hc d hd => by
            rw [SX.out, List.mem_append, List.mem_singleton] at hc
            rcases hc with hc | rfl
            · exact AP.out c hc d hd
            · exact AQ.out d (by rw [List.take_of_length_le (by omega)]; exact hd))
          have O_201 := hide (O_200.out.below (QQ.out.below _))
          have M_201 := hide (M_200.out.below (QQ.out.below _))
          have X_201 := hide (X_200.out.below (QQ.out.below _))
          have Y_201 := hide (Y_200.out.below (QQ.out.below _))
          have B201 := hide (B200.out.trans (QQ.out.below _))
          clear AP AQ SX X1 B200 QQ O_200 M_200 X_200 Y_200
          go_wp2
          go_roundw
          case rel => exact ⟨j + 1, by omega, by go_num, AP2, O_201, M_201, X_201, Y_201, B201⟩
          case measure => simp [intOf]; omega
    · skip
      have hge : ¬ ((j : Int) < (dX.length : Int)) := by omega
      have AD : Hid (apartD (difM l0 l1) (difM l0 l2)) := hide (by
        rw [← DX.out, ← DY.out]
        intro c hc d hd
        exact AP.out c (by rw [List.take_of_length_le (by omega)]; exact hc) d hd)
      have eX := DX.out
      have eY := DY.out
      obtain ⟨t1, t2, t3⟩ := apart_ok HG.out AD.out
      have P1 := hide (fun W cc x y => implApplied_any A0 l0 c0 AX dX cc W (by omega) (by omega) x y)
      have P2 := hide (fun W A3 c3 x y => implApplied_any A3 l1 c3 AY dY cY W (by omega) (by omega) x y)
      rw [show appL l0 dX = l1 by rw [eX]; exact dif_appL M0.out M1.out, show appB l0 dX = true by rw [eX]; exact dif_ok M0.out M1.out] at P1
      rw [show appL l1 dY = mgL l0 l1 l2 by rw [eY]; exact t2, show appB l1 dY = true by rw [eY]; exact t1] at P2
      rw [t3]
      clear AP AD eX eY t1 t2 t3
      go_wp2_with fail
      refine (P1.out _ cX O_200.out.pin X_200.out.pin).mono ?_
      rintro e w201 ⟨A3, c3, hc3, rfl, o3, b201⟩
      have B201 := hide (B200.out.trans (b201.mono B200.out.size))
      have O_201 := hide (O_200.out.below b201)
      have M_201 := hide (M_200.out.below b201)
      have X_201 := hide (X_200.out.below b201)
      have Y_201 := hide (Y_200.out.below b201)
      have N_201 := hide (o3.more B200.out.size)
      clear b201 B200 O_200 M_200 X_200 Y_200 o3
      clear O_201
      clear X_201
      go_wp2_with fail
      refine (P2.out _ A3 c3 N_201.out.pin Y_201.out.pin).mono ?_
      rintro e w202 ⟨A4, c4, hc4, rfl, o4, b202⟩
      have B202 := hide (B201.out.trans (b202.mono B201.out.size))
      have M_202 := hide (M_201.out.below b202)
      have Y_202 := hide (Y_201.out.below b202)
      have N_202 := hide (N_201.out.below b202)
      have Q_202 := hide (o4.more B201.out.size)
      clear b202 B201 M_201 Y_201 N_201 o4
      clear N_202
      clear Y_202
      go_wp2_with fail
      refine (sameMap_any A4 AM (mgL l0 l1 l2) (mgL l0 l1 l2) c4 cM _ _ _ (by omega) (by omega) Q_202.out.pin M_202.out.pin).mono ?_
      rintro e w203 ⟨rfl, b203⟩
      replace b203 := b203.below w202.heap.size
      have B203 := hide (B202.out.trans (b203.mono B202.out.size))
      have M_203 := hide (M_202.out.below b203)
      have Q_203 := hide (Q_202.out.below b203)
      clear b203 B202 M_202 Q_202
      rw [es]
      go_wp2
      go_ret
      exact ⟨rfl, B203.out⟩

set_option maxRecDepth 100000 in
theorem contract (H : Type) (enc : TypeId × Value → H) (W : World) (base : Nat) (args : Array Value) (ds gs : List (DataW H)) (before : List MemPlace)
    (hval0 : ∀ (j : Nat) t v, Tryz.f5.params[j]? = some t → args[j]? = some v → Value.okWide Tryz.prog W .any base t v)
    (hW : DataW.Whole enc Tryz.prog Tryz.f5.params.toList Rows.fnMergedApartSpec.vars false W args.toList ds gs before) (hL : laidMetH Tryz.prog Rows.fnMergedApartRow.laid W) :
    Calls Tryz.prog 5 args W fun e W' => ∃ v, e = .returned v ∧ Rows.fnMergedApartSpec.post enc Tryz.prog Tryz.f5 false true false false W args v W' := by
  have hval : ∀ (j : Nat) t v, Tryz.f5.params[j]? = some t → args[j]? = some v → Value.okWide Tryz.prog W .any base t v := hval0
  obtain ⟨a, hT, hvar⟩ := errs_of hL.1 hL.2
  have hW' := hW
  obtain ⟨p, q, hA0, hV0, rfl, hfz, hnd⟩ := hW
  have hA : DataW.TrodAll enc Tryz.prog W 0 (fun _ => true) true Tryz.f5.params.toList args.toList ds p := hA0
  have hV : DataW.TrodVars enc Tryz.prog W (fun _ => true) ["loop.example/g00652/impl.errNotRight"] gs q := hV0
  obtain ⟨rfl, rfl⟩ := hV.unique (vars_read1 enc gErr tErr Tryz.underlying52 hvar trivial _)
  rw [Tryz.params5] at hA hval
  obtain ⟨v0, vs0, d0, ds0, p0, q0, hargs, rfl, rfl, h0, r0⟩ := trodAll_cons hA
  obtain ⟨rfl, rfl, rfl⟩ := trodAll_nil r0
  obtain rfl : args = #[v0] := by cases args; simp_all
  obtain ⟨A0, n0, cap0, rfl⟩ := okWide_slice Tryz.underlying22 (hval 0 22 v0 rfl rfl)
  have lt0 : ∀ x ∈ p0, x.block < W.heap.size := by obtain ⟨m, hm⟩ := h0; exact DataW.trod_lt m _ _ _ hm
  obtain ⟨l0, rfl, hl0, hin0⟩ := open_code h0
  clear hA0 hval0
  refine (walk A0 n0 cap0 a W hl0 hin0 hT).mono fun e W' ⟨he, bel⟩ => ?_
  subst he
  exact ⟨_, rfl, _, _, _, [], _, _, hW', trodAll_mk1 (shut_bool Tryz.underlying4 _), (trodAll_cons_mk (Below.trod laidOut (by kernel_rfl) (of_decide_eq_true (by kernel_rfl)) h0 bel lt0) trodAll_mk0), vars_read1 enc gErr tErr Tryz.underlying52 (var?_below bel gErr (var_lt gErr hvar) hvar) trivial _, bel.frame _, fun h => by cases h⟩

/-- a world for the witness: the variables hold what their initialisers lay -/
noncomputable def laidWorld (os : Os) : World := layAll (World.holding Tryz.prog os ⟨#[], #[], []⟩)
theorem laid_met (os : Os) : laidMetH Tryz.prog Rows.fnMergedApartRow.laid ((laidWorld os).forCall (fun _ _ => 0) ⟨#[], #[.slice none 0 0], []⟩).memory :=
  laidMetH_of_parts (laidMet_of_run' 8 (by kernel_rfl) (by kernel_rfl)) (by kernel_rfl)
theorem reads (os : Os) {H : Type} (enc : TypeId × Value → H) : ∃ x, DataW.whole enc Tryz.prog ((laidWorld os).forCall (fun _ _ => 0) ⟨#[], #[.slice none 0 0], []⟩).memory Tryz.f5.params.toList Rows.fnMergedApartSpec.vars false (#[.slice none 0 0] : Array Value).toList 8 = some x :=
  Option.isSome_iff_exists.1 (by kernel_rfl)
set_option maxRecDepth 100000 in
theorem lifted (os : Os) (started : os.Started) (H : Type) (enc : TypeId × Value → H) (F : Stop.Interp) :
    ReturnsInHanded {} Tryz.checked os 5 .any ((OpenSpec.ofChange Rows.fnMergedApartSpec).preRow enc Tryz.prog Tryz.f5 Rows.fnMergedApartRow.domain false Rows.fnMergedApartRow.laid) (((OpenSpec.ofChange Rows.fnMergedApartSpec).at F).post enc Tryz.prog Tryz.f5 false true false false) := by
  obtain ⟨x, hx⟩ := reads os enc
  refine returnsInHanded_of_row (C := Tryz.checked) (s := OpenSpec.ofChange Rows.fnMergedApartSpec) own started (by kernel_rfl) Tryz.func5
    (witness_row_at (enc := enc) (C := Tryz.checked) false (laidWorld os) #[.slice none 0 0] rfl (by kernel_rfl) (by kernel_rfl) (by kernel_rfl)
      (OpenSpec.preRow_of_cond 8 hx rfl (fun k hk => by cases hk) (by kernel_rfl) (laid_met os))) ?_
  intro W base args ds gs before hval hW _ _ _ hL _ _
  exact contract H enc W base args ds gs before hval hW hL
theorem said : Rows.FnMergedApartSaid :=
  OpenClaim.holds_of_cond 5 Tryz.f5 rfl rfl rfl rfl rfl rfl rfl ⟨rfl, rfl, rfl, rfl, rfl⟩ rfl rfl rfl rfl rfl (by kernel_rfl) Tryz.func5 (by kernel_rfl)
    (of_decide_eq_true (by kernel_rfl)) (by unfold Func.isWrapper; first | (rw [if_pos (by decide +kernel)]; kernel_rfl) | (rw [if_neg (by decide +kernel)]; exact ⟨rfl, rfl⟩))
    (fun os started H enc _ F => by rw [OpenClaim.pre_eq_preRow]; exact lifted os started H enc F)
theorem plain (f : FuncId) (fn : Func) (hf : Tryz.pinned.checked.prog.funcNamed "loop.example/g00652/laws.FnMergedApart" = some f) (hfn : Tryz.pinned.checked.prog.funcs[f]? = some fn) :
    true = Tryz.pinned.checked.prog.looks [] ∧ ∀ (j : Nat) t, fn.params[j]? = some t → Tryz.pinned.checked.prog.wantsStandIn t = false := by
  obtain rfl : f = 5 := Option.some.inj ((show Tryz.prog.funcNamed "loop.example/g00652/laws.FnMergedApart" = some 5 by kernel_rfl).symm.trans hf) |>.symm
  obtain rfl : fn = Tryz.f5 := (Option.some.inj (Tryz.func5.symm.trans hfn)).symm
  refine ⟨by kernel_rfl, fun j t ht => ?_⟩
  rw [Tryz.params5] at ht
  have hm := Array.mem_of_getElem? ht
  simp only [List.mem_toArray, List.mem_cons, List.not_mem_nil, or_false] at hm
  subst hm
  exact (show Tryz.prog.wantsStandIn 22 = false by kernel_rfl)
theorem card : Rows.FnMergedApartCardSaid :=
  Claim7.holds_tied_plain_at .later [] _ _ _ _ said (fun _ h => by cases h) (by kernel_rfl) (fun _ h => by cases h) fnMergedApart_row_tie rfl ⟨rfl, rfl⟩ (by kernel_rfl) rfl plain (by kernel_rfl)

end Go.Proofs.YtaofemdhgfejjaaGreatDoor.LMergedApart
namespace Go.Proofs.YtaofemdhgfejjaaGreatDoor
theorem fnMergedApart_proved : Rows.FnMergedApartCardSaid := LMergedApart.card
end Go.Proofs.YtaofemdhgfejjaaGreatDoor
