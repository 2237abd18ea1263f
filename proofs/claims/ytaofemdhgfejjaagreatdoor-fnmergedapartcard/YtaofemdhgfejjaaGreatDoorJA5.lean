/-
  Texts that this proof leans on, joined: part 5.
-/
import Derived.BigQuiet
import Derived.IntWalk
import Derived.Deep.RegionHeld3
import Derived.Test.YtaofemdhgfejjaaGreatDoorChecked
import Derived.ProofKit
import Derived.OpenShut
import Derived.Deep.SlicePairs
import Derived.Deep.Slices
import Derived.Deep.QuietTactic
import Derived.StillTailTactics
import Derived.Deep.Quiet
import Derived.Test.YtaofemdhgfejjaaGreatDoorJA4
/-
  Mergers of what was changed apart. Plain mathematics.
-/
namespace Go.Proofs.YtaofemdhgfejjaaGreatDoor
open Go.RowKit

/-- no key stands in both lists of changes -/
def apartD (x y : List Ch) : Prop := ∀ c ∈ x, ∀ d ∈ y, c.1 ≠ d.1
theorem apart_lk {o a b : List Pr} (h0 : mapB o = true) (h1 : mapB a = true) (h2 : mapB b = true) (h : apartD (difM o a) (difM o b)) (k : ByteArray) : lk o k = lk a k ∨ lk o k = lk b k := by
  have ca := dif_char _ o a (Nat.le_refl _) (mapB_ris h0) (mapB_ris h1)
  have cb := dif_char _ o b (Nat.le_refl _) (mapB_ris h0) (mapB_ris h2)
  by_cases e1 : lk o k = lk a k
  · exact .inl e1
  · by_cases e2 : lk o k = lk b k
    · exact .inr e2
    · have := h _ (ca.2.1 k e1) _ (cb.2.1 k e2)
      exact absurd rfl this
theorem apart_mer {o a b : List Pr} (h0 : mapB o = true) (h1 : mapB a = true) (h2 : mapB b = true) (h : apartD (difM o a) (difM o b)) : badM o a b = [] ∧ appM a (difM o b) = merM o a b o := by
  have hk := apart_lk h0 h1 h2 h
  have hone : ∀ k, oneM (lk o k) (lk a k) (lk b k) = some (if lk o k = lk a k then lk b k else lk a k) := fun k => by
    unfold oneM
    by_cases e : lk a k = lk o k
    · rw [if_pos e, if_pos e.symm]
    · have e' : (if lk o k = lk a k then lk b k else lk a k) = lk a k := if_neg (fun x => e x.symm)
      rw [if_neg e, e']
      rcases hk k with x | x
      · exact absurd x.symm e
      · rw [if_pos (.inl x.symm)]
  refine ⟨bad_nil (mapB_ris h0) (mapB_ris h1) (mapB_ris h2) fun k => by rw [hone k]; simp, ?_⟩
  have cb := dif_char _ o b (Nat.le_refl _) (mapB_ris h0) (mapB_ris h2)
  have hr := ris_cp cb.2.2
  refine ext_lk (ris_app _ (mapB_ris h1)) (ris_mer ..) fun k => ?_
  rw [lk_mer (mapB_ris h0) (mapB_ris h1) (mapB_ris h2) (side_sub (.inl rfl))]
  unfold pickM
  rw [hone k, Option.getD_some]
  by_cases e : lk o k = lk b k
  · rw [lk_app_other _ (mapB_ris h1)]
    · by_cases e2 : lk o k = lk a k
      · rw [if_pos e2, ← e2, e]
      · rw [if_neg e2]
    · intro c h3 h4
      obtain ⟨_, hne⟩ := cb.1 c h3
      rw [h4] at hne
      exact hne e
  · have h3 := lk_app_mem (mapB_ris h1) hr _ (cb.2.1 k e)
    have e1 : (chF k (lk o k) (lk b k)).1 = k := rfl
    rw [e1] at h3
    rw [h3]
    rcases hk k with x | x
    · rw [if_pos x]
      show (if (lk b k).isSome = true then some ((lk b k).getD ByteArray.empty) else none) = lk b k
      cases lk b k <;> rfl
    · exact absurd x e
theorem apart_ok {o a b : List Pr} (hg : mgB o a b = true) (h : apartD (difM o a) (difM o b)) : appB a (difM o b) = true ∧ appL a (difM o b) = mgL o a b ∧ mgK o a b = [] := by
  obtain ⟨h0, h1, h2, h3⟩ := mgB_iff.1 hg
  obtain ⟨e1, e2⟩ := apart_mer h0 h1 h2 h
  have cb := dif_char _ o b (Nat.le_refl _) (mapB_ris h0) (mapB_ris h2)
  have ca := dif_char _ o a (Nat.le_refl _) (mapB_ris h0) (mapB_ris h1)
  have hb : appB a (difM o b) = true := by
    refine appB_all h1 (ris_cp cb.2.2) (fun i hi => ?_) (by rw [e2]; exact h3)
    have hm := List.getElem_mem hi
    rw [← fitB_lk (m := o)]
    · exact dif_fit h0 h2 _ hm
    · by_cases x : lk o (difM o b)[i].1 = lk a (difM o b)[i].1
      · exact x
      · have := h _ (ca.2.1 _ x) _ hm
        exact absurd rfl this
  exact ⟨hb, by rw [appL_yes hb, mgL_yes hg, e2], by rw [mgK_yes hg, e1]⟩
end Go.Proofs.YtaofemdhgfejjaaGreatDoor
/-
  What the laws' own helpers on pairs answer: szPair, szPairS, toPair, toPairS, eqPair, eqPairS.
-/
namespace Go.Proofs.YtaofemdhgfejjaaGreatDoor
open Go.RowKit

/-- what szPair leaves: -1, or what is left -/
def SzRet (n : Nat) (left : Int) (w : World) (e : Ending) (w' : World) : Prop := (e = .returned (.int .i64 (-1)) ∨ ∃ r : Int, 0 ≤ r ∧ r + n ≤ left ∧ e = .returned (.int .i64 r)) ∧ Below w.heap.size w w'

end Go.Proofs.YtaofemdhgfejjaaGreatDoor
/-
  What the laws' own helpers on lists of pairs answer: toPairS, eqPairS.
-/
namespace Go.Proofs.YtaofemdhgfejjaaGreatDoor
open Go.RowKit

theorem infoPair : (Tryz.prog.info? 60).map (fun i => (i.zero, i.size, i.bytes)) = some (some (.agg #[.string ByteArray.empty, .string ByteArray.empty]), 2, 32) := by kernel_rfl

theorem made_pairs (n : Nat) : (madeCells #[Value.string ByteArray.empty, Value.string ByteArray.empty] (n * 2)).toList = pcells (List.replicate n emp) := by
  apply List.ext_getElem?
  intro j
  by_cases hj : j < n * 2
  · have h2 := pcells_get (List.replicate n emp) (j / 2) (by simp; omega)
    rcases Nat.mod_two_eq_zero_or_one j with e | e
    · have hj2 : j / 2 * 2 = j := by omega
      rw [hj2] at h2
      rw [h2.1]
      simp [madeCells, hj, e, emp]
    · have hj2 : j / 2 * 2 + 1 = j := by omega
      rw [hj2] at h2
      rw [h2.2]
      simp [madeCells, hj, e, emp]
  · rw [List.getElem?_eq_none (by simp [madeCells]; omega), List.getElem?_eq_none (by rw [pcells_length]; simp; omega)]

theorem set_step (l : List Pr) (n k : Nat) (hk : k < l.length) (hn : l.length = n) : (l.take k ++ List.replicate (n - k) emp).set k (l[k].1, l[k].2) = l.take (k + 1) ++ List.replicate (n - (k + 1)) emp := by
  have hlen : (l.take k).length = k := by rw [List.length_take]; omega
  have h1 : (l.take k ++ List.replicate (n - k) emp).set k (l[k].1, l[k].2) = l.take k ++ (List.replicate (n - k) emp).set 0 (l[k].1, l[k].2) := by
    rw [List.set_append_right _ _ (by omega), hlen, Nat.sub_self]
  rw [h1, show n - k = n - (k + 1) + 1 by omega, List.replicate_succ, List.set_cons_zero, List.take_succ_eq_append_getElem hk, List.append_assoc]
  rfl

end Go.Proofs.YtaofemdhgfejjaaGreatDoor
/-
  An argument that is a list of pairs, opened.
-/
namespace Go.Proofs.YtaofemdhgfejjaaGreatDoor
open Go.ChangeShapes Go.WideShapes Go.ChangeAt Go.RowKit Go.Deep

section
variable {H : Type} {enc : TypeId × Value → H} {W : World}
end
end Go.Proofs.YtaofemdhgfejjaaGreatDoor
/-
  What the laws' own helpers on changes answer: szChange, toChange, eqChange, szChangeS, toChangeS, eqChangeS; an argument that is a list of changes, opened.
-/
namespace Go.Proofs.YtaofemdhgfejjaaGreatDoor
open Go.RowKit

def eqC (p q : Ch) : Bool := decide (p = q)
theorem eqC_yes {p q : Ch} (h : p = q) : eqC p q = true := decide_eq_true h
theorem eqC_no {p q : Ch} (h : ¬ p = q) : eqC p q = false := decide_eq_false h
def eqCL (l l' : List Ch) : Bool := decide (l = l')
theorem eqCL_yes {p q : List Ch} (h : p = q) : eqCL p q = true := decide_eq_true h
theorem eqCL_no {p q : List Ch} (h : ¬ p = q) : eqCL p q = false := decide_eq_false h
theorem eqCL_self (p : List Ch) : eqCL p p = true := eqCL_yes rfl
theorem neB_yes {a b : Bool} (h : ¬ a = b) : (a != b) = true := by cases a <;> cases b <;> simp_all
theorem eqBf {a b : Bool} (h : ¬ a = b) : (a == b) = false := by cases a <;> cases b <;> simp_all

theorem made_changes (n : Nat) : (madeCells (arrC emC) (n * 5)).toList = ccells (List.replicate n emC) := by
  apply List.ext_getElem?
  intro j
  by_cases hj : j < n * 5
  · obtain ⟨p0, p1, p2, p3, p4⟩ := ccells_get (List.replicate n emC) (j / 5) (by simp; omega)
    have hj5 : j = j / 5 * 5 + j % 5 := by omega
    have hm : j % 5 < 5 := Nat.mod_lt _ (by omega)
    have hmm : (madeCells (arrC emC) (n * 5)).toList[j]? = some ((arrC emC).getD (j % 5) default) := by simp [madeCells, hj, arrC]
    rw [hmm]
    generalize j % 5 = r at hj5 hm
    match r, hm with
    | 0, _ => rw [show j / 5 * 5 = j by omega] at p0; rw [p0]; simp [arrC, emC]
    | 1, _ => rw [show j / 5 * 5 + 1 = j by omega] at p1; rw [p1]; simp [arrC, emC]
    | 2, _ => rw [show j / 5 * 5 + 2 = j by omega] at p2; rw [p2]; simp [arrC, emC]
    | 3, _ => rw [show j / 5 * 5 + 3 = j by omega] at p3; rw [p3]; simp [arrC, emC]
    | 4, _ => rw [show j / 5 * 5 + 4 = j by omega] at p4; rw [p4]; simp [arrC, emC]
  · rw [List.getElem?_eq_none (by simp [madeCells]; omega), List.getElem?_eq_none (by rw [ccells_length]; simp; omega)]
theorem set_stepC (l : List Ch) (n k : Nat) (hk : k < l.length) (hn : l.length = n) : (l.take k ++ List.replicate (n - k) emC).set k l[k] = l.take (k + 1) ++ List.replicate (n - (k + 1)) emC := by
  have hlen : (l.take k).length = k := by rw [List.length_take]; omega
  have h1 : (l.take k ++ List.replicate (n - k) emC).set k l[k] = l.take k ++ (List.replicate (n - k) emC).set 0 l[k] := by
    rw [List.set_append_right _ _ (by omega), hlen, Nat.sub_self]
  rw [h1, show n - k = n - (k + 1) + 1 by omega, List.replicate_succ, List.set_cons_zero, List.take_succ_eq_append_getElem hk, List.append_assoc]
  rfl
end Go.Proofs.YtaofemdhgfejjaaGreatDoor
/-
  What impl.editsBetween answers.
-/
namespace Go.Proofs.YtaofemdhgfejjaaGreatDoor
open Go.RowKit

def lenV : Value → Nat
  | .slice _ n _ => n
  | _ => 0
theorem edb_drewN {B : Nat} {w w' : World} (h : Below B w w') (n : Nat) : Below B w (w'.drewN n) := h.trans (Quiet.below ⟨n, rfl⟩ _)
/-- a slice that is gone through from its first pair on -/
def Cur (w : World) (A : Option Addr) (cap n : Nat) (l : List Pr) : Prop := PIn w w.heap.size A l ∧ l.length ≤ cap ∧ l.length = n
theorem Cur.first {w wr : World} {A : Option Addr} {cap n : Nat} {p : Pr} {l : List Pr} (h : Cur w A cap n (p :: l)) (hb : Below w.heap.size w wr) :
    ∃ b off, A = some ⟨b, off, none⟩ ∧ b < w.heap.size ∧ wr.cell? ⟨b, off, none⟩ = some (.string p.1) ∧ wr.cell? ⟨b, off + 1, none⟩ = some (.string p.2) ∧ p.1.size ≤ maxLen ∧ p.2.size ≤ maxLen := by
  obtain ⟨b, off, e, hlt, hc⟩ := (h.1.below hb).2 (by simp)
  obtain ⟨h1, h2⟩ := hc 0 (by simp)
  obtain ⟨s1, s2⟩ := h.1.1 0 (by simp)
  exact ⟨b, off, e, hlt, by simpa using h1, by simpa using h2, s1, s2⟩
theorem Cur.next {w : World} {A : Option Addr} {cap n : Nat} {p : Pr} {l : List Pr} (h : Cur w A cap n (p :: l)) : Cur w (cutA A cap 1) (cap - 1) (n - 1) l := by
  obtain ⟨h1, h2, h3⟩ := h
  refine ⟨?_, by simp at h2; omega, by simp at h3; omega⟩
  have := h1.drop h2 1
  simpa using this
theorem EOwn.cap_le {w : World} {B : Nat} {A : Option Addr} {cap : Nat} {l : List Ch} (h : EOwn w B A cap l) : l.length ≤ cap := by
  rcases h.2 with ⟨e, e'⟩ | ⟨g, c, cur, e, _, _, hnc, _⟩
  · injection e with e1 e2 e3; omega
  · injection e with e1 e2 e3; omega
theorem one_cell (w : World) (u : Value) (t : TypeId) {g : Nat} (hg : w.heap.size = g) : (w.alloc (.cells #[u] t)).cell? ⟨g, 0, none⟩ = some u := by subst hg; exact cell_of_row _ w.heap.size 0 #[u] t (0, 0) (heap_alloc_new w _)
theorem cut1 (A : Option Addr) (n cap : Nat) (h : 1 ≤ n) (w : World) : (Instr.slice 24 (.slice A n cap) (some (.int .i64 1)) none none).run Tryz.prog w = .ok (.slice (cutA A cap 1) (n - 1) (cap - 1)) w := run_cut_l 24 Tryz.underlying24 A n cap 1 h w

/-- a row of edits of the call's own comes back -/
def RetE (B : Nat) (l : List Ch) (w : World) (e : Ending) (w' : World) : Prop := ∃ A cap, l.length ≤ cap ∧ e = .returned (.slice A l.length cap) ∧ EOwn w' B A cap l ∧ Below B w w'
set_option maxRecDepth 100000 in
set_option maxHeartbeats 8000000 in
theorem editsBetween_any (A : Option Addr) (a : List Pr) (cap : Nat) (A' : Option Addr) (b : List Pr) (cap' : Nat) (w : World) (hla : a.length ≤ 1000) (hlb : b.length ≤ 1000) (hca : a.length ≤ cap) (hcb : b.length ≤ cap') (hin : PIn w w.heap.size A a) (hin' : PIn w w.heap.size A' b) :
    Calls Tryz.prog 39 #[.slice A a.length cap, .slice A' b.length cap'] w (RetE w.heap.size (difM a b) w) := by
  have CA : Hid (Cur w A cap a.length a) := hide ⟨hin, hca, rfl⟩
  have CB : Hid (Cur w A' cap' b.length b) := hide ⟨hin', hcb, rfl⟩
  have O1 := hide (EOwn.nil w w.heap.size)
  have B1 := hide (Below.refl w.heap.size w)
  clear hin hin' hca hcb
  generalize a.length = na at hla CA ⊢
  generalize b.length = nb at hlb CB ⊢
  go_enter Tryz.func39, Tryz.ntmps39
  go_wp2
  go_loopw [0, 1, 5] (fun av bv ov wr => ∃ (a' b' : List Pr) (n1 n2 : Nat) (Aa : Option Addr) (ca : Nat) (Ab : Option Addr) (cb : Nat) (A2 : Option Addr) (cap2 : Nat) (d : List Ch), av = .slice Aa n1 ca ∧ bv = .slice Ab n2 cb ∧ ov = .slice A2 d.length cap2 ∧ Hid (Cur w Aa ca n1 a') ∧ Hid (Cur w Ab cb n2 b') ∧ Hid (d ++ difM a' b' = difM a b) ∧ Hid (d.length + n1 + n2 ≤ na + nb) ∧ Hid (EOwn wr w.heap.size A2 cap2 d) ∧ Hid (Below w.heap.size w wr)) (fun av bv _ _ => lenV av + lenV bv)
  case atStart => exact ⟨a, b, na, nb, _, _, _, _, _, 0, [], rfl, rfl, rfl, CA, CB, hide (by simp), hide (by simp), O1, B1⟩
  case round =>
    clear O1 B1 CA CB
    obtain ⟨a', b', n1, n2, Aa, ca, Ab, cb, A2, cap2, d, rfl, rfl, rfl, CA, CB, D, L, O, Q⟩ := hrel
    have hqs := Q.out.size
    have l1 := CA.out.2.2
    have l2 := CB.out.2.2
    rcases a' with _ | ⟨p, a1⟩
    · have t1 : decide (0 < n1) = false := decide_eq_false (by simp at l1; omega)
      have u1 : ((n1 : Int) == 0) = true := by rw [beq_iff_eq]; simp at l1; omega
      rcases b' with _ | ⟨q, b1⟩
      · have t2 : decide (0 < n2) = false := decide_eq_false (by simp at l2; omega)
        have E : Hid (d = difM a b) := hide (by have h7 := D.out; rw [difM_nil, List.append_nil] at h7; exact h7)
        clear D L l1 l2 CA CB
        go_wp2
        go_ret
        refine ⟨A2, cap2, ?_, ?_, ?_, Q.out⟩
        · rw [← E.out]; exact O.out.cap_le
        · rw [← E.out]; rfl
        · rw [← E.out]; exact O.out
      · have DS : Hid ((d ++ [gainC q]) ++ difM [] b1 = difM a b) := hide (by rw [← D.out, difM_b, List.append_assoc]; rfl)
        have t2 : decide (0 < n2) = true := decide_eq_true (by simp at l2; omega)
        have u2 : ((n2 : Int) == 0) = false := by rw [beq_eq_false_iff_ne]; simp at l2; omega
        obtain ⟨bb, ob, rfl, hbb, g1, g2, sb1, sb2⟩ := CB.out.first Q.out
        have hn2 : 1 ≤ n2 := by simp at l2; omega
        have hn2i : (0 : Int) < (n2 : Int) := by omega
        have NB := hide CB.out.next
        have K2 := cut1 (some ⟨bb, ob, none⟩) n2 cb hn2
        have EV := hide (edV_gain q)
        clear D
        generalize hqu : q.1 = u at *
        generalize hqv : q.2 = v at *
        clear l1 l2
        go_wp2
        go_quiet (fail)
        have Q_1 : Hid (Below w.heap.size w (wr.drewN nq)) := hide (edb_drewN Q.out nq)
        have O_1 : Hid (EOwn (wr.drewN nq) w.heap.size A2 cap2 d) := hide O.out
        have hq_1 : w.heap.size ≤ (wr.drewN nq).heap.size := hqs
        have g1_1 : (wr.drewN nq).cell? ⟨bb, ob, none⟩ = some (.string u) := g1
        have g2_1 : (wr.drewN nq).cell? ⟨bb, ob + 1, none⟩ = some (.string v) := g2
        clear Q O hqs g1 g2
        generalize wr.drewN nq = W1 at *
        go_wp2
        go_quiet (fail)
        have Q_2 : Hid (Below w.heap.size w (W1.drewN nq)) := hide (edb_drewN Q_1.out nq)
        have O_2 : Hid (EOwn (W1.drewN nq) w.heap.size A2 cap2 d) := hide O_1.out
        have hq_2 : w.heap.size ≤ (W1.drewN nq).heap.size := hq_1
        have g1_2 : (W1.drewN nq).cell? ⟨bb, ob, none⟩ = some (.string u) := g1_1
        have g2_2 : (W1.drewN nq).cell? ⟨bb, ob + 1, none⟩ = some (.string v) := g2_1
        clear Q_1 O_1 hq_1 g1_1 g2_1
        generalize W1.drewN nq = W2 at *
        go_wp2_with (at_builtin; (refine wpList_appE (l := d) (c := gainC q) 71 Tryz.underlying71 rfl (.tmp 83) (.tmp 89) rfl rfl rfl rfl (O_2.out.alloc _) (by rw [EV.out]; exact one_cell _ _ _ (by simp)) (Nat.le_trans hq_2 (by simp)) (by have := L.out; omega) ?_; intro A3 cap3 w3 own3 g3 r3; have B3 := hide (Q_2.out.trans (((Below.refl _ _).alloc hq_2 (.cells #[.iface 119 (.agg #[.string u, .string v])] 74)).trans ((O_2.out.alloc (.cells #[.iface 119 (.agg #[.string u, .string v])] 74)).grownBelow (by rw [rowOf_own]; exact g3) (Nat.le_trans hq_2 (by simp))))); have O3 := hide own3; clear own3 g3 r3))
        have L3 : Hid ((d ++ [gainC q]).length + n1 + (n2 - 1) ≤ na + nb) := hide (by have := L.out; simp; omega)
        exact ⟨⟨_, b1, n1, n2 - 1, _, _, _, _, A3, cap3, d ++ [gainC q], rfl, rfl, by simp, CA, NB, DS, hide (by have := L3.out; omega), O3, B3⟩, by simp [lenV]; omega⟩
    · have t1 : decide (0 < n1) = true := decide_eq_true (by simp at l1; omega)
      have u1 : ((n1 : Int) == 0) = false := by rw [beq_eq_false_iff_ne]; simp at l1; omega
      rcases b' with _ | ⟨q, b1⟩
      · have DS : Hid ((d ++ [lossC p]) ++ difM a1 [] = difM a b) := hide (by rw [← D.out, difM_a, List.append_assoc]; rfl)
        have t2 : decide (0 < n2) = false := decide_eq_false (by simp at l2; omega)
        have u2 : ((n2 : Int) == 0) = true := by rw [beq_iff_eq]; simp at l2; omega
        obtain ⟨ba, oa, rfl, hba, c1, c2, sa1, sa2⟩ := CA.out.first Q.out
        have hn1 : 1 ≤ n1 := by simp at l1; omega
        have hn1i : (0 : Int) < (n1 : Int) := by omega
        have NA := hide CA.out.next
        have K1 := cut1 (some ⟨ba, oa, none⟩) n1 ca hn1
        have EV := hide (edV_loss p)
        clear D
        generalize hpx : p.1 = x at *
        generalize hpy : p.2 = y at *
        clear l1 l2
        go_wp2
        go_quiet (fail)
        have Q_1 : Hid (Below w.heap.size w (wr.drewN nq)) := hide (edb_drewN Q.out nq)
        have O_1 : Hid (EOwn (wr.drewN nq) w.heap.size A2 cap2 d) := hide O.out
        have hq_1 : w.heap.size ≤ (wr.drewN nq).heap.size := hqs
        have c1_1 : (wr.drewN nq).cell? ⟨ba, oa, none⟩ = some (.string x) := c1
        have c2_1 : (wr.drewN nq).cell? ⟨ba, oa + 1, none⟩ = some (.string y) := c2
        clear Q O hqs c1 c2
        generalize wr.drewN nq = W1 at *
        go_wp2_with (at_builtin; (refine wpList_appE (l := d) (c := lossC p) 71 Tryz.underlying71 rfl (.tmp 58) (.tmp 64) rfl rfl rfl rfl (O_1.out.alloc _) (by rw [EV.out]; exact one_cell _ _ _ (by simp)) (Nat.le_trans hq_1 (by simp)) (by have := L.out; omega) ?_; intro A3 cap3 w3 own3 g3 r3; have B3 := hide (Q_1.out.trans (((Below.refl _ _).alloc hq_1 (.cells #[.iface 117 (.agg #[.string x, .string y])] 74)).trans ((O_1.out.alloc (.cells #[.iface 117 (.agg #[.string x, .string y])] 74)).grownBelow (by rw [rowOf_own]; exact g3) (Nat.le_trans hq_1 (by simp))))); have O3 := hide own3; clear own3 g3 r3))
        have L3 : Hid ((d ++ [lossC p]).length + (n1 - 1) + n2 ≤ na + nb) := hide (by have := L.out; simp; omega)
        exact ⟨⟨a1, _, n1 - 1, n2, _, _, _, _, A3, cap3, d ++ [lossC p], rfl, rfl, by simp, NA, CB, DS, hide (by have := L3.out; omega), O3, B3⟩, by simp [lenV]; omega⟩
      · rcases ltB_tri p.1 q.1 with hlt | heq | hgt
        · have DS : Hid ((d ++ [lossC p]) ++ difM a1 (q :: b1) = difM a b) := hide (by rw [← D.out, difM_lt hlt, List.append_assoc]; rfl)
          have r1 : Op.bytesLess p.1.toList q.1.toList = true := hlt
          have t2 : decide (0 < n2) = true := decide_eq_true (by simp at l2; omega)
          have u2 : ((n2 : Int) == 0) = false := by rw [beq_eq_false_iff_ne]; simp at l2; omega
          obtain ⟨bb, ob, rfl, hbb, g1, g2, sb1, sb2⟩ := CB.out.first Q.out
          have hn2 : 1 ≤ n2 := by simp at l2; omega
          have hn2i : (0 : Int) < (n2 : Int) := by omega
          obtain ⟨ba, oa, rfl, hba, c1, c2, sa1, sa2⟩ := CA.out.first Q.out
          have hn1 : 1 ≤ n1 := by simp at l1; omega
          have hn1i : (0 : Int) < (n1 : Int) := by omega
          have NA := hide CA.out.next
          have K1 := cut1 (some ⟨ba, oa, none⟩) n1 ca hn1
          have EV := hide (edV_loss p)
          clear D
          clear hlt
          generalize hpx : p.1 = x at *
          generalize hpy : p.2 = y at *
          generalize hqu : q.1 = u at *
          generalize hqv : q.2 = v at *
          clear l1 l2
          go_wp2
          go_quiet (fail)
          have Q_1 : Hid (Below w.heap.size w (wr.drewN nq)) := hide (edb_drewN Q.out nq)
          have O_1 : Hid (EOwn (wr.drewN nq) w.heap.size A2 cap2 d) := hide O.out
          have hq_1 : w.heap.size ≤ (wr.drewN nq).heap.size := hqs
          have c1_1 : (wr.drewN nq).cell? ⟨ba, oa, none⟩ = some (.string x) := c1
          have c2_1 : (wr.drewN nq).cell? ⟨ba, oa + 1, none⟩ = some (.string y) := c2
          have g1_1 : (wr.drewN nq).cell? ⟨bb, ob, none⟩ = some (.string u) := g1
          have g2_1 : (wr.drewN nq).cell? ⟨bb, ob + 1, none⟩ = some (.string v) := g2
          clear Q O hqs c1 c2 g1 g2
          generalize wr.drewN nq = W1 at *
          go_wp2_with (at_builtin; (refine wpList_appE (l := d) (c := lossC p) 71 Tryz.underlying71 rfl (.tmp 58) (.tmp 64) rfl rfl rfl rfl (O_1.out.alloc _) (by rw [EV.out]; exact one_cell _ _ _ (by simp)) (Nat.le_trans hq_1 (by simp)) (by have := L.out; omega) ?_; intro A3 cap3 w3 own3 g3 r3; have B3 := hide (Q_1.out.trans (((Below.refl _ _).alloc hq_1 (.cells #[.iface 117 (.agg #[.string x, .string y])] 74)).trans ((O_1.out.alloc (.cells #[.iface 117 (.agg #[.string x, .string y])] 74)).grownBelow (by rw [rowOf_own]; exact g3) (Nat.le_trans hq_1 (by simp))))); have O3 := hide own3; clear own3 g3 r3))
          have L3 : Hid ((d ++ [lossC p]).length + (n1 - 1) + n2 ≤ na + nb) := hide (by have := L.out; simp; omega)
          exact ⟨⟨a1, _, n1 - 1, n2, _, _, _, _, A3, cap3, d ++ [lossC p], rfl, rfl, by simp, NA, CB, DS, hide (by have := L3.out; omega), O3, B3⟩, by simp [lenV]; omega⟩
        · have r1 : Op.bytesLess p.1.toList q.1.toList = false := by rw [heq]; exact ltB_irrefl _
          have r2 : Op.bytesLess q.1.toList p.1.toList = false := by rw [heq]; exact ltB_irrefl _
          by_cases hv : p.2 = q.2
          · have DS : Hid (d ++ difM a1 b1 = difM a b) := hide (by rw [← D.out, difM_same heq hv])
            have r3 := eqS_yes hv
            have t2 : decide (0 < n2) = true := decide_eq_true (by simp at l2; omega)
            have u2 : ((n2 : Int) == 0) = false := by rw [beq_eq_false_iff_ne]; simp at l2; omega
            obtain ⟨bb, ob, rfl, hbb, g1, g2, sb1, sb2⟩ := CB.out.first Q.out
            have hn2 : 1 ≤ n2 := by simp at l2; omega
            have hn2i : (0 : Int) < (n2 : Int) := by omega
            obtain ⟨ba, oa, rfl, hba, c1, c2, sa1, sa2⟩ := CA.out.first Q.out
            have hn1 : 1 ≤ n1 := by simp at l1; omega
            have hn1i : (0 : Int) < (n1 : Int) := by omega
            have NA := hide CA.out.next
            have K1 := cut1 (some ⟨ba, oa, none⟩) n1 ca hn1
            have NB := hide CB.out.next
            have K2 := cut1 (some ⟨bb, ob, none⟩) n2 cb hn2
            clear D
            clear hv heq
            generalize hpx : p.1 = x at *
            generalize hpy : p.2 = y at *
            generalize hqu : q.1 = u at *
            generalize hqv : q.2 = v at *
            clear l1 l2
            go_wp2
            go_quiet (fail)
            have Q_1 : Hid (Below w.heap.size w (wr.drewN nq)) := hide (edb_drewN Q.out nq)
            have O_1 : Hid (EOwn (wr.drewN nq) w.heap.size A2 cap2 d) := hide O.out
            have hq_1 : w.heap.size ≤ (wr.drewN nq).heap.size := hqs
            have c1_1 : (wr.drewN nq).cell? ⟨ba, oa, none⟩ = some (.string x) := c1
            have c2_1 : (wr.drewN nq).cell? ⟨ba, oa + 1, none⟩ = some (.string y) := c2
            have g1_1 : (wr.drewN nq).cell? ⟨bb, ob, none⟩ = some (.string u) := g1
            have g2_1 : (wr.drewN nq).cell? ⟨bb, ob + 1, none⟩ = some (.string v) := g2
            clear Q O hqs c1 c2 g1 g2
            generalize wr.drewN nq = W1 at *
            go_wp2
            go_quiet (fail)
            have Q_2 : Hid (Below w.heap.size w (W1.drewN nq)) := hide (edb_drewN Q_1.out nq)
            have O_2 : Hid (EOwn (W1.drewN nq) w.heap.size A2 cap2 d) := hide O_1.out
            have hq_2 : w.heap.size ≤ (W1.drewN nq).heap.size := hq_1
            have c1_2 : (W1.drewN nq).cell? ⟨ba, oa, none⟩ = some (.string x) := c1_1
            have c2_2 : (W1.drewN nq).cell? ⟨ba, oa + 1, none⟩ = some (.string y) := c2_1
            have g1_2 : (W1.drewN nq).cell? ⟨bb, ob, none⟩ = some (.string u) := g1_1
            have g2_2 : (W1.drewN nq).cell? ⟨bb, ob + 1, none⟩ = some (.string v) := g2_1
            clear Q_1 O_1 hq_1 c1_1 c2_1 g1_1 g2_1
            generalize W1.drewN nq = W2 at *
            go_wp2
            go_quiet (fail)
            have Q_3 : Hid (Below w.heap.size w (W2.drewN nq)) := hide (edb_drewN Q_2.out nq)
            have O_3 : Hid (EOwn (W2.drewN nq) w.heap.size A2 cap2 d) := hide O_2.out
            have hq_3 : w.heap.size ≤ (W2.drewN nq).heap.size := hq_2
            have c1_3 : (W2.drewN nq).cell? ⟨ba, oa, none⟩ = some (.string x) := c1_2
            have c2_3 : (W2.drewN nq).cell? ⟨ba, oa + 1, none⟩ = some (.string y) := c2_2
            have g1_3 : (W2.drewN nq).cell? ⟨bb, ob, none⟩ = some (.string u) := g1_2
            have g2_3 : (W2.drewN nq).cell? ⟨bb, ob + 1, none⟩ = some (.string v) := g2_2
            clear Q_2 O_2 hq_2 c1_2 c2_2 g1_2 g2_2
            generalize W2.drewN nq = W3 at *
            go_wp2
            go_quiet (fail)
            have Q4 : Hid (Below w.heap.size w (W3.drewN nq)) := hide (edb_drewN Q_3.out nq)
            have O4 : Hid (EOwn (W3.drewN nq) w.heap.size A2 cap2 d) := hide O_3.out
            go_wp2
            exact ⟨⟨a1, b1, n1 - 1, n2 - 1, _, _, _, _, A2, cap2, d, rfl, rfl, rfl, NA, NB, DS, hide (by have := L.out; omega), O4, Q4⟩, by simp [lenV]; omega⟩
          · have DS : Hid ((d ++ [turnC p q]) ++ difM a1 b1 = difM a b) := hide (by rw [← D.out, difM_turn heq hv, List.append_assoc]; rfl)
            have r3 := eqS_no hv
            have t2 : decide (0 < n2) = true := decide_eq_true (by simp at l2; omega)
            have u2 : ((n2 : Int) == 0) = false := by rw [beq_eq_false_iff_ne]; simp at l2; omega
            obtain ⟨bb, ob, rfl, hbb, g1, g2, sb1, sb2⟩ := CB.out.first Q.out
            have hn2 : 1 ≤ n2 := by simp at l2; omega
            have hn2i : (0 : Int) < (n2 : Int) := by omega
            obtain ⟨ba, oa, rfl, hba, c1, c2, sa1, sa2⟩ := CA.out.first Q.out
            have hn1 : 1 ≤ n1 := by simp at l1; omega
            have hn1i : (0 : Int) < (n1 : Int) := by omega
            have NA := hide CA.out.next
            have K1 := cut1 (some ⟨ba, oa, none⟩) n1 ca hn1
            have NB := hide CB.out.next
            have K2 := cut1 (some ⟨bb, ob, none⟩) n2 cb hn2
            have KC := hide (And.intro ((Q.out.cell (p := ⟨ba, oa, none⟩) hba).symm.trans c1) (And.intro ((Q.out.cell (p := ⟨ba, oa + 1, none⟩) hba).symm.trans c2) (And.intro ((Q.out.cell (p := ⟨bb, ob, none⟩) hbb).symm.trans g1) ((Q.out.cell (p := ⟨bb, ob + 1, none⟩) hbb).symm.trans g2))))
            have hp1 : 0 < n1 := hn1
            have hp2 : 0 < n2 := hn2
            have EV := hide (edV_turn p q heq)
            clear D
            clear hv heq
            generalize hpx : p.1 = x at *
            generalize hpy : p.2 = y at *
            generalize hqu : q.1 = u at *
            generalize hqv : q.2 = v at *
            clear l1 l2
            go_wp2
            go_quiet (fail)
            have Q_1 : Hid (Below w.heap.size w (wr.drewN nq)) := hide (edb_drewN Q.out nq)
            have O_1 : Hid (EOwn (wr.drewN nq) w.heap.size A2 cap2 d) := hide O.out
            have hq_1 : w.heap.size ≤ (wr.drewN nq).heap.size := hqs
            have c1_1 : (wr.drewN nq).cell? ⟨ba, oa, none⟩ = some (.string x) := c1
            have c2_1 : (wr.drewN nq).cell? ⟨ba, oa + 1, none⟩ = some (.string y) := c2
            have g1_1 : (wr.drewN nq).cell? ⟨bb, ob, none⟩ = some (.string u) := g1
            have g2_1 : (wr.drewN nq).cell? ⟨bb, ob + 1, none⟩ = some (.string v) := g2
            clear Q O hqs c1 c2 g1 g2
            generalize wr.drewN nq = W1 at *
            go_wp2
            go_quiet (fail)
            have Q_2 : Hid (Below w.heap.size w (W1.drewN nq)) := hide (edb_drewN Q_1.out nq)
            have O_2 : Hid (EOwn (W1.drewN nq) w.heap.size A2 cap2 d) := hide O_1.out
            have hq_2 : w.heap.size ≤ (W1.drewN nq).heap.size := hq_1
            have c1_2 : (W1.drewN nq).cell? ⟨ba, oa, none⟩ = some (.string x) := c1_1
            have c2_2 : (W1.drewN nq).cell? ⟨ba, oa + 1, none⟩ = some (.string y) := c2_1
            have g1_2 : (W1.drewN nq).cell? ⟨bb, ob, none⟩ = some (.string u) := g1_1
            have g2_2 : (W1.drewN nq).cell? ⟨bb, ob + 1, none⟩ = some (.string v) := g2_1
            clear Q_1 O_1 hq_1 c1_1 c2_1 g1_1 g2_1
            generalize W1.drewN nq = W2 at *
            go_wp2
            go_quiet (fail)
            have Q_3 : Hid (Below w.heap.size w (W2.drewN nq)) := hide (edb_drewN Q_2.out nq)
            have O_3 : Hid (EOwn (W2.drewN nq) w.heap.size A2 cap2 d) := hide O_2.out
            have hq_3 : w.heap.size ≤ (W2.drewN nq).heap.size := hq_2
            have c1_3 : (W2.drewN nq).cell? ⟨ba, oa, none⟩ = some (.string x) := c1_2
            have c2_3 : (W2.drewN nq).cell? ⟨ba, oa + 1, none⟩ = some (.string y) := c2_2
            have g1_3 : (W2.drewN nq).cell? ⟨bb, ob, none⟩ = some (.string u) := g1_2
            have g2_3 : (W2.drewN nq).cell? ⟨bb, ob + 1, none⟩ = some (.string v) := g2_2
            clear Q_2 O_2 hq_2 c1_2 c2_2 g1_2 g2_2
            generalize W2.drewN nq = W3 at *
            go_wp2
            have O4 : Hid (EOwn W3.drew w.heap.size A2 cap2 d) := hide O_3.out.drew
            have Q4 : Hid (Below w.heap.size w W3.drew) := hide Q_3.out.drew
            have hq4 : w.heap.size ≤ W3.drew.heap.size := hq_3
            have CE : Hid ((W3.drew.alloc (.cells #[.iface 121 (.agg #[.string x, .string y, .string u, .string v])] 74)).cell? ⟨W3.heap.size, 0, none⟩ = some (edV (turnC p q))) := hide (by rw [EV.out]; exact one_cell _ _ _ rfl)
            have C0 := hide (And.intro c1_3 (And.intro c2_3 (And.intro g1_3 g2_3)))
            go_region_held3 (fun w' => w'.cell? ⟨ba, oa, none⟩ = some (.string x) ∧ w'.cell? ⟨ba, oa + 1, none⟩ = some (.string y) ∧ w'.cell? ⟨bb, ob, none⟩ = some (.string u) ∧ w'.cell? ⟨bb, ob + 1, none⟩ = some (.string v)) (first | go_keep | exact ⟨cellB B3.out hba KC.out.1, cellB B3.out hba KC.out.2.1, cellB B3.out hbb KC.out.2.2.1, cellB B3.out hbb KC.out.2.2.2⟩)
              (first | (refine step_appE (n := d.length) (A := A2) (cap := cap2) (g := W3.heap.size) (l := d) (c := turnC p q) 71 Tryz.underlying71 rfl (.tmp 23) (.tmp 32) rfl (by simp [Act.eval]) (by simp [Act.eval]) rfl (O4.out.alloc _) CE.out (Nat.le_trans hq4 (by simp)) (by have := L.out; omega) ?_; intro A3 cap3 w3 own3 g3 r3; have B3 := hide (Q4.out.trans (((Below.refl _ W3.drew).alloc hq4 (.cells #[.iface 121 (.agg #[.string x, .string y, .string u, .string v])] 74)).trans ((O4.out.alloc (.cells #[.iface 121 (.agg #[.string x, .string y, .string u, .string v])] 74)).grownBelow (by rw [rowOf_own]; exact g3) (Nat.le_trans hq4 (by simp))))); have O3 := hide own3; clear own3 g3 r3))
            go_wp2
            go_quiet (fail)
            have Q5 : Hid (Below w.heap.size w (w3.drewN nq)) := hide (edb_drewN B3.out nq)
            have O5 : Hid (EOwn (w3.drewN nq) w.heap.size A3 cap3 (d ++ [turnC p q])) := hide O3.out
            go_wp2
            exact ⟨⟨a1, b1, n1 - 1, n2 - 1, _, _, _, _, A3, cap3, d ++ [turnC p q], rfl, rfl, by simp, NA, NB, DS, hide (by have := L.out; simp; omega), O5, Q5⟩, by simp [lenV]; omega⟩
        · have DS : Hid ((d ++ [gainC q]) ++ difM (p :: a1) b1 = difM a b) := hide (by rw [← D.out, difM_gt hgt, List.append_assoc]; rfl)
          have r1 : Op.bytesLess p.1.toList q.1.toList = false := ltB_asymm hgt
          have r2 : Op.bytesLess q.1.toList p.1.toList = true := hgt
          have t2 : decide (0 < n2) = true := decide_eq_true (by simp at l2; omega)
          have u2 : ((n2 : Int) == 0) = false := by rw [beq_eq_false_iff_ne]; simp at l2; omega
          obtain ⟨bb, ob, rfl, hbb, g1, g2, sb1, sb2⟩ := CB.out.first Q.out
          have hn2 : 1 ≤ n2 := by simp at l2; omega
          have hn2i : (0 : Int) < (n2 : Int) := by omega
          obtain ⟨ba, oa, rfl, hba, c1, c2, sa1, sa2⟩ := CA.out.first Q.out
          have hn1 : 1 ≤ n1 := by simp at l1; omega
          have hn1i : (0 : Int) < (n1 : Int) := by omega
          have NB := hide CB.out.next
          have K2 := cut1 (some ⟨bb, ob, none⟩) n2 cb hn2
          have EV := hide (edV_gain q)
          clear D
          clear hgt
          generalize hpx : p.1 = x at *
          generalize hpy : p.2 = y at *
          generalize hqu : q.1 = u at *
          generalize hqv : q.2 = v at *
          clear l1 l2
          go_wp2
          go_quiet (fail)
          have Q_1 : Hid (Below w.heap.size w (wr.drewN nq)) := hide (edb_drewN Q.out nq)
          have O_1 : Hid (EOwn (wr.drewN nq) w.heap.size A2 cap2 d) := hide O.out
          have hq_1 : w.heap.size ≤ (wr.drewN nq).heap.size := hqs
          have c1_1 : (wr.drewN nq).cell? ⟨ba, oa, none⟩ = some (.string x) := c1
          have c2_1 : (wr.drewN nq).cell? ⟨ba, oa + 1, none⟩ = some (.string y) := c2
          have g1_1 : (wr.drewN nq).cell? ⟨bb, ob, none⟩ = some (.string u) := g1
          have g2_1 : (wr.drewN nq).cell? ⟨bb, ob + 1, none⟩ = some (.string v) := g2
          clear Q O hqs c1 c2 g1 g2
          generalize wr.drewN nq = W1 at *
          go_wp2
          go_quiet (fail)
          have Q_2 : Hid (Below w.heap.size w (W1.drewN nq)) := hide (edb_drewN Q_1.out nq)
          have O_2 : Hid (EOwn (W1.drewN nq) w.heap.size A2 cap2 d) := hide O_1.out
          have hq_2 : w.heap.size ≤ (W1.drewN nq).heap.size := hq_1
          have c1_2 : (W1.drewN nq).cell? ⟨ba, oa, none⟩ = some (.string x) := c1_1
          have c2_2 : (W1.drewN nq).cell? ⟨ba, oa + 1, none⟩ = some (.string y) := c2_1
          have g1_2 : (W1.drewN nq).cell? ⟨bb, ob, none⟩ = some (.string u) := g1_1
          have g2_2 : (W1.drewN nq).cell? ⟨bb, ob + 1, none⟩ = some (.string v) := g2_1
          clear Q_1 O_1 hq_1 c1_1 c2_1 g1_1 g2_1
          generalize W1.drewN nq = W2 at *
          go_wp2_with (at_builtin; (refine wpList_appE (l := d) (c := gainC q) 71 Tryz.underlying71 rfl (.tmp 83) (.tmp 89) rfl rfl rfl rfl (O_2.out.alloc _) (by rw [EV.out]; exact one_cell _ _ _ (by simp)) (Nat.le_trans hq_2 (by simp)) (by have := L.out; omega) ?_; intro A3 cap3 w3 own3 g3 r3; have B3 := hide (Q_2.out.trans (((Below.refl _ _).alloc hq_2 (.cells #[.iface 119 (.agg #[.string u, .string v])] 74)).trans ((O_2.out.alloc (.cells #[.iface 119 (.agg #[.string u, .string v])] 74)).grownBelow (by rw [rowOf_own]; exact g3) (Nat.le_trans hq_2 (by simp))))); have O3 := hide own3; clear own3 g3 r3))
          have L3 : Hid ((d ++ [gainC q]).length + n1 + (n2 - 1) ≤ na + nb) := hide (by have := L.out; simp; omega)
          exact ⟨⟨_, b1, n1, n2 - 1, _, _, _, _, A3, cap3, d ++ [gainC q], rfl, rfl, by simp, CA, NB, DS, hide (by have := L3.out; omega), O3, B3⟩, by simp [lenV]; omega⟩
end Go.Proofs.YtaofemdhgfejjaaGreatDoor
/-
  What spec.l6Diff answers.
-/
namespace Go.Proofs.YtaofemdhgfejjaaGreatDoor
open Go.RowKit

theorem drop_cons {l : List Pr} {i : Nat} (h : i < l.length) : l.drop i = l[i] :: l.drop (i + 1) := List.drop_eq_getElem_cons h
theorem dif_end {a b : List Pr} {i k : Nat} (ha : a.length ≤ i) (hb : b.length ≤ k) : difM (a.drop i) (b.drop k) = [] := by rw [List.drop_of_length_le ha, List.drop_of_length_le hb, difM_nil]
theorem dif_loss {a b : List Pr} {i k : Nat} (hi : i < a.length) (h : ∀ (hk : k < b.length), ltB a[i].1 b[k].1 = true) : difM (a.drop i) (b.drop k) = lossC a[i] :: difM (a.drop (i + 1)) (b.drop k) := by
  rw [drop_cons hi]
  by_cases hk : k < b.length
  · rw [drop_cons hk, difM_lt (h hk)]
  · rw [List.drop_of_length_le (l := b) (by omega), difM_a]
theorem dif_gain {a b : List Pr} {i k : Nat} (hk : k < b.length) (h : ∀ (hi : i < a.length), ltB b[k].1 a[i].1 = true) : difM (a.drop i) (b.drop k) = gainC b[k] :: difM (a.drop i) (b.drop (k + 1)) := by
  rw [drop_cons hk]
  by_cases hi : i < a.length
  · rw [drop_cons hi, difM_gt (h hi)]
  · rw [List.drop_of_length_le (l := a) (by omega), difM_b]
theorem dif_same {a b : List Pr} {i k : Nat} (hi : i < a.length) (hk : k < b.length) (h : a[i].1 = b[k].1) (h' : a[i].2 = b[k].2) : difM (a.drop i) (b.drop k) = difM (a.drop (i + 1)) (b.drop (k + 1)) := by
  rw [drop_cons hi, drop_cons hk, difM_same h h']
theorem dif_turn {a b : List Pr} {i k : Nat} (hi : i < a.length) (hk : k < b.length) (h : a[i].1 = b[k].1) (h' : ¬ a[i].2 = b[k].2) : difM (a.drop i) (b.drop k) = turnC a[i] b[k] :: difM (a.drop (i + 1)) (b.drop (k + 1)) := by
  rw [drop_cons hi, drop_cons hk, difM_turn h h']

theorem below_drewN {B : Nat} {w w' : World} (h : Below B w w') (n : Nat) : Below B w (w'.drewN n) := h.trans (Quiet.below ⟨n, rfl⟩ _)
/-- the box of the change that a round makes -/
def Box (w : World) (g : Nat) (c : Ch) : Prop := w.heap[g]? = some (.cells (arrC c) 45 (0, 0))
theorem Box.cells {w : World} {g : Nat} {c : Ch} (h : Box w g c) : At5 w g 0 c := ⟨cell_of_row _ g 0 _ _ (0, 0) h, cell_of_row _ g 1 _ _ (0, 0) h, cell_of_row _ g 2 _ _ (0, 0) h, cell_of_row _ g 3 _ _ (0, 0) h, cell_of_row _ g 4 _ _ (0, 0) h⟩
theorem Box.frozen {w : World} {g : Nat} {c : Ch} (h : Box w g c) (j : Nat) : w.frozen? ⟨g, j, none⟩ = false := by simp [World.frozen?, show w.heap[g]? = _ from h]
theorem box_set {w : World} {g : Nat} {cs : Array Value} {t : TypeId} (h : w.heap[g]? = some (.cells cs t (0, 0))) (j : Nat) (u : Value) : (w.setCell ⟨g, j, none⟩ u).heap[g]? = some (.cells (cs.setIfInBounds j u) t (0, 0)) := by
  have hlt := lt_of_block h
  have h' : w.heap[g] = .cells cs t (0, 0) := by simpa [Array.getElem?_eq_getElem hlt] using h
  show (w.heap.modify g _)[g]? = _
  rw [Array.getElem?_eq_getElem (by simpa using hlt), Array.getElem_modify_self, h']
  rfl
theorem Box.five {w : World} {g : Nat} {c : Ch} (h : Box w g c) (x y z : ByteArray) (p q : Bool) : Box (((((w.setCell ⟨g, 0, none⟩ (.string x)).setCell ⟨g, 1, none⟩ (.string y)).setCell ⟨g, 2, none⟩ (.string z)).setCell ⟨g, 3, none⟩ (.bool p)).setCell ⟨g, 4, none⟩ (.bool q)) g (x, y, z, p, q) :=
  box_set (box_set (box_set (box_set (box_set h 0 _) 1 _) 2 _) 3 _) 4 _
end Go.Proofs.YtaofemdhgfejjaaGreatDoor
/-
  What the edits tell back; what impl.DiffOf and spec.DiffOf answer.
-/
namespace Go.Proofs.YtaofemdhgfejjaaGreatDoor
open Go.RowKit

set_option maxRecDepth 100000 in
set_option maxHeartbeats 1000000 in
theorem gainChange_any (x n : ByteArray) (w : World) :
    Calls Tryz.prog 132 #[.agg #[.string x, .string n]] w fun e w' => e = .returned (.agg #[.string x, .string ByteArray.empty, .string n, .bool false, .bool true]) ∧ Below w.heap.size w w' := by
  go_enter Tryz.func132, Tryz.ntmps132
  go_wp2
  exact bodyPost_ret (v := .agg #[.string x, .string ByteArray.empty, .string n, .bool false, .bool true]) (by simp [results, Tryz.results132, go_sem]; rfl) rfl ⟨rfl, ((Below.refl _ _).alloc (Nat.le_refl _) _).alloc (by simp) _⟩
theorem method_gain (x n : ByteArray) (w : World) : (method 314 119 (.agg #[.string x, .string n]) "loop.example/g00652/impl.change").run Tryz.prog w = .ok (132, .agg #[.string x, .string n]) w := by kernel_rfl
set_option maxRecDepth 100000 in
set_option maxHeartbeats 1000000 in
theorem lossChange_any (x o : ByteArray) (w : World) :
    Calls Tryz.prog 131 #[.agg #[.string x, .string o]] w fun e w' => e = .returned (.agg #[.string x, .string o, .string ByteArray.empty, .bool true, .bool false]) ∧ Below w.heap.size w w' := by
  go_enter Tryz.func131, Tryz.ntmps131
  go_wp2
  exact bodyPost_ret (v := .agg #[.string x, .string o, .string ByteArray.empty, .bool true, .bool false]) (by simp [results, Tryz.results131, go_sem]; rfl) rfl ⟨rfl, ((Below.refl _ _).alloc (Nat.le_refl _) _).alloc (by simp) _⟩
theorem method_loss (x o : ByteArray) (w : World) : (method 314 117 (.agg #[.string x, .string o]) "loop.example/g00652/impl.change").run Tryz.prog w = .ok (131, .agg #[.string x, .string o]) w := by kernel_rfl
set_option maxRecDepth 100000 in
set_option maxHeartbeats 1000000 in
theorem turnChange_any (x' o x n : ByteArray) (w : World) :
    Calls Tryz.prog 133 #[.agg #[.string x', .string o, .string x, .string n]] w fun e w' => e = .returned (.agg #[.string x, .string o, .string n, .bool true, .bool true]) ∧ Below w.heap.size w w' := by
  go_enter Tryz.func133, Tryz.ntmps133
  go_wp2
  exact bodyPost_ret (v := .agg #[.string x, .string o, .string n, .bool true, .bool true]) (by simp [results, Tryz.results133, go_sem]) rfl ⟨rfl, ((Below.refl _ _).alloc (Nat.le_refl _) _).alloc (by simp) _⟩
theorem method_turn (x' o x n : ByteArray) (w : World) : (method 314 121 (.agg #[.string x', .string o, .string x, .string n]) "loop.example/g00652/impl.change").run Tryz.prog w = .ok (133, .agg #[.string x', .string o, .string x, .string n]) w := by kernel_rfl
set_option maxRecDepth 100000 in
set_option maxHeartbeats 1000000 in
theorem idleChange_any (x : ByteArray) (w : World) :
    Calls Tryz.prog 134 #[.agg #[.string x]] w fun e w' => e = .returned (.agg #[.string x, .string ByteArray.empty, .string ByteArray.empty, .bool false, .bool false]) ∧ Below w.heap.size w w' := by
  go_enter Tryz.func134, Tryz.ntmps134
  go_wp2
  exact bodyPost_ret (v := .agg #[.string x, .string ByteArray.empty, .string ByteArray.empty, .bool false, .bool false]) (by simp [results, Tryz.results134, go_sem]; rfl) rfl ⟨rfl, ((Below.refl _ _).alloc (Nat.le_refl _) _).alloc (by simp) _⟩
theorem method_idle (x : ByteArray) (w : World) : (method 314 123 (.agg #[.string x]) "loop.example/g00652/impl.change").run Tryz.prog w = .ok (134, .agg #[.string x]) w := by kernel_rfl

/-- what an edit tells back of its change -/
def normC (c : Ch) : Ch := (c.1, if c.2.2.2.1 then c.2.1 else ByteArray.empty, if c.2.2.2.2 then c.2.2.1 else ByteArray.empty, c.2.2.2.1, c.2.2.2.2)
theorem norm_loss (p : Pr) : normC (lossC p) = lossC p := rfl
theorem norm_gain (p : Pr) : normC (gainC p) = gainC p := rfl
theorem norm_turn (p q : Pr) : normC (turnC p q) = turnC p q := rfl
theorem norm_dif : ∀ (n : Nat) (a b : List Pr), a.length + b.length ≤ n → ∀ c ∈ difM a b, normC c = c
  | n, [], [], _, c, h => by rw [difM_nil] at h; cases h
  | n, p :: a, [], hn, c, h => by
    rw [difM_a] at h
    rcases List.mem_cons.1 h with rfl | h
    · rfl
    · exact norm_dif (n - 1) a [] (by simp at hn ⊢; omega) c h
  | n, [], q :: b, hn, c, h => by
    rw [difM_b] at h
    rcases List.mem_cons.1 h with rfl | h
    · rfl
    · exact norm_dif (n - 1) [] b (by simp at hn ⊢; omega) c h
  | n, p :: a, q :: b, hn, c, h => by
    rcases ltB_tri p.1 q.1 with g | g | g
    · rw [difM_lt g] at h
      rcases List.mem_cons.1 h with rfl | h
      · rfl
      · exact norm_dif (n - 1) a (q :: b) (by simp at hn ⊢; omega) c h
    · by_cases g' : p.2 = q.2
      · rw [difM_same g g'] at h
        exact norm_dif (n - 1) a b (by simp at hn ⊢; omega) c h
      · rw [difM_turn g g'] at h
        rcases List.mem_cons.1 h with rfl | h
        · rfl
        · exact norm_dif (n - 1) a b (by simp at hn ⊢; omega) c h
    · rw [difM_gt g] at h
      rcases List.mem_cons.1 h with rfl | h
      · rfl
      · exact norm_dif (n - 1) (p :: a) b (by simp at hn ⊢; omega) c h
termination_by _ a b => a.length + b.length
theorem lens_tail {p : Pr} {l : List Pr} (h : lens (p :: l)) : lens l := fun i hi => by have := h (i + 1) (by simp; omega); simpa using this
theorem hlens_cons {c : Ch} {l : List Ch} (hc : cC c) (h : hlens l) : hlens (c :: l) := by
  intro i hi
  cases i with
  | zero => exact hc
  | succ i => exact h i (by simpa using hi)
/-- the texts of a change between two maps are theirs -/
theorem cC_dif : ∀ (n : Nat) (a b : List Pr), a.length + b.length ≤ n → lens a → lens b → hlens (difM a b)
  | n, [], [], _, _, _ => by rw [difM_nil]; exact hlens_nil
  | n, p :: a, [], hn, ha, hb => by
    rw [difM_a]
    exact hlens_cons ⟨(ha 0 (by simp)).1, (ha 0 (by simp)).2, by simp [lossC, maxLen]⟩ (cC_dif (n - 1) a [] (by simp at hn ⊢; omega) (lens_tail ha) hb)
  | n, [], q :: b, hn, ha, hb => by
    rw [difM_b]
    exact hlens_cons ⟨(hb 0 (by simp)).1, by simp [gainC, maxLen], (hb 0 (by simp)).2⟩ (cC_dif (n - 1) [] b (by simp at hn ⊢; omega) ha (lens_tail hb))
  | n, p :: a, q :: b, hn, ha, hb => by
    rcases ltB_tri p.1 q.1 with g | g | g
    · rw [difM_lt g]
      exact hlens_cons ⟨(ha 0 (by simp)).1, (ha 0 (by simp)).2, by simp [lossC, maxLen]⟩ (cC_dif (n - 1) a (q :: b) (by simp at hn ⊢; omega) (lens_tail ha) hb)
    · by_cases g' : p.2 = q.2
      · rw [difM_same g g']
        exact cC_dif (n - 1) a b (by simp at hn ⊢; omega) (lens_tail ha) (lens_tail hb)
      · rw [difM_turn g g']
        exact hlens_cons ⟨(hb 0 (by simp)).1, (ha 0 (by simp)).2, (hb 0 (by simp)).2⟩ (cC_dif (n - 1) a b (by simp at hn ⊢; omega) (lens_tail ha) (lens_tail hb))
    · rw [difM_gt g]
      exact hlens_cons ⟨(hb 0 (by simp)).1, by simp [gainC, maxLen], (hb 0 (by simp)).2⟩ (cC_dif (n - 1) (p :: a) b (by simp at hn ⊢; omega) ha (lens_tail hb))
termination_by _ a b => a.length + b.length

noncomputable def diffB (a b : List Pr) : Bool := mapB a && mapB b
noncomputable def diffL (a b : List Pr) : List Ch := if diffB a b = true then difM a b else []
/-- a list of changes of the call's own, and whether there is one -/
def RetChB (B : Nat) (l : List Ch) (b : Bool) (w : World) (e : Ending) (w' : World) : Prop := ∃ A cap, l.length ≤ cap ∧ e = .returned (.tuple #[.slice A l.length cap, .bool b]) ∧ HOwn w' B A cap l ∧ Below B w w'
theorem retChB_no {B : Nat} {l : List Ch} {b : Bool} {w w' : World} (hl : l = []) (hb : b = false) (h : Below B w w') : RetChB B l b w (.returned (.tuple #[.slice none 0 0, .bool false])) w' := by
  subst hl hb; exact ⟨none, 0, by simp, rfl, HOwn.nil _ _, h⟩
theorem diffL_no {a b : List Pr} (h : diffB a b = false) : diffL a b = [] := by unfold diffL; rw [h]; rfl
theorem diffL_yes {a b : List Pr} (h : diffB a b = true) : diffL a b = difM a b := by unfold diffL; rw [if_pos h]
theorem diffB_1 {a b : List Pr} (h : mapB a = false) : diffB a b = false := by unfold diffB; rw [h]; rfl
theorem diffB_2 {a b : List Pr} (h : mapB b = false) : diffB a b = false := by unfold diffB; rw [h, Bool.and_false]
theorem diffB_yes {a b : List Pr} (h : mapB a = true) (h' : mapB b = true) : diffB a b = true := by unfold diffB; rw [h, h']; rfl

set_option maxRecDepth 100000 in
set_option maxHeartbeats 4000000 in
theorem implDiffOf_any (A : Option Addr) (a : List Pr) (cap : Nat) (A' : Option Addr) (b : List Pr) (cap' : Nat) (w : World) (hla : a.length ≤ maxLen) (hlb : b.length ≤ maxLen) (hca : a.length ≤ cap) (hcb : b.length ≤ cap') (hin : PIn w w.heap.size A a) (hin' : PIn w w.heap.size A' b) :
    Calls Tryz.prog 19 #[.slice A a.length cap, .slice A' b.length cap'] w (RetChB w.heap.size (diffL a b) (diffB a b) w) := by
  cases ha : mapB a
  · have Z := hide (diffB_1 (b := b) ha)
    go_enter Tryz.func19, Tryz.ntmps19
    go_wp2_with fail
    refine (implMapOk_any A a cap _ hla hin).mono ?_
    rintro e w1 ⟨rfl, q1⟩
    rw [ha]
    go_wp2
    go_ret2
    exact retChB_no (diffL_no Z.out) Z.out q1
  · cases hb : mapB b
    · have Z := hide (diffB_2 (a := a) hb)
      go_enter Tryz.func19, Tryz.ntmps19
      go_wp2_with fail
      refine (implMapOk_any A a cap _ hla hin).mono ?_
      rintro e w1 ⟨rfl, q1⟩
      rw [ha]
      have in1 := (hin'.below q1).more q1.size
      go_wp2_with fail
      refine (implMapOk_any A' b cap' _ hlb in1).mono ?_
      rintro e w2 ⟨rfl, q2⟩
      rw [hb]
      have B2 := hide (q1.trans (q2.mono q1.size))
      clear q1 q2 in1
      go_wp2
      go_ret2
      exact retChB_no (diffL_no Z.out) Z.out B2.out
    · have Z := hide (diffB_yes ha hb)
      have h40 := (mapB_iff.1 ha).1
      have h41 := (mapB_iff.1 hb).1
      have NM := hide (norm_dif _ a b (Nat.le_refl _))
      have CD := hide (cC_dif _ a b (Nat.le_refl _) hin.1 hin'.1)
      have DL := hide (difM_len _ a b (Nat.le_refl _))
      have hme1 := method_gain
      have hme2 := method_loss
      have hme3 := method_turn
      have hme4 := method_idle
      go_enter Tryz.func19, Tryz.ntmps19
      go_wp2_with fail
      refine (implMapOk_any A a cap _ hla hin).mono ?_
      rintro e w1 ⟨rfl, q1⟩
      rw [ha]
      have in1 := (hin'.below q1).more q1.size
      go_wp2_with fail
      refine (implMapOk_any A' b cap' _ hlb in1).mono ?_
      rintro e w2 ⟨rfl, q2⟩
      rw [hb]
      have B2 := hide (q1.trans (q2.mono q1.size))
      clear q1 q2 in1
      go_wp2_with fail
      refine (editsBetween_any A a cap A' b cap' _ (by omega) (by omega) hca hcb ((hin.below B2.out).more B2.out.size) ((hin'.below B2.out).more B2.out.size)).mono ?_
      rintro e w3 ⟨A3, cap3, hc3, rfl, own3, b3⟩
      have B3 := hide (B2.out.trans (b3.mono B2.out.size))
      have E3 := hide own3
      have hdl : (difM a b).length ≤ 80 := by have := DL.out; omega
      have OZ := hide (HOwn.nil w3 w3.heap.size)
      have hdz := hide (show difM a b = difM a b from rfl)
      clear b3 own3 DL
      generalize hgd : difM a b = D at NM CD E3 hc3 hdl ⊢
      generalize hn : D.length = n at *
      have HN := hide hn
      have HD := hide hgd
      clear hn hgd hdz
      go_wp2
      go_loopw [6, 21] (fun ov iv wr => ∃ (k : Nat) (A2 : Option Addr) (cap2 : Nat) (d : List Ch), k ≤ n ∧ iv = .int .i64 k ∧ ov = .slice A2 d.length cap2 ∧ Hid (d = D.take k) ∧ Hid (d.length = k) ∧ Hid (HOwn wr w3.heap.size A2 cap2 d) ∧ Hid (Below w3.heap.size w3 wr)) (fun _ i _ => n - (intOf i).toNat)
      case atStart => exact ⟨0, _, 0, [], Nat.zero_le _, rfl, rfl, rfl, rfl, OZ, hide (Below.refl _ _)⟩
      case round =>
        clear OZ
        obtain ⟨k, A2, cap2, d, hk, rfl, rfl, HT, L, O, Q⟩ := hrel
        have hqs := Q.out.size
        by_cases hlt : k < n
        · have hkl : k < D.length := by rw [HN.out]; omega
          obtain ⟨g, rfl, hgl, hcell⟩ := (E3.out.below Q.out).cell hkl
          have sz := hide (CD.out k hkl)
          have DS : Hid (d ++ [D[k]'hkl] = D.take (k + 1)) := hide (by rw [HT.out, List.take_append_getElem])
          have NK := hide (NM.out _ (List.getElem_mem hkl))
          have L3 : Hid ((D.take (k + 1)).length = k + 1) := hide (by rw [List.length_take]; omega)
          have hki : (k : Int) < (n : Int) := by omega
          clear HT
          generalize D[k]'hkl = c at sz DS NK hcell
          obtain ⟨x, o, m, p, q⟩ := c
          have hw0 : w.heap.size ≤ w3.heap.size := B3.out.size
          rcases p with _ | _ <;> rcases q with _ | _
          · have NO := congrArg (fun z : Ch => z.2.1) NK.out
            have NN := congrArg (fun z : Ch => z.2.2.1) NK.out
            simp only [normC, Bool.false_eq_true, if_false] at NO NN
            subst NO
            subst NN
            simp only [edV, editV] at hcell
            clear NK
            go_wp2_with fail
            refine (idleChange_any x _).mono ?_
            rintro e w5 ⟨rfl, b5⟩
            have O5 := hide (O.out.below b5)
            have B5 := hide (Q.out.trans (b5.mono hqs))
            have hq5 := B5.out.size
            clear b5 O Q hcell
            go_wp2_with (at_builtin; (refine wpList_appC (l := d) (l' := [(x, ByteArray.empty, ByteArray.empty, false, false)]) 40 Tryz.underlying40 rfl (.tmp 25) (.tmp 28) rfl rfl rfl rfl rfl (O5.out.alloc _) (HIn.oneAt (x, ByteArray.empty, ByteArray.empty, false, false) sz.out _ (by simp)) (by simp) (Nat.le_trans hq5 (by simp)) (by have := L.out; simp; omega) ?_; intro A6 cap6 w6 own6 g6 r6; have B6 := hide (B5.out.trans (((Below.refl _ _).alloc hq5 (.cells (arrC (x, ByteArray.empty, ByteArray.empty, false, false)) 45)).trans ((O5.out.alloc (.cells (arrC (x, ByteArray.empty, ByteArray.empty, false, false)) 45)).grownBelow (by rw [rowOf_own]; exact g6) (Nat.le_trans hq5 (by simp))))); have O6 := hide own6; clear own6 g6 r6))
            rw [DS.out] at O6
            exact ⟨⟨k + 1, A6, cap6, D.take (k + 1), by omega, by go_num, by rw [← DS.out]; simp, rfl, L3, O6, B6⟩, by simp [intOf]; omega⟩
          · have NO := congrArg (fun z : Ch => z.2.1) NK.out
            have NN := congrArg (fun z : Ch => z.2.2.1) NK.out
            simp only [normC, if_true, Bool.false_eq_true, if_false] at NO NN
            subst NO
            simp only [edV, editV] at hcell
            clear NK
            go_wp2_with fail
            refine (gainChange_any x m _).mono ?_
            rintro e w5 ⟨rfl, b5⟩
            have O5 := hide (O.out.below b5)
            have B5 := hide (Q.out.trans (b5.mono hqs))
            have hq5 := B5.out.size
            clear b5 O Q hcell
            go_wp2_with (at_builtin; (refine wpList_appC (l := d) (l' := [(x, ByteArray.empty, m, false, true)]) 40 Tryz.underlying40 rfl (.tmp 25) (.tmp 28) rfl rfl rfl rfl rfl (O5.out.alloc _) (HIn.oneAt (x, ByteArray.empty, m, false, true) sz.out _ (by simp)) (by simp) (Nat.le_trans hq5 (by simp)) (by have := L.out; simp; omega) ?_; intro A6 cap6 w6 own6 g6 r6; have B6 := hide (B5.out.trans (((Below.refl _ _).alloc hq5 (.cells (arrC (x, ByteArray.empty, m, false, true)) 45)).trans ((O5.out.alloc (.cells (arrC (x, ByteArray.empty, m, false, true)) 45)).grownBelow (by rw [rowOf_own]; exact g6) (Nat.le_trans hq5 (by simp))))); have O6 := hide own6; clear own6 g6 r6))
            rw [DS.out] at O6
            exact ⟨⟨k + 1, A6, cap6, D.take (k + 1), by omega, by go_num, by rw [← DS.out]; simp, rfl, L3, O6, B6⟩, by simp [intOf]; omega⟩
          · have NO := congrArg (fun z : Ch => z.2.1) NK.out
            have NN := congrArg (fun z : Ch => z.2.2.1) NK.out
            simp only [normC, if_true, Bool.false_eq_true, if_false] at NO NN
            subst NN
            simp only [edV, editV] at hcell
            clear NK
            go_wp2_with fail
            refine (lossChange_any x o _).mono ?_
            rintro e w5 ⟨rfl, b5⟩
            have O5 := hide (O.out.below b5)
            have B5 := hide (Q.out.trans (b5.mono hqs))
            have hq5 := B5.out.size
            clear b5 O Q hcell
            go_wp2_with (at_builtin; (refine wpList_appC (l := d) (l' := [(x, o, ByteArray.empty, true, false)]) 40 Tryz.underlying40 rfl (.tmp 25) (.tmp 28) rfl rfl rfl rfl rfl (O5.out.alloc _) (HIn.oneAt (x, o, ByteArray.empty, true, false) sz.out _ (by simp)) (by simp) (Nat.le_trans hq5 (by simp)) (by have := L.out; simp; omega) ?_; intro A6 cap6 w6 own6 g6 r6; have B6 := hide (B5.out.trans (((Below.refl _ _).alloc hq5 (.cells (arrC (x, o, ByteArray.empty, true, false)) 45)).trans ((O5.out.alloc (.cells (arrC (x, o, ByteArray.empty, true, false)) 45)).grownBelow (by rw [rowOf_own]; exact g6) (Nat.le_trans hq5 (by simp))))); have O6 := hide own6; clear own6 g6 r6))
            rw [DS.out] at O6
            exact ⟨⟨k + 1, A6, cap6, D.take (k + 1), by omega, by go_num, by rw [← DS.out]; simp, rfl, L3, O6, B6⟩, by simp [intOf]; omega⟩
          · have NO := congrArg (fun z : Ch => z.2.1) NK.out
            have NN := congrArg (fun z : Ch => z.2.2.1) NK.out
            simp only [normC, if_true] at NO NN
            simp only [edV, editV] at hcell
            clear NK
            go_wp2_with fail
            refine (turnChange_any x o x m _).mono ?_
            rintro e w5 ⟨rfl, b5⟩
            have O5 := hide (O.out.below b5)
            have B5 := hide (Q.out.trans (b5.mono hqs))
            have hq5 := B5.out.size
            clear b5 O Q hcell
            go_wp2_with (at_builtin; (refine wpList_appC (l := d) (l' := [(x, o, m, true, true)]) 40 Tryz.underlying40 rfl (.tmp 25) (.tmp 28) rfl rfl rfl rfl rfl (O5.out.alloc _) (HIn.oneAt (x, o, m, true, true) sz.out _ (by simp)) (by simp) (Nat.le_trans hq5 (by simp)) (by have := L.out; simp; omega) ?_; intro A6 cap6 w6 own6 g6 r6; have B6 := hide (B5.out.trans (((Below.refl _ _).alloc hq5 (.cells (arrC (x, o, m, true, true)) 45)).trans ((O5.out.alloc (.cells (arrC (x, o, m, true, true)) 45)).grownBelow (by rw [rowOf_own]; exact g6) (Nat.le_trans hq5 (by simp))))); have O6 := hide own6; clear own6 g6 r6))
            rw [DS.out] at O6
            exact ⟨⟨k + 1, A6, cap6, D.take (k + 1), by omega, by go_num, by rw [← DS.out]; simp, rfl, L3, O6, B6⟩, by simp [intOf]; omega⟩
        · have E : Hid (d = D) := hide (by rw [HT.out, show k = D.length by rw [HN.out]; omega, List.take_length])
          have hgt : ¬ ((k : Int) < (n : Int)) := by omega
          have B6 := hide (B3.out.trans (Q.out.mono B3.out.size))
          have O6 := hide (O.out.more B3.out.size)
          clear hlt HT L O Q
          go_wp2
          go_ret2
          refine ⟨A2, cap2, ?_, ?_, ?_, B6.out⟩
          · rw [diffL_yes Z.out, HD.out, ← E.out]; exact O6.out.cap_le
          · rw [diffL_yes Z.out, Z.out, HD.out, ← E.out]; rfl
          · rw [diffL_yes Z.out, HD.out, ← E.out]; exact O6.out
end Go.Proofs.YtaofemdhgfejjaaGreatDoor
/-
  How many changes lead from one right map to another one.
-/
namespace Go.Proofs.YtaofemdhgfejjaaGreatDoor
open Go.RowKit
theorem diffL_len (a b : List Pr) : (diffL a b).length ≤ 80 := by
  cases h : diffB a b
  · rw [diffL_no h]; simp
  · rw [diffL_yes h]
    unfold diffB at h
    rw [Bool.and_eq_true] at h
    have h1 := (mapB_iff.1 h.1).1
    have h2 := (mapB_iff.1 h.2).1
    have := difM_len _ a b (Nat.le_refl _)
    omega
end Go.Proofs.YtaofemdhgfejjaaGreatDoor
/-
  Where a resolved merger is unlike the merger the key is told. Plain mathematics.
-/
namespace Go.Proofs.YtaofemdhgfejjaaGreatDoor
open Go.RowKit

theorem rs_dif {o a b : List Pr} {side : Int} (h : rsB o a b side = true) {c : Ch} (hc : c ∈ diffL (mgL o a b) (rsL o a b side)) : c.1 ∈ mgK o a b := by
  have h1 := mg_map (rs_mg h)
  have h2 := rs_map h
  rw [diffL_yes (diffB_yes h1 h2)] at hc
  exact rs_same h ((dif_char _ _ _ (Nat.le_refl _) (mapB_ris h1) (mapB_ris h2)).1 c hc).2
theorem dif_yes {a b : List Pr} (h1 : mapB a = true) (h2 : mapB b = true) : diffL a b = difM a b := diffL_yes (diffB_yes h1 h2)
end Go.Proofs.YtaofemdhgfejjaaGreatDoor
/-
  A region that draws its order, whose operations read and whose callees only make memory of their own: walked once. The class of worlds: those that are as w was below block B.
-/
namespace Go.Proofs.YtaofemdhgfejjaaGreatDoor
open Go.RowKit

/-- the worlds that are as w was below block B -/
def Cls (B : Nat) (w : World) : Type := { x : World // Below B w x }
def Cls.wo {B : Nat} {w : World} (u : Cls B w) : World := u.val
theorem Cls.below {B : Nat} {w : World} (u : Cls B w) : Below B w u.wo := u.property
def Cls.mk' {B : Nat} {w : World} (x : World) (h : Below B w x) : Cls B w := ⟨x, h⟩
instance clsNonempty {B : Nat} {w : World} : Nonempty (Cls B w) := ⟨Cls.mk' w (Below.refl B w)⟩
theorem wp_region_cls {P : Program} {id : Nat} {Q : Exit → Act → World → Prop} {a : Act} {w : World} {l : List Oper} (hm : P.follows .mixedOrders = true) (hB : Region.lexB .any l.toArray = true) (B : Nat)
    (h : wpQuiet P l.toArray (fun w' => ∃ u : Cls B w, w' = u.wo) (fun a' => ∀ w', (∃ u : Cls B w, w' = u.wo) → Q .normal a' w') l a) : (Code.region id l.toArray true).wp P Q a w :=
  wp_region_quiet (C := fun w' => ∃ u : Cls B w, w' = u.wo) hm hB ⟨Cls.mk' w.drew (Below.refl B w).drew, rfl⟩ (by simpa using h)
theorem cls_cell {B : Nat} {w : World} {p : Addr} {v : Value} (hp : p.block < B) (h : w.cell? p = some v) : ∀ u : Cls B w, u.wo.cell? p = some v := fun u => (u.below.cell hp).trans h
theorem cls_call {P : Program} {f : FuncId} {args : Array Value} {B : Nat} {w : World} {v : Value} {u : Cls B w} (hB : B ≤ w.heap.size) (h : Calls P f args u.wo fun e w' => e = .returned v ∧ Below u.wo.heap.size u.wo w') :
    Calls P f args u.wo fun e w'' => e = .returned v ∧ ∃ u' : Cls B w, w'' = u'.wo :=
  h.mono fun _ w' ⟨he, hb⟩ => ⟨he, Cls.mk' w' (u.below.trans (hb.mono (Nat.le_trans hB u.below.size))), rfl⟩
end Go.Proofs.YtaofemdhgfejjaaGreatDoor
/-
  What impl's sorted list of changes answers when asked whether it rises.
-/
namespace Go.Proofs.YtaofemdhgfejjaaGreatDoor
open Go.RowKit

theorem csortKey_any (x o n : ByteArray) (p q : Bool) (w : World) :
    Calls Tryz.prog 123 #[.agg #[.string x, .string o, .string n, .bool p, .bool q]] w fun e w' => e = .returned (.string x) ∧ Below w.heap.size w w' := by
  go_enter Tryz.func123, Tryz.ntmps123
  go_wp2
  go_ret
  exact ⟨rfl, (Below.refl _ _).alloc (Nat.le_refl _) _⟩

theorem method_csortKey (x1 x2 x3 x4 x5 : Value) (w : World) : (method 314 45 (.agg #[x1, x2, x3, x4, x5]) "loop.example/g00652/impl.sortKey").run Tryz.prog w = .ok (123, .agg #[x1, x2, x3, x4, x5]) w := by kernel_rfl

set_option maxRecDepth 100000 in
set_option maxHeartbeats 2000000 in
theorem risesC_any (A : Option Addr) (l : List Ch) (cap : Nat) (w : World) (hl : l.length ≤ maxLen) (hin : HIn w w.heap.size A l) :
    Calls Tryz.prog 40 #[.slice A l.length cap] w fun e w' => e = .returned (.bool (risesB (cp l))) ∧ Below w.heap.size w w' := by
  unfold maxLen at hl
  have HL := hide (cp_len l)
  generalize hn : l.length = n at *
  have HN := hide hn
  clear hn
  have hme := method_csortKey
  go_enter Tryz.func40, Tryz.ntmps40
  go_wp2
  go_loopw [3] (fun i wr => ∃ k : Nat, (k ≤ n ∨ k = 1) ∧ 1 ≤ k ∧ i = .int .i64 k ∧ Hid (risesTo (cp l) k) ∧ Hid (Below w.heap.size w wr)) (fun i _ => n - (intOf i).toNat)
  case atStart => exact ⟨1, .inr rfl, by omega, rfl, risesTo_one _, Below.refl _ w⟩
  case round =>
    obtain ⟨k, hk, h1, rfl, H, Q⟩ := hrel
    have hqs := Q.out.size
    by_cases hlt : k < n
    · have hin2 := hin.below Q.out
      obtain ⟨b, off, rfl, hbB, hc⟩ := hin2.2 (by rw [HN.out]; omega)
      have hkl : k < l.length := by rw [HN.out]; omega
      have hkp : k < (cp l).length := by rw [HL.out]; omega
      obtain ⟨c1, c2, c3, c4, c5⟩ := hc k hkl
      obtain ⟨d1, d2, d3, d4, d5⟩ := hc (k - 1) (by omega)
      have g1 := hide (cp_get l k hkp)
      have g2 := hide (cp_get l (k - 1) (by omega))
      have hbw : b < wr.heap.size := by omega
      have q1 : IntKind.i64.wrap ((k : Int) - 1) = (k : Int) - 1 := IntWalk.i64_in _ (by omega)
      have q2 : (0 : Int) ≤ (k : Int) - 1 := by omega
      have q3 : (1 : Int) ≤ (k : Int) := by omega
      have q4 : ((k : Int) - 1).toNat = k - 1 := by omega
      have q5 : (k : Int) - 1 < (n : Int) := by omega
      cases hrise : ltB (l[k - 1]'(by omega)).1 (l[k]'hkl).1
      · have Z := hide (risesB_no (l := cp l) (k := k - 1) (by omega) (by rw [g2.out]; simp only [show k - 1 + 1 = k by omega]; rw [g1.out]; exact hrise))
        have hrise2 : Op.bytesLess (l[k - 1]'(by omega)).1.toList (l[k]'hkl).1.toList = false := hrise
        generalize (l[k]'hkl) = e at *
        generalize (l[k - 1]'(by omega)) = e0 at *
        obtain ⟨x, o, m, p, q⟩ := e
        obtain ⟨x0, o0, m0, p0, r0⟩ := e0
        clear hin hin2 hc hrise hkl hkp g1 g2
        have y1 := cls_cell (B := wr.heap.size) hbw c1
        have y2 := cls_cell (B := wr.heap.size) hbw c2
        have y3 := cls_cell (B := wr.heap.size) hbw c3
        have y4 := cls_cell (B := wr.heap.size) hbw c4
        have y5 := cls_cell (B := wr.heap.size) hbw c5
        have u1 := cls_cell (B := wr.heap.size) hbw d1
        have u2 := cls_cell (B := wr.heap.size) hbw d2
        have u3 := cls_cell (B := wr.heap.size) hbw d3
        have u4 := cls_cell (B := wr.heap.size) hbw d4
        have u5 := cls_cell (B := wr.heap.size) hbw d5
        clear c1 c2 c3 c4 c5 d1 d2 d3 d4 d5
        go_wp2
        refine wp_region_cls (by kernel_rfl) (by kernel_rfl) wr.heap.size ?_
        repeat (go_big_quiet_step ((go_at_call 123; exact cls_call (Nat.le_refl _) (csortKey_any _ _ _ _ _ _))))
        refine wpQuiet_nil ?_
        intro _ hw'
        obtain ⟨u, hw''⟩ := hw'
        subst hw''
        clear q1 q4
        go_wp2
        go_ret
        exact ⟨ret_bool Z.out.symm, Q.out.trans (u.below.mono hqs)⟩
      · have Z := hide (risesTo_succ (l := cp l) (k := k - 1) (by omega) (by simpa [show k - 1 + 1 = k by omega] using H.out) (by rw [g2.out]; simp only [show k - 1 + 1 = k by omega]; rw [g1.out]; exact hrise))
        have hrise2 : Op.bytesLess (l[k - 1]'(by omega)).1.toList (l[k]'hkl).1.toList = true := hrise
        generalize (l[k]'hkl) = e at *
        generalize (l[k - 1]'(by omega)) = e0 at *
        obtain ⟨x, o, m, p, q⟩ := e
        obtain ⟨x0, o0, m0, p0, r0⟩ := e0
        clear hin hin2 hc hrise hkl hkp g1 g2
        have y1 := cls_cell (B := wr.heap.size) hbw c1
        have y2 := cls_cell (B := wr.heap.size) hbw c2
        have y3 := cls_cell (B := wr.heap.size) hbw c3
        have y4 := cls_cell (B := wr.heap.size) hbw c4
        have y5 := cls_cell (B := wr.heap.size) hbw c5
        have u1 := cls_cell (B := wr.heap.size) hbw d1
        have u2 := cls_cell (B := wr.heap.size) hbw d2
        have u3 := cls_cell (B := wr.heap.size) hbw d3
        have u4 := cls_cell (B := wr.heap.size) hbw d4
        have u5 := cls_cell (B := wr.heap.size) hbw d5
        clear c1 c2 c3 c4 c5 d1 d2 d3 d4 d5
        go_wp2
        refine wp_region_cls (by kernel_rfl) (by kernel_rfl) wr.heap.size ?_
        repeat (go_big_quiet_step ((go_at_call 123; exact cls_call (Nat.le_refl _) (csortKey_any _ _ _ _ _ _))))
        refine wpQuiet_nil ?_
        intro _ hw'
        obtain ⟨u, hw''⟩ := hw'
        subst hw''
        clear q1 q4
        go_wp2
        exact ⟨⟨k + 1, by omega, by omega, by go_num, by rw [show k + 1 = k - 1 + 2 by omega]; exact Z, hide (Q.out.trans (u.below.mono hqs))⟩, by simp [intOf]; omega⟩
    · have Z : Hid (risesB (cp l) = true) := hide (risesB_yes (by
        intro i hi hik
        exact H.out i hi (by rw [HL.out] at hi; omega)))
      go_wp2
      go_ret
      exact ⟨ret_bool Z.out.symm, Q.out⟩

end Go.Proofs.YtaofemdhgfejjaaGreatDoor
/-
  Small facts: when a change is right where it is done.
-/
namespace Go.Proofs.YtaofemdhgfejjaaGreatDoor
open Go.RowKit

theorem belowN {B : Nat} {w w' : World} (h : Below B w w') (n : Nat) : Below B w (w'.drewN n) := h.trans (Quiet.below ⟨n, rfl⟩ _)
theorem hasB_cases (m : List Pr) (x : ByteArray) : hasB m x = false ∨ hasB m x = true := by cases hasB m x <;> simp
theorem same_below {P : Program} {f : FuncId} {args : Array Value} {w : World} {v : Value} (h : Calls P f args w fun e w' => e = .returned v ∧ w = w') : Calls P f args w fun e w' => e = .returned v ∧ Below w.heap.size w w' :=
  h.mono fun _ _ ⟨he, hw⟩ => ⟨he, hw ▸ Below.refl _ _⟩
theorem emp_ne {s : ByteArray} (h : ¬ s = ByteArray.empty) : ((⟨#[]⟩ : ByteArray).toList == s.toList) = false ∧ (ByteArray.empty.toList == s.toList) = false ∧ (([] : List UInt8) == s.toList) = false ∧ (s.toList == ([] : List UInt8)) = false ∧ (s.toList == (⟨#[]⟩ : ByteArray).toList) = false := by
  have e0 : (⟨#[]⟩ : ByteArray) = ByteArray.empty := rfl
  have e1 : (ByteArray.empty).toList = [] := by rw [Go.ByteArray.toList_eq]; rfl
  have h1 := eqS_no (a := ByteArray.empty) (b := s) (fun e => h e.symm)
  have h2 := eqS_no (a := s) (b := ByteArray.empty) h
  refine ⟨by rw [e0]; exact h1, h1, by rw [← e1]; exact h1, by rw [← e1]; exact h2, by rw [e0]; exact h2⟩
theorem emp_eq {s : ByteArray} (h : s = ByteArray.empty) : ((⟨#[]⟩ : ByteArray).toList == s.toList) = true ∧ (ByteArray.empty.toList == s.toList) = true ∧ (([] : List UInt8) == s.toList) = true ∧ (s.toList == ([] : List UInt8)) = true ∧ (s.toList == (⟨#[]⟩ : ByteArray).toList) = true := by
  have e1 : (ByteArray.empty).toList = [] := by rw [Go.ByteArray.toList_eq]; rfl
  have e2 : (⟨#[]⟩ : ByteArray).toList = [] := e1
  subst h
  rw [e1, e2]
  exact ⟨rfl, rfl, rfl, rfl, rfl⟩
theorem fit_no_key {m : List Pr} {c : Ch} (h : keyB c.1 = false) : fitB m c = false := by unfold fitB; rw [h]; rfl
theorem fit_no {m : List Pr} {c : Ch} (h : ¬ (keyB c.1 = true ∧ valB c.2.2.1 = true ∧ hasB m c.1 = c.2.2.2.1 ∧ valOf m c.1 = c.2.1 ∧ (c.2.2.2.2 = true ∨ c.2.2.1 = ByteArray.empty))) : fitB m c = false := by
  cases e : fitB m c
  · rfl
  · exact absurd (fitB_iff.1 e) h
theorem fit_old {m : List Pr} {c : Ch} (h : c.2.2.2.1 = false) (h' : ¬ c.2.1 = ByteArray.empty) : fitB m c = false := fit_no fun x => h' (by rw [← x.2.2.2.1, valOf_no (by rw [x.2.2.1, h])])

end Go.Proofs.YtaofemdhgfejjaaGreatDoor
/-
  impl.fits: is a change right where it is done; impl.edited: a map with one change done.
-/
namespace Go.Proofs.YtaofemdhgfejjaaGreatDoor
open Go.RowKit


theorem editOf_true_true (x o n : ByteArray) (w : World) : Calls Tryz.prog 44 #[.agg #[.string x, .string o, .string n, .bool true, .bool true]] w fun e w' => e = .returned (.iface 121 (.agg #[.string x, .string o, .string x, .string n])) ∧ Below w.heap.size w w' := editOf_any x o n true true w
theorem editOf_true_false (x o n : ByteArray) (w : World) : Calls Tryz.prog 44 #[.agg #[.string x, .string o, .string n, .bool true, .bool false]] w fun e w' => e = .returned (.iface 117 (.agg #[.string x, .string o])) ∧ Below w.heap.size w w' := editOf_any x o n true false w
theorem editOf_false_true (x o n : ByteArray) (w : World) : Calls Tryz.prog 44 #[.agg #[.string x, .string o, .string n, .bool false, .bool true]] w fun e w' => e = .returned (.iface 119 (.agg #[.string x, .string n])) ∧ Below w.heap.size w w' := editOf_any x o n false true w
theorem editOf_false_false (x o n : ByteArray) (w : World) : Calls Tryz.prog 44 #[.agg #[.string x, .string o, .string n, .bool false, .bool false]] w fun e w' => e = .returned (.iface 123 (.agg #[.string x])) ∧ Below w.heap.size w w' := editOf_any x o n false false w
set_option maxRecDepth 100000 in
set_option maxHeartbeats 16000000 in
theorem fits_any (A : Option Addr) (m : List Pr) (cap : Nat) (x o n : ByteArray) (p q : Bool) (w : World) (hl : m.length ≤ 65536) (hin : PIn w w.heap.size A m) (hr : risesTo m m.length) (hx : x.size ≤ maxLen) (hn : n.size ≤ maxLen) :
    Calls Tryz.prog 42 #[.slice A m.length cap, .agg #[.string x, .string o, .string n, .bool p, .bool q]] w fun e w' => e = .returned (.bool (fitB m (x, o, n, p, q))) ∧ Below w.heap.size w w' := by
  have HR := hide hr
  have IN := hide hin
  have hme1 := method_gain
  have hme2 := method_loss
  have hme3 := method_turn
  have hme4 := method_idle
  have hle := atN_le m x
  clear hr hin
  cases hK : keyB x
  · have Z : Hid (fitB m (x, o, n, p, q) = false) := hide (fit_no_key hK)
    go_enter Tryz.func42, Tryz.ntmps42
    go_wp2
    have bx : Hid (Below w.heap.size w (w.alloc (.cells #[.string x, .string o, .string n, .bool p, .bool q] 45))) := hide ((Below.refl _ _).alloc (Nat.le_refl _) _)
    have hbw : w.heap.size < (w.alloc (.cells #[.string x, .string o, .string n, .bool p, .bool q] 45)).heap.size := by simp
    have c1 : (w.alloc (.cells #[.string x, .string o, .string n, .bool p, .bool q] 45)).cell? ⟨w.heap.size, 0, none⟩ = some (.string x) := by simp [go_sem]
    have c2 : (w.alloc (.cells #[.string x, .string o, .string n, .bool p, .bool q] 45)).cell? ⟨w.heap.size, 1, none⟩ = some (.string o) := by simp [go_sem]
    have c3 : (w.alloc (.cells #[.string x, .string o, .string n, .bool p, .bool q] 45)).cell? ⟨w.heap.size, 2, none⟩ = some (.string n) := by simp [go_sem]
    have c4 : (w.alloc (.cells #[.string x, .string o, .string n, .bool p, .bool q] 45)).cell? ⟨w.heap.size, 3, none⟩ = some (.bool p) := by simp [go_sem]
    have c5 : (w.alloc (.cells #[.string x, .string o, .string n, .bool p, .bool q] 45)).cell? ⟨w.heap.size, 4, none⟩ = some (.bool q) := by simp [go_sem]
    generalize w.alloc (.cells #[.string x, .string o, .string n, .bool p, .bool q] 45) = W1 at *
    have y1 := cls_cell (B := W1.heap.size) hbw c1
    have y2 := cls_cell (B := W1.heap.size) hbw c2
    have y3 := cls_cell (B := W1.heap.size) hbw c3
    have y4 := cls_cell (B := W1.heap.size) hbw c4
    have y5 := cls_cell (B := W1.heap.size) hbw c5
    refine wp_region_cls (by kernel_rfl) (by kernel_rfl) W1.heap.size ?_
    repeat (go_big_quiet_step ((first | (go_at_call 31; exact cls_call (Nat.le_refl _) (same_below (keyOk_any x _ hx))) | (go_at_call 32; exact cls_call (Nat.le_refl _) (same_below (valOk_any n _ hn))) | (go_at_call 44; exact cls_call (Nat.le_refl _) (editOf_any x o n p q _)) | (go_at_call 133; exact cls_call (Nat.le_refl _) (turnChange_any x o x n _)) | (go_at_call 131; exact cls_call (Nat.le_refl _) (lossChange_any x o _)) | (go_at_call 132; exact cls_call (Nat.le_refl _) (gainChange_any x n _)) | (go_at_call 134; exact cls_call (Nat.le_refl _) (idleChange_any x _)))))
    refine wpQuiet_nil ?_
    intro _ hw'
    obtain ⟨u, hw''⟩ := hw'
    subst hw''
    have BU := hide (bx.out.trans (u.below.mono bx.out.size))
    go_wp2
    go_ret
    exact ⟨ret_bool Z.out.symm, BU.out⟩
  cases hV : valB n
  · have Z : Hid (fitB m (x, o, n, p, q) = false) := hide (fit_no (fun z => by rw [show valB n = false from hV] at z; exact absurd z.2.1 (by simp)))
    go_enter Tryz.func42, Tryz.ntmps42
    go_wp2
    have bx : Hid (Below w.heap.size w (w.alloc (.cells #[.string x, .string o, .string n, .bool p, .bool q] 45))) := hide ((Below.refl _ _).alloc (Nat.le_refl _) _)
    have hbw : w.heap.size < (w.alloc (.cells #[.string x, .string o, .string n, .bool p, .bool q] 45)).heap.size := by simp
    have c1 : (w.alloc (.cells #[.string x, .string o, .string n, .bool p, .bool q] 45)).cell? ⟨w.heap.size, 0, none⟩ = some (.string x) := by simp [go_sem]
    have c2 : (w.alloc (.cells #[.string x, .string o, .string n, .bool p, .bool q] 45)).cell? ⟨w.heap.size, 1, none⟩ = some (.string o) := by simp [go_sem]
    have c3 : (w.alloc (.cells #[.string x, .string o, .string n, .bool p, .bool q] 45)).cell? ⟨w.heap.size, 2, none⟩ = some (.string n) := by simp [go_sem]
    have c4 : (w.alloc (.cells #[.string x, .string o, .string n, .bool p, .bool q] 45)).cell? ⟨w.heap.size, 3, none⟩ = some (.bool p) := by simp [go_sem]
    have c5 : (w.alloc (.cells #[.string x, .string o, .string n, .bool p, .bool q] 45)).cell? ⟨w.heap.size, 4, none⟩ = some (.bool q) := by simp [go_sem]
    generalize w.alloc (.cells #[.string x, .string o, .string n, .bool p, .bool q] 45) = W1 at *
    have y1 := cls_cell (B := W1.heap.size) hbw c1
    have y2 := cls_cell (B := W1.heap.size) hbw c2
    have y3 := cls_cell (B := W1.heap.size) hbw c3
    have y4 := cls_cell (B := W1.heap.size) hbw c4
    have y5 := cls_cell (B := W1.heap.size) hbw c5
    refine wp_region_cls (by kernel_rfl) (by kernel_rfl) W1.heap.size ?_
    repeat (go_big_quiet_step ((first | (go_at_call 31; exact cls_call (Nat.le_refl _) (same_below (keyOk_any x _ hx))) | (go_at_call 32; exact cls_call (Nat.le_refl _) (same_below (valOk_any n _ hn))) | (go_at_call 44; exact cls_call (Nat.le_refl _) (editOf_any x o n p q _)) | (go_at_call 133; exact cls_call (Nat.le_refl _) (turnChange_any x o x n _)) | (go_at_call 131; exact cls_call (Nat.le_refl _) (lossChange_any x o _)) | (go_at_call 132; exact cls_call (Nat.le_refl _) (gainChange_any x n _)) | (go_at_call 134; exact cls_call (Nat.le_refl _) (idleChange_any x _)))))
    refine wpQuiet_nil ?_
    intro _ hw'
    obtain ⟨u, hw''⟩ := hw'
    subst hw''
    have BU := hide (bx.out.trans (u.below.mono bx.out.size))
    go_wp2
    go_ret
    exact ⟨ret_bool Z.out.symm, BU.out⟩
  rcases p with _ | _ <;> rcases q with _ | _
  · by_cases ho : o = ByteArray.empty
    · have HO := hide ho
      by_cases hnn : n = ByteArray.empty
      · have HN := hide hnn
        obtain ⟨m1, m2, m3, m4, m5⟩ := emp_eq ho; clear ho
        obtain ⟨p1, p2, p3, p4, p5⟩ := emp_eq hnn; clear hnn
        go_enter Tryz.func42, Tryz.ntmps42
        go_wp2
        have bx : Hid (Below w.heap.size w (w.alloc (.cells #[.string x, .string o, .string n, .bool false, .bool false] 45))) := hide ((Below.refl _ _).alloc (Nat.le_refl _) _)
        have hbw : w.heap.size < (w.alloc (.cells #[.string x, .string o, .string n, .bool false, .bool false] 45)).heap.size := by simp
        have c1 : (w.alloc (.cells #[.string x, .string o, .string n, .bool false, .bool false] 45)).cell? ⟨w.heap.size, 0, none⟩ = some (.string x) := by simp [go_sem]
        have c2 : (w.alloc (.cells #[.string x, .string o, .string n, .bool false, .bool false] 45)).cell? ⟨w.heap.size, 1, none⟩ = some (.string o) := by simp [go_sem]
        have c3 : (w.alloc (.cells #[.string x, .string o, .string n, .bool false, .bool false] 45)).cell? ⟨w.heap.size, 2, none⟩ = some (.string n) := by simp [go_sem]
        have c4 : (w.alloc (.cells #[.string x, .string o, .string n, .bool false, .bool false] 45)).cell? ⟨w.heap.size, 3, none⟩ = some (.bool false) := by simp [go_sem]
        have c5 : (w.alloc (.cells #[.string x, .string o, .string n, .bool false, .bool false] 45)).cell? ⟨w.heap.size, 4, none⟩ = some (.bool false) := by simp [go_sem]
        generalize w.alloc (.cells #[.string x, .string o, .string n, .bool false, .bool false] 45) = W1 at *
        have y1 := cls_cell (B := W1.heap.size) hbw c1
        have y2 := cls_cell (B := W1.heap.size) hbw c2
        have y3 := cls_cell (B := W1.heap.size) hbw c3
        have y4 := cls_cell (B := W1.heap.size) hbw c4
        have y5 := cls_cell (B := W1.heap.size) hbw c5
        refine wp_region_cls (by kernel_rfl) (by kernel_rfl) W1.heap.size ?_
        repeat (go_big_quiet_step ((first | (go_at_call 31; exact cls_call (Nat.le_refl _) (same_below (keyOk_any x _ hx))) | (go_at_call 32; exact cls_call (Nat.le_refl _) (same_below (valOk_any n _ hn))) | (go_at_call 44; exact cls_call (Nat.le_refl _) (editOf_false_false x o n _)) | (go_at_call 133; exact cls_call (Nat.le_refl _) (turnChange_any x o x n _)) | (go_at_call 131; exact cls_call (Nat.le_refl _) (lossChange_any x o _)) | (go_at_call 132; exact cls_call (Nat.le_refl _) (gainChange_any x n _)) | (go_at_call 134; exact cls_call (Nat.le_refl _) (idleChange_any x _)))))
        refine wpQuiet_nil ?_
        intro _ hw'
        obtain ⟨u, hw''⟩ := hw'
        subst hw''
        have BU := hide (bx.out.trans (u.below.mono bx.out.size))
        rcases hasB_cases m x with hh | hh
        · have Z : Hid (fitB m (x, o, n, false, false) = true) := hide (fitB_iff.2 ⟨hK, hV, hh, by rw [valOf_no hh]; exact HO.out.symm, .inr HN.out⟩)
          have k1 : u.wo.cell? ⟨w.heap.size, 0, none⟩ = some (.string x) := cellB u.below hbw c1
          go_wp2_with fail
          refine (place_any A m cap x _ hl ((IN.out.below BU.out).more BU.out.size) HR.out).mono ?_
          rintro e w2 ⟨rfl, b2⟩
          have hbu : w.heap.size < u.wo.heap.size := by have := u.below.size; omega
          have e1 : w2.cell? ⟨w.heap.size, 1, none⟩ = some (.string o) := cellB b2 hbu (cellB u.below hbw c2)
          have e3 : w2.cell? ⟨w.heap.size, 3, none⟩ = some (.bool false) := cellB b2 hbu (cellB u.below hbw c4)
          have B2 := hide (BU.out.trans (b2.mono BU.out.size))
          rw [hh]
          clear b2 BU k1 y1 y2 y3 y4 y5 c1 c2 c3 c4 c5
          go_wp2
          go_quiet (fail)
          go_wp2
          go_ret
          exact ⟨ret_bool Z.out.symm, belowN B2.out _⟩
        · have Z : Hid (fitB m (x, o, n, false, false) = false) := hide (fit_no (fun z => by rw [show hasB m x = true from hh] at z; exact absurd z.2.2.1 (by simp)))
          have k1 : u.wo.cell? ⟨w.heap.size, 0, none⟩ = some (.string x) := cellB u.below hbw c1
          go_wp2_with fail
          refine (place_any A m cap x _ hl ((IN.out.below BU.out).more BU.out.size) HR.out).mono ?_
          rintro e w2 ⟨rfl, b2⟩
          have hbu : w.heap.size < u.wo.heap.size := by have := u.below.size; omega
          have e1 : w2.cell? ⟨w.heap.size, 1, none⟩ = some (.string o) := cellB b2 hbu (cellB u.below hbw c2)
          have e3 : w2.cell? ⟨w.heap.size, 3, none⟩ = some (.bool false) := cellB b2 hbu (cellB u.below hbw c4)
          have B2 := hide (BU.out.trans (b2.mono BU.out.size))
          rw [hh]
          clear b2 BU k1 y1 y2 y3 y4 y5 c1 c2 c3 c4 c5
          go_wp2
          go_quiet (fail)
          go_wp2
          go_ret
          exact ⟨ret_bool Z.out.symm, belowN B2.out _⟩
      · have Z : Hid (fitB m (x, o, n, false, false) = false) := hide (fit_no (fun z => z.2.2.2.2.elim (fun g => by cases g) hnn))
        obtain ⟨m1, m2, m3, m4, m5⟩ := emp_ne hnn
        obtain ⟨p1, p2, p3, p4, p5⟩ := emp_eq ho; clear ho
        go_enter Tryz.func42, Tryz.ntmps42
        go_wp2
        have bx : Hid (Below w.heap.size w (w.alloc (.cells #[.string x, .string o, .string n, .bool false, .bool false] 45))) := hide ((Below.refl _ _).alloc (Nat.le_refl _) _)
        have hbw : w.heap.size < (w.alloc (.cells #[.string x, .string o, .string n, .bool false, .bool false] 45)).heap.size := by simp
        have c1 : (w.alloc (.cells #[.string x, .string o, .string n, .bool false, .bool false] 45)).cell? ⟨w.heap.size, 0, none⟩ = some (.string x) := by simp [go_sem]
        have c2 : (w.alloc (.cells #[.string x, .string o, .string n, .bool false, .bool false] 45)).cell? ⟨w.heap.size, 1, none⟩ = some (.string o) := by simp [go_sem]
        have c3 : (w.alloc (.cells #[.string x, .string o, .string n, .bool false, .bool false] 45)).cell? ⟨w.heap.size, 2, none⟩ = some (.string n) := by simp [go_sem]
        have c4 : (w.alloc (.cells #[.string x, .string o, .string n, .bool false, .bool false] 45)).cell? ⟨w.heap.size, 3, none⟩ = some (.bool false) := by simp [go_sem]
        have c5 : (w.alloc (.cells #[.string x, .string o, .string n, .bool false, .bool false] 45)).cell? ⟨w.heap.size, 4, none⟩ = some (.bool false) := by simp [go_sem]
        generalize w.alloc (.cells #[.string x, .string o, .string n, .bool false, .bool false] 45) = W1 at *
        have y1 := cls_cell (B := W1.heap.size) hbw c1
        have y2 := cls_cell (B := W1.heap.size) hbw c2
        have y3 := cls_cell (B := W1.heap.size) hbw c3
        have y4 := cls_cell (B := W1.heap.size) hbw c4
        have y5 := cls_cell (B := W1.heap.size) hbw c5
        refine wp_region_cls (by kernel_rfl) (by kernel_rfl) W1.heap.size ?_
        repeat (go_big_quiet_step ((first | (go_at_call 31; exact cls_call (Nat.le_refl _) (same_below (keyOk_any x _ hx))) | (go_at_call 32; exact cls_call (Nat.le_refl _) (same_below (valOk_any n _ hn))) | (go_at_call 44; exact cls_call (Nat.le_refl _) (editOf_false_false x o n _)) | (go_at_call 133; exact cls_call (Nat.le_refl _) (turnChange_any x o x n _)) | (go_at_call 131; exact cls_call (Nat.le_refl _) (lossChange_any x o _)) | (go_at_call 132; exact cls_call (Nat.le_refl _) (gainChange_any x n _)) | (go_at_call 134; exact cls_call (Nat.le_refl _) (idleChange_any x _)))))
        refine wpQuiet_nil ?_
        intro _ hw'
        obtain ⟨u, hw''⟩ := hw'
        subst hw''
        have BU := hide (bx.out.trans (u.below.mono bx.out.size))
        go_wp2
        go_ret
        exact ⟨ret_bool Z.out.symm, BU.out⟩
    · have Z : Hid (fitB m (x, o, n, false, false) = false) := hide (fit_old rfl ho)
      obtain ⟨m1, m2, m3, m4, m5⟩ := emp_ne ho
      go_enter Tryz.func42, Tryz.ntmps42
      go_wp2
      have bx : Hid (Below w.heap.size w (w.alloc (.cells #[.string x, .string o, .string n, .bool false, .bool false] 45))) := hide ((Below.refl _ _).alloc (Nat.le_refl _) _)
      have hbw : w.heap.size < (w.alloc (.cells #[.string x, .string o, .string n, .bool false, .bool false] 45)).heap.size := by simp
      have c1 : (w.alloc (.cells #[.string x, .string o, .string n, .bool false, .bool false] 45)).cell? ⟨w.heap.size, 0, none⟩ = some (.string x) := by simp [go_sem]
      have c2 : (w.alloc (.cells #[.string x, .string o, .string n, .bool false, .bool false] 45)).cell? ⟨w.heap.size, 1, none⟩ = some (.string o) := by simp [go_sem]
      have c3 : (w.alloc (.cells #[.string x, .string o, .string n, .bool false, .bool false] 45)).cell? ⟨w.heap.size, 2, none⟩ = some (.string n) := by simp [go_sem]
      have c4 : (w.alloc (.cells #[.string x, .string o, .string n, .bool false, .bool false] 45)).cell? ⟨w.heap.size, 3, none⟩ = some (.bool false) := by simp [go_sem]
      have c5 : (w.alloc (.cells #[.string x, .string o, .string n, .bool false, .bool false] 45)).cell? ⟨w.heap.size, 4, none⟩ = some (.bool false) := by simp [go_sem]
      generalize w.alloc (.cells #[.string x, .string o, .string n, .bool false, .bool false] 45) = W1 at *
      have y1 := cls_cell (B := W1.heap.size) hbw c1
      have y2 := cls_cell (B := W1.heap.size) hbw c2
      have y3 := cls_cell (B := W1.heap.size) hbw c3
      have y4 := cls_cell (B := W1.heap.size) hbw c4
      have y5 := cls_cell (B := W1.heap.size) hbw c5
      refine wp_region_cls (by kernel_rfl) (by kernel_rfl) W1.heap.size ?_
      repeat (go_big_quiet_step ((first | (go_at_call 31; exact cls_call (Nat.le_refl _) (same_below (keyOk_any x _ hx))) | (go_at_call 32; exact cls_call (Nat.le_refl _) (same_below (valOk_any n _ hn))) | (go_at_call 44; exact cls_call (Nat.le_refl _) (editOf_false_false x o n _)) | (go_at_call 133; exact cls_call (Nat.le_refl _) (turnChange_any x o x n _)) | (go_at_call 131; exact cls_call (Nat.le_refl _) (lossChange_any x o _)) | (go_at_call 132; exact cls_call (Nat.le_refl _) (gainChange_any x n _)) | (go_at_call 134; exact cls_call (Nat.le_refl _) (idleChange_any x _)))))
      refine wpQuiet_nil ?_
      intro _ hw'
      obtain ⟨u, hw''⟩ := hw'
      subst hw''
      have BU := hide (bx.out.trans (u.below.mono bx.out.size))
      go_wp2
      go_ret
      exact ⟨ret_bool Z.out.symm, BU.out⟩
  · by_cases ho : o = ByteArray.empty
    · have HO := hide ho
      obtain ⟨m1, m2, m3, m4, m5⟩ := emp_eq ho; clear ho
      go_enter Tryz.func42, Tryz.ntmps42
      go_wp2
      have bx : Hid (Below w.heap.size w (w.alloc (.cells #[.string x, .string o, .string n, .bool false, .bool true] 45))) := hide ((Below.refl _ _).alloc (Nat.le_refl _) _)
      have hbw : w.heap.size < (w.alloc (.cells #[.string x, .string o, .string n, .bool false, .bool true] 45)).heap.size := by simp
      have c1 : (w.alloc (.cells #[.string x, .string o, .string n, .bool false, .bool true] 45)).cell? ⟨w.heap.size, 0, none⟩ = some (.string x) := by simp [go_sem]
      have c2 : (w.alloc (.cells #[.string x, .string o, .string n, .bool false, .bool true] 45)).cell? ⟨w.heap.size, 1, none⟩ = some (.string o) := by simp [go_sem]
      have c3 : (w.alloc (.cells #[.string x, .string o, .string n, .bool false, .bool true] 45)).cell? ⟨w.heap.size, 2, none⟩ = some (.string n) := by simp [go_sem]
      have c4 : (w.alloc (.cells #[.string x, .string o, .string n, .bool false, .bool true] 45)).cell? ⟨w.heap.size, 3, none⟩ = some (.bool false) := by simp [go_sem]
      have c5 : (w.alloc (.cells #[.string x, .string o, .string n, .bool false, .bool true] 45)).cell? ⟨w.heap.size, 4, none⟩ = some (.bool true) := by simp [go_sem]
      generalize w.alloc (.cells #[.string x, .string o, .string n, .bool false, .bool true] 45) = W1 at *
      have y1 := cls_cell (B := W1.heap.size) hbw c1
      have y2 := cls_cell (B := W1.heap.size) hbw c2
      have y3 := cls_cell (B := W1.heap.size) hbw c3
      have y4 := cls_cell (B := W1.heap.size) hbw c4
      have y5 := cls_cell (B := W1.heap.size) hbw c5
      refine wp_region_cls (by kernel_rfl) (by kernel_rfl) W1.heap.size ?_
      repeat (go_big_quiet_step ((first | (go_at_call 31; exact cls_call (Nat.le_refl _) (same_below (keyOk_any x _ hx))) | (go_at_call 32; exact cls_call (Nat.le_refl _) (same_below (valOk_any n _ hn))) | (go_at_call 44; exact cls_call (Nat.le_refl _) (editOf_false_true x o n _)) | (go_at_call 133; exact cls_call (Nat.le_refl _) (turnChange_any x o x n _)) | (go_at_call 131; exact cls_call (Nat.le_refl _) (lossChange_any x o _)) | (go_at_call 132; exact cls_call (Nat.le_refl _) (gainChange_any x n _)) | (go_at_call 134; exact cls_call (Nat.le_refl _) (idleChange_any x _)))))
      refine wpQuiet_nil ?_
      intro _ hw'
      obtain ⟨u, hw''⟩ := hw'
      subst hw''
      have BU := hide (bx.out.trans (u.below.mono bx.out.size))
      rcases hasB_cases m x with hh | hh
      · have Z : Hid (fitB m (x, o, n, false, true) = true) := hide (fitB_iff.2 ⟨hK, hV, hh, by rw [valOf_no hh]; exact HO.out.symm, .inl rfl⟩)
        have k1 : u.wo.cell? ⟨w.heap.size, 0, none⟩ = some (.string x) := cellB u.below hbw c1
        go_wp2_with fail
        refine (place_any A m cap x _ hl ((IN.out.below BU.out).more BU.out.size) HR.out).mono ?_
        rintro e w2 ⟨rfl, b2⟩
        have hbu : w.heap.size < u.wo.heap.size := by have := u.below.size; omega
        have e1 : w2.cell? ⟨w.heap.size, 1, none⟩ = some (.string o) := cellB b2 hbu (cellB u.below hbw c2)
        have e3 : w2.cell? ⟨w.heap.size, 3, none⟩ = some (.bool false) := cellB b2 hbu (cellB u.below hbw c4)
        have B2 := hide (BU.out.trans (b2.mono BU.out.size))
        rw [hh]
        clear b2 BU k1 y1 y2 y3 y4 y5 c1 c2 c3 c4 c5
        go_wp2
        go_quiet (fail)
        go_wp2
        go_ret
        exact ⟨ret_bool Z.out.symm, belowN B2.out _⟩
      · have Z : Hid (fitB m (x, o, n, false, true) = false) := hide (fit_no (fun z => by rw [show hasB m x = true from hh] at z; exact absurd z.2.2.1 (by simp)))
        have k1 : u.wo.cell? ⟨w.heap.size, 0, none⟩ = some (.string x) := cellB u.below hbw c1
        go_wp2_with fail
        refine (place_any A m cap x _ hl ((IN.out.below BU.out).more BU.out.size) HR.out).mono ?_
        rintro e w2 ⟨rfl, b2⟩
        have hbu : w.heap.size < u.wo.heap.size := by have := u.below.size; omega
        have e1 : w2.cell? ⟨w.heap.size, 1, none⟩ = some (.string o) := cellB b2 hbu (cellB u.below hbw c2)
        have e3 : w2.cell? ⟨w.heap.size, 3, none⟩ = some (.bool false) := cellB b2 hbu (cellB u.below hbw c4)
        have B2 := hide (BU.out.trans (b2.mono BU.out.size))
        rw [hh]
        clear b2 BU k1 y1 y2 y3 y4 y5 c1 c2 c3 c4 c5
        go_wp2
        go_quiet (fail)
        go_wp2
        go_ret
        exact ⟨ret_bool Z.out.symm, belowN B2.out _⟩
    · have Z : Hid (fitB m (x, o, n, false, true) = false) := hide (fit_old rfl ho)
      obtain ⟨m1, m2, m3, m4, m5⟩ := emp_ne ho
      go_enter Tryz.func42, Tryz.ntmps42
      go_wp2
      have bx : Hid (Below w.heap.size w (w.alloc (.cells #[.string x, .string o, .string n, .bool false, .bool true] 45))) := hide ((Below.refl _ _).alloc (Nat.le_refl _) _)
      have hbw : w.heap.size < (w.alloc (.cells #[.string x, .string o, .string n, .bool false, .bool true] 45)).heap.size := by simp
      have c1 : (w.alloc (.cells #[.string x, .string o, .string n, .bool false, .bool true] 45)).cell? ⟨w.heap.size, 0, none⟩ = some (.string x) := by simp [go_sem]
      have c2 : (w.alloc (.cells #[.string x, .string o, .string n, .bool false, .bool true] 45)).cell? ⟨w.heap.size, 1, none⟩ = some (.string o) := by simp [go_sem]
      have c3 : (w.alloc (.cells #[.string x, .string o, .string n, .bool false, .bool true] 45)).cell? ⟨w.heap.size, 2, none⟩ = some (.string n) := by simp [go_sem]
      have c4 : (w.alloc (.cells #[.string x, .string o, .string n, .bool false, .bool true] 45)).cell? ⟨w.heap.size, 3, none⟩ = some (.bool false) := by simp [go_sem]
      have c5 : (w.alloc (.cells #[.string x, .string o, .string n, .bool false, .bool true] 45)).cell? ⟨w.heap.size, 4, none⟩ = some (.bool true) := by simp [go_sem]
      generalize w.alloc (.cells #[.string x, .string o, .string n, .bool false, .bool true] 45) = W1 at *
      have y1 := cls_cell (B := W1.heap.size) hbw c1
      have y2 := cls_cell (B := W1.heap.size) hbw c2
      have y3 := cls_cell (B := W1.heap.size) hbw c3
      have y4 := cls_cell (B := W1.heap.size) hbw c4
      have y5 := cls_cell (B := W1.heap.size) hbw c5
      refine wp_region_cls (by kernel_rfl) (by kernel_rfl) W1.heap.size ?_
      repeat (go_big_quiet_step ((first | (go_at_call 31; exact cls_call (Nat.le_refl _) (same_below (keyOk_any x _ hx))) | (go_at_call 32; exact cls_call (Nat.le_refl _) (same_below (valOk_any n _ hn))) | (go_at_call 44; exact cls_call (Nat.le_refl _) (editOf_false_true x o n _)) | (go_at_call 133; exact cls_call (Nat.le_refl _) (turnChange_any x o x n _)) | (go_at_call 131; exact cls_call (Nat.le_refl _) (lossChange_any x o _)) | (go_at_call 132; exact cls_call (Nat.le_refl _) (gainChange_any x n _)) | (go_at_call 134; exact cls_call (Nat.le_refl _) (idleChange_any x _)))))
      refine wpQuiet_nil ?_
      intro _ hw'
      obtain ⟨u, hw''⟩ := hw'
      subst hw''
      have BU := hide (bx.out.trans (u.below.mono bx.out.size))
      go_wp2
      go_ret
      exact ⟨ret_bool Z.out.symm, BU.out⟩
  · by_cases hnn : n = ByteArray.empty
    · have HN := hide hnn
      obtain ⟨m1, m2, m3, m4, m5⟩ := emp_eq hnn; clear hnn
      go_enter Tryz.func42, Tryz.ntmps42
      go_wp2
      have bx : Hid (Below w.heap.size w (w.alloc (.cells #[.string x, .string o, .string n, .bool true, .bool false] 45))) := hide ((Below.refl _ _).alloc (Nat.le_refl _) _)
      have hbw : w.heap.size < (w.alloc (.cells #[.string x, .string o, .string n, .bool true, .bool false] 45)).heap.size := by simp
      have c1 : (w.alloc (.cells #[.string x, .string o, .string n, .bool true, .bool false] 45)).cell? ⟨w.heap.size, 0, none⟩ = some (.string x) := by simp [go_sem]
      have c2 : (w.alloc (.cells #[.string x, .string o, .string n, .bool true, .bool false] 45)).cell? ⟨w.heap.size, 1, none⟩ = some (.string o) := by simp [go_sem]
      have c3 : (w.alloc (.cells #[.string x, .string o, .string n, .bool true, .bool false] 45)).cell? ⟨w.heap.size, 2, none⟩ = some (.string n) := by simp [go_sem]
      have c4 : (w.alloc (.cells #[.string x, .string o, .string n, .bool true, .bool false] 45)).cell? ⟨w.heap.size, 3, none⟩ = some (.bool true) := by simp [go_sem]
      have c5 : (w.alloc (.cells #[.string x, .string o, .string n, .bool true, .bool false] 45)).cell? ⟨w.heap.size, 4, none⟩ = some (.bool false) := by simp [go_sem]
      generalize w.alloc (.cells #[.string x, .string o, .string n, .bool true, .bool false] 45) = W1 at *
      have y1 := cls_cell (B := W1.heap.size) hbw c1
      have y2 := cls_cell (B := W1.heap.size) hbw c2
      have y3 := cls_cell (B := W1.heap.size) hbw c3
      have y4 := cls_cell (B := W1.heap.size) hbw c4
      have y5 := cls_cell (B := W1.heap.size) hbw c5
      refine wp_region_cls (by kernel_rfl) (by kernel_rfl) W1.heap.size ?_
      repeat (go_big_quiet_step ((first | (go_at_call 31; exact cls_call (Nat.le_refl _) (same_below (keyOk_any x _ hx))) | (go_at_call 32; exact cls_call (Nat.le_refl _) (same_below (valOk_any n _ hn))) | (go_at_call 44; exact cls_call (Nat.le_refl _) (editOf_true_false x o n _)) | (go_at_call 133; exact cls_call (Nat.le_refl _) (turnChange_any x o x n _)) | (go_at_call 131; exact cls_call (Nat.le_refl _) (lossChange_any x o _)) | (go_at_call 132; exact cls_call (Nat.le_refl _) (gainChange_any x n _)) | (go_at_call 134; exact cls_call (Nat.le_refl _) (idleChange_any x _)))))
      refine wpQuiet_nil ?_
      intro _ hw'
      obtain ⟨u, hw''⟩ := hw'
      subst hw''
      have BU := hide (bx.out.trans (u.below.mono bx.out.size))
      rcases hasB_cases m x with hh | hh
      · have Z : Hid (fitB m (x, o, n, true, false) = false) := hide (fit_no (fun z => by rw [show hasB m x = false from hh] at z; exact absurd z.2.2.1 (by simp)))
        have k1 : u.wo.cell? ⟨w.heap.size, 0, none⟩ = some (.string x) := cellB u.below hbw c1
        go_wp2_with fail
        refine (place_any A m cap x _ hl ((IN.out.below BU.out).more BU.out.size) HR.out).mono ?_
        rintro e w2 ⟨rfl, b2⟩
        have hbu : w.heap.size < u.wo.heap.size := by have := u.below.size; omega
        have e1 : w2.cell? ⟨w.heap.size, 1, none⟩ = some (.string o) := cellB b2 hbu (cellB u.below hbw c2)
        have e3 : w2.cell? ⟨w.heap.size, 3, none⟩ = some (.bool true) := cellB b2 hbu (cellB u.below hbw c4)
        have B2 := hide (BU.out.trans (b2.mono BU.out.size))
        rw [hh]
        clear b2 BU k1 y1 y2 y3 y4 y5 c1 c2 c3 c4 c5
        go_wp2
        go_quiet (fail)
        go_wp2
        go_ret
        exact ⟨ret_bool Z.out.symm, belowN B2.out _⟩
      · obtain ⟨hlt, he⟩ := hasB_iff.1 hh
        have HV := hide (valOf_yes hlt he)
        have hla : (atN m x : Int) < (m.length : Int) := by omega
        by_cases ho : (m[atN m x]'hlt).2 = o
        · have Z : Hid (fitB m (x, o, n, true, false) = true) := hide (fitB_iff.2 ⟨hK, hV, hh, by rw [HV.out]; exact ho, .inr HN.out⟩)
          have d0 := eqS_yes ho
          have k1 : u.wo.cell? ⟨w.heap.size, 0, none⟩ = some (.string x) := cellB u.below hbw c1
          go_wp2_with fail
          refine (place_any A m cap x _ hl ((IN.out.below BU.out).more BU.out.size) HR.out).mono ?_
          rintro e w2 ⟨rfl, b2⟩
          have hbu : w.heap.size < u.wo.heap.size := by have := u.below.size; omega
          have e1 : w2.cell? ⟨w.heap.size, 1, none⟩ = some (.string o) := cellB b2 hbu (cellB u.below hbw c2)
          have e3 : w2.cell? ⟨w.heap.size, 3, none⟩ = some (.bool true) := cellB b2 hbu (cellB u.below hbw c4)
          have B2 := hide (BU.out.trans (b2.mono BU.out.size))
          rw [hh]
          have in2 := (IN.out.below B2.out)
          obtain ⟨b, off, rfl, hbB, hc⟩ := in2.2 (by omega)
          obtain ⟨f1, f2⟩ := hc (atN m x) hlt
          generalize (m[atN m x]'hlt).2 = v at *
          generalize atN m x = at0 at *
          clear hc in2 b2 BU k1 y1 y2 y3 y4 y5 c1 c2 c3 c4 c5
          go_wp2
          go_quiet (fail)
          go_wp2
          go_ret
          exact ⟨ret_bool Z.out.symm, belowN B2.out _⟩
        · have Z : Hid (fitB m (x, o, n, true, false) = false) := hide (fit_no (fun z => ho (by rw [← HV.out]; exact z.2.2.2.1)))
          have d0 := eqS_no ho
          have k1 : u.wo.cell? ⟨w.heap.size, 0, none⟩ = some (.string x) := cellB u.below hbw c1
          go_wp2_with fail
          refine (place_any A m cap x _ hl ((IN.out.below BU.out).more BU.out.size) HR.out).mono ?_
          rintro e w2 ⟨rfl, b2⟩
          have hbu : w.heap.size < u.wo.heap.size := by have := u.below.size; omega
          have e1 : w2.cell? ⟨w.heap.size, 1, none⟩ = some (.string o) := cellB b2 hbu (cellB u.below hbw c2)
          have e3 : w2.cell? ⟨w.heap.size, 3, none⟩ = some (.bool true) := cellB b2 hbu (cellB u.below hbw c4)
          have B2 := hide (BU.out.trans (b2.mono BU.out.size))
          rw [hh]
          have in2 := (IN.out.below B2.out)
          obtain ⟨b, off, rfl, hbB, hc⟩ := in2.2 (by omega)
          obtain ⟨f1, f2⟩ := hc (atN m x) hlt
          generalize (m[atN m x]'hlt).2 = v at *
          generalize atN m x = at0 at *
          clear hc in2 b2 BU k1 y1 y2 y3 y4 y5 c1 c2 c3 c4 c5
          go_wp2
          go_quiet (fail)
          go_wp2
          go_ret
          exact ⟨ret_bool Z.out.symm, belowN B2.out _⟩
    · have Z : Hid (fitB m (x, o, n, true, false) = false) := hide (fit_no (fun z => z.2.2.2.2.elim (fun g => by cases g) hnn))
      obtain ⟨m1, m2, m3, m4, m5⟩ := emp_ne hnn
      go_enter Tryz.func42, Tryz.ntmps42
      go_wp2
      have bx : Hid (Below w.heap.size w (w.alloc (.cells #[.string x, .string o, .string n, .bool true, .bool false] 45))) := hide ((Below.refl _ _).alloc (Nat.le_refl _) _)
      have hbw : w.heap.size < (w.alloc (.cells #[.string x, .string o, .string n, .bool true, .bool false] 45)).heap.size := by simp
      have c1 : (w.alloc (.cells #[.string x, .string o, .string n, .bool true, .bool false] 45)).cell? ⟨w.heap.size, 0, none⟩ = some (.string x) := by simp [go_sem]
      have c2 : (w.alloc (.cells #[.string x, .string o, .string n, .bool true, .bool false] 45)).cell? ⟨w.heap.size, 1, none⟩ = some (.string o) := by simp [go_sem]
      have c3 : (w.alloc (.cells #[.string x, .string o, .string n, .bool true, .bool false] 45)).cell? ⟨w.heap.size, 2, none⟩ = some (.string n) := by simp [go_sem]
      have c4 : (w.alloc (.cells #[.string x, .string o, .string n, .bool true, .bool false] 45)).cell? ⟨w.heap.size, 3, none⟩ = some (.bool true) := by simp [go_sem]
      have c5 : (w.alloc (.cells #[.string x, .string o, .string n, .bool true, .bool false] 45)).cell? ⟨w.heap.size, 4, none⟩ = some (.bool false) := by simp [go_sem]
      generalize w.alloc (.cells #[.string x, .string o, .string n, .bool true, .bool false] 45) = W1 at *
      have y1 := cls_cell (B := W1.heap.size) hbw c1
      have y2 := cls_cell (B := W1.heap.size) hbw c2
      have y3 := cls_cell (B := W1.heap.size) hbw c3
      have y4 := cls_cell (B := W1.heap.size) hbw c4
      have y5 := cls_cell (B := W1.heap.size) hbw c5
      refine wp_region_cls (by kernel_rfl) (by kernel_rfl) W1.heap.size ?_
      repeat (go_big_quiet_step ((first | (go_at_call 31; exact cls_call (Nat.le_refl _) (same_below (keyOk_any x _ hx))) | (go_at_call 32; exact cls_call (Nat.le_refl _) (same_below (valOk_any n _ hn))) | (go_at_call 44; exact cls_call (Nat.le_refl _) (editOf_true_false x o n _)) | (go_at_call 133; exact cls_call (Nat.le_refl _) (turnChange_any x o x n _)) | (go_at_call 131; exact cls_call (Nat.le_refl _) (lossChange_any x o _)) | (go_at_call 132; exact cls_call (Nat.le_refl _) (gainChange_any x n _)) | (go_at_call 134; exact cls_call (Nat.le_refl _) (idleChange_any x _)))))
      refine wpQuiet_nil ?_
      intro _ hw'
      obtain ⟨u, hw''⟩ := hw'
      subst hw''
      have BU := hide (bx.out.trans (u.below.mono bx.out.size))
      go_wp2
      go_ret
      exact ⟨ret_bool Z.out.symm, BU.out⟩
  · skip
    go_enter Tryz.func42, Tryz.ntmps42
    go_wp2
    have bx : Hid (Below w.heap.size w (w.alloc (.cells #[.string x, .string o, .string n, .bool true, .bool true] 45))) := hide ((Below.refl _ _).alloc (Nat.le_refl _) _)
    have hbw : w.heap.size < (w.alloc (.cells #[.string x, .string o, .string n, .bool true, .bool true] 45)).heap.size := by simp
    have c1 : (w.alloc (.cells #[.string x, .string o, .string n, .bool true, .bool true] 45)).cell? ⟨w.heap.size, 0, none⟩ = some (.string x) := by simp [go_sem]
    have c2 : (w.alloc (.cells #[.string x, .string o, .string n, .bool true, .bool true] 45)).cell? ⟨w.heap.size, 1, none⟩ = some (.string o) := by simp [go_sem]
    have c3 : (w.alloc (.cells #[.string x, .string o, .string n, .bool true, .bool true] 45)).cell? ⟨w.heap.size, 2, none⟩ = some (.string n) := by simp [go_sem]
    have c4 : (w.alloc (.cells #[.string x, .string o, .string n, .bool true, .bool true] 45)).cell? ⟨w.heap.size, 3, none⟩ = some (.bool true) := by simp [go_sem]
    have c5 : (w.alloc (.cells #[.string x, .string o, .string n, .bool true, .bool true] 45)).cell? ⟨w.heap.size, 4, none⟩ = some (.bool true) := by simp [go_sem]
    generalize w.alloc (.cells #[.string x, .string o, .string n, .bool true, .bool true] 45) = W1 at *
    have y1 := cls_cell (B := W1.heap.size) hbw c1
    have y2 := cls_cell (B := W1.heap.size) hbw c2
    have y3 := cls_cell (B := W1.heap.size) hbw c3
    have y4 := cls_cell (B := W1.heap.size) hbw c4
    have y5 := cls_cell (B := W1.heap.size) hbw c5
    refine wp_region_cls (by kernel_rfl) (by kernel_rfl) W1.heap.size ?_
    repeat (go_big_quiet_step ((first | (go_at_call 31; exact cls_call (Nat.le_refl _) (same_below (keyOk_any x _ hx))) | (go_at_call 32; exact cls_call (Nat.le_refl _) (same_below (valOk_any n _ hn))) | (go_at_call 44; exact cls_call (Nat.le_refl _) (editOf_true_true x o n _)) | (go_at_call 133; exact cls_call (Nat.le_refl _) (turnChange_any x o x n _)) | (go_at_call 131; exact cls_call (Nat.le_refl _) (lossChange_any x o _)) | (go_at_call 132; exact cls_call (Nat.le_refl _) (gainChange_any x n _)) | (go_at_call 134; exact cls_call (Nat.le_refl _) (idleChange_any x _)))))
    refine wpQuiet_nil ?_
    intro _ hw'
    obtain ⟨u, hw''⟩ := hw'
    subst hw''
    have BU := hide (bx.out.trans (u.below.mono bx.out.size))
    rcases hasB_cases m x with hh | hh
    · have Z : Hid (fitB m (x, o, n, true, true) = false) := hide (fit_no (fun z => by rw [show hasB m x = false from hh] at z; exact absurd z.2.2.1 (by simp)))
      have k1 : u.wo.cell? ⟨w.heap.size, 0, none⟩ = some (.string x) := cellB u.below hbw c1
      go_wp2_with fail
      refine (place_any A m cap x _ hl ((IN.out.below BU.out).more BU.out.size) HR.out).mono ?_
      rintro e w2 ⟨rfl, b2⟩
      have hbu : w.heap.size < u.wo.heap.size := by have := u.below.size; omega
      have e1 : w2.cell? ⟨w.heap.size, 1, none⟩ = some (.string o) := cellB b2 hbu (cellB u.below hbw c2)
      have e3 : w2.cell? ⟨w.heap.size, 3, none⟩ = some (.bool true) := cellB b2 hbu (cellB u.below hbw c4)
      have B2 := hide (BU.out.trans (b2.mono BU.out.size))
      rw [hh]
      clear b2 BU k1 y1 y2 y3 y4 y5 c1 c2 c3 c4 c5
      go_wp2
      go_quiet (fail)
      go_wp2
      go_ret
      exact ⟨ret_bool Z.out.symm, belowN B2.out _⟩
    · obtain ⟨hlt, he⟩ := hasB_iff.1 hh
      have HV := hide (valOf_yes hlt he)
      have hla : (atN m x : Int) < (m.length : Int) := by omega
      by_cases ho : (m[atN m x]'hlt).2 = o
      · have Z : Hid (fitB m (x, o, n, true, true) = true) := hide (fitB_iff.2 ⟨hK, hV, hh, by rw [HV.out]; exact ho, .inl rfl⟩)
        have d0 := eqS_yes ho
        have k1 : u.wo.cell? ⟨w.heap.size, 0, none⟩ = some (.string x) := cellB u.below hbw c1
        go_wp2_with fail
        refine (place_any A m cap x _ hl ((IN.out.below BU.out).more BU.out.size) HR.out).mono ?_
        rintro e w2 ⟨rfl, b2⟩
        have hbu : w.heap.size < u.wo.heap.size := by have := u.below.size; omega
        have e1 : w2.cell? ⟨w.heap.size, 1, none⟩ = some (.string o) := cellB b2 hbu (cellB u.below hbw c2)
        have e3 : w2.cell? ⟨w.heap.size, 3, none⟩ = some (.bool true) := cellB b2 hbu (cellB u.below hbw c4)
        have B2 := hide (BU.out.trans (b2.mono BU.out.size))
        rw [hh]
        have in2 := (IN.out.below B2.out)
        obtain ⟨b, off, rfl, hbB, hc⟩ := in2.2 (by omega)
        obtain ⟨f1, f2⟩ := hc (atN m x) hlt
        generalize (m[atN m x]'hlt).2 = v at *
        generalize atN m x = at0 at *
        clear hc in2 b2 BU k1 y1 y2 y3 y4 y5 c1 c2 c3 c4 c5
        go_wp2
        go_quiet (fail)
        go_wp2
        go_ret
        exact ⟨ret_bool Z.out.symm, belowN B2.out _⟩
      · have Z : Hid (fitB m (x, o, n, true, true) = false) := hide (fit_no (fun z => ho (by rw [← HV.out]; exact z.2.2.2.1)))
        have d0 := eqS_no ho
        have k1 : u.wo.cell? ⟨w.heap.size, 0, none⟩ = some (.string x) := cellB u.below hbw c1
        go_wp2_with fail
        refine (place_any A m cap x _ hl ((IN.out.below BU.out).more BU.out.size) HR.out).mono ?_
        rintro e w2 ⟨rfl, b2⟩
        have hbu : w.heap.size < u.wo.heap.size := by have := u.below.size; omega
        have e1 : w2.cell? ⟨w.heap.size, 1, none⟩ = some (.string o) := cellB b2 hbu (cellB u.below hbw c2)
        have e3 : w2.cell? ⟨w.heap.size, 3, none⟩ = some (.bool true) := cellB b2 hbu (cellB u.below hbw c4)
        have B2 := hide (BU.out.trans (b2.mono BU.out.size))
        rw [hh]
        have in2 := (IN.out.below B2.out)
        obtain ⟨b, off, rfl, hbB, hc⟩ := in2.2 (by omega)
        obtain ⟨f1, f2⟩ := hc (atN m x) hlt
        generalize (m[atN m x]'hlt).2 = v at *
        generalize atN m x = at0 at *
        clear hc in2 b2 BU k1 y1 y2 y3 y4 y5 c1 c2 c3 c4 c5
        go_wp2
        go_quiet (fail)
        go_wp2
        go_ret
        exact ⟨ret_bool Z.out.symm, belowN B2.out _⟩
end Go.Proofs.YtaofemdhgfejjaaGreatDoor
