/-
  What spec.l6Diff answers.
-/
import Derived.Test.YtcpalnkcjcgaeaaHDif
import Derived.Test.YtcpalnkcjcgaeaaHLaw
import Derived.Test.YtcpalnkcjcgaeaaPStr0
import Derived.BigQuiet
import Derived.Deep.QuietTactic
import Derived.StillTailTactics
import Derived.IntWalk
namespace Go.Proofs.Ytcpalnkcjcgaeaa
open Go.RowKit

theorem drop_cons {l : List Pr} {i : Nat} (h : i < l.length) : l.drop i = l[i] :: l.drop (i + 1) := List.drop_eq_getElem_cons h
theorem dif_end {a b : List Pr} {i k : Nat} (ha : a.length ≤ i) (hb : b.length ≤ k) : difM (a.drop i) (b.drop k) = [] := by rw [List.drop_of_length_le ha, List.drop_of_length_le hb, difM_nil]
theorem dif_loss {a b : List Pr} {i k : Nat} (hi : i < a.length) (h : ∀ (hk : k < b.length), ltB a[i].1 b[k].1 = true) : difM (a.drop i) (b.drop k) = lossC a[i] :: difM (a.drop (i + 1)) (b.drop k) := by
  rw [drop_cons hi]
  by_cases hk : k < b.length
  · rw [drop_cons hk, difM_lt (h hk)]
  · rw [List.drop_of_length_le (l := b) (by omega), difM_a]
theorem dif_gain {a b : List Pr} {i k : Nat} (hk : k < b.length) (h : ∀ (hi : i < a.length), ltB b[k].1 a[i].1 = true) : difM (a.drop i) (b.drop k) = gainC b[k] :: difM (a.drop i) (b.drop (k + 1)) := by
  rw [drop_cons hk]
  by_cases hi : i < a.length
  · rw [drop_cons hi, difM_gt (h hi)]
  · rw [List.drop_of_length_le (l := a) (by omega), difM_b]
theorem dif_same {a b : List Pr} {i k : Nat} (hi : i < a.length) (hk : k < b.length) (h : a[i].1 = b[k].1) (h' : a[i].2 = b[k].2) : difM (a.drop i) (b.drop k) = difM (a.drop (i + 1)) (b.drop (k + 1)) := by
  rw [drop_cons hi, drop_cons hk, difM_same h h']
theorem dif_turn {a b : List Pr} {i k : Nat} (hi : i < a.length) (hk : k < b.length) (h : a[i].1 = b[k].1) (h' : ¬ a[i].2 = b[k].2) : difM (a.drop i) (b.drop k) = turnC a[i] b[k] :: difM (a.drop (i + 1)) (b.drop (k + 1)) := by
  rw [drop_cons hi, drop_cons hk, difM_turn h h']

theorem below_drewN {B : Nat} {w w' : World} (h : Below B w w') (n : Nat) : Below B w (w'.drewN n) := h.trans (Quiet.below ⟨n, rfl⟩ _)
/-- the box of the change that a round makes -/
def Box (w : World) (g : Nat) (c : Ch) : Prop := w.heap[g]? = some (.cells (arrC c) 45 (0, 0))
theorem Box.cells {w : World} {g : Nat} {c : Ch} (h : Box w g c) : At5 w g 0 c := ⟨cell_of_row _ g 0 _ _ (0, 0) h, cell_of_row _ g 1 _ _ (0, 0) h, cell_of_row _ g 2 _ _ (0, 0) h, cell_of_row _ g 3 _ _ (0, 0) h, cell_of_row _ g 4 _ _ (0, 0) h⟩
theorem Box.frozen {w : World} {g : Nat} {c : Ch} (h : Box w g c) (j : Nat) : w.frozen? ⟨g, j, none⟩ = false := by simp [World.frozen?, show w.heap[g]? = _ from h]
theorem box_set {w : World} {g : Nat} {cs : Array Value} {t : TypeId} (h : w.heap[g]? = some (.cells cs t (0, 0))) (j : Nat) (u : Value) : (w.setCell ⟨g, j, none⟩ u).heap[g]? = some (.cells (cs.setIfInBounds j u) t (0, 0)) := by
  have hlt := lt_of_block h
  have h' : w.heap[g] = .cells cs t (0, 0) := by simpa [Array.getElem?_eq_getElem hlt] using h
  show (w.heap.modify g _)[g]? = _
  rw [Array.getElem?_eq_getElem (by simpa using hlt), Array.getElem_modify_self, h']
  rfl
theorem Box.five {w : World} {g : Nat} {c : Ch} (h : Box w g c) (x y z : ByteArray) (p q : Bool) : Box (((((w.setCell ⟨g, 0, none⟩ (.string x)).setCell ⟨g, 1, none⟩ (.string y)).setCell ⟨g, 2, none⟩ (.string z)).setCell ⟨g, 3, none⟩ (.bool p)).setCell ⟨g, 4, none⟩ (.bool q)) g (x, y, z, p, q) :=
  box_set (box_set (box_set (box_set (box_set h 0 _) 1 _) 2 _) 3 _) 4 _
set_option maxRecDepth 100000 in
set_option maxHeartbeats 16000000 in
theorem l6Diff_any (A : Option Addr) (a : List Pr) (cap : Nat) (A' : Option Addr) (b : List Pr) (cap' : Nat) (w : World) (hla : a.length ≤ 1000) (hlb : b.length ≤ 1000) (hin : PIn w w.heap.size A a) (hin' : PIn w w.heap.size A' b) :
    Calls Try.prog 46 #[.slice A a.length cap, .slice A' b.length cap'] w (RetC w.heap.size (difM a b) w) := by
  have O1 := hide (HOwn.built w w.heap.size (Nat.le_refl _))
  have B1 := hide ((Below.refl w.heap.size w).alloc (Nat.le_refl _) (.cells #[] 45))
  have IN := hide hin
  have IN' := hide hin'
  clear hin hin'
  generalize hna : a.length = na at hla ⊢
  generalize hnb : b.length = nb at hlb ⊢
  have HA := hide hna
  have HB := hide hnb
  clear hna hnb
  go_enter Try.func46, Try.ntmps46
  go_wp2
  go_loopw [5, 6, 7] (fun ov iv kv wr => ∃ (i k : Nat) (A2 : Option Addr) (cap2 : Nat) (d : List Ch), i ≤ na ∧ k ≤ nb ∧ iv = .int .i64 i ∧ kv = .int .i64 k ∧ ov = .slice A2 d.length cap2 ∧ Hid (d ++ difM (a.drop i) (b.drop k) = difM a b) ∧ Hid (d.length ≤ i + k) ∧ Hid (HOwn wr w.heap.size A2 cap2 d) ∧ Hid (Below w.heap.size w wr)) (fun _ i k _ => na + nb - (intOf i).toNat - (intOf k).toNat)
  case atStart => exact ⟨0, 0, _, 0, [], Nat.zero_le _, Nat.zero_le _, rfl, rfl, rfl, hide (by simp), hide (by simp), O1, B1⟩
  case round =>
    clear O1 B1
    obtain ⟨i, k, A2, cap2, d, hi, hk, rfl, rfl, rfl, D, L, O, Q⟩ := hrel
    have hqs := Q.out.size
    by_cases hil : i < na
    · have hia : i < a.length := by rw [HA.out]; omega
      have in1 := IN.out.below Q.out
      obtain ⟨ba, oa, rfl, hba, hca⟩ := in1.2 (by omega)
      obtain ⟨c1, c2⟩ := hca i hia
      obtain ⟨s1, s2⟩ := in1.1 i hia
      have hii : (i : Int) < (na : Int) := by omega
      by_cases hkl : k < nb
      · have hkb : k < b.length := by rw [HB.out]; omega
        have in2 := IN'.out.below Q.out
        obtain ⟨bb, ob, rfl, hbb, hcb⟩ := in2.2 (by omega)
        obtain ⟨g1, g2⟩ := hcb k hkb
        obtain ⟨t1, t2⟩ := in2.1 k hkb
        have hkk : (k : Int) < (nb : Int) := by omega
        have ek : ((k : Int) == (nb : Int)) = false := by rw [beq_eq_false_iff_ne]; omega
        have ek2 : decide ((k : Int) < (nb : Int)) = true := decide_eq_true (by omega)
        have ei2 : decide ((i : Int) < (na : Int)) = true := decide_eq_true (by omega)
        rcases ltB_tri (a[i]'hia).1 (b[k]'hkb).1 with hlt | heq | hgt
        · have DS : Hid ((d ++ [((a[i]'hia).1, (a[i]'hia).2, ByteArray.empty, true, false)]) ++ difM (a.drop (i + 1)) (b.drop k) = difM a b) := hide (by
            rw [← D.out, dif_loss hia (fun _ => hlt), List.append_assoc]; rfl)
          have r1 : Op.bytesLess (a[i]'hia).1.toList (b[k]'hkb).1.toList = true := hlt
          have r0 := eqS_no (fun e => (by rw [e, ltB_irrefl] at hlt; cases hlt) : ¬ (a[i]'hia).1 = (b[k]'hkb).1)
          have r2 := eqS_no (fun e => (by rw [e, ltB_irrefl] at hlt; cases hlt) : ¬ (b[k]'hkb).1 = (a[i]'hia).1)
          generalize (a[i]'hia).1 = x at *
          generalize (a[i]'hia).2 = y at *
          generalize (b[k]'hkb).1 = u at *
          generalize (b[k]'hkb).2 = v at *
          clear in1 hca in2 hcb D hlt
          go_wp2
          have bx := hide ((Below.refl wr.heap.size wr).alloc (Nat.le_refl _) (.cells #[.string ⟨#[]⟩, .string ⟨#[]⟩, .string ⟨#[]⟩, .bool false, .bool false] 45))
          have Bx : Hid (Box (wr.alloc (.cells #[.string ⟨#[]⟩, .string ⟨#[]⟩, .string ⟨#[]⟩, .bool false, .bool false] 45)) wr.heap.size emC) := hide (heap_alloc_new wr (.cells #[.string ⟨#[]⟩, .string ⟨#[]⟩, .string ⟨#[]⟩, .bool false, .bool false] 45))
          have c1_1 : (wr.alloc (.cells #[.string ⟨#[]⟩, .string ⟨#[]⟩, .string ⟨#[]⟩, .bool false, .bool false] 45)).cell? ⟨ba, oa + i * 2, none⟩ = some (.string x) := cellB bx.out (by omega) c1
          have c2_1 : (wr.alloc (.cells #[.string ⟨#[]⟩, .string ⟨#[]⟩, .string ⟨#[]⟩, .bool false, .bool false] 45)).cell? ⟨ba, oa + i * 2 + 1, none⟩ = some (.string y) := cellB bx.out (by omega) c2
          have g1_1 : (wr.alloc (.cells #[.string ⟨#[]⟩, .string ⟨#[]⟩, .string ⟨#[]⟩, .bool false, .bool false] 45)).cell? ⟨bb, ob + k * 2, none⟩ = some (.string u) := cellB bx.out (by omega) g1
          have g2_1 : (wr.alloc (.cells #[.string ⟨#[]⟩, .string ⟨#[]⟩, .string ⟨#[]⟩, .bool false, .bool false] 45)).cell? ⟨bb, ob + k * 2 + 1, none⟩ = some (.string v) := cellB bx.out (by omega) g2
          clear c1 c2 g1 g2
          generalize wr.alloc (.cells #[.string ⟨#[]⟩, .string ⟨#[]⟩, .string ⟨#[]⟩, .bool false, .bool false] 45) = W0 at *
          go_quiet (fail)
          go_wp2
          have b1 := hide (below_drewN bx.out nq)
          have Bx1 : Hid (Box (W0.drewN nq) wr.heap.size emC) := hide Bx.out
          have c1_2 : (W0.drewN nq).cell? ⟨ba, oa + i * 2, none⟩ = some (.string x) := c1_1
          have c2_2 : (W0.drewN nq).cell? ⟨ba, oa + i * 2 + 1, none⟩ = some (.string y) := c2_1
          have g1_2 : (W0.drewN nq).cell? ⟨bb, ob + k * 2, none⟩ = some (.string u) := g1_1
          have g2_2 : (W0.drewN nq).cell? ⟨bb, ob + k * 2 + 1, none⟩ = some (.string v) := g2_1
          clear bx Bx c1_1 c2_1 g1_1 g2_1
          generalize W0.drewN nq = W1 at *
          go_still_tail 11, (by kernel_rfl)
          have b2 : Hid (Below wr.heap.size wr W1.drew) := hide b1.out.drew
          have Bx2 : Hid (Box W1.drew wr.heap.size emC) := hide Bx1.out
          have c1_3 : W1.drew.cell? ⟨ba, oa + i * 2, none⟩ = some (.string x) := c1_2
          have c2_3 : W1.drew.cell? ⟨ba, oa + i * 2 + 1, none⟩ = some (.string y) := c2_2
          have g1_3 : W1.drew.cell? ⟨bb, ob + k * 2, none⟩ = some (.string u) := g1_2
          have g2_3 : W1.drew.cell? ⟨bb, ob + k * 2 + 1, none⟩ = some (.string v) := g2_2
          clear b1 Bx1 c1_2 c2_2 g1_2 g2_2
          change wpList _ _ _ _ _ W1.drew
          generalize W1.drew = W2 at *
          have zb2 : wr.heap.size < W2.heap.size := (Array.getElem?_eq_some_iff.1 Bx2.out).1
          obtain ⟨e0, e1, e2, e3, e4⟩ := Bx2.out.cells
          have f0 := Bx2.out.frozen 0
          have f1 := Bx2.out.frozen 1
          have f2 := Bx2.out.frozen 2
          have f3 := Bx2.out.frozen 3
          have f4 := Bx2.out.frozen 4
          simp only [Nat.zero_add] at e1 e2 e3 e4
          have nbb : ¬ bb = wr.heap.size := by omega
          have nba : ¬ ba = wr.heap.size := by omega
          go_wp2
          have b3 : Hid (Below wr.heap.size wr (((((W2.setCell ⟨wr.heap.size, 0, none⟩ (.string x)).setCell ⟨wr.heap.size, 1, none⟩ (.string y)).setCell ⟨wr.heap.size, 2, none⟩ (.string ⟨#[]⟩)).setCell ⟨wr.heap.size, 3, none⟩ (.bool true)).setCell ⟨wr.heap.size, 4, none⟩ (.bool false))) := hide (((((b2.out.setCell (Nat.le_refl _) _).setCell (Nat.le_refl _) _).setCell (Nat.le_refl _) _).setCell (Nat.le_refl _) _).setCell (Nat.le_refl _) _)
          go_quiet (fail)
          have b4 := hide (below_drewN b3.out nq)
          have hq0 := hqs
          have b5 := b4
          have sz : Hid (cC (x, y, ByteArray.empty, true, false)) := hide ⟨s1, s2, by simp [maxLen]⟩
          have O4 := hide (O.out.below b5.out)
          have Q4 := hide (Q.out.trans (b5.out.mono hqs))
          have hq4 := Q4.out.size
          clear b2 b3 b4 b5 Bx2
          go_wp2_with (at_builtin; (refine wpList_appC (l := d) (l' := [(x, y, ByteArray.empty, true, false)]) 27 Try.underlying27 rfl (.tmp 100) (.tmp 102) rfl rfl rfl rfl rfl (O4.out.alloc _) (HIn.oneAt (x, y, ByteArray.empty, true, false) sz.out _ (by simp)) (by simp) (Nat.le_trans hq4 (by simp)) (by have := L.out; simp; omega) ?_; intro A3 cap3 w3 own3 g3 r3; have B3 := hide (Q4.out.trans (((Below.refl _ _).alloc hq4 _).trans ((O4.out.alloc (.cells (arrC (x, y, ByteArray.empty, true, false)) 45)).grownBelow (by rw [rowOf_own]; exact g3) (Nat.le_trans hq4 (by simp))))); have O3 := hide own3; clear own3 g3 r3))
          have L3 : Hid ((d ++ [(x, y, ByteArray.empty, true, false)]).length ≤ i + 1 + k) := hide (by have := L.out; simp; omega)
          exact ⟨⟨i + 1, k, A3, cap3, d ++ [(x, y, ByteArray.empty, true, false)], by omega, by omega, by go_num, by go_num, by simp, DS, L3, O3, B3⟩, by simp [intOf]; omega⟩
        · have r1 : Op.bytesLess (a[i]'hia).1.toList (b[k]'hkb).1.toList = false := by rw [heq]; exact ltB_irrefl _
          have r0 := eqS_yes heq
          have r2 := eqS_yes heq.symm
          by_cases hv : (a[i]'hia).2 = (b[k]'hkb).2
          · have DS : Hid (d ++ difM (a.drop (i + 1)) (b.drop (k + 1)) = difM a b) := hide (by rw [← D.out, dif_same hia hkb heq hv])
            have r3 := eqS_yes hv
            generalize (a[i]'hia).1 = x at *
            generalize (a[i]'hia).2 = y at *
            generalize (b[k]'hkb).1 = u at *
            generalize (b[k]'hkb).2 = v at *
            have HE := hide heq
            clear in1 hca in2 hcb D heq hv
            go_wp2
            have bx := hide ((Below.refl wr.heap.size wr).alloc (Nat.le_refl _) (.cells #[.string ⟨#[]⟩, .string ⟨#[]⟩, .string ⟨#[]⟩, .bool false, .bool false] 45))
            have Bx : Hid (Box (wr.alloc (.cells #[.string ⟨#[]⟩, .string ⟨#[]⟩, .string ⟨#[]⟩, .bool false, .bool false] 45)) wr.heap.size emC) := hide (heap_alloc_new wr (.cells #[.string ⟨#[]⟩, .string ⟨#[]⟩, .string ⟨#[]⟩, .bool false, .bool false] 45))
            have c1_1 : (wr.alloc (.cells #[.string ⟨#[]⟩, .string ⟨#[]⟩, .string ⟨#[]⟩, .bool false, .bool false] 45)).cell? ⟨ba, oa + i * 2, none⟩ = some (.string x) := cellB bx.out (by omega) c1
            have c2_1 : (wr.alloc (.cells #[.string ⟨#[]⟩, .string ⟨#[]⟩, .string ⟨#[]⟩, .bool false, .bool false] 45)).cell? ⟨ba, oa + i * 2 + 1, none⟩ = some (.string y) := cellB bx.out (by omega) c2
            have g1_1 : (wr.alloc (.cells #[.string ⟨#[]⟩, .string ⟨#[]⟩, .string ⟨#[]⟩, .bool false, .bool false] 45)).cell? ⟨bb, ob + k * 2, none⟩ = some (.string u) := cellB bx.out (by omega) g1
            have g2_1 : (wr.alloc (.cells #[.string ⟨#[]⟩, .string ⟨#[]⟩, .string ⟨#[]⟩, .bool false, .bool false] 45)).cell? ⟨bb, ob + k * 2 + 1, none⟩ = some (.string v) := cellB bx.out (by omega) g2
            have g2_0 := hide g2
            clear c1 c2 g1 g2
            generalize wr.alloc (.cells #[.string ⟨#[]⟩, .string ⟨#[]⟩, .string ⟨#[]⟩, .bool false, .bool false] 45) = W0 at *
            go_quiet (fail)
            go_wp2
            have b1 := hide (below_drewN bx.out nq)
            have Bx1 : Hid (Box (W0.drewN nq) wr.heap.size emC) := hide Bx.out
            have c1_2 : (W0.drewN nq).cell? ⟨ba, oa + i * 2, none⟩ = some (.string x) := c1_1
            have c2_2 : (W0.drewN nq).cell? ⟨ba, oa + i * 2 + 1, none⟩ = some (.string y) := c2_1
            have g1_2 : (W0.drewN nq).cell? ⟨bb, ob + k * 2, none⟩ = some (.string u) := g1_1
            have g2_2 : (W0.drewN nq).cell? ⟨bb, ob + k * 2 + 1, none⟩ = some (.string v) := g2_1
            clear bx Bx c1_1 c2_1 g1_1 g2_1
            generalize W0.drewN nq = W1 at *
            go_still_tail 11, (by kernel_rfl)
            have b2 : Hid (Below wr.heap.size wr W1.drew) := hide b1.out.drew
            have Bx2 : Hid (Box W1.drew wr.heap.size emC) := hide Bx1.out
            have c1_3 : W1.drew.cell? ⟨ba, oa + i * 2, none⟩ = some (.string x) := c1_2
            have c2_3 : W1.drew.cell? ⟨ba, oa + i * 2 + 1, none⟩ = some (.string y) := c2_2
            have g1_3 : W1.drew.cell? ⟨bb, ob + k * 2, none⟩ = some (.string u) := g1_2
            have g2_3 : W1.drew.cell? ⟨bb, ob + k * 2 + 1, none⟩ = some (.string v) := g2_2
            clear b1 Bx1 c1_2 c2_2 g1_2 g2_2
            change wpList _ _ _ _ _ W1.drew
            generalize W1.drew = W2 at *
            have zb2 : wr.heap.size < W2.heap.size := (Array.getElem?_eq_some_iff.1 Bx2.out).1
            obtain ⟨e0, e1, e2, e3, e4⟩ := Bx2.out.cells
            have f0 := Bx2.out.frozen 0
            have f1 := Bx2.out.frozen 1
            have f2 := Bx2.out.frozen 2
            have f3 := Bx2.out.frozen 3
            have f4 := Bx2.out.frozen 4
            simp only [Nat.zero_add] at e1 e2 e3 e4
            have nbb : ¬ bb = wr.heap.size := by omega
            have nba : ¬ ba = wr.heap.size := by omega
            go_wp2
            have b3 : Hid (Below wr.heap.size wr (((((W2.setCell ⟨wr.heap.size, 0, none⟩ (.string x)).setCell ⟨wr.heap.size, 1, none⟩ (.string y)).setCell ⟨wr.heap.size, 2, none⟩ (.string ⟨#[]⟩)).setCell ⟨wr.heap.size, 3, none⟩ (.bool true)).setCell ⟨wr.heap.size, 4, none⟩ (.bool false))) := hide (((((b2.out.setCell (Nat.le_refl _) _).setCell (Nat.le_refl _) _).setCell (Nat.le_refl _) _).setCell (Nat.le_refl _) _).setCell (Nat.le_refl _) _)
            go_quiet (fail)
            have b4 := hide (below_drewN b3.out nq)
            have Bx4 : Hid (Box ((((((W2.setCell ⟨wr.heap.size, 0, none⟩ (.string x)).setCell ⟨wr.heap.size, 1, none⟩ (.string y)).setCell ⟨wr.heap.size, 2, none⟩ (.string ⟨#[]⟩)).setCell ⟨wr.heap.size, 3, none⟩ (.bool true)).setCell ⟨wr.heap.size, 4, none⟩ (.bool false)).drewN nq) wr.heap.size (x, y, ⟨#[]⟩, true, false)) := hide (Bx2.out.five x y ⟨#[]⟩ true false)
            have hq0 := hqs
            clear b2 b3 Bx2 c1_3 c2_3 g1_3 e0 e1 e2 e3 e4 f0 f1 f2 f3 f4
            have g2_4 : ((((((W2.setCell ⟨wr.heap.size, 0, none⟩ (.string x)).setCell ⟨wr.heap.size, 1, none⟩ (.string y)).setCell ⟨wr.heap.size, 2, none⟩ (.string ⟨#[]⟩)).setCell ⟨wr.heap.size, 3, none⟩ (.bool true)).setCell ⟨wr.heap.size, 4, none⟩ (.bool false)).drewN nq).cell? ⟨bb, ob + k * 2 + 1, none⟩ = some (.string v) := by have := cellB (b4.out) (by omega) g2_0.out; exact this
            clear g2_3
            generalize (((((W2.setCell ⟨wr.heap.size, 0, none⟩ (.string x)).setCell ⟨wr.heap.size, 1, none⟩ (.string y)).setCell ⟨wr.heap.size, 2, none⟩ (.string ⟨#[]⟩)).setCell ⟨wr.heap.size, 3, none⟩ (.bool true)).setCell ⟨wr.heap.size, 4, none⟩ (.bool false)).drewN nq = W4 at *
            have zb4 : wr.heap.size < W4.heap.size := (Array.getElem?_eq_some_iff.1 Bx4.out).1
            obtain ⟨e0, e1, e2, e3, e4⟩ := Bx4.out.cells
            have f0 := Bx4.out.frozen 0
            have f1 := Bx4.out.frozen 1
            have f2 := Bx4.out.frozen 2
            have f3 := Bx4.out.frozen 3
            have f4 := Bx4.out.frozen 4
            simp only [Nat.zero_add] at e1 e2 e3 e4
            have b5 : Hid (Below wr.heap.size wr ((W4.setCell ⟨wr.heap.size, 2, none⟩ (.string v)).setCell ⟨wr.heap.size, 4, none⟩ (.bool true))) := hide ((b4.out.setCell (Nat.le_refl _) _).setCell (Nat.le_refl _) _)
            have O4 := hide (O.out.below b5.out)
            have Q4 := hide (Q.out.trans (b5.out.mono hqs))
            have L3 : Hid (d.length ≤ i + 1 + k + 1) := hide (by have := L.out; omega)
            clear b4 b5 Bx4
            go_wp2
            exact ⟨⟨i + 1, k + 1, A2, cap2, d, by omega, by omega, by go_num, by go_num, rfl, DS, L3, O4, Q4⟩, by simp [intOf]; omega⟩
          · have DS : Hid ((d ++ [((a[i]'hia).1, (a[i]'hia).2, (b[k]'hkb).2, true, true)]) ++ difM (a.drop (i + 1)) (b.drop (k + 1)) = difM a b) := hide (by
              rw [← D.out, dif_turn hia hkb heq hv, List.append_assoc, heq]; rfl)
            have r3 := eqS_no hv
            generalize (a[i]'hia).1 = x at *
            generalize (a[i]'hia).2 = y at *
            generalize (b[k]'hkb).1 = u at *
            generalize (b[k]'hkb).2 = v at *
            have HE := hide heq
            clear in1 hca in2 hcb D heq hv
            go_wp2
            have bx := hide ((Below.refl wr.heap.size wr).alloc (Nat.le_refl _) (.cells #[.string ⟨#[]⟩, .string ⟨#[]⟩, .string ⟨#[]⟩, .bool false, .bool false] 45))
            have Bx : Hid (Box (wr.alloc (.cells #[.string ⟨#[]⟩, .string ⟨#[]⟩, .string ⟨#[]⟩, .bool false, .bool false] 45)) wr.heap.size emC) := hide (heap_alloc_new wr (.cells #[.string ⟨#[]⟩, .string ⟨#[]⟩, .string ⟨#[]⟩, .bool false, .bool false] 45))
            have c1_1 : (wr.alloc (.cells #[.string ⟨#[]⟩, .string ⟨#[]⟩, .string ⟨#[]⟩, .bool false, .bool false] 45)).cell? ⟨ba, oa + i * 2, none⟩ = some (.string x) := cellB bx.out (by omega) c1
            have c2_1 : (wr.alloc (.cells #[.string ⟨#[]⟩, .string ⟨#[]⟩, .string ⟨#[]⟩, .bool false, .bool false] 45)).cell? ⟨ba, oa + i * 2 + 1, none⟩ = some (.string y) := cellB bx.out (by omega) c2
            have g1_1 : (wr.alloc (.cells #[.string ⟨#[]⟩, .string ⟨#[]⟩, .string ⟨#[]⟩, .bool false, .bool false] 45)).cell? ⟨bb, ob + k * 2, none⟩ = some (.string u) := cellB bx.out (by omega) g1
            have g2_1 : (wr.alloc (.cells #[.string ⟨#[]⟩, .string ⟨#[]⟩, .string ⟨#[]⟩, .bool false, .bool false] 45)).cell? ⟨bb, ob + k * 2 + 1, none⟩ = some (.string v) := cellB bx.out (by omega) g2
            have g2_0 := hide g2
            clear c1 c2 g1 g2
            generalize wr.alloc (.cells #[.string ⟨#[]⟩, .string ⟨#[]⟩, .string ⟨#[]⟩, .bool false, .bool false] 45) = W0 at *
            go_quiet (fail)
            go_wp2
            have b1 := hide (below_drewN bx.out nq)
            have Bx1 : Hid (Box (W0.drewN nq) wr.heap.size emC) := hide Bx.out
            have c1_2 : (W0.drewN nq).cell? ⟨ba, oa + i * 2, none⟩ = some (.string x) := c1_1
            have c2_2 : (W0.drewN nq).cell? ⟨ba, oa + i * 2 + 1, none⟩ = some (.string y) := c2_1
            have g1_2 : (W0.drewN nq).cell? ⟨bb, ob + k * 2, none⟩ = some (.string u) := g1_1
            have g2_2 : (W0.drewN nq).cell? ⟨bb, ob + k * 2 + 1, none⟩ = some (.string v) := g2_1
            clear bx Bx c1_1 c2_1 g1_1 g2_1
            generalize W0.drewN nq = W1 at *
            go_still_tail 11, (by kernel_rfl)
            have b2 : Hid (Below wr.heap.size wr W1.drew) := hide b1.out.drew
            have Bx2 : Hid (Box W1.drew wr.heap.size emC) := hide Bx1.out
            have c1_3 : W1.drew.cell? ⟨ba, oa + i * 2, none⟩ = some (.string x) := c1_2
            have c2_3 : W1.drew.cell? ⟨ba, oa + i * 2 + 1, none⟩ = some (.string y) := c2_2
            have g1_3 : W1.drew.cell? ⟨bb, ob + k * 2, none⟩ = some (.string u) := g1_2
            have g2_3 : W1.drew.cell? ⟨bb, ob + k * 2 + 1, none⟩ = some (.string v) := g2_2
            clear b1 Bx1 c1_2 c2_2 g1_2 g2_2
            change wpList _ _ _ _ _ W1.drew
            generalize W1.drew = W2 at *
            have zb2 : wr.heap.size < W2.heap.size := (Array.getElem?_eq_some_iff.1 Bx2.out).1
            obtain ⟨e0, e1, e2, e3, e4⟩ := Bx2.out.cells
            have f0 := Bx2.out.frozen 0
            have f1 := Bx2.out.frozen 1
            have f2 := Bx2.out.frozen 2
            have f3 := Bx2.out.frozen 3
            have f4 := Bx2.out.frozen 4
            simp only [Nat.zero_add] at e1 e2 e3 e4
            have nbb : ¬ bb = wr.heap.size := by omega
            have nba : ¬ ba = wr.heap.size := by omega
            go_wp2
            have b3 : Hid (Below wr.heap.size wr (((((W2.setCell ⟨wr.heap.size, 0, none⟩ (.string x)).setCell ⟨wr.heap.size, 1, none⟩ (.string y)).setCell ⟨wr.heap.size, 2, none⟩ (.string ⟨#[]⟩)).setCell ⟨wr.heap.size, 3, none⟩ (.bool true)).setCell ⟨wr.heap.size, 4, none⟩ (.bool false))) := hide (((((b2.out.setCell (Nat.le_refl _) _).setCell (Nat.le_refl _) _).setCell (Nat.le_refl _) _).setCell (Nat.le_refl _) _).setCell (Nat.le_refl _) _)
            go_quiet (fail)
            have b4 := hide (below_drewN b3.out nq)
            have Bx4 : Hid (Box ((((((W2.setCell ⟨wr.heap.size, 0, none⟩ (.string x)).setCell ⟨wr.heap.size, 1, none⟩ (.string y)).setCell ⟨wr.heap.size, 2, none⟩ (.string ⟨#[]⟩)).setCell ⟨wr.heap.size, 3, none⟩ (.bool true)).setCell ⟨wr.heap.size, 4, none⟩ (.bool false)).drewN nq) wr.heap.size (x, y, ⟨#[]⟩, true, false)) := hide (Bx2.out.five x y ⟨#[]⟩ true false)
            have hq0 := hqs
            clear b2 b3 Bx2 c1_3 c2_3 g1_3 e0 e1 e2 e3 e4 f0 f1 f2 f3 f4
            have g2_4 : ((((((W2.setCell ⟨wr.heap.size, 0, none⟩ (.string x)).setCell ⟨wr.heap.size, 1, none⟩ (.string y)).setCell ⟨wr.heap.size, 2, none⟩ (.string ⟨#[]⟩)).setCell ⟨wr.heap.size, 3, none⟩ (.bool true)).setCell ⟨wr.heap.size, 4, none⟩ (.bool false)).drewN nq).cell? ⟨bb, ob + k * 2 + 1, none⟩ = some (.string v) := by have := cellB (b4.out) (by omega) g2_0.out; exact this
            clear g2_3
            generalize (((((W2.setCell ⟨wr.heap.size, 0, none⟩ (.string x)).setCell ⟨wr.heap.size, 1, none⟩ (.string y)).setCell ⟨wr.heap.size, 2, none⟩ (.string ⟨#[]⟩)).setCell ⟨wr.heap.size, 3, none⟩ (.bool true)).setCell ⟨wr.heap.size, 4, none⟩ (.bool false)).drewN nq = W4 at *
            have zb4 : wr.heap.size < W4.heap.size := (Array.getElem?_eq_some_iff.1 Bx4.out).1
            obtain ⟨e0, e1, e2, e3, e4⟩ := Bx4.out.cells
            have f0 := Bx4.out.frozen 0
            have f1 := Bx4.out.frozen 1
            have f2 := Bx4.out.frozen 2
            have f3 := Bx4.out.frozen 3
            have f4 := Bx4.out.frozen 4
            simp only [Nat.zero_add] at e1 e2 e3 e4
            have b5 : Hid (Below wr.heap.size wr ((W4.setCell ⟨wr.heap.size, 2, none⟩ (.string v)).setCell ⟨wr.heap.size, 4, none⟩ (.bool true))) := hide ((b4.out.setCell (Nat.le_refl _) _).setCell (Nat.le_refl _) _)
            have sz : Hid (cC (x, y, v, true, true)) := hide ⟨s1, s2, t2⟩
            have O4 := hide (O.out.below b5.out)
            have Q4 := hide (Q.out.trans (b5.out.mono hqs))
            have hq4 := Q4.out.size
            clear b4 b5 Bx4
            go_wp2_with (at_builtin; (refine wpList_appC (l := d) (l' := [(x, y, v, true, true)]) 27 Try.underlying27 rfl (.tmp 100) (.tmp 102) rfl rfl rfl rfl rfl (O4.out.alloc _) (HIn.oneAt (x, y, v, true, true) sz.out _ (by simp)) (by simp) (Nat.le_trans hq4 (by simp)) (by have := L.out; simp; omega) ?_; intro A3 cap3 w3 own3 g3 r3; have B3 := hide (Q4.out.trans (((Below.refl _ _).alloc hq4 _).trans ((O4.out.alloc (.cells (arrC (x, y, v, true, true)) 45)).grownBelow (by rw [rowOf_own]; exact g3) (Nat.le_trans hq4 (by simp))))); have O3 := hide own3; clear own3 g3 r3))
            have L3 : Hid ((d ++ [(x, y, v, true, true)]).length ≤ i + 1 + k + 1) := hide (by have := L.out; simp; omega)
            exact ⟨⟨i + 1, k + 1, A3, cap3, d ++ [(x, y, v, true, true)], by omega, by omega, by go_num, by go_num, by simp, DS, L3, O3, B3⟩, by simp [intOf]; omega⟩
        · have DS : Hid ((d ++ [((b[k]'hkb).1, ByteArray.empty, (b[k]'hkb).2, false, true)]) ++ difM (a.drop i) (b.drop (k + 1)) = difM a b) := hide (by
            rw [← D.out, dif_gain hkb (fun _ => hgt), List.append_assoc]; rfl)
          have r1 : Op.bytesLess (a[i]'hia).1.toList (b[k]'hkb).1.toList = false := ltB_asymm hgt
          have r0 := eqS_no (fun e => (by rw [e, ltB_irrefl] at hgt; cases hgt) : ¬ (a[i]'hia).1 = (b[k]'hkb).1)
          generalize (a[i]'hia).1 = x at *
          generalize (a[i]'hia).2 = y at *
          generalize (b[k]'hkb).1 = u at *
          generalize (b[k]'hkb).2 = v at *
          have r2 : (u.toList == u.toList) = true := by simp
          clear in1 hca in2 hcb D hgt
          go_wp2
          have bx := hide ((Below.refl wr.heap.size wr).alloc (Nat.le_refl _) (.cells #[.string ⟨#[]⟩, .string ⟨#[]⟩, .string ⟨#[]⟩, .bool false, .bool false] 45))
          have Bx : Hid (Box (wr.alloc (.cells #[.string ⟨#[]⟩, .string ⟨#[]⟩, .string ⟨#[]⟩, .bool false, .bool false] 45)) wr.heap.size emC) := hide (heap_alloc_new wr (.cells #[.string ⟨#[]⟩, .string ⟨#[]⟩, .string ⟨#[]⟩, .bool false, .bool false] 45))
          have c1_1 : (wr.alloc (.cells #[.string ⟨#[]⟩, .string ⟨#[]⟩, .string ⟨#[]⟩, .bool false, .bool false] 45)).cell? ⟨ba, oa + i * 2, none⟩ = some (.string x) := cellB bx.out (by omega) c1
          have c2_1 : (wr.alloc (.cells #[.string ⟨#[]⟩, .string ⟨#[]⟩, .string ⟨#[]⟩, .bool false, .bool false] 45)).cell? ⟨ba, oa + i * 2 + 1, none⟩ = some (.string y) := cellB bx.out (by omega) c2
          have g1_1 : (wr.alloc (.cells #[.string ⟨#[]⟩, .string ⟨#[]⟩, .string ⟨#[]⟩, .bool false, .bool false] 45)).cell? ⟨bb, ob + k * 2, none⟩ = some (.string u) := cellB bx.out (by omega) g1
          have g2_1 : (wr.alloc (.cells #[.string ⟨#[]⟩, .string ⟨#[]⟩, .string ⟨#[]⟩, .bool false, .bool false] 45)).cell? ⟨bb, ob + k * 2 + 1, none⟩ = some (.string v) := cellB bx.out (by omega) g2
          clear c1 c2 g1 g2
          generalize wr.alloc (.cells #[.string ⟨#[]⟩, .string ⟨#[]⟩, .string ⟨#[]⟩, .bool false, .bool false] 45) = W0 at *
          go_quiet (fail)
          have b1 := hide (below_drewN bx.out nq)
          have Bx1 : Hid (Box (W0.drewN nq) wr.heap.size emC) := hide Bx.out
          have c1_2 : (W0.drewN nq).cell? ⟨ba, oa + i * 2, none⟩ = some (.string x) := c1_1
          have c2_2 : (W0.drewN nq).cell? ⟨ba, oa + i * 2 + 1, none⟩ = some (.string y) := c2_1
          have g1_2 : (W0.drewN nq).cell? ⟨bb, ob + k * 2, none⟩ = some (.string u) := g1_1
          have g2_2 : (W0.drewN nq).cell? ⟨bb, ob + k * 2 + 1, none⟩ = some (.string v) := g2_1
          clear bx Bx c1_1 c2_1 g1_1 g2_1
          generalize W0.drewN nq = W1 at *
          have b2 := b1
          have Bx2 := Bx1
          have c1_3 := c1_2
          have c2_3 := c2_2
          have g1_3 := g1_2
          have g2_3 := g2_2
          clear b1 Bx1 c1_2 c2_2 g1_2 g2_2
          have zb2 : wr.heap.size < W1.heap.size := (Array.getElem?_eq_some_iff.1 Bx2.out).1
          obtain ⟨e0, e1, e2, e3, e4⟩ := Bx2.out.cells
          have f0 := Bx2.out.frozen 0
          have f1 := Bx2.out.frozen 1
          have f2 := Bx2.out.frozen 2
          have f3 := Bx2.out.frozen 3
          have f4 := Bx2.out.frozen 4
          simp only [Nat.zero_add] at e1 e2 e3 e4
          have nbb : ¬ bb = wr.heap.size := by omega
          have nba : ¬ ba = wr.heap.size := by omega
          go_wp2
          have b3 : Hid (Below wr.heap.size wr (W1.setCell ⟨wr.heap.size, 0, none⟩ (.string u))) := hide (b2.out.setCell (Nat.le_refl _) _)
          go_quiet (fail)
          have b4 := hide (below_drewN b3.out nq)
          have hq0 := hqs
          have b5 : Hid (Below wr.heap.size wr ((((W1.setCell ⟨wr.heap.size, 0, none⟩ (.string u)).drewN nq).setCell ⟨wr.heap.size, 2, none⟩ (.string v)).setCell ⟨wr.heap.size, 4, none⟩ (.bool true))) := hide ((b4.out.setCell (Nat.le_refl _) _).setCell (Nat.le_refl _) _)
          have sz : Hid (cC (u, ByteArray.empty, v, false, true)) := hide ⟨t1, by simp [maxLen], t2⟩
          have O4 := hide (O.out.below b5.out)
          have Q4 := hide (Q.out.trans (b5.out.mono hqs))
          have hq4 := Q4.out.size
          clear b2 b3 b4 b5 Bx2
          go_wp2_with (at_builtin; (refine wpList_appC (l := d) (l' := [(u, ByteArray.empty, v, false, true)]) 27 Try.underlying27 rfl (.tmp 100) (.tmp 102) rfl rfl rfl rfl rfl (O4.out.alloc _) (HIn.oneAt (u, ByteArray.empty, v, false, true) sz.out _ (by simp)) (by simp) (Nat.le_trans hq4 (by simp)) (by have := L.out; simp; omega) ?_; intro A3 cap3 w3 own3 g3 r3; have B3 := hide (Q4.out.trans (((Below.refl _ _).alloc hq4 _).trans ((O4.out.alloc (.cells (arrC (u, ByteArray.empty, v, false, true)) 45)).grownBelow (by rw [rowOf_own]; exact g3) (Nat.le_trans hq4 (by simp))))); have O3 := hide own3; clear own3 g3 r3))
          have L3 : Hid ((d ++ [(u, ByteArray.empty, v, false, true)]).length ≤ i + k + 1) := hide (by have := L.out; simp; omega)
          exact ⟨⟨i, k + 1, A3, cap3, d ++ [(u, ByteArray.empty, v, false, true)], by omega, by omega, by go_num, by go_num, by simp, DS, L3, O3, B3⟩, by simp [intOf]; omega⟩
      · have ek : ((k : Int) == (nb : Int)) = true := by rw [beq_iff_eq]; omega
        have ek2 : decide ((k : Int) < (nb : Int)) = false := decide_eq_false (by omega)
        have DS : Hid ((d ++ [((a[i]'hia).1, (a[i]'hia).2, ByteArray.empty, true, false)]) ++ difM (a.drop (i + 1)) (b.drop k) = difM a b) := hide (by
          rw [← D.out, dif_loss hia (fun h => absurd h (by rw [HB.out]; omega)), List.append_assoc]; rfl)
        generalize (a[i]'hia).1 = x at *
        generalize (a[i]'hia).2 = y at *
        clear in1 hca D
        go_wp2
        have bx := hide ((Below.refl wr.heap.size wr).alloc (Nat.le_refl _) (.cells #[.string ⟨#[]⟩, .string ⟨#[]⟩, .string ⟨#[]⟩, .bool false, .bool false] 45))
        have Bx : Hid (Box (wr.alloc (.cells #[.string ⟨#[]⟩, .string ⟨#[]⟩, .string ⟨#[]⟩, .bool false, .bool false] 45)) wr.heap.size emC) := hide (heap_alloc_new wr (.cells #[.string ⟨#[]⟩, .string ⟨#[]⟩, .string ⟨#[]⟩, .bool false, .bool false] 45))
        have c1_1 : (wr.alloc (.cells #[.string ⟨#[]⟩, .string ⟨#[]⟩, .string ⟨#[]⟩, .bool false, .bool false] 45)).cell? ⟨ba, oa + i * 2, none⟩ = some (.string x) := cellB bx.out (by omega) c1
        have c2_1 : (wr.alloc (.cells #[.string ⟨#[]⟩, .string ⟨#[]⟩, .string ⟨#[]⟩, .bool false, .bool false] 45)).cell? ⟨ba, oa + i * 2 + 1, none⟩ = some (.string y) := cellB bx.out (by omega) c2
        clear c1 c2
        generalize wr.alloc (.cells #[.string ⟨#[]⟩, .string ⟨#[]⟩, .string ⟨#[]⟩, .bool false, .bool false] 45) = W0 at *
        go_quiet (fail)
        go_wp2
        have b1 := hide (below_drewN bx.out nq)
        have Bx1 : Hid (Box (W0.drewN nq) wr.heap.size emC) := hide Bx.out
        have c1_2 : (W0.drewN nq).cell? ⟨ba, oa + i * 2, none⟩ = some (.string x) := c1_1
        have c2_2 : (W0.drewN nq).cell? ⟨ba, oa + i * 2 + 1, none⟩ = some (.string y) := c2_1
        clear bx Bx c1_1 c2_1
        generalize W0.drewN nq = W1 at *
        go_still_tail 11, (by kernel_rfl)
        have b2 : Hid (Below wr.heap.size wr W1.drew) := hide b1.out.drew
        have Bx2 : Hid (Box W1.drew wr.heap.size emC) := hide Bx1.out
        have c1_3 : W1.drew.cell? ⟨ba, oa + i * 2, none⟩ = some (.string x) := c1_2
        have c2_3 : W1.drew.cell? ⟨ba, oa + i * 2 + 1, none⟩ = some (.string y) := c2_2
        clear b1 Bx1 c1_2 c2_2
        change wpList _ _ _ _ _ W1.drew
        generalize W1.drew = W2 at *
        have zb2 : wr.heap.size < W2.heap.size := (Array.getElem?_eq_some_iff.1 Bx2.out).1
        obtain ⟨e0, e1, e2, e3, e4⟩ := Bx2.out.cells
        have f0 := Bx2.out.frozen 0
        have f1 := Bx2.out.frozen 1
        have f2 := Bx2.out.frozen 2
        have f3 := Bx2.out.frozen 3
        have f4 := Bx2.out.frozen 4
        simp only [Nat.zero_add] at e1 e2 e3 e4
        have nba : ¬ ba = wr.heap.size := by omega
        go_wp2
        have b3 : Hid (Below wr.heap.size wr (((((W2.setCell ⟨wr.heap.size, 0, none⟩ (.string x)).setCell ⟨wr.heap.size, 1, none⟩ (.string y)).setCell ⟨wr.heap.size, 2, none⟩ (.string ⟨#[]⟩)).setCell ⟨wr.heap.size, 3, none⟩ (.bool true)).setCell ⟨wr.heap.size, 4, none⟩ (.bool false))) := hide (((((b2.out.setCell (Nat.le_refl _) _).setCell (Nat.le_refl _) _).setCell (Nat.le_refl _) _).setCell (Nat.le_refl _) _).setCell (Nat.le_refl _) _)
        go_quiet (fail)
        have b4 := hide (below_drewN b3.out nq)
        have hq0 := hqs
        have b5 := b4
        have sz : Hid (cC (x, y, ByteArray.empty, true, false)) := hide ⟨s1, s2, by simp [maxLen]⟩
        have O4 := hide (O.out.below b5.out)
        have Q4 := hide (Q.out.trans (b5.out.mono hqs))
        have hq4 := Q4.out.size
        clear b2 b3 b4 b5 Bx2
        go_wp2_with (at_builtin; (refine wpList_appC (l := d) (l' := [(x, y, ByteArray.empty, true, false)]) 27 Try.underlying27 rfl (.tmp 100) (.tmp 102) rfl rfl rfl rfl rfl (O4.out.alloc _) (HIn.oneAt (x, y, ByteArray.empty, true, false) sz.out _ (by simp)) (by simp) (Nat.le_trans hq4 (by simp)) (by have := L.out; simp; omega) ?_; intro A3 cap3 w3 own3 g3 r3; have B3 := hide (Q4.out.trans (((Below.refl _ _).alloc hq4 _).trans ((O4.out.alloc (.cells (arrC (x, y, ByteArray.empty, true, false)) 45)).grownBelow (by rw [rowOf_own]; exact g3) (Nat.le_trans hq4 (by simp))))); have O3 := hide own3; clear own3 g3 r3))
        have L3 : Hid ((d ++ [(x, y, ByteArray.empty, true, false)]).length ≤ i + 1 + k) := hide (by have := L.out; simp; omega)
        exact ⟨⟨i + 1, k, A3, cap3, d ++ [(x, y, ByteArray.empty, true, false)], by omega, by omega, by go_num, by go_num, by simp, DS, L3, O3, B3⟩, by simp [intOf]; omega⟩
    · have hil2 : decide ((i : Int) < (na : Int)) = false := decide_eq_false (by omega)
      by_cases hkl : k < nb
      · have hkb : k < b.length := by rw [HB.out]; omega
        have in2 := IN'.out.below Q.out
        obtain ⟨bb, ob, rfl, hbb, hcb⟩ := in2.2 (by omega)
        obtain ⟨g1, g2⟩ := hcb k hkb
        obtain ⟨t1, t2⟩ := in2.1 k hkb
        have hkk : (k : Int) < (nb : Int) := by omega
        have ek : ((k : Int) == (nb : Int)) = false := by rw [beq_eq_false_iff_ne]; omega
        have ek2 : decide ((k : Int) < (nb : Int)) = true := decide_eq_true (by omega)
        have DS : Hid ((d ++ [((b[k]'hkb).1, ByteArray.empty, (b[k]'hkb).2, false, true)]) ++ difM (a.drop i) (b.drop (k + 1)) = difM a b) := hide (by
          rw [← D.out, dif_gain hkb (fun h => absurd h (by rw [HA.out]; omega)), List.append_assoc]; rfl)
        generalize (b[k]'hkb).1 = u at *
        generalize (b[k]'hkb).2 = v at *
        have r2 : (u.toList == u.toList) = true := by simp
        clear in2 hcb D
        go_wp2
        have bx := hide ((Below.refl wr.heap.size wr).alloc (Nat.le_refl _) (.cells #[.string ⟨#[]⟩, .string ⟨#[]⟩, .string ⟨#[]⟩, .bool false, .bool false] 45))
        have Bx : Hid (Box (wr.alloc (.cells #[.string ⟨#[]⟩, .string ⟨#[]⟩, .string ⟨#[]⟩, .bool false, .bool false] 45)) wr.heap.size emC) := hide (heap_alloc_new wr (.cells #[.string ⟨#[]⟩, .string ⟨#[]⟩, .string ⟨#[]⟩, .bool false, .bool false] 45))
        have g1_1 : (wr.alloc (.cells #[.string ⟨#[]⟩, .string ⟨#[]⟩, .string ⟨#[]⟩, .bool false, .bool false] 45)).cell? ⟨bb, ob + k * 2, none⟩ = some (.string u) := cellB bx.out (by omega) g1
        have g2_1 : (wr.alloc (.cells #[.string ⟨#[]⟩, .string ⟨#[]⟩, .string ⟨#[]⟩, .bool false, .bool false] 45)).cell? ⟨bb, ob + k * 2 + 1, none⟩ = some (.string v) := cellB bx.out (by omega) g2
        clear g1 g2
        generalize wr.alloc (.cells #[.string ⟨#[]⟩, .string ⟨#[]⟩, .string ⟨#[]⟩, .bool false, .bool false] 45) = W0 at *
        go_quiet (fail)
        have b1 := hide (below_drewN bx.out nq)
        have Bx1 : Hid (Box (W0.drewN nq) wr.heap.size emC) := hide Bx.out
        have g1_2 : (W0.drewN nq).cell? ⟨bb, ob + k * 2, none⟩ = some (.string u) := g1_1
        have g2_2 : (W0.drewN nq).cell? ⟨bb, ob + k * 2 + 1, none⟩ = some (.string v) := g2_1
        clear bx Bx g1_1 g2_1
        generalize W0.drewN nq = W1 at *
        have b2 := b1
        have Bx2 := Bx1
        have g1_3 := g1_2
        have g2_3 := g2_2
        clear b1 Bx1 g1_2 g2_2
        have zb2 : wr.heap.size < W1.heap.size := (Array.getElem?_eq_some_iff.1 Bx2.out).1
        obtain ⟨e0, e1, e2, e3, e4⟩ := Bx2.out.cells
        have f0 := Bx2.out.frozen 0
        have f1 := Bx2.out.frozen 1
        have f2 := Bx2.out.frozen 2
        have f3 := Bx2.out.frozen 3
        have f4 := Bx2.out.frozen 4
        simp only [Nat.zero_add] at e1 e2 e3 e4
        have nbb : ¬ bb = wr.heap.size := by omega
        go_wp2
        have b3 : Hid (Below wr.heap.size wr (W1.setCell ⟨wr.heap.size, 0, none⟩ (.string u))) := hide (b2.out.setCell (Nat.le_refl _) _)
        go_quiet (fail)
        have b4 := hide (below_drewN b3.out nq)
        have hq0 := hqs
        have b5 : Hid (Below wr.heap.size wr ((((W1.setCell ⟨wr.heap.size, 0, none⟩ (.string u)).drewN nq).setCell ⟨wr.heap.size, 2, none⟩ (.string v)).setCell ⟨wr.heap.size, 4, none⟩ (.bool true))) := hide ((b4.out.setCell (Nat.le_refl _) _).setCell (Nat.le_refl _) _)
        have sz : Hid (cC (u, ByteArray.empty, v, false, true)) := hide ⟨t1, by simp [maxLen], t2⟩
        have O4 := hide (O.out.below b5.out)
        have Q4 := hide (Q.out.trans (b5.out.mono hqs))
        have hq4 := Q4.out.size
        clear b2 b3 b4 b5 Bx2
        go_wp2_with (at_builtin; (refine wpList_appC (l := d) (l' := [(u, ByteArray.empty, v, false, true)]) 27 Try.underlying27 rfl (.tmp 100) (.tmp 102) rfl rfl rfl rfl rfl (O4.out.alloc _) (HIn.oneAt (u, ByteArray.empty, v, false, true) sz.out _ (by simp)) (by simp) (Nat.le_trans hq4 (by simp)) (by have := L.out; simp; omega) ?_; intro A3 cap3 w3 own3 g3 r3; have B3 := hide (Q4.out.trans (((Below.refl _ _).alloc hq4 _).trans ((O4.out.alloc (.cells (arrC (u, ByteArray.empty, v, false, true)) 45)).grownBelow (by rw [rowOf_own]; exact g3) (Nat.le_trans hq4 (by simp))))); have O3 := hide own3; clear own3 g3 r3))
        have L3 : Hid ((d ++ [(u, ByteArray.empty, v, false, true)]).length ≤ i + k + 1) := hide (by have := L.out; simp; omega)
        exact ⟨⟨i, k + 1, A3, cap3, d ++ [(u, ByteArray.empty, v, false, true)], by omega, by omega, by go_num, by go_num, by simp, DS, L3, O3, B3⟩, by simp [intOf]; omega⟩
      · have hkl2 : decide ((k : Int) < (nb : Int)) = false := decide_eq_false (by omega)
        have E : Hid (d = difM a b) := hide (by have h7 := D.out; rw [dif_end (by rw [HA.out]; omega) (by rw [HB.out]; omega), List.append_nil] at h7; exact h7)
        have hni : ¬ ((i : Int) < (na : Int)) := by omega
        have hnk : ¬ ((k : Int) < (nb : Int)) := by omega
        clear D L
        go_wp2
        go_ret
        refine ⟨A2, cap2, ?_, ?_, ?_, Q.out⟩
        · rw [← E.out]; exact O.out.cap_le
        · rw [← E.out]; rfl
        · rw [← E.out]; exact O.out
end Go.Proofs.Ytcpalnkcjcgaeaa
