/-
  What the laws' own toDisk answers: a disk whose rows are the call's own.
-/
import Derived.Test.YtblggbihnglipaaDLwF
namespace Go.Proofs.Ytblggbihnglipaa
open Go.RowKit

theorem box_set {w : World} {g i : Nat} {cur : Array Value} {t : TypeId} {fr : Nat × Nat} (v : Value) (h : w.heap[g]? = some (.cells cur t fr)) : (w.setCell ⟨g, i, none⟩ v).heap[g]? = some (.cells (cur.setIfInBounds i v) t fr) := by
  rw [setCell_eq_setRow w g i cur t fr v h]
  exact setRow_heap w g cur _ t fr h
theorem set_grown (w : World) (g o : Nat) (v : Value) : w.grownBy (w.setCell ⟨g, o, none⟩ v) (some g) := ⟨rfl, rfl, rfl, by simp [World.setCell], fun k _ hk => Below.heap_setCell w ⟨g, o, none⟩ v k (fun e => hk (by rw [e]))⟩
theorem Own.set {w : World} {B : Nat} {A : Option Addr} {cap : Nat} {l : List Pr} (h : Own w B A cap l) {g : Nat} (hg : g < B) (o : Nat) (v : Value) : Own (w.setCell ⟨g, o, none⟩ v) B A cap l :=
  h.apart (A' := some ⟨g, 0, none⟩) (set_grown w g o v) (fun k hk e => by have := (h.row k hk).1; injection e with e; dsimp only at e; omega)
theorem DOwn.set {w : World} {B : Nat} {A : Option Addr} {cap : Nat} {l : List Dp} (h : DOwn w B A cap l) {g : Nat} (hg : g < B) (o : Nat) (v : Value) : DOwn (w.setCell ⟨g, o, none⟩ v) B A cap l :=
  h.apart (A' := some ⟨g, 0, none⟩) (set_grown w g o v) (fun k hk e => by have := (h.row k hk).1; injection e with e; dsimp only at e; omega)
set_option maxRecDepth 100000 in
set_option maxHeartbeats 2000000 in
theorem toDisk_any (A1 A2 A3 : Option Addr) (d : Dk) (c1 c2 c3 : Nat) (w : World) (hd : dskS d) (hin : DkIn w w.heap.size A1 A2 A3 d) :
    Calls Try.prog 14 #[.agg #[.slice A1 d.1.length c1, .slice A2 d.2.1.length c2, .slice A3 d.2.2.length c3]] w (RetK w.heap.size d w) := by
  obtain ⟨lv, sf, os⟩ := d
  obtain ⟨i1, i2, i3⟩ := hin
  obtain ⟨g1, g2, g3, _⟩ := hd
  dsimp only at g1 g2 g3 i1 i2 i3 ⊢
  have T1 : Hid (∀ W, Below w.heap.size w W → Calls Try.prog 45 #[.slice A1 lv.length c1] W fun e w' => e = .returned (.slice (some ⟨W.heap.size, 0, none⟩) lv.length lv.length) ∧ Own w' W.heap.size (some ⟨W.heap.size, 0, none⟩) lv.length lv ∧ Below W.heap.size W w') := hide (fun W h => toPairS_any A1 lv c1 W g1 ((i1.below h).more h.size))
  have T2 : Hid (∀ W, Below w.heap.size w W → Calls Try.prog 45 #[.slice A2 sf.length c2] W fun e w' => e = .returned (.slice (some ⟨W.heap.size, 0, none⟩) sf.length sf.length) ∧ Own w' W.heap.size (some ⟨W.heap.size, 0, none⟩) sf.length sf ∧ Below W.heap.size W w') := hide (fun W h => toPairS_any A2 sf c2 W g2 ((i2.below h).more h.size))
  have T3 : Hid (∀ W, Below w.heap.size w W → Calls Try.prog 46 #[.slice A3 os.length c3] W fun e w' => e = .returned (.slice (some ⟨W.heap.size, 0, none⟩) os.length os.length) ∧ DOwn w' W.heap.size (some ⟨W.heap.size, 0, none⟩) os.length os ∧ Below W.heap.size W w') := hide (fun W h => toDOpS_any A3 os c3 W g3 ((i3.below h).more h.size))
  have FIN : Hid (∀ (W : World) (a b c : Nat), w.heap.size ≤ a → w.heap.size ≤ b → w.heap.size ≤ c → a ≠ b → Own W a (some ⟨a, 0, none⟩) lv.length lv → Own W b (some ⟨b, 0, none⟩) sf.length sf → DOwn W c (some ⟨c, 0, none⟩) os.length os → Below w.heap.size w W →
      RetK w.heap.size (lv, sf, os) w (.returned (.agg #[.slice (some ⟨a, 0, none⟩) lv.length lv.length, .slice (some ⟨b, 0, none⟩) sf.length sf.length, .slice (some ⟨c, 0, none⟩) os.length os.length])) W) := hide (fun W a b c ha hb hc hne oa ob oc bw =>
    ⟨_, _, _, _, _, _, rfl, ⟨oa.more ha, ob.more hb, oc.more hc, fun g h1 h2 => by injection h1 with h1; injection h2 with h2; exact hne (h1.trans h2.symm)⟩, bw⟩)
  clear i1 i2 i3 g1 g2 g3
  generalize lv.length = n1 at *
  generalize sf.length = n2 at *
  generalize os.length = n3 at *
  have XR := heap_alloc_new w (.cells #[.slice A1 n1 c1, .slice A2 n2 c2, .slice A3 n3 c3] 25)
  have b0 := (Below.refl w.heap.size w).alloc (Nat.le_refl _) (.cells #[.slice A1 n1 c1, .slice A2 n2 c2, .slice A3 n3 c3] 25)
  have s0 : (w.alloc (.cells #[.slice A1 n1 c1, .slice A2 n2 c2, .slice A3 n3 c3] 25)).heap.size = w.heap.size + 1 := by simp
  obtain ⟨w0, hw0⟩ : ∃ W, w.alloc (.cells #[.slice A1 n1 c1, .slice A2 n2 c2, .slice A3 n3 c3] 25) = W := ⟨_, rfl⟩
  rw [hw0] at XR b0 s0
  have YR := heap_alloc_new w0 (.cells #[.slice none 0 0, .slice none 0 0, .slice none 0 0] 31)
  have b1 := (Below.refl w0.heap.size w0).alloc (Nat.le_refl _) (.cells #[.slice none 0 0, .slice none 0 0, .slice none 0 0] 31)
  have s1 : (w0.alloc (.cells #[.slice none 0 0, .slice none 0 0, .slice none 0 0] 31)).heap.size = w0.heap.size + 1 := by simp
  obtain ⟨w1, hw1⟩ : ∃ W, w0.alloc (.cells #[.slice none 0 0, .slice none 0 0, .slice none 0 0] 31) = W := ⟨_, rfl⟩
  rw [hw1] at YR b1 s1
  have ZR := heap_alloc_new w1 (.cells #[.slice none 0 0, .slice none 0 0, .slice none 0 0] 31)
  have b2 := (Below.refl w1.heap.size w1).alloc (Nat.le_refl _) (.cells #[.slice none 0 0, .slice none 0 0, .slice none 0 0] 31)
  have s2 : (w1.alloc (.cells #[.slice none 0 0, .slice none 0 0, .slice none 0 0] 31)).heap.size = w1.heap.size + 1 := by simp
  obtain ⟨w2, hw2⟩ : ∃ W, w1.alloc (.cells #[.slice none 0 0, .slice none 0 0, .slice none 0 0] 31) = W := ⟨_, rfl⟩
  rw [hw2] at ZR b2 s2
  have X2 := hide (heap_at (heap_at XR b1 (by omega)) b2 (by omega))
  have Y2 := hide (heap_at YR b2 (by omega))
  have Z2 := hide ZR
  have B2 := hide ((b0.trans (b1.mono b0.size)).trans (b2.mono (by omega)))
  have E1 : Hid (w0.heap.size = w.heap.size + 1) := hide s0
  have E2 : Hid (w1.heap.size = w.heap.size + 1 + 1) := hide (by omega)
  have E3 : Hid (w2.heap.size = w.heap.size + 1 + 1 + 1) := hide (by omega)
  have x0 := cell_of_row _ _ 0 _ _ _ X2.out
  have s1' : w0.heap.size = w.heap.size + 1 := s0
  have s2' : w1.heap.size = w.heap.size + 1 + 1 := by omega
  rw [s1'] at Y2
  rw [s2'] at Z2
  clear XR YR ZR b0 b1 b2 s0 s1 s2
  go_enter Try.func14, Try.ntmps14
  go_wp2_with fail
  clear hw0 hw1 hw2 x0 s1' s2'
  refine (T1.out _ B2.out).mono ?_
  rintro e w3 ⟨rfl, o3, b3⟩
  have X3 := hide (heap_at X2.out b3 (by have := E3.out; omega))
  have Y3 := hide (heap_at Y2.out b3 (by have := E3.out; omega))
  have Z3 := hide (heap_at Z2.out b3 (by have := E3.out; omega))
  have B3 := hide (B2.out.trans (b3.mono B2.out.size))
  have O3 := hide o3
  have r3 := hide b3.size
  clear o3 b3 X2 Y2 Z2 T1
  generalize w2.heap.size = a1 at *
  have z0 := cell_of_row _ _ 0 _ _ _ Z3.out
  have f0 := frozen_of_row _ _ 0 _ _ Z3.out
  have X4 := hide ((heap_setCell_other w3 ⟨w.heap.size + 1 + 1, 0, none⟩ w.heap.size (.slice (some ⟨a1, 0, none⟩) n1 n1) (by show w.heap.size ≠ w.heap.size + 1 + 1; omega)).trans X3.out)
  have Y4 := hide ((heap_setCell_other w3 ⟨w.heap.size + 1 + 1, 0, none⟩ (w.heap.size + 1) (.slice (some ⟨a1, 0, none⟩) n1 n1) (by show w.heap.size + 1 ≠ w.heap.size + 1 + 1; omega)).trans Y3.out)
  have Z4 := hide (box_set (i := 0) (.slice (some ⟨a1, 0, none⟩) n1 n1) Z3.out)
  have B4 := hide (B3.out.setCell (p := ⟨w.heap.size + 1 + 1, 0, none⟩) (show w.heap.size ≤ w.heap.size + 1 + 1 by omega) (.slice (some ⟨a1, 0, none⟩) n1 n1))
  have O4 := hide (O3.out.set (g := w.heap.size + 1 + 1) (by have := E3.out; omega) 0 (.slice (some ⟨a1, 0, none⟩) n1 n1))
  have r4 : Hid ((w3.setCell ⟨w.heap.size + 1 + 1, 0, none⟩ (.slice (some ⟨a1, 0, none⟩) n1 n1)).heap.size = w3.heap.size) := hide (by simp [World.setCell])
  obtain ⟨w4, hw4⟩ : ∃ W, w3.setCell ⟨w.heap.size + 1 + 1, 0, none⟩ (.slice (some ⟨a1, 0, none⟩) n1 n1) = W := ⟨_, rfl⟩
  rw [hw4] at X4 Y4 Z4 B4 O4 r4
  have x1 := cell_of_row _ _ 1 _ _ _ X4.out
  clear X3 Y3 Z3 B3 O3
  go_wp2_with fail
  clear hw4 x1 z0 f0
  have r5 : Hid (a1 < w4.heap.size) := hide (by have h := (O4.out.row a1 rfl).2; exact h)
  refine (T2.out _ B4.out).mono ?_
  rintro e w5 ⟨rfl, o5, b5⟩
  have X5 := hide (heap_at X4.out b5 (by have := r4.out; have := r3.out; have := E3.out; omega))
  have Y5 := hide (heap_at Y4.out b5 (by have := r4.out; have := r3.out; have := E3.out; omega))
  have Z5 := hide (heap_at Z4.out b5 (by have := r4.out; have := r3.out; have := E3.out; omega))
  have B5 := hide (B4.out.trans (b5.mono B4.out.size))
  have O5 := hide (O4.out.below b5)
  have P5 := hide o5
  have r6 : Hid (w4.heap.size ≤ w5.heap.size) := hide b5.size
  have r7 : Hid (w.heap.size + 1 + 1 < w4.heap.size) := hide (by have := r4.out; have := r3.out; have := E3.out; omega)
  clear o5 b5 X4 Y4 Z4 B4 O4 T2 r3 r4
  generalize w4.heap.size = a2 at *
  have z0 := cell_of_row _ _ 1 _ _ _ Z5.out
  have f0 := frozen_of_row _ _ 1 _ _ Z5.out
  have X6 := hide ((heap_setCell_other w5 ⟨w.heap.size + 1 + 1, 1, none⟩ w.heap.size (.slice (some ⟨a2, 0, none⟩) n2 n2) (by show w.heap.size ≠ w.heap.size + 1 + 1; omega)).trans X5.out)
  have Y6 := hide ((heap_setCell_other w5 ⟨w.heap.size + 1 + 1, 1, none⟩ (w.heap.size + 1) (.slice (some ⟨a2, 0, none⟩) n2 n2) (by show w.heap.size + 1 ≠ w.heap.size + 1 + 1; omega)).trans Y5.out)
  have Z6 := hide (box_set (i := 1) (.slice (some ⟨a2, 0, none⟩) n2 n2) Z5.out)
  have B6 := hide (B5.out.setCell (p := ⟨w.heap.size + 1 + 1, 1, none⟩) (show w.heap.size ≤ w.heap.size + 1 + 1 by omega) (.slice (some ⟨a2, 0, none⟩) n2 n2))
  have O6 := hide (O5.out.set (g := w.heap.size + 1 + 1) (by have := E3.out; omega) 1 (.slice (some ⟨a2, 0, none⟩) n2 n2))
  have P6 := hide (P5.out.set (g := w.heap.size + 1 + 1) r7.out 1 (.slice (some ⟨a2, 0, none⟩) n2 n2))
  have r8 : Hid ((w5.setCell ⟨w.heap.size + 1 + 1, 1, none⟩ (.slice (some ⟨a2, 0, none⟩) n2 n2)).heap.size = w5.heap.size) := hide (by simp [World.setCell])
  obtain ⟨w6, hw6⟩ : ∃ W, w5.setCell ⟨w.heap.size + 1 + 1, 1, none⟩ (.slice (some ⟨a2, 0, none⟩) n2 n2) = W := ⟨_, rfl⟩
  rw [hw6] at X6 Y6 Z6 B6 O6 P6 r8
  have x1 := cell_of_row _ _ 2 _ _ _ X6.out
  clear X5 Y5 Z5 B5 O5 P5
  go_wp2_with fail
  clear hw6 x1 z0 f0
  refine (T3.out _ B6.out).mono ?_
  rintro e w7 ⟨rfl, o7, b7⟩
  have r9 : Hid (w.heap.size + 1 + 1 < w6.heap.size) := hide (by have := r8.out; have := r7.out; have := r6.out; omega)
  have Y7 := hide (heap_at Y6.out b7 (by have := r9.out; omega))
  have Z7 := hide (heap_at Z6.out b7 (by have := r9.out; omega))
  have B7 := hide (B6.out.trans (b7.mono B6.out.size))
  have O7 := hide (O6.out.below b7)
  have P7 := hide (P6.out.below b7)
  have Q7 := hide o7
  clear o7 b7 X6 Y6 Z6 B6 O6 P6 T3 r8
  generalize w6.heap.size = a3 at *
  have z0 := cell_of_row _ _ 2 _ _ _ Z7.out
  have f0 := frozen_of_row _ _ 2 _ _ Z7.out
  have Y8 := hide ((heap_setCell_other w7 ⟨w.heap.size + 1 + 1, 2, none⟩ (w.heap.size + 1) (.slice (some ⟨a3, 0, none⟩) n3 n3) (by show w.heap.size + 1 ≠ w.heap.size + 1 + 1; omega)).trans Y7.out)
  have Z8 := hide (box_set (i := 2) (.slice (some ⟨a3, 0, none⟩) n3 n3) Z7.out)
  have B8 := hide (B7.out.setCell (p := ⟨w.heap.size + 1 + 1, 2, none⟩) (show w.heap.size ≤ w.heap.size + 1 + 1 by omega) (.slice (some ⟨a3, 0, none⟩) n3 n3))
  have O8 := hide (O7.out.set (g := w.heap.size + 1 + 1) (by have := E3.out; omega) 2 (.slice (some ⟨a3, 0, none⟩) n3 n3))
  have P8 := hide (P7.out.set (g := w.heap.size + 1 + 1) r7.out 2 (.slice (some ⟨a3, 0, none⟩) n3 n3))
  have Q8 := hide (Q7.out.set (g := w.heap.size + 1 + 1) r9.out 2 (.slice (some ⟨a3, 0, none⟩) n3 n3))
  obtain ⟨w8, hw8⟩ : ∃ W, w7.setCell ⟨w.heap.size + 1 + 1, 2, none⟩ (.slice (some ⟨a3, 0, none⟩) n3 n3) = W := ⟨_, rfl⟩
  rw [hw8] at Y8 Z8 B8 O8 P8 Q8
  have q0 := cell_of_row _ _ 0 _ _ _ Z8.out
  have q1 := cell_of_row _ _ 1 _ _ _ Z8.out
  have q2 := cell_of_row _ _ 2 _ _ _ Z8.out
  have p0 := cell_of_row _ _ 0 _ _ _ Y8.out
  have p1 := cell_of_row _ _ 1 _ _ _ Y8.out
  have p2 := cell_of_row _ _ 2 _ _ _ Y8.out
  have k0 := frozen_of_row _ _ 0 _ _ Y8.out
  have k1 := frozen_of_row _ _ 1 _ _ Y8.out
  have k2 := frozen_of_row _ _ 2 _ _ Y8.out
  have N : Hid (RetK w.heap.size (lv, sf, os) w (.returned (.agg #[.slice (some ⟨a1, 0, none⟩) n1 n1, .slice (some ⟨a2, 0, none⟩) n2 n2, .slice (some ⟨a3, 0, none⟩) n3 n3])) (((w8.setCell ⟨w.heap.size + 1, 0, none⟩ (.slice (some ⟨a1, 0, none⟩) n1 n1)).setCell ⟨w.heap.size + 1, 1, none⟩ (.slice (some ⟨a2, 0, none⟩) n2 n2)).setCell ⟨w.heap.size + 1, 2, none⟩ (.slice (some ⟨a3, 0, none⟩) n3 n3))) := hide
    (FIN.out _ a1 a2 a3 (by have := E3.out; omega) (by have := r7.out; omega) (by have := r9.out; omega) (by have := r5.out; omega)
      (((O8.out.set (g := w.heap.size + 1) (by have := E3.out; omega) 0 _).set (by have := E3.out; omega) 1 _).set (by have := E3.out; omega) 2 _)
      (((P8.out.set (g := w.heap.size + 1) (by have := r7.out; omega) 0 _).set (by have := r7.out; omega) 1 _).set (by have := r7.out; omega) 2 _)
      (((Q8.out.set (g := w.heap.size + 1) (by have := r9.out; omega) 0 _).set (by have := r9.out; omega) 1 _).set (by have := r9.out; omega) 2 _)
      (((B8.out.setCell (p := ⟨w.heap.size + 1, 0, none⟩) (Nat.le_succ _) _).setCell (p := ⟨w.heap.size + 1, 1, none⟩) (Nat.le_succ _) _).setCell (p := ⟨w.heap.size + 1, 2, none⟩) (Nat.le_succ _) _))
  clear Y7 Z7 B7 O7 P7 Q7 Y8 Z8 B8 O8 P8 Q8 FIN r5 r6 r7 r9 E1 E2 E3
  go_wp2_with fail
  exact bodyPost_ret (v := .agg #[.slice (some ⟨a1, 0, none⟩) n1 n1, .slice (some ⟨a2, 0, none⟩) n2 n2, .slice (some ⟨a3, 0, none⟩) n3 n3]) (by simp [results, Try.results14, go_sem, p0, p1, p2]) rfl N.out
end Go.Proofs.Ytblggbihnglipaa
