/-
  Texts that this proof leans on, joined: JL.
-/
import Derived.Test.YtdahpnjamlfakaaGreatDoorJD
import Derived.Test.YtdahpnjamlfakaaGreatDoorJW
import Derived.Test.YtdahpnjamlfakaaGreatDoorPCell
import Derived.Test.YtdahpnjamlfakaaGreatDoorJB
import Derived.Test.YtdahpnjamlfakaaGreatDoorJC
import Derived.Test.YtdahpnjamlfakaaGreatDoorJO
import Derived.Test.YtdahpnjamlfakaaGreatDoorJR
/-
  How deep a commit is, where there are no rings.
-/
namespace Go.Proofs.YtdahpnjamlfakaaGreatDoor
open Go.RowKit

/-- one more than the most of some; none of none -/
def mxF (f : ByteArray → Nat) : List ByteArray → Nat → Nat
  | [], m => m
  | q :: r, m => mxF f r (max m (f q + 1))
def mxP (f : ByteArray → Nat) (ps : List ByteArray) : Nat := mxF f ps 0
theorem mxF_le {f : ByteArray → Nat} {n : Nat} : ∀ {ps : List ByteArray} {m : Nat}, mxF f ps m ≤ n ↔ m ≤ n ∧ ∀ q ∈ ps, f q + 1 ≤ n
  | [], m => by simp [mxF]
  | q :: r, m => by
    unfold mxF
    rw [mxF_le]
    constructor
    · rintro ⟨h1, h2⟩
      refine ⟨by omega, fun x hx => ?_⟩
      rcases List.mem_cons.1 hx with e | e
      · subst e; omega
      · exact h2 x e
    · rintro ⟨h1, h2⟩
      have := h2 q (List.mem_cons_self ..)
      exact ⟨by omega, fun x hx => h2 x (List.mem_cons_of_mem _ hx)⟩
theorem mxP_le {f : ByteArray → Nat} {n : Nat} {ps : List ByteArray} : mxP f ps ≤ n ↔ ∀ q ∈ ps, f q + 1 ≤ n := by
  unfold mxP
  rw [mxF_le]
  exact ⟨fun h => h.2, fun h => ⟨Nat.zero_le _, h⟩⟩
theorem mxP_ge {f : ByteArray → Nat} {ps : List ByteArray} {q : ByteArray} (h : q ∈ ps) : f q + 1 ≤ mxP f ps := mxP_le.1 (Nat.le_refl _) q h
theorem mxP_congr {f g : ByteArray → Nat} {ps : List ByteArray} (h : ∀ q ∈ ps, f q = g q) : mxP f ps = mxP g ps := by
  refine Nat.le_antisymm (mxP_le.2 fun q hq => ?_) (mxP_le.2 fun q hq => ?_)
  · rw [h q hq]; exact mxP_ge hq
  · rw [← h q hq]; exact mxP_ge hq
theorem mxP_has {f : ByteArray → Nat} {ps : List ByteArray} {n : Nat} (h : mxP f ps = n + 1) : ∃ q ∈ ps, f q = n := by
  apply Classical.byContradiction
  intro hn
  have : mxP f ps ≤ n := mxP_le.2 fun q hq => by
    have h1 := mxP_ge (f := f) hq
    have h2 : f q ≠ n := fun e => hn ⟨q, hq, e⟩
    omega
  omega
theorem mxP_snoc (f : ByteArray → Nat) (ps : List ByteArray) (q : ByteArray) : mxP f (ps ++ [q]) = max (mxP f ps) (f q + 1) := by
  have : ∀ (ps : List ByteArray) (m : Nat), mxF f (ps ++ [q]) m = max (mxF f ps m) (f q + 1) := by
    intro ps
    induction ps with
    | nil => intro m; rfl
    | cons a r ih => intro m; exact ih _
  exact this ps 0
/-- each is one deeper than the deepest of its parents -/
def IsDep (l : List Pr) (D : ByteArray → Nat) : Prop := ∀ k, D k = mxP D (parK l k)
noncomputable def depN (l : List Pr) : Nat → ByteArray → Nat
  | 0, _ => 0
  | n + 1, k => mxP (depN l n) (parK l k)
theorem depN_stable {l : List Pr} {rk : ByteArray → Nat} (h : ∀ k, ∀ q ∈ parK l k, rk q < rk k) : ∀ n k, rk k < n → ∀ m, n ≤ m → depN l m k = depN l n k
  | 0, k, hk, _, _ => absurd hk (by omega)
  | n + 1, k, hk, m, hm => by
    obtain ⟨m', rfl⟩ : ∃ m', m = m' + 1 := ⟨m - 1, by omega⟩
    refine mxP_congr fun q hq => ?_
    have := h k q hq
    exact depN_stable h n q (by omega) m' (by omega)
theorem acy_dep {l : List Pr} (h : Acy l) : ∃ D, IsDep l D := by
  obtain ⟨rk, hrk⟩ := h
  refine ⟨fun k => depN l (rk k + 1) k, fun k => ?_⟩
  refine mxP_congr fun q hq => ?_
  have := hrk k q hq
  exact depN_stable hrk (rk q + 1) q (by omega) (rk k) (by omega)
open Classical in
noncomputable def depK (l : List Pr) : ByteArray → Nat := if h : ∃ D, IsDep l D then Classical.choose h else fun _ => 0
theorem depK_is {l : List Pr} (h : Acy l) : IsDep l (depK l) := by
  have h' := acy_dep h
  unfold depK
  rw [dif_pos h']
  exact Classical.choose_spec h'
theorem dep_lt {l : List Pr} {D : ByteArray → Nat} (h : IsDep l D) {k q : ByteArray} (hq : q ∈ parK l k) : D q < D k := by
  rw [h k]
  exact mxP_ge hq
theorem dep_reach {l : List Pr} {D : ByteArray → Nat} (h : IsDep l D) {a b : ByteArray} (hr : Reach l a b) : b = a ∨ D b < D a := by
  rcases reach_rk (rk := D) (fun k q hq => dep_lt h hq) hr with e | e
  · exact .inl e
  · exact .inr e
/-- as many others are behind it as it is deep -/
theorem dep_set {l : List Pr} (hl : repoB l = true) {D : ByteArray → Nat} (h : IsDep l D) : ∀ n k, D k = n → rdOk (valOf l k) = true → ∃ S, SetC l S ∧ S.length = n + 1 ∧ ∀ z ∈ S, D z ≤ n ∧ Reach l k z
  | 0, k, hk, hr => ⟨[k], ⟨by simp, fun z hz => by rw [List.mem_singleton] at hz; subst hz; exact hr⟩, rfl, fun z hz => by rw [List.mem_singleton] at hz; subst hz; exact ⟨by omega, .self⟩⟩
  | n + 1, k, hk, hr => by
    obtain ⟨q, hq, e⟩ := mxP_has ((h k).symm.trans hk)
    obtain ⟨S, h1, h2, h3⟩ := dep_set hl h n q e (parK_com hl hq)
    refine ⟨S ++ [k], ⟨?_, ?_⟩, by simp [h2], fun z hz => ?_⟩
    · rw [List.nodup_append]
      refine ⟨h1.1, by simp, ?_⟩
      intro x hx y hy e2
      rw [List.mem_singleton] at hy
      subst hy e2
      have := (h3 _ hx).1
      omega
    · intro z hz
      rcases List.mem_append.1 hz with h4 | h4
      · exact h1.2 z h4
      · rw [List.mem_singleton] at h4; subst h4; exact hr
    · rcases List.mem_append.1 hz with h4 | h4
      · have := h3 z h4
        exact ⟨by omega, (Reach.self.next hq).trans this.2⟩
      · rw [List.mem_singleton] at h4; subst h4; exact ⟨by omega, .self⟩
theorem dep_le {l : List Pr} (hl : repoB l = true) {D : ByteArray → Nat} (h : IsDep l D) {k : ByteArray} (hr : rdOk (valOf l k) = true) : D k + 1 ≤ l.length := by
  obtain ⟨S, h1, h2, _⟩ := dep_set hl h _ k rfl hr
  have := setC_le h1
  omega
end Go.Proofs.YtdahpnjamlfakaaGreatDoor
/-
  What the program's depths come to: a list of stores, each made of those ahead of it; where parents stand ahead these are the depths.
-/
namespace Go.Proofs.YtdahpnjamlfakaaGreatDoor
open Go.RowKit

open Classical in
/-- what was stored last at a key, or 0 -/
noncomputable def lookN (L : List (ByteArray × Nat)) (q : ByteArray) : Nat := L.foldl (fun acc p => if p.1 = q then p.2 else acc) 0
theorem lookN_nil (q : ByteArray) : lookN [] q = 0 := rfl
theorem lookN_same (L : List (ByteArray × Nat)) (k : ByteArray) (v : Nat) : lookN (L ++ [(k, v)]) k = v := by
  unfold lookN
  rw [List.foldl_append]
  simp
theorem lookN_other (L : List (ByteArray × Nat)) {k q : ByteArray} (v : Nat) (h : k ≠ q) : lookN (L ++ [(k, v)]) q = lookN L q := by
  unfold lookN
  rw [List.foldl_append]
  simp [h]
/-- the stores, one for each that comes -/
noncomputable def dlK (l : List Pr) (xs : List ByteArray) : List (ByteArray × Nat) := xs.foldl (fun L x => L ++ [(x, mxP (lookN L) (parK l x))]) []
theorem dlK_nil (l : List Pr) : dlK l [] = [] := rfl
theorem dlK_snoc (l : List Pr) (xs : List ByteArray) (x : ByteArray) : dlK l (xs ++ [x]) = dlK l xs ++ [(x, mxP (lookN (dlK l xs)) (parK l x))] := by
  unfold dlK
  rw [List.foldl_append]
  rfl
theorem dlK_len (l : List Pr) (xs : List ByteArray) : (dlK l xs).length = xs.length := by
  have : ∀ (n : Nat) (xs : List ByteArray), xs.length = n → (dlK l xs).length = n := by
    intro n
    induction n with
    | zero => intro xs h; rw [List.eq_nil_of_length_eq_zero h]; rfl
    | succ n ih =>
      intro xs h
      rcases List.eq_nil_or_concat xs with e | ⟨ys, y, e⟩
      · rw [e] at h; cases h
      · rw [e, List.concat_eq_append] at h ⊢
        rw [dlK_snoc, List.length_append, ih ys (by simpa using h)]
        rfl
  exact this _ _ rfl
/-- how large a store can be -/
theorem lookN_le {L : List (ByteArray × Nat)} {m : Nat} (h : ∀ p ∈ L, p.2 ≤ m) (q : ByteArray) : lookN L q ≤ m := by
  have : ∀ (n : Nat) (L : List (ByteArray × Nat)), L.length = n → (∀ p ∈ L, p.2 ≤ m) → lookN L q ≤ m := by
    intro n
    induction n with
    | zero => intro L h _; rw [List.eq_nil_of_length_eq_zero h]; exact Nat.zero_le _
    | succ n ih =>
      intro L h hm
      rcases List.eq_nil_or_concat L with e | ⟨M, y, e⟩
      · rw [e] at h; cases h
      · rw [e, List.concat_eq_append] at h hm ⊢
        obtain ⟨k, v⟩ := y
        by_cases hk : k = q
        · subst hk
          rw [lookN_same]
          exact hm (k, v) (by simp)
        · rw [lookN_other M v hk]
          exact ih M (by simpa using h) (fun p hp => hm p (List.mem_append.2 (.inl hp)))
  exact this _ L rfl h
theorem dlK_le (l : List Pr) : ∀ (n : Nat) (xs : List ByteArray), xs.length = n → ∀ p ∈ dlK l xs, p.2 ≤ n
  | 0, xs, h => by rw [List.eq_nil_of_length_eq_zero h]; intro p hp; cases hp
  | n + 1, xs, h => by
    rcases List.eq_nil_or_concat xs with e | ⟨ys, y, e⟩
    · rw [e] at h; cases h
    · rw [e, List.concat_eq_append] at h ⊢
      have hy : ys.length = n := by simpa using h
      have ih := dlK_le l n ys hy
      intro p hp
      rw [dlK_snoc] at hp
      rcases List.mem_append.1 hp with h1 | h1
      · exact Nat.le_succ_of_le (ih p h1)
      · rw [List.mem_singleton] at h1
        rw [h1]
        exact mxP_le.2 fun q _ => Nat.succ_le_succ (lookN_le ih q)
/-- where parents stand ahead, and each comes once, these are the depths -/
theorem dlK_dep {l : List Pr} {D : ByteArray → Nat} (h : IsDep l D) {xs : List ByteArray} (hn : xs.Nodup) (ho : OrdK l [] xs) : ∀ x ∈ xs, lookN (dlK l xs) x = D x := by
  have main : ∀ k, k ≤ xs.length → ∀ i (hi : i < xs.length), i < k → lookN (dlK l (xs.take k)) xs[i] = D xs[i] := by
    intro k
    induction k with
    | zero => intro _ i _ hi; cases hi
    | succ k ih =>
      intro hk i hi hik
      have hkl : k < xs.length := by omega
      have IH := ih (by omega)
      rw [List.take_succ_eq_append_getElem hkl, dlK_snoc]
      by_cases e : i = k
      · subst e
        rw [lookN_same, h xs[i]]
        refine mxP_congr fun q hq => ?_
        rcases ho i hi q hq with h1 | h1
        · cases h1
        · obtain ⟨j, hj, ej⟩ := List.getElem_of_mem h1
          rw [List.length_take] at hj
          rw [List.getElem_take] at ej
          rw [← ej]
          exact IH j (by omega) (by omega)
      · rw [lookN_other _ _ (fun e2 => e ((List.getElem_inj hn).1 e2).symm)]
        exact IH i hi (by omega)
  intro x hx
  obtain ⟨i, hi, rfl⟩ := List.getElem_of_mem hx
  have := main xs.length (Nat.le_refl _) i hi hi
  rwa [List.take_length] at this
end Go.Proofs.YtdahpnjamlfakaaGreatDoor
/-
  The reference's depths: rounds in place; after n rounds what is n deep at most is told right, and nothing is told too deep.
-/
namespace Go.Proofs.YtdahpnjamlfakaaGreatDoor
open Go.RowKit

theorem mxF_max (f : ByteArray → Nat) : ∀ (ps : List ByteArray) (m : Nat), mxF f ps m = max m (mxP f ps)
  | [], m => by simp [mxF, mxP]
  | q :: r, m => by
    have h1 := mxF_max f r (max m (f q + 1))
    have h2 := mxF_max f r (max 0 (f q + 1))
    unfold mxP
    rw [mxF, mxF, h1, h2]
    omega
def DInv (l : List Pr) (D : ByteArray → Nat) (n i : Nat) (v : Nat → Nat) : Prop := ∀ j (h : j < l.length), v j ≤ D l[j].1 ∧ (D l[j].1 ≤ n → v j = D l[j].1) ∧ (j < i → D l[j].1 ≤ n + 1 → v j = D l[j].1)
theorem DInv.start (l : List Pr) (D : ByteArray → Nat) : DInv l D 0 0 (fun _ => 0) := fun j _ => ⟨Nat.zero_le _, fun h1 => (Nat.le_zero.1 h1).symm, fun h1 => absurd h1 (Nat.not_lt_zero j)⟩
theorem DInv.round {l : List Pr} {D : ByteArray → Nat} {n : Nat} {v : Nat → Nat} (h : DInv l D n l.length v) : DInv l D (n + 1) 0 v := fun j hj => ⟨(h j hj).1, fun h1 => (h j hj).2.2 hj h1, fun h1 => absurd h1 (by omega)⟩
/-- where a parent stands -/
theorem par_at {l : List Pr} (hl : repoB l = true) {k q : ByteArray} (h : q ∈ parK l k) : ∃ h : atN l q < l.length, l[atN l q].1 = q := by
  obtain ⟨h1, h2⟩ := hasB_iff.1 (has_rd (parK_com hl h))
  exact ⟨h1, h2⟩
theorem DInv.step {l : List Pr} {D : ByteArray → Nat} {n i : Nat} {v : Nat → Nat} (hl : repoB l = true) (hD : IsDep l D) (h : DInv l D n i v) (hi : i < l.length) :
    DInv l D n (i + 1) (fun j => if j = i then mxF (fun p => v (atN l p)) (parK l l[i].1) (v i) else v j) := by
  have hle : ∀ q ∈ parK l l[i].1, v (atN l q) ≤ D q := fun q hq => by
    obtain ⟨a, b⟩ := par_at hl hq
    have := (h _ a).1
    rw [b] at this
    exact this
  have heq : D l[i].1 ≤ n + 1 → ∀ q ∈ parK l l[i].1, v (atN l q) = D q := fun hn q hq => by
    obtain ⟨a, b⟩ := par_at hl hq
    have h1 := dep_lt hD hq
    have := (h _ a).2.1
    rw [b] at this
    exact this (by omega)
  have hup : mxP (fun p => v (atN l p)) (parK l l[i].1) ≤ D l[i].1 := by
    rw [hD l[i].1]
    refine mxP_le.2 fun q hq => ?_
    have h1 := hle q hq
    have h2 := mxP_ge (f := D) hq
    omega
  have hfull : D l[i].1 ≤ n + 1 → mxP (fun p => v (atN l p)) (parK l l[i].1) = D l[i].1 := fun hn => by
    rw [mxP_congr (g := D) (heq hn)]
    exact (hD l[i].1).symm
  intro j hj
  obtain ⟨h1, h2, h3⟩ := h j hj
  by_cases e : j = i
  · subst e
    simp only [if_true, mxF_max]
    refine ⟨by omega, fun hn => ?_, fun _ hn => ?_⟩
    · have := hfull (by omega); omega
    · have := hfull hn; omega
  · simp only [if_neg e]
    exact ⟨h1, h2, fun hji hn => h3 (by omega) hn⟩
theorem DInv.fin {l : List Pr} {D : ByteArray → Nat} {v : Nat → Nat} (hl : repoB l = true) (hD : IsDep l D) (h : DInv l D l.length 0 v) (j : Nat) (hj : j < l.length) : v j = D l[j].1 := by
  refine (h j hj).2.1 ?_
  cases hr : rdOk (valOf l l[j].1)
  · rw [hD, parK_no hr]
    exact Nat.zero_le _
  · have := dep_le hl hD hr
    omega
end Go.Proofs.YtdahpnjamlfakaaGreatDoor
/-
  A row of numbers in memory, written on.
-/
namespace Go.Proofs.YtdahpnjamlfakaaGreatDoor
open Go.RowKit

def numsA (v : Nat → Nat) (n : Nat) : Array Value := Array.ofFn (fun j : Fin n => Value.int .i64 ((v j.val : Nat) : Int))
theorem numsA_size (v : Nat → Nat) (n : Nat) : (numsA v n).size = n := by simp [numsA]
theorem numsA_get {v : Nat → Nat} {n i : Nat} (h : i < n) : (numsA v n)[i]? = some (.int .i64 (v i : Int)) := by
  rw [Array.getElem?_eq_getElem (by rw [numsA_size]; exact h)]
  simp [numsA]
def updN (v : Nat → Nat) (i x : Nat) : Nat → Nat := fun j => if j = i then x else v j
theorem numsA_set {v : Nat → Nat} {n i x : Nat} : (numsA v n).setIfInBounds i (.int .i64 (x : Int)) = numsA (updN v i x) n := by
  apply Array.ext
  · rw [Array.size_setIfInBounds, numsA_size, numsA_size]
  · intro j h1 h2
    have h3 : j < (numsA v n).size := by rw [numsA_size] at h2 ⊢; exact h2
    rw [Array.getElem_setIfInBounds h3]
    simp only [numsA, Array.getElem_ofFn, updN]
    by_cases e : i = j
    · subst e; simp
    · have e' : ¬ j = i := fun x => e x.symm
      simp [e, e']
theorem numsA_congr {v v' : Nat → Nat} {n : Nat} (h : ∀ j, j < n → v j = v' j) : numsA v n = numsA v' n := by
  apply Array.ext
  · rw [numsA_size, numsA_size]
  · intro j h1 _
    rw [numsA_size] at h1
    simp only [numsA, Array.getElem_ofFn]
    rw [h j h1]
theorem numsA_zero (n : Nat) : numsA (fun _ => 0) n = Array.replicate n (Value.int .i64 0) := by
  apply Array.ext
  · rw [numsA_size, Array.size_replicate]
  · intro j h1 h2
    simp [numsA]
/-- a row of n numbers in a block of its own -/
def IRow (w : World) (g n : Nat) (v : Nat → Nat) : Prop := w.heap[g]? = some (.cells (numsA v n) 2 (0, 0))
theorem IRow.lt {w : World} {g n : Nat} {v : Nat → Nat} (h : IRow w g n v) : g < w.heap.size := (Array.getElem?_eq_some_iff.1 h).1
theorem IRow.below {w w' : World} {g n : Nat} {v : Nat → Nat} (h : IRow w g n v) (hb : Below w.heap.size w w') : IRow w' g n v := (hb.block g h.lt).trans h
theorem IRow.cell {w : World} {g n i : Nat} {v : Nat → Nat} (h : IRow w g n v) (hi : i < n) : w.cell? ⟨g, i, none⟩ = some (.int .i64 (v i : Int)) := (cell_of_row w g i _ _ (0, 0) h).trans (numsA_get hi)
theorem IRow.frozen {w : World} {g n : Nat} {v : Nat → Nat} (h : IRow w g n v) (j : Nat) : w.frozen? ⟨g, j, none⟩ = false := by simp [World.frozen?, show w.heap[g]? = _ from h]
theorem IRow.set {w : World} {g n : Nat} {v : Nat → Nat} (h : IRow w g n v) (i x : Nat) : IRow (w.setCell ⟨g, i, none⟩ (.int .i64 (x : Int))) g n (updN v i x) := by
  have hlt := h.lt
  have h' : w.heap[g] = .cells (numsA v n) 2 (0, 0) := by simpa [Array.getElem?_eq_getElem hlt] using (show w.heap[g]? = _ from h)
  show (w.heap.modify g _)[g]? = _
  rw [Array.getElem?_eq_getElem (by simpa using hlt), Array.getElem_modify_self, h', ← numsA_set]
  rfl
theorem updN_self (v : Nat → Nat) (i : Nat) : updN v i (v i) = v := by
  funext j
  unfold updN
  split
  · rename_i e; rw [e]
  · rfl
theorem updN_two (v : Nat → Nat) (i x y : Nat) : updN (updN v i x) i y = updN v i y := by
  funext j
  unfold updN
  split <;> rfl
theorem mxF_snoc (f : ByteArray → Nat) (ps : List ByteArray) (q : ByteArray) (m : Nat) : mxF f (ps ++ [q]) m = max (mxF f ps m) (f q + 1) := by
  rw [mxF_max, mxP_snoc, mxF_max f ps m]
  omega
/-- the round at one place, as the three loops make it: slots of spec.l5Depths at c30d866: rounds [4], places [5], parents [8]; the row is t3 -/
theorem DInv.upd {l : List Pr} {D : ByteArray → Nat} {n i : Nat} {v : Nat → Nat} (hl : repoB l = true) (hD : IsDep l D) (h : DInv l D n i v) (hi : i < l.length) : DInv l D n (i + 1) (updN v i (mxF (fun p => v (atN l p)) (parK l l[i].1) (v i))) := h.step hl hD hi
end Go.Proofs.YtdahpnjamlfakaaGreatDoor
/-
  Maps of numbers that are written on: what stands at a key is what was stored last, or 0.
-/
namespace Go.Proofs.YtdahpnjamlfakaaGreatDoor
open Go.RowKit Go.Maps

/-- the stores as the map's memory has them -/
def numV (L : List (ByteArray × Nat)) : List (ByteArray × Value) := L.map fun p => (p.1, .int .i64 (p.2 : Int))
theorem numV_snoc (L : List (ByteArray × Nat)) (k : ByteArray) (v : Nat) : numV (L ++ [(k, v)]) = numV L ++ [(k, .int .i64 (v : Int))] := by unfold numV; simp
theorem numV_val (k : ByteArray) : ∀ (n : Nat) (L : List (ByteArray × Nat)), L.length = n → has (hD (numV L)) (keyL k) = memK (L.map fun p => p.1) k ∧ (hD (numV L)).atKey (keyL k) (.held (.int .i64 0)) = .held (.int .i64 (lookN L k : Int))
  | 0, L, h => by
    obtain rfl := List.eq_nil_of_length_eq_zero h
    have := hD_miss (L := []) (k := k) (by simp)
    refine ⟨?_, this.2 _⟩
    show has (hD []) (keyL k) = memK [] k
    rw [memK_no (l := []) (s := k) (by simp)]
    exact this.1
  | n + 1, L, h => by
    rcases List.eq_nil_or_concat L with e | ⟨M, y, e⟩
    · subst e; cases h
    · subst e
      rw [List.concat_eq_append] at h ⊢
      obtain ⟨q, v⟩ := y
      have hM : M.length = n := by simpa using h
      rw [numV_snoc, List.map_append, List.map_cons, List.map_nil]
      by_cases hq : k = q
      · subst hq
        have h1 := hD_same (numV M) k (.int .i64 (v : Int))
        rw [memK_iff.2 (show k ∈ (M.map fun p => p.1) ++ [k] by simp), lookN_same]
        exact ⟨h1.1, h1.2 _⟩
      · have h1 := hD_other (numV M) (.int .i64 (v : Int)) hq
        have ih := numV_val k n M hM
        have e : memK ((M.map fun p => p.1) ++ [q]) k = memK (M.map fun p => p.1) k := by
          cases hm : memK (M.map fun p => p.1) k
          · refine memK_no fun h2 => ?_
            rcases List.mem_append.1 h2 with h3 | h3
            · rw [memK_iff.2 h3] at hm; cases hm
            · rw [List.mem_singleton] at h3; exact hq h3
          · exact memK_iff.2 (List.mem_append.2 (.inl (memK_iff.1 hm)))
        rw [e, lookN_other _ _ (fun x => hq x.symm)]
        exact ⟨h1.1.trans ih.1, (h1.2 _).trans ih.2⟩
/-- a map of numbers in memory -/
def Nums (W : World) (bm n : Nat) (L : List (ByteArray × Nat)) : Prop := HMap W bm n (numV L)
theorem Nums.made (w : World) : Nums (w.alloc (.map #[] 0)) w.heap.size 0 [] := hmap_made w
theorem Nums.obj {W : World} {bm n : Nat} {L : List (ByteArray × Nat)} (h : Nums W bm n L) : ∃ o : Obj, W.heap[bm]? = some o ∧ o.isWalk = true := by
  obtain ⟨es, clock, hb, _⟩ := h
  exact ⟨_, hb, rfl⟩
theorem Nums.kept {W W' : World} {bm n : Nat} {L : List (ByteArray × Nat)} {row : Option Nat} (h : Nums W bm n L) (hg : W.grownBy W' row) (hne : some bm ≠ row) : Nums W' bm n L := HMap.kept h hg hne
theorem Nums.below {W W' : World} {bm n : Nat} {L : List (ByteArray × Nat)} (h : Nums W bm n L) (hb : Below W.heap.size W W') : Nums W' bm n L := HMap.below h hb
set_option maxRecDepth 100000 in
theorem Nums.look {W : World} {bm n : Nat} {L : List (ByteArray × Nat)} (h : Nums W bm n L) {k : ByteArray} (hk : k.size ≤ maxLen) :
    (Instr.lookup 51 (.map (some bm)) (.string k) false).run Tryz.prog W = .ok (.int .i64 (lookN L k : Int)) W := by
  obtain ⟨v, h1, h2⟩ := HMap.get Tryz.underlying51 (z := .int .i64 0) (by kernel_rfl) h hk
  rw [(numV_val k _ L rfl).2] at h2
  injection h2 with h2
  rw [h2]
  exact h1
set_option maxRecDepth 100000 in
theorem Nums.store {W : World} {bm n : Nat} {L : List (ByteArray × Nat)} (h : Nums W bm n L) (hn : n < maxLen) {k : ByteArray} (hk : k.size ≤ maxLen) (v : Nat) :
    ∃ W', (Instr.mapUpdate 51 (.map (some bm)) (.string k) (.int .i64 (v : Int))).run Tryz.prog W = .ok () W' ∧ Nums W' bm (n + 1) (L ++ [(k, v)]) ∧ W.grownBy W' (some bm) := by
  obtain ⟨W', h1, h2, h3⟩ := HMap.store Tryz.underlying51 h hn hk (.int .i64 (v : Int))
  refine ⟨W', h1, ?_, h3⟩
  unfold Nums
  rw [numV_snoc]
  exact h2
end Go.Proofs.YtdahpnjamlfakaaGreatDoor
/-
  What impl.repo's depths answers: a map of its own, whose stores are those of what is behind, parents ahead where there are no rings.
-/
namespace Go.Proofs.YtdahpnjamlfakaaGreatDoor
open Go.RowKit Go.Shelf Go.Maps

attribute [local go_sem] Oper.semAt_some

/-- what the loop of depths holds -/
def DepJ (w : World) (B0 g2 gm : Nat) {l : List Pr} (pre : List (ComI l)) (W : World) : Prop :=
  Nums W gm pre.length (dlK l (pre.map fun z => z.1)) ∧ W.heap[g2]? = some (.cells #[.map (some gm)] 51 (0, 0)) ∧ Below w.heap.size w W ∧ B0 ≤ W.heap.size
theorem DepJ.quiet {w : World} {B0 g2 gm : Nat} {l : List Pr} {pre : List (ComI l)} {W W' : World} (h : DepJ w B0 g2 gm pre W) (q : Quiet W W') : DepJ w B0 g2 gm pre W' := by
  obtain ⟨h1, h2, h3, h4⟩ := h
  have e := q.heap
  exact ⟨h1.below (q.below _), by rw [e]; exact h2, h3.trans (q.below _), by rw [e]; exact h4⟩
theorem DepJ.own {w : World} {B0 g2 gm : Nat} {l : List Pr} (hg : g2 < B0 ∧ gm < B0) (hw : w.heap.size ≤ B0) : OwnFrom B0 (fun (pre : List (ComI l)) W => DepJ w B0 g2 gm pre W) := by
  intro pre W W' row h hgr hr
  obtain ⟨h1, h2, h3, h4⟩ := h
  exact ⟨h1.kept hgr (fun e => by have := (hr _ e.symm).1; omega), row_from h2 hg.1 hgr hr, below_from h3 hw h3.size hgr hr, Nat.le_trans h4 hgr.size⟩
/-- one more store -/
theorem DepJ.step {w₀ w W W2 : World} {B0 g2 gm : Nat} {l : List Pr} {pre : List (ComI l)} {x : ComI l} (h : DepJ w B0 g2 gm pre W) (hg : g2 < B0 ∧ gm < B0) (hne : g2 ≠ gm) (hw0 : w₀.heap.size ≤ w.heap.size) (hwg : w.heap.size ≤ gm)
    (hN : Nums W2 gm (pre.length + 1) (dlK l (pre.map fun z => z.1) ++ [(x.1, mxP (lookN (dlK l (pre.map fun z => z.1))) (parK l x.1))])) (hgr : W.grownBy W2 (some gm)) :
    KeepsFrom B0 W W2 ∧ Keep w₀.heap.size B0 W W2 ∧ DepJ w B0 g2 gm (pre ++ [x]) W2 := by
  obtain ⟨h1, h2, h3, h4⟩ := h
  obtain ⟨of, hf1, hf2⟩ := h1.obj
  have K := Keep.map (n₀ := w₀.heap.size) (n₁ := B0) hgr (by omega) hg.2 (by omega) hf1 hf2
  refine ⟨KeepsFrom.of_grownBy hgr (fun k e => by injection e with e; omega), K, ?_, (hgr.block g2 (Array.getElem?_eq_some_iff.1 h2).1 (fun e => by injection e with e; omega)).trans h2, h3.grown hgr h3.size (fun k e => by injection e with e; omega), Nat.le_trans h4 hgr.size⟩
  rw [List.map_append, List.map_cons, List.map_nil, dlK_snoc, List.length_append, List.length_singleton]
  exact hN

/-- a commit in a box of its own -/
noncomputable abbrev CBy (l : List Pr) (rA : ByteArray → Option Addr) (rC : ByteArray → Nat) (x : ComI l) : Obj := .cells #[.string (treK l x.1), .slice (rA x.1) (lenK l x.1) (rC x.1), .string (notK l x.1)] 30 (0, 0)
theorem box_ownY {W W' : World} {B k : Nat} {row : Option Nat} {c : Array Value} {t : TypeId} {f : Nat × Nat} (h : W.heap[k]? = some (.cells c t f)) (hg : W.grownBy W' row) (hr : ∀ r, row = some r → B ≤ r ∧ ∃ o : Obj, W.heap[r]? = some o ∧ o.isCells = false) : W'.heap[k]? = some (.cells c t f) :=
  (hg.block k (Array.getElem?_eq_some_iff.1 h).1 (fun e => by
    obtain ⟨_, o, ho, hc⟩ := hr k e.symm
    rw [h] at ho
    injection ho with ho
    subst ho
    cases hc)).trans h
set_option maxRecDepth 100000 in
set_option maxHeartbeats 4000000 in
theorem depths_any {w₀ : World} {B bm bc : Nat} {l : List Pr} {vs : List Value} (bt : Nat) (hM : RepoM w₀ B bm bc 60 l vs) (hrep : repoB l = true) (b : ByteArray) (hb : b.size ≤ maxLen) (w : World) (hbel : Below w₀.heap.size w₀ w) :
    Calls Tryz.prog 26 #[.agg #[.map (some bt), .map (some bm), .map (some bc)], .string b] w fun e w' => ∃ (gm n : Nat) (xs : List ByteArray), e = .returned (.map (some gm)) ∧ w.heap.size ≤ gm ∧ Nums w' gm n (dlK l xs) ∧ xs.Nodup ∧ (∀ z, z ∈ xs ↔ rdOk (valOf l b) = true ∧ Reach l b z) ∧ (Acy l → OrdK l [] xs) ∧ Below w.heap.size w w' := by
  have bX : Below w.heap.size w (w.alloc (.cells #[.map (some bt), .map (some bm), .map (some bc)] 47)) := (Below.refl _ w).alloc (Nat.le_refl _) _
  obtain ⟨rA, rC, R⟩ := hM.toW hrep
  have hd : Fence.wide.depth = none := rfl
  have hro : Fence.wide.round = none := rfl
  have XR := heap_alloc_new w (.cells #[.map (some bt), .map (some bm), .map (some bc)] 47)
  have x0 := cell_of_row _ _ 0 _ _ _ XR
  have x1 := cell_of_row _ _ 1 _ _ _ XR
  have x2 := cell_of_row _ _ 2 _ _ _ XR
  have hmk := @run_makeMap Tryz.prog
  have hw0 : w₀.heap.size ≤ w.heap.size := hbel.size
  refine (callsIn_wide (n := 3)).1 ?_
  refine callsIn_of_wp_marks Tryz.func26 rfl trivial ?_ hro
  simp only [Tryz.ntmps26, List.size_toArray, List.length_cons, List.length_nil, Nat.reduceAdd, Nat.reduceSub, Array.replicate_succ, Array.replicate_zero, List.push_toArray, List.append_toArray, List.nil_append, List.cons_append]
  gi_wp2_with ((try refine ⟨trivial, ?_⟩); gi_at_call 64; refine (behind_in Fence.wide trivial hro 2 bt bm bc b _).mono ?_; rintro e w' ⟨rfl, rfl⟩)
  obtain ⟨W0, hW0⟩ : ∃ W0, (((((w.alloc (.cells #[.map (some bt), .map (some bm), .map (some bc)] 47)).alloc (.map #[] 0)).alloc (.cells #[.map (some (w.heap.size + 1))] 51)).alloc (.cells #[.map (some bt), .map (some bm), .map (some bc)] 47)).alloc (.cells #[.string b] 9)) = W0 := ⟨_, rfl⟩
  rw [hW0]
  have hB0 : Below w.heap.size w W0 := by rw [← hW0]; exact (((((Below.refl _ w).alloc (Nat.le_refl _) _).alloc (by simp) _).alloc (by simp; omega) _).alloc (by simp; omega) _).alloc (by simp; omega) _
  have hs0 : W0.heap.size = w.heap.size + 5 := by rw [← hW0]; simp
  have hF : Nums W0 (w.heap.size + 1) 0 [] := by
    rw [← hW0]
    have f := Nums.made (w.alloc (.cells #[.map (some bt), .map (some bm), .map (some bc)] 47))
    rw [World.size_alloc] at f
    exact ((f.below ((Below.refl _ _).alloc (Nat.le_refl _) _)).below ((Below.refl _ _).alloc (Nat.le_refl _) _)).below ((Below.refl _ _).alloc (Nat.le_refl _) _)
  have h2 : W0.heap[w.heap.size + 1 + 1]? = some (.cells #[.map (some (w.heap.size + 1))] 51 (0, 0)) := by rw [← hW0]; exact heap_alloc_l (heap_alloc_l (heap_alloc_at (by simp)))
  have hX : W0.heap[w.heap.size + 1 + 1 + 1]? = some (.cells #[.map (some bt), .map (some bm), .map (some bc)] 47 (0, 0)) := by rw [← hW0]; exact heap_alloc_l (heap_alloc_at (by simp))
  have hI : W0.heap[w.heap.size + 1 + 1 + 1 + 1]? = some (.cells #[.string b] 9 (0, 0)) := by rw [← hW0]; exact heap_alloc_at (by simp)
  clear hW0 x0 x1 x2 XR bX
  obtain ⟨gm, em⟩ : ∃ g, w.heap.size + 1 = g := ⟨_, rfl⟩
  rw [em] at hF h2 hX hI ⊢
  obtain ⟨g2, e2⟩ : ∃ g, gm + 1 = g := ⟨_, rfl⟩
  rw [e2] at h2 hX hI ⊢
  obtain ⟨g4, e4⟩ : ∃ g, g2 + 1 = g := ⟨_, rfl⟩
  rw [e4] at hX hI ⊢
  obtain ⟨g5, e5⟩ : ∃ g, g4 + 1 = g := ⟨_, rfl⟩
  rw [e5] at hI ⊢
  have hgs : g2 < W0.heap.size ∧ gm < W0.heap.size := by omega
  have hne2 : g2 ≠ gm := by omega
  have hr5 : w₀.heap.size ≤ W0.heap.size := by omega
  have hr4 : w.heap.size ≤ W0.heap.size := by omega
  have hwm : w.heap.size ≤ gm := by omega
  have hbW : Below w₀.heap.size w₀ W0 := hbel.trans (hB0.mono hw0)
  clear hs0 em e2 e4 e5
  refine wpIn_rangeFunc_ownH hro (by omega) (gf := 107) (lb := #[.pointer (some ⟨g4, 0, none⟩), .pointer (some ⟨g5, 0, none⟩)]) rfl trivial (enters_of Tryz.func107 (by kernel_rfl) rfl)
    (behind_stopsO bt R Fence.wide hd trivial trivial hro 2 W0.heap.size g4 g5 b hb W0 hr5 (Nat.le_refl _) hbW hX hI) (fun h k => Keep.trans h k) (fun W l o o' h1 h2 h3 h4 => Keep.putObj W l o o' (Nat.le_trans hr5 h1) h2 h3 h4) (Below.refl _ _) (fun _ => rfl)
    (fun pre W => DepJ w W0.heap.size g2 gm pre W) (fun _ _ _ => False)
    (DepJ.own hgs hr4)
    (fun _ _ _ _ _ hs _ _ => hs)
    ⟨hF, h2, hB0, Nat.le_refl _⟩
    (fun x a' W => ∃ Bx, W0.heap.size ≤ Bx ∧ W.heap[Bx]? = some (CBy l rA rC x) ∧ a' = { tmps := #[.agg #[.map (some bt), .map (some bm), .map (some bc)], .string b, .pointer (some ⟨w.heap.size, 0, none⟩), undef, .map none, .pointer (some ⟨g2, 0, none⟩), .string x.1, .pointer (some ⟨Bx, 0, none⟩), undef, undef, undef, .map (some gm), .agg #[.map (some bt), .map (some bm), .map (some bc)], .string b, .func (.func 107) #[] #[.pointer (some ⟨g4, 0, none⟩), .pointer (some ⟨g5, 0, none⟩)], .string x.1, .agg #[.string (treK l x.1), .slice (rA x.1) (lenK l x.1) (rC x.1), .string (notK l x.1)], undef, undef, undef, undef, undef, undef, undef, undef, undef, undef, undef, undef, undef, undef, undef, undef, undef, undef], defers := [] })
    (fun x a' _ X Y row hs hg hr => by obtain ⟨Bx, k1, k2, k3⟩ := hs; exact ⟨Bx, k1, box_ownY k2 hg hr, k3⟩)
    ?assign ?body ?done ?stop
  case assign =>
    intro lr pre x W K hi hK
    simp only [encC]
    gi_wp2
    exact hK _ _ ((KeepsOthers.alloc _ _).from _) (Keep.alloc (Nat.le_trans hr5 hi.2.2.2) _) ((DepJ.own hgs hr4).alloc _ hi) ⟨W.heap.size, hi.2.2.2, heap_alloc_at rfl, rfl⟩
  case body =>
    rintro lr pre x a' W hlr ⟨r, hrr⟩ hi ⟨Bx, hBx, bx, rfl⟩ hlen
    have HI := hide hi
    have y1 := cell_of_row _ _ 1 _ _ _ bx
    have c5 := cell_of_row _ _ 0 _ _ _ hi.2.1
    have RW := hide (R.row x.1).zin
    have BW := hide (hbel.trans (hi.2.2.1.mono hw0))
    have hp2 := parK_len l x.1
    have PSZ : Hid (∀ i (h : i < (parK l x.1).length), ((parK l x.1)[i]).size = 16) := hide (fun i h => parK_size (List.getElem_mem h))
    have DL : Hid (∀ q, lookN (dlK l (pre.map fun z => z.1)) q ≤ 60) := hide (fun q => lookN_le (fun p hp => by have := dlK_le l pre.length (pre.map fun z => z.1) (by simp) p hp; omega) q)
    have MX : Hid (∀ j, mxF (lookN (dlK l (pre.map fun z => z.1))) ((parK l x.1).take j) 0 ≤ 61) := hide (fun j => mxF_le.2 ⟨by omega, fun q _ => by have := DL.out q; omega⟩)
    have MS : Hid (∀ j (h : j < (parK l x.1).length), mxF (lookN (dlK l (pre.map fun z => z.1))) ((parK l x.1).take (j + 1)) 0 = max (mxF (lookN (dlK l (pre.map fun z => z.1))) ((parK l x.1).take j) 0) (lookN (dlK l (pre.map fun z => z.1)) (parK l x.1)[j] + 1)) := hide (fun j h => by rw [List.take_succ_eq_append_getElem h, mxF_snoc])
    have LK : Hid (∀ q : ByteArray, q.size ≤ maxLen → (Instr.lookup 51 (.map (some gm)) (.string q) false).run Tryz.prog W = .ok (.int .i64 (lookN (dlK l (pre.map fun z => z.1)) q : Int)) W) := hide (fun q hq => HI.out.1.look hq)
    have ST : Hid (∀ v, v = mxF (lookN (dlK l (pre.map fun z => z.1))) (parK l x.1) 0 → ∃ W2, (Instr.mapUpdate 51 (.map (some gm)) (.string x.1) (.int .i64 (v : Int))).run Tryz.prog W = .ok () W2 ∧ KeepsFrom W0.heap.size W W2 ∧ Keep w₀.heap.size W0.heap.size W W2 ∧ DepJ w W0.heap.size g2 gm (pre ++ [x]) W2) := hide (fun v hv => by
      obtain ⟨W2, s1, s2, s3⟩ := HI.out.1.store (by unfold maxLen; omega) x.2.2 v
      rw [hv] at s2
      obtain ⟨t1, t2, t3⟩ := HI.out.step hgs hne2 hw0 hwm s2 s3
      exact ⟨W2, s1, t1, t2, t3⟩)
    clear hi bx HI
    generalize lookN (dlK l (pre.map fun z => z.1)) = f at *
    obtain ⟨np, hnp⟩ : ∃ np, lenK l x.1 = np := ⟨_, rfl⟩
    have NP : Hid ((parK l x.1).length = np) := hide hnp
    rw [hnp] at y1 ⊢
    clear hnp
    have hnp2 : np ≤ 2 := by rw [← NP.out]; exact hp2
    generalize rA x.1 = Ar at *
    generalize rC x.1 = Cr at *
    gi_wp2
    gi_loopw [8, 20] (fun dv iv wr => ∃ j : Nat, j ≤ np ∧ dv = .int .i64 (mxF f ((parK l x.1).take j) 0 : Nat) ∧ iv = .int .i64 j ∧ Hid (W = wr)) (fun _ i _ => np - (intOf i).toNat)
    case atStart => exact ⟨0, Nat.zero_le _, rfl, rfl, by first | exact hide rfl | exact trivial⟩
    case round =>
      obtain ⟨j, hj, rfl, rfl, Q⟩ := hrel
      have Q' := Q.out
      subst Q'
      clear Q
      by_cases hlt : j < np
      · have hjl : j < (parK l x.1).length := by rw [NP.out]; exact hlt
        have hpos : 0 < (parK l x.1).length := Nat.lt_of_le_of_lt (Nat.zero_le _) hjl
        obtain ⟨bq, off, eA, hbq, hcq⟩ := RW.out hpos
        subst eA
        have cq := (BW.out.cell (p := ⟨bq, off + j, none⟩) hbq).trans (hcq j hjl)
        have lk := LK.out (parK l x.1)[j] (by rw [PSZ.out j hjl]; unfold maxLen; omega)
        have dl := DL.out (parK l x.1)[j]
        have mx := MX.out j
        have MJ := hide (MS.out j hjl)
        have HL := hide hlt
        clear hcq PSZ LK DL MX MS ST
        generalize (parK l x.1)[j]'hjl = q at *
        clear hjl
        generalize f q = v at *
        generalize mxF f ((parK l x.1).take j) 0 = m at *
        gi_wp2
        go_roundw
        case rel => exact ⟨j + 1, HL.out, by rw [MJ.out]; go_num, by have := HL.out; go_num, by first | exact hide rfl | exact trivial⟩
        case measure => have := HL.out; simp [intOf]; omega
      · have e9 : (parK l x.1).take j = parK l x.1 := List.take_of_length_le (by rw [NP.out]; omega)
        rw [e9]
        obtain ⟨W2, hst, t1, t2, t3⟩ := ST.out _ rfl
        have T := hide (And.intro t1 (And.intro t2 t3))
        have hgt : ¬ ((j : Int) < (np : Int)) := by omega
        clear hlt RW BW PSZ LK DL MX MS ST e9 t1 t2 t3
        generalize mxF f (parK l x.1) 0 = m at *
        gi_wp2
        exact T.out
  case done =>
    rintro D ys W hD hall ⟨hN, hg2, hB, hZ⟩ hK
    have c1 := cell_of_row _ _ 0 _ _ _ hg2
    have F : Hid (∃ (gm' n : Nat) (xs : List ByteArray), Ending.returned (.map (some gm)) = .returned (.map (some gm')) ∧ w.heap.size ≤ gm' ∧ Nums (W.putObj D (.deferred none)) gm' n (dlK l xs) ∧ xs.Nodup ∧ (∀ z, z ∈ xs ↔ rdOk (valOf l b) = true ∧ Reach l b z) ∧ (Acy l → OrdK l [] xs) ∧ Below w.heap.size w (W.putObj D (.deferred none))) := hide (by
      refine ⟨gm, ys.length, ys.map (fun z => z.1), rfl, hwm, hN.kept (grownBy_putObj' _ D _) (fun e => by injection e with e; omega), hall.1.1, hall.1.2, hall.2, ?_⟩
      exact hB.trans (belowK_b (w := w) (Nat.le_refl _) W D _ _ (by omega) hK rfl rfl))
    have K2 := hide hK
    clear hN hg2 hB hZ hall hK
    gi_wp2
    refine ⟨by simp, .inl ⟨_, _, rfl, run_takeDeferred K2.out, ?_⟩⟩
    exact ⟨_, results_tmp (t := 4) rfl _ _ _, F.out⟩
  case stop =>
    rintro D c pre W hD hsp h hK
    exact h.elim
end Go.Proofs.YtdahpnjamlfakaaGreatDoor
/-
  A log's order: the deeper ahead, of two as deep the lesser id; there is one such list of a set; how the reference makes it.
-/
namespace Go.Proofs.YtdahpnjamlfakaaGreatDoor
open Go.RowKit

/-- ahead in a log -/
def ltD (D : ByteArray → Nat) (x y : ByteArray) : Prop := D y < D x ∨ (D x = D y ∧ ltB x y = true)
theorem ltD_asymm {D : ByteArray → Nat} {x y : ByteArray} (h : ltD D x y) (k : ltD D y x) : False := by
  rcases h with h | ⟨h1, h2⟩
  · rcases k with k | ⟨k1, _⟩ <;> omega
  · rcases k with k | ⟨_, k2⟩
    · omega
    · rw [ltB_asymm h2] at k2; cases k2
theorem ltD_irrefl {D : ByteArray → Nat} {x : ByteArray} (h : ltD D x x) : False := ltD_asymm h h
def SrtD (D : ByteArray → Nat) (L : List ByteArray) : Prop := List.Pairwise (ltD D) L
theorem SrtD.ext {D : ByteArray → Nat} : ∀ {L L' : List ByteArray}, SrtD D L → SrtD D L' → (∀ z, z ∈ L ↔ z ∈ L') → L = L'
  | [], L', _, _, h => (List.eq_nil_iff_forall_not_mem.2 (fun z hz => by have := (h z).2 hz; cases this)).symm
  | a :: r, [], _, _, h => by have := (h a).1 (List.mem_cons_self ..); cases this
  | a :: r, b :: s, h1, h2, h => by
    obtain ⟨p1, q1⟩ := List.pairwise_cons.1 h1
    obtain ⟨p2, q2⟩ := List.pairwise_cons.1 h2
    have e : a = b := by
      apply Classical.byContradiction
      intro hne
      have ha : a ∈ s := by
        rcases List.mem_cons.1 ((h a).1 (List.mem_cons_self ..)) with k | k
        · exact absurd k hne
        · exact k
      have hb : b ∈ r := by
        rcases List.mem_cons.1 ((h b).2 (List.mem_cons_self ..)) with k | k
        · exact absurd k.symm hne
        · exact k
      exact ltD_asymm (p1 b hb) (p2 a ha)
    subst e
    congr 1
    refine SrtD.ext q1 q2 fun z => ?_
    have hz := h z
    rw [List.mem_cons, List.mem_cons] at hz
    constructor
    · intro k
      rcases hz.1 (.inr k) with k2 | k2
      · subst k2; exact absurd (p1 z k) ltD_irrefl
      · exact k2
    · intro k
      rcases hz.2 (.inr k) with k2 | k2
      · subst k2; exact absurd (p2 z k) ltD_irrefl
      · exact k2
theorem SrtD.nodup {D : ByteArray → Nat} {L : List ByteArray} (h : SrtD D L) : L.Nodup := h.imp fun {a b} hlt e => by subst e; exact ltD_irrefl hlt
/-- behind all that are as deep at least -/
def insD (D : ByteArray → Nat) (x : ByteArray) : List ByteArray → List ByteArray
  | [] => [x]
  | a :: r => if D x ≤ D a then a :: insD D x r else x :: a :: r
theorem mem_insD {D : ByteArray → Nat} {x z : ByteArray} : ∀ {L : List ByteArray}, z ∈ insD D x L ↔ z = x ∨ z ∈ L
  | [] => by simp [insD]
  | a :: r => by
    unfold insD
    split
    · rw [List.mem_cons, mem_insD, List.mem_cons]
      constructor
      · rintro (h | h | h)
        · exact .inr (.inl h)
        · exact .inl h
        · exact .inr (.inr h)
      · rintro (h | h | h)
        · exact .inr (.inl h)
        · exact .inl h
        · exact .inr (.inr h)
    · rw [List.mem_cons]
theorem insD_srt {D : ByteArray → Nat} {x : ByteArray} : ∀ {L : List ByteArray}, SrtD D L → (∀ z ∈ L, ltB z x = true) → SrtD D (insD D x L)
  | [], _, _ => List.pairwise_singleton ..
  | a :: r, h, hx => by
    obtain ⟨p, q⟩ := List.pairwise_cons.1 h
    unfold insD
    split
    · rename_i hle
      refine List.pairwise_cons.2 ⟨fun z hz => ?_, insD_srt q (fun z hz => hx z (List.mem_cons_of_mem _ hz))⟩
      rcases mem_insD.1 hz with e | e
      · subst e
        rcases Nat.lt_or_ge (D z) (D a) with k | k
        · exact .inl k
        · exact .inr ⟨by omega, hx a (List.mem_cons_self ..)⟩
      · exact p z e
    · rename_i hle
      refine List.pairwise_cons.2 ⟨fun z hz => ?_, h⟩
      rcases List.mem_cons.1 hz with e | e
      · subst e; exact .inl (by omega)
      · rcases p z e with k | ⟨k, _⟩
        · exact .inl (by omega)
        · exact .inl (by omega)
/-- where it comes to stand -/
def posD (D : ByteArray → Nat) (x : ByteArray) : List ByteArray → Nat
  | [] => 0
  | a :: r => if D x ≤ D a then posD D x r + 1 else 0
theorem posD_le (D : ByteArray → Nat) (x : ByteArray) : ∀ L : List ByteArray, posD D x L ≤ L.length
  | [] => Nat.le_refl _
  | a :: r => by
    have := posD_le D x r
    unfold posD
    split
    · simp; omega
    · exact Nat.zero_le _
theorem insD_at (D : ByteArray → Nat) (x : ByteArray) : ∀ L : List ByteArray, insD D x L = L.take (posD D x L) ++ x :: L.drop (posD D x L)
  | [] => rfl
  | a :: r => by
    have := insD_at D x r
    unfold insD posD
    split
    · rw [List.take_succ_cons, List.drop_succ_cons, this]; rfl
    · rfl
/-- the log of a set that rises: each put in its place -/
def logOf (D : ByteArray → Nat) (S : List ByteArray) : List ByteArray := S.foldl (fun out x => insD D x out) []
theorem logOf_all {D : ByteArray → Nat} : ∀ (n : Nat) {S : List ByteArray}, S.length = n → RisK S → SrtD D (logOf D S) ∧ ∀ z, z ∈ logOf D S ↔ z ∈ S
  | 0, S, h, _ => by
    obtain rfl := List.eq_nil_of_length_eq_zero h
    exact ⟨.nil, fun z => Iff.rfl⟩
  | n + 1, S, h, hr => by
    rcases List.eq_nil_or_concat S with e | ⟨T, y, e⟩
    · subst e; cases h
    · subst e
      rw [List.concat_eq_append] at h hr ⊢
      obtain ⟨r1, _, r3⟩ := List.pairwise_append.1 hr
      obtain ⟨i1, i2⟩ := logOf_all n (S := T) (by simpa using h) r1
      have e : logOf D (T ++ [y]) = insD D y (logOf D T) := by unfold logOf; rw [List.foldl_append]; rfl
      rw [e]
      refine ⟨insD_srt i1 (fun z hz => r3 z ((i2 z).1 hz) y (by simp)), fun z => ?_⟩
      rw [mem_insD, i2 z, List.mem_append, List.mem_singleton]
      exact Or.comm
/-- a part of a log is the log of the part -/
theorem SrtD.filter {D : ByteArray → Nat} {L : List ByteArray} (h : SrtD D L) (p : ByteArray → Bool) : SrtD D (L.filter p) := List.Pairwise.filter _ h
end Go.Proofs.YtdahpnjamlfakaaGreatDoor
/-
  What the laws on depths and logs want: mathematics.
-/
namespace Go.Proofs.YtdahpnjamlfakaaGreatDoor
open Go.RowKit

/-- as deep as its longest way back; -1 where there is no such commit -/
noncomputable def dpV (l : List Pr) (id : ByteArray) : Int := if rdOk (valOf l id) = true ∧ repoB l = true then (depK l id : Int) else -1
theorem dpV_yes {l : List Pr} {id : ByteArray} (h : rdOk (valOf l id) = true) (h2 : repoB l = true) : dpV l id = (depK l id : Int) := if_pos ⟨h, h2⟩
theorem dpV_no {l : List Pr} {id : ByteArray} (h : ¬ (rdOk (valOf l id) = true ∧ repoB l = true)) : dpV l id = -1 := if_neg h
/-- the log -/
noncomputable def logK (l : List Pr) (id : ByteArray) : List ByteArray := logOf (depK l) (ancK l id)
theorem logK_all (l : List Pr) (id : ByteArray) : SrtD (depK l) (logK l id) ∧ ∀ z, z ∈ logK l id ↔ z ∈ ancK l id := logOf_all _ rfl (ancK_ris l id).1
theorem logK_len (l : List Pr) (id : ByteArray) : (logK l id).length = (ancK l id).length := by
  obtain ⟨h1, h2⟩ := logK_all l id
  exact Nat.le_antisymm (nodup_len h1.nodup fun z hz => (h2 z).1 hz) (nodup_len (risK_nodup (ancK_ris l id).1) fun z hz => (h2 z).2 hz)
/-- what is behind is less deep -/
theorem dep_less {l : List Pr} (hA : Acy l) {id z : ByteArray} (hz : z ∈ ancK l id) (hne : z ≠ id) : depK l z < depK l id := by
  rcases dep_reach (depK_is hA) (ancK_mem.1 hz).2.2 with e | e
  · exact absurd e hne
  · exact e
/-- more are behind than it is deep -/
theorem dep_many {l : List Pr} (hA : Acy l) {id : ByteArray} (hl : repoB l = true) (hr : rdOk (valOf l id) = true) : depK l id < (ancK l id).length := by
  obtain ⟨S, h1, h2, h3⟩ := dep_set hl (depK_is hA) _ id rfl hr
  have := nodup_len h1.1 (fun z hz => ancK_mem.2 ⟨hl, hr, (h3 z hz).2⟩ : ∀ z ∈ S, z ∈ ancK l id)
  omega
/-- one deeper than the deepest of its parents -/
theorem dep_one {l : List Pr} (hA : Acy l) (id : ByteArray) : depK l id = mxP (depK l) (parK l id) := depK_is hA id
/-- in a log none is behind a later one, and none comes twice -/
theorem log_order {l : List Pr} (hA : Acy l) {id : ByteArray} {i k : Nat} (hi : i < (logK l id).length) (hk : k < (logK l id).length) (hik : i < k) : (logK l id)[i] ≠ (logK l id)[k] ∧ isAncV l (logK l id)[i] (logK l id)[k] = false := by
  have h := List.pairwise_iff_getElem.1 (logK_all l id).1 i k hi hk hik
  have hne : (logK l id)[i] ≠ (logK l id)[k] := fun e => by rw [e] at h; exact ltD_irrefl h
  refine ⟨hne, ?_⟩
  cases e : isAncV l (logK l id)[i] (logK l id)[k]
  · rfl
  · have := dep_less hA (memK_iff.1 e) hne
    rcases h with h | ⟨h, _⟩ <;> omega
/-- a log begins with the commit itself -/
theorem log_first {l : List Pr} (hA : Acy l) {id : ByteArray} (h0 : 0 < (logK l id).length) : (logK l id)[0] = id := by
  obtain ⟨h1, h2⟩ := logK_all l id
  have hm := (h2 _).1 (List.getElem_mem h0)
  obtain ⟨r1, r2, _⟩ := ancK_mem.1 hm
  have hid := (h2 id).2 (ancK_mem.2 ⟨r1, r2, .self⟩)
  obtain ⟨i, hi, e⟩ := List.getElem_of_mem hid
  apply Classical.byContradiction
  intro hne
  have hpos : 0 < i := by
    rcases Nat.eq_zero_or_pos i with k | k
    · subst k; exact absurd e hne
    · exact k
  have h := List.pairwise_iff_getElem.1 h1 0 i h0 hi hpos
  rw [e] at h
  have := dep_less hA hm hne
  rcases h with h | ⟨h, _⟩ <;> omega
/-- of a log what is behind a parent is the parent's log -/
theorem log_part {l : List Pr} {id p : ByteArray} (hp : p ∈ ancK l id) : (logK l id).filter (fun z => isAncV l z p) = logK l p := by
  obtain ⟨h1, h2⟩ := logK_all l id
  obtain ⟨k1, k2⟩ := logK_all l p
  refine SrtD.ext (h1.filter _) k1 fun z => ?_
  rw [List.mem_filter, h2, k2]
  constructor
  · rintro ⟨_, h⟩
    exact memK_iff.1 h
  · intro h
    exact ⟨anc_sub hp z h, memK_iff.2 h⟩
theorem insD_congr {D E : ByteArray → Nat} {x : ByteArray} : ∀ {L : List ByteArray}, D x = E x → (∀ z ∈ L, D z = E z) → insD D x L = insD E x L
  | [], _, _ => rfl
  | a :: r, hx, h => by
    unfold insD
    rw [hx, h a (List.mem_cons_self ..), insD_congr hx (fun z hz => h z (List.mem_cons_of_mem _ hz))]
theorem logOf_congr {D E : ByteArray → Nat} : ∀ (n : Nat) {S : List ByteArray}, S.length = n → RisK S → (∀ z ∈ S, D z = E z) → logOf D S = logOf E S
  | 0, S, h, _, _ => by rw [List.eq_nil_of_length_eq_zero h]; rfl
  | n + 1, S, h, hr, hs => by
    rcases List.eq_nil_or_concat S with e | ⟨T, y, e⟩
    · subst e; cases h
    · subst e
      rw [List.concat_eq_append] at h hr hs ⊢
      obtain ⟨r1, _, _⟩ := List.pairwise_append.1 hr
      have hT : T.length = n := by simpa using h
      have ih := logOf_congr n hT r1 (fun z hz => hs z (List.mem_append.2 (.inl hz)))
      have e1 : ∀ F : ByteArray → Nat, logOf F (T ++ [y]) = insD F y (logOf F T) := fun F => by unfold logOf; rw [List.foldl_append]; rfl
      rw [e1, e1, ih]
      exact insD_congr (hs y (by simp)) (fun z hz => hs z (List.mem_append.2 (.inl ((logOf_all n hT r1).2 z |>.1 hz))))
/-- what grows changes nothing behind what was there -/
theorem reach_grow {l n : List Pr} (hl : repoB l = true) (hg : ∀ k, hasB l k = true → valOf n k = valOf l k) {a z : ByteArray} (ha : rdOk (valOf l a) = true) : Reach n a z ↔ Reach l a z := by
  have hp : ∀ k, rdOk (valOf l k) = true → parK n k = parK l k := fun k hk => parK_of (hg k (has_rd hk))
  constructor
  · intro h
    induction h with
    | self => exact .self
    | next _ hq ih => exact ih.next (by rw [← hp _ (ih.com hl ha)]; exact hq)
  · intro h
    have hc : ∀ y, Reach l a y → rdOk (valOf l y) = true := fun y hy => hy.com hl ha
    induction h with
    | self => exact .self
    | next hx hq ih => exact ih.next (by rw [hp _ (hc _ hx)]; exact hq)
theorem anc_grow {l n : List Pr} (hl : repoB l = true) (hn : repoB n = true) (hg : ∀ k, hasB l k = true → valOf n k = valOf l k) {a : ByteArray} (ha : rdOk (valOf l a) = true) : ancK n a = ancK l a := by
  refine RisK.ext (ancK_ris n a).1 (ancK_ris l a).1 fun z => ?_
  rw [ancK_mem, ancK_mem, reach_grow hl hg ha]
  constructor
  · rintro ⟨_, _, h⟩; exact ⟨hl, ha, h⟩
  · rintro ⟨_, _, h⟩; exact ⟨hn, by rw [hg a (has_rd ha)]; exact ha, h⟩
theorem dep_grow {l n : List Pr} (hl : repoB l = true) (hAl : Acy l) (hAn : Acy n) (hg : ∀ k, hasB l k = true → valOf n k = valOf l k) : ∀ (m : Nat) (k : ByteArray), depK l k < m → rdOk (valOf l k) = true → depK n k = depK l k
  | 0, _, h, _ => absurd h (Nat.not_lt_zero _)
  | m + 1, k, h, hk => by
    rw [depK_is hAn k, depK_is hAl k, parK_of (hg k (has_rd hk))]
    refine mxP_congr fun q hq => ?_
    have := dep_lt (depK_is hAl) hq
    exact dep_grow hl hAl hAn hg m q (by omega) (parK_com hl hq)
theorem log_grow {l n : List Pr} (hl : repoB l = true) (hn : repoB n = true) (hAl : Acy l) (hAn : Acy n) (hg : ∀ k, hasB l k = true → valOf n k = valOf l k) {a : ByteArray} (ha : rdOk (valOf l a) = true) : logK n a = logK l a := by
  unfold logK
  rw [anc_grow hl hn hg ha]
  exact logOf_congr _ rfl (ancK_ris l a).1 fun z hz => dep_grow hl hAl hAn hg _ z (Nat.lt_succ_self _) (anc_rd hz)
end Go.Proofs.YtdahpnjamlfakaaGreatDoor
/-
  What impl.DepthOf answers in a repository without rings.
-/
namespace Go.Proofs.YtdahpnjamlfakaaGreatDoor
open Go.RowKit Go.Maps

theorem dlK_keys (l : List Pr) : ∀ (n : Nat) (xs : List ByteArray), xs.length = n → (dlK l xs).map (fun p => p.1) = xs
  | 0, xs, h => by rw [List.eq_nil_of_length_eq_zero h]; rfl
  | n + 1, xs, h => by
    rcases List.eq_nil_or_concat xs with e | ⟨ys, y, e⟩
    · rw [e] at h; cases h
    · rw [e, List.concat_eq_append] at h ⊢
      rw [dlK_snoc, List.map_append, dlK_keys l n ys (by simpa using h)]
      rfl
set_option maxRecDepth 100000 in
theorem Nums.lookOk {W : World} {bm n : Nat} {L : List (ByteArray × Nat)} (h : Nums W bm n L) {k : ByteArray} (hk : k.size ≤ maxLen) :
    (Instr.lookup 51 (.map (some bm)) (.string k) true).run Tryz.prog W = .ok (.tuple #[.int .i64 (lookN L k : Int), .bool (memK (L.map fun p => p.1) k)]) W := by
  obtain ⟨v, h1, h2⟩ := HMap.look Tryz.underlying51 (z := .int .i64 0) (by kernel_rfl) h hk
  rw [(numV_val k _ L rfl).2] at h2
  rw [(numV_val k _ L rfl).1] at h1
  injection h2 with h2
  rw [h2]
  exact h1
set_option maxRecDepth 100000 in
set_option maxHeartbeats 1000000 in
theorem implDepthOf_any (A : Option Addr) (l : List Pr) (cap : Nat) (x : ByteArray) (a : Addr) (w : World) (hl : l.length ≤ maxLen) (hin : PIn w w.heap.size A l) (hx : x.size ≤ maxLen) (hA : Acy l) (hT : Tabs w) (hE : ErrC w a) :
    Calls Tryz.prog 10 #[.slice A l.length cap, .string x] w fun e w' => e = .returned (.int .i64 (dpV l x)) ∧ Below w.heap.size w w' := by
  have T := hide (repoOf_any A l cap a w hl hin hT hE)
  have NO : Hid (repoB l = false → dpV l x = -1) := hide (fun h => dpV_no (fun k => by rw [h] at k; cases k.2))
  clear hin hT hE hl
  generalize l.length = n at *
  go_enter Tryz.func10, Tryz.ntmps10
  go_wp2_with fail
  refine T.out.mono ?_
  rintro e w1 ⟨b1, ⟨hf, rfl⟩ | ⟨hf, bt, bm, bc, B, vs, rfl, _, _, _, _, _, _, rm⟩⟩
  · have Z := hide (NO.out hf)
    have B1 := hide (b1.alloc b1.size (.cells #[.map none, .map none, .map none] 47))
    clear b1 hf T NO
    go_wp2_with fail
    go_ret
    exact ⟨ret_int Z.out.symm, B1.out⟩
  · have b2 := (Below.refl w1.heap.size w1).alloc (Nat.le_refl _) (.cells #[.map (some bt), .map (some bm), .map (some bc)] 47)
    have B2 := hide (b1.trans (b2.mono b1.size))
    have XR := hide (heap_alloc_new w1 (.cells #[.map (some bt), .map (some bm), .map (some bc)] 47))
    have IA := hide (depths_any bt rm hf x hx _ b2)
    have x0 := cell_of_row _ _ 0 _ _ _ XR.out
    have x1 := cell_of_row _ _ 1 _ _ _ XR.out
    have x2 := cell_of_row _ _ 2 _ _ _ XR.out
    have HF := hide hf
    clear b1 b2 hf T NO rm
    go_wp2_with fail
    refine IA.out.mono ?_
    rintro e w3 ⟨gm, nm, xs, rfl, _, hN, hnd, hxs, ho, b3⟩
    have lk := hN.lookOk hx
    rw [dlK_keys l _ xs rfl] at lk
    have B3 := hide (B2.out.trans (b3.mono B2.out.size))
    have NX : Hid (memK xs x = false → dpV l x = -1) := hide (fun h => dpV_no (fun k => by rw [memK_iff.2 ((hxs x).2 ⟨k.1, .self⟩)] at h; cases h))
    have YX : Hid (memK xs x = true → (lookN (dlK l xs) x : Int) = dpV l x) := hide (fun h => by
      have hm := memK_iff.1 h
      rw [dlK_dep (depK_is hA) hnd (ho hA) x hm, dpV_yes ((hxs x).1 hm).1 HF.out])
    clear IA x0 x1 x2 XR b3 hN hnd hxs ho B2 HF
    generalize lookN (dlK l xs) x = v at *
    cases hm : memK xs x
    · rw [hm] at lk
      have Z := hide (NX.out hm)
      clear NX YX hm
      go_wp2
      go_ret
      exact ⟨ret_int Z.out.symm, B3.out⟩
    · rw [hm] at lk
      have Z := hide (YX.out hm)
      clear NX YX hm
      go_wp2
      go_ret
      exact ⟨ret_int Z.out, B3.out⟩
end Go.Proofs.YtdahpnjamlfakaaGreatDoor
/-
  What spec.l5Depths answers in a repository without rings: each object's depth.
-/
namespace Go.Proofs.YtdahpnjamlfakaaGreatDoor
open Go.RowKit

theorem infoI1 : (Tryz.prog.info? 2).map (fun i => (i.zero, i.size, i.bytes)) = some (some (.int .i64 0), 1, 8) := by kernel_rfl
theorem made_nums (n : Nat) : madeCells #[.int .i64 0] n = numsA (fun _ => 0) n := by
  rw [numsA_zero]
  apply Array.ext
  · rw [size_madeCells, Array.size_replicate]
  · intro j h1 h2
    simp [madeCells, Nat.mod_one]
theorem run_mkn (w : World) (n : Nat) (hn : n ≤ 1048576) : (Instr.makeSlice 54 (.int .i64 (n : Int)) (.int .i64 (n : Int))).run Tryz.prog w = .ok (.slice (some ⟨w.heap.size, 0, none⟩) n n) (w.alloc (.cells (numsA (fun _ => 0) n) 2)) := by
  obtain ⟨i, hi, hz0, hz1, hz2⟩ := info_parts infoI1
  have h := run_make (P := Tryz.prog) w 54 2 i _ Tryz.underlying54 hi hz0 .i64 .i64 (n : Int) (n : Int) (by omega) (by omega) (by rw [hz2]; omega) (by omega)
  rw [hz1, Int.toNat_natCast, Nat.mul_one] at h
  rw [h, ← made_nums]
  rfl
theorem grown_setCell (w : World) (g i : Nat) (v : Value) : w.grownBy (w.setCell ⟨g, i, none⟩ v) (some g) := ⟨rfl, rfl, rfl, by simp, fun k _ hne => Below.heap_setCell w ⟨g, i, none⟩ v k (fun e => hne (by rw [e]))⟩
theorem dinv_le {l : List Pr} {D : ByteArray → Nat} (hl : repoB l = true) (hD : IsDep l D) {n i : Nat} {v : Nat → Nat} (h : DInv l D n i v) (j : Nat) (hj : j < l.length) : v j ≤ 60 := by
  have h1 := (h j hj).1
  have h60 := (objsB_iff.1 (repoB_iff.1 hl).1).1
  cases hr : rdOk (valOf l l[j].1)
  · have : D l[j].1 = 0 := by rw [hD, parK_no hr]; rfl
    omega
  · have := dep_le hl hD hr
    omega
set_option maxRecDepth 100000 in
set_option maxHeartbeats 4000000 in
theorem l5Depths_any (A : Option Addr) (l : List Pr) (cap : Nat) (D : ByteArray → Nat) (w : World) (n : Nat) (hn : l.length = n) (hrep : repoB l = true) (hD : IsDep l D) (hin : PIn w w.heap.size A l) :
    Calls Tryz.prog 28 #[.slice A n cap] w fun e w' => ∃ v : Nat → Nat, e = .returned (.slice (some ⟨w.heap.size, 0, none⟩) n n) ∧ (∀ j (h : j < l.length), v j = D l[j].1) ∧ IRow w' w.heap.size n v ∧ Below w.heap.size w w' := by
  have ho := (repoB_iff.1 hrep).1
  have h60 := (objsB_iff.1 ho).1
  have hlm : n ≤ maxLen := by unfold maxLen; omega
  have hmk := run_mkn w n (by omega)
  have IN := hide hin
  have NN := hide hn
  have RC : Hid (∀ k (h : k < l.length) W, Calls Tryz.prog 65 #[.string (l[k]'h).2] W fun e w' => ∃ A cap t m b, e = .returned (.tuple #[.agg #[.string t, .slice A (parK l (l[k]'h).1).length cap, .string m], .bool b]) ∧ ZOwn w' W.heap.size A cap (parK l (l[k]'h).1) ∧ Below W.heap.size W w') := hide (fun k h W => by
    have hv := (valOf_at (objsB_iff.1 ho).2.2 h).2
    have hz := ((objs_all.1 ho).2.1 _ (List.getElem_mem h)).1
    refine (specReadCommit_any (l[k]'h).2 W (by omega)).mono ?_
    rintro e w' ⟨A', cap', rfl, o', b'⟩
    have hp : (rdC (l[k]'h).2).2.1 = parK l (l[k]'h).1 := by rw [← rd_par l (l[k]'h).1, hv]
    rw [hp] at o' ⊢
    exact ⟨A', cap', _, _, _, rfl, o', b'⟩)
  have AT : Hid (∀ q W, Below w.heap.size w W → Calls Tryz.prog 29 #[.slice A n cap, .string q] W fun e w' => e = .returned (.int .i64 (atN l q : Nat)) ∧ W = w') := hide (fun q W hb => by rw [← hn]; exact l3At_any A l cap q W w.heap.size (by rw [hn]; exact hlm) (hin.below hb))
  have PA : Hid (∀ k (h : k < l.length), ∀ q ∈ parK l (l[k]'h).1, atN l q < n ∧ atN l q ≠ k) := hide (fun k h q hq => by
    obtain ⟨a1, a2⟩ := par_at hrep hq
    refine ⟨by rw [← hn]; exact a1, fun e => ?_⟩
    have := dep_lt hD hq
    have e2 : l[k].1 = q := by rw [← a2]; simp only [e]
    rw [e2] at this
    omega)
  have ST : Hid (∀ r i v, DInv l D r i v → ∀ h : i < l.length, DInv l D r (i + 1) (updN v i (mxF (fun p => v (atN l p)) (parK l (l[i]'h).1) (v i)))) := hide (fun r i v h hi => h.upd hrep hD hi)
  have RD : Hid (∀ r v, DInv l D r n v → DInv l D (r + 1) 0 v) := hide (fun r v h => by rw [← hn] at h; exact h.round)
  have FN : Hid (∀ v, DInv l D n 0 v → ∀ j (h : j < l.length), v j = D l[j].1) := hide (fun v h j hj => by rw [← hn] at h; exact h.fin hrep hD j hj)
  have VB : Hid (∀ r i v, DInv l D r i v → ∀ j, j < n → v j ≤ 60) := hide (fun r i v h j hj => dinv_le hrep hD h j (by omega))
  have D0 : Hid (DInv l D 0 0 (fun _ => 0)) := hide (DInv.start l D)
  have I0 : Hid (IRow (w.alloc (.cells (numsA (fun _ => 0) n) 2)) w.heap.size n (fun _ => 0)) := hide (heap_alloc_new w _)
  have Q0 : Hid (Below w.heap.size w (w.alloc (.cells (numsA (fun _ => 0) n) 2))) := hide ((Below.refl _ w).alloc (Nat.le_refl _) _)
  have h60n : n ≤ 60 := by omega
  obtain ⟨g0, hg0⟩ : ∃ g, w.heap.size = g := ⟨_, rfl⟩
  have GOAL : Hid (∀ v w', DInv l D n 0 v → IRow w' g0 n v → Below w.heap.size w w' → ∃ v' : Nat → Nat, (∀ j (h : j < l.length), v' j = D l[j].1) ∧ IRow w' w.heap.size n v' ∧ Below w.heap.size w w') := hide (fun v w' h1 h2 h3 => ⟨v, FN.out v h1, by rw [hg0]; exact h2, h3⟩)
  have G0 := hide hg0
  rw [hg0] at I0
  clear hn hin ho hrep hD h60 FN hlm hg0
  go_enter Tryz.func28, Tryz.ntmps28
  go_wp2
  generalize hW0 : w.alloc (.cells (numsA (fun _ => 0) n) 2) = W0 at *
  clear hW0 hmk
  go_loopw [4] (fun iv wr => ∃ (r : Nat) (v : Nat → Nat), r ≤ n ∧ iv = .int .i64 r ∧ Hid (DInv l D r 0 v) ∧ Hid (IRow wr g0 n v) ∧ Hid (Below w.heap.size w wr)) (fun i _ => n - (intOf i).toNat)
  case atStart => exact ⟨0, _, Nat.zero_le _, rfl, D0, I0, Q0⟩
  case round =>
    clear D0 I0 Q0
    obtain ⟨r, v, hr, rfl, DR, IR, QR⟩ := hrel
    by_cases hlt : r < n
    · have HL := hide hlt
      clear GOAL
      go_wp2
      go_loopw [5] (fun iv wr => ∃ (i : Nat) (v : Nat → Nat), i ≤ n ∧ iv = .int .i64 i ∧ Hid (DInv l D r i v) ∧ Hid (IRow wr g0 n v) ∧ Hid (Below w.heap.size w wr)) (fun i _ => n - (intOf i).toNat)
      case atStart => exact ⟨0, v, Nat.zero_le _, rfl, DR, IR, QR⟩
      case round =>
        clear DR IR QR hlt
        obtain ⟨i, v, hi, rfl, DR, IR, QR⟩ := hrel
        by_cases hlt : i < n
        · have hil : i < l.length := by rw [NN.out]; exact hlt
          obtain ⟨b, off, rfl, hbB, hc⟩ := IN.out.2 (by omega)
          have c1 := (QR.out.cell (p := ⟨b, off + i * 2 + 1, none⟩) hbB).trans (hc i hil).2
          have RI := hide (fun W => RC.out i hil W)
          have PI := hide (PA.out i hil)
          have SI := hide (ST.out r i v DR.out hil)
          have VI := hide (VB.out r i v DR.out)
          have hp2 := parK_len l (l[i]'hil).1
          have PSZ : Hid (∀ q ∈ parK l (l[i]'hil).1, q.size = 16) := hide (fun q h => parK_size h)
          have HI := hide hlt
          clear hc RC PA ST VB DR
          generalize parK l (l[i]'hil).1 = ps at *
          generalize (l[i]'hil).2 = tx at *
          clear hil
          go_wp2_with fail
          refine (RI.out _).mono ?_
          rintro e w3 ⟨A3, c3, t3, m3, bb, rfl, o3, b3⟩
          have XB := hide (heap_alloc_new w3 (.cells #[.string t3, .slice A3 ps.length c3, .string m3] 30))
          have bx := (Below.refl w3.heap.size w3).alloc (Nat.le_refl _) (.cells #[.string t3, .slice A3 ps.length c3, .string m3] 30)
          have O4 := hide (o3.below bx)
          have I4 := hide ((IR.out.below b3).below bx)
          have hgw := IR.out.lt
          have Q4 := hide ((QR.out.trans (b3.mono QR.out.size)).trans (bx.mono (Nat.le_trans QR.out.size b3.size)))
          have hb3 := b3.size
          obtain ⟨gx, hgx⟩ : ∃ g, w3.heap.size = g := ⟨_, rfl⟩
          rw [hgx] at XB hb3
          have hgx2 : g0 < gx := by omega
          obtain ⟨ws, hws⟩ : ∃ s, wr.heap.size = s := ⟨_, rfl⟩
          rw [hws] at O4 hgw
          obtain ⟨w4, hw4⟩ : ∃ W, w3.alloc (.cells #[.string t3, .slice A3 ps.length c3, .string m3] 30) = W := ⟨_, rfl⟩
          rw [hw4] at XB O4 I4 Q4
          have x1 := cell_of_row _ _ 1 _ _ _ XB.out
          have MI : Hid (updN v i (mxF (fun p => v (atN l p)) (ps.take 0) (v i)) = v) := hide (updN_self v i)
          rw [← MI.out] at I4
          obtain ⟨np, hnp⟩ : ∃ np, ps.length = np := ⟨_, rfl⟩
          have NP := hide hnp
          rw [hnp] at x1 XB hw4 hp2 ⊢
          clear o3 b3 bx hws hnp IR RI MI QR c1
          have HW4 := hide hw4
          go_wp2
          clear hw4
          go_loopw [8] (fun jv wr5 => ∃ j : Nat, j ≤ np ∧ jv = .int .i64 j ∧ Hid (IRow wr5 g0 n (updN v i (mxF (fun p => v (atN l p)) (ps.take j) (v i)))) ∧ Hid (wr5.heap[gx]? = some (.cells #[.string t3, .slice A3 np c3, .string m3] 30 (0, 0))) ∧ Hid (ZOwn wr5 ws A3 c3 ps) ∧ Hid (Below w.heap.size w wr5)) (fun j _ => np - (intOf j).toNat)
          case atStart => exact ⟨0, Nat.zero_le _, rfl, I4, XB, O4, Q4⟩
          case round =>
            clear I4 XB O4 Q4 x1
            obtain ⟨j, hj, rfl, IJ, XJ, OJ, QJ⟩ := hrel
            have x1 := cell_of_row _ _ 1 _ _ _ XJ.out
            by_cases hlj : j < np
            · have hjl : j < ps.length := by rw [NP.out]; exact hlj
              obtain ⟨gq, offq, rfl, _, hcq⟩ := OJ.out.zin (by omega)
              have cq := hcq j hjl
              have pm := PI.out _ (List.getElem_mem hjl)
              have SZ := PSZ.out _ (List.getElem_mem hjl)
              have MX : Hid (mxF (fun p => v (atN l p)) (ps.take (j + 1)) (v i) = max (mxF (fun p => v (atN l p)) (ps.take j) (v i)) (v (atN l (ps[j]'hjl)) + 1)) := hide (by rw [List.take_succ_eq_append_getElem hjl, mxF_snoc])
              have MB : mxF (fun p => v (atN l p)) (ps.take j) (v i) ≤ 61 := mxF_le.2 ⟨by have := VI.out i HI.out; omega, fun q hq => by
                have := VI.out _ (PI.out q (List.mem_of_mem_take hq)).1
                omega⟩
              have VA := VI.out _ pm.1
              have ci := IJ.out.cell HI.out
              have ca := IJ.out.cell pm.1
              have fi := IJ.out.frozen i
              have e1 : updN v i (mxF (fun p => v (atN l p)) (ps.take j) (v i)) i = mxF (fun p => v (atN l p)) (ps.take j) (v i) := if_pos rfl
              have e2 : updN v i (mxF (fun p => v (atN l p)) (ps.take j) (v i)) (atN l (ps[j]'hjl)) = v (atN l (ps[j]'hjl)) := if_neg pm.2
              rw [e1] at ci
              rw [e2] at ca
              have NXT : Hid (∀ m2, m2 = max (mxF (fun p => v (atN l p)) (ps.take j) (v i)) (v (atN l (ps[j]'hjl)) + 1) → IRow (wr.setCell ⟨g0, i, none⟩ (.int .i64 (m2 : Int))) g0 n (updN v i (mxF (fun p => v (atN l p)) (ps.take (j + 1)) (v i)))) := hide (fun m2 h => by
                have h1 := IJ.out.set i m2
                rw [updN_two] at h1
                rw [MX.out, ← h]
                exact h1)
              have AJ := hide (AT.out (ps[j]'hjl) wr QJ.out)
              have hi2 := HI.out
              have ha2 := pm.1
              rw [← G0.out] at ci ca fi
              have XN : Hid (∀ u, (wr.setCell ⟨g0, i, none⟩ u).heap[gx]? = some (.cells #[.string t3, .slice (some ⟨gq, offq, none⟩) np c3, .string m3] 30 (0, 0))) := hide (fun u => (Below.heap_setCell wr ⟨g0, i, none⟩ u gx (fun e => by have : gx = g0 := e; omega)).trans XJ.out)
              have ON : Hid (∀ u, ZOwn (wr.setCell ⟨g0, i, none⟩ u) ws (some ⟨gq, offq, none⟩) c3 ps) := hide (fun u => OJ.out.kept (grown_setCell wr g0 i u) (fun e => by have := (OJ.out.row g0 e).1; omega))
              have QN : Hid (∀ u, Below w.heap.size w (wr.setCell ⟨g0, i, none⟩ u)) := hide (fun u => QJ.out.setCell (p := ⟨g0, i, none⟩) (show w.heap.size ≤ g0 by rw [G0.out]; exact Nat.le_refl _) u)
              rw [← G0.out] at NXT XN ON QN
              clear hcq MX e1 e2 pm PI VI PSZ
              generalize mxF (fun p => v (atN l p)) (ps.take j) (v i) = m at *
              generalize hqq : ps[j]'hjl = q at *
              clear hqq
              generalize hat : atN l q = ta at *
              clear hat
              generalize v ta = va at *
              go_wp2_with fail
              refine AJ.out.mono ?_
              rintro e w' ⟨rfl, rfl⟩
              clear AJ
              have MC : Hid (max (m : Int) (1 + (va : Int)) = ((max m (va + 1) : Nat) : Int)) := hide (by omega)
              have HJ := hide hlj
              go_wp2
              go_region
              rw [MC.out]
              have N2 := hide (NXT.out _ rfl)
              have X2 := hide (XN.out (.int .i64 ((max m (va + 1) : Nat) : Int)))
              have O2 := hide (ON.out (.int .i64 ((max m (va + 1) : Nat) : Int)))
              have Q2 := hide (QN.out (.int .i64 ((max m (va + 1) : Nat) : Int))).drew
              clear NXT XN ON QN ci ca fi cq x1 MC
              generalize wr.setCell ⟨w.heap.size, i, none⟩ (.int .i64 ((max m (va + 1) : Nat) : Int)) = W6 at *
              generalize max m (va + 1) = m6 at *
              go_wp2
              go_roundw
              case rel => exact ⟨j + 1, HJ.out, by have := HJ.out; go_num, by rw [← G0.out]; exact N2, X2, O2, Q2⟩
              case measure => have := HJ.out; simp [intOf]; omega
            · have e9 : ps.take j = ps := List.take_of_length_le (by rw [NP.out]; omega)
              rw [e9] at IJ
              have HN2 := HI.out
              have hgt : ¬ ((j : Int) < (np : Int)) := by omega
              clear hlj e9
              go_wp2
              go_roundw
              case rel => exact ⟨i + 1, _, HI.out, by have := HI.out; go_num, SI, IJ, QJ⟩
              case measure => have := HI.out; simp [intOf]; omega
        · obtain rfl : i = n := by omega
          have DR2 := hide (RD.out r v DR.out)
          have hgt : ¬ ((i : Int) < (i : Int)) := by omega
          clear hlt
          go_wp2
          go_roundw
          case rel => exact ⟨r + 1, v, HL.out, by have := HL.out; go_num, DR2, IR, QR⟩
          case measure => have := HL.out; simp [intOf]; omega
    · obtain rfl : r = n := by omega
      have hgt : ¬ ((r : Int) < (r : Int)) := by omega
      have G := hide (GOAL.out v _ DR.out IR.out QR.out)
      clear hlt GOAL
      go_wp2
      go_ret
      obtain ⟨v', k1, k2, k3⟩ := G.out
      exact ⟨rfl, v', k1, k2, k3⟩
end Go.Proofs.YtdahpnjamlfakaaGreatDoor
/-
  What spec.DepthOf answers in a repository without rings.
-/
namespace Go.Proofs.YtdahpnjamlfakaaGreatDoor
open Go.RowKit

/-- a row of numbers tells each object's depth -/
def AllD (l : List Pr) (D : ByteArray → Nat) (v : Nat → Nat) : Prop := ∀ j (h : j < l.length), v j = D l[j].1
set_option maxRecDepth 100000 in
set_option maxHeartbeats 1000000 in
theorem specDepthOf_any (A : Option Addr) (l : List Pr) (cap : Nat) (x : ByteArray) (w : World) (hl : l.length ≤ maxLen) (hin : PIn w w.heap.size A l) (hz : (valOf l x).size ≤ 1048576) (hA : Acy l) (hrep : repoB l = true) :
    Calls Tryz.prog 11 #[.slice A l.length cap, .string x] w fun e w' => e = .returned (.int .i64 (dpV l x)) ∧ Below w.heap.size w w' := by
  have IS := hide (l5Is_any A l cap x w hl hin hz)
  have DP : Hid (∀ W, Below w.heap.size w W → Calls Tryz.prog 28 #[.slice A l.length cap] W fun e w' => ∃ v : Nat → Nat, e = .returned (.slice (some ⟨W.heap.size, 0, none⟩) l.length l.length) ∧ AllD l (depK l) v ∧ IRow w' W.heap.size l.length v ∧ Below W.heap.size W w') := hide (fun W (h : Below w.heap.size w W) => l5Depths_any A l cap (depK l) W l.length rfl hrep (depK_is hA) ((hin.below h).more h.size))
  have AT := hide (fun W (h : Below w.heap.size w W) => l3At_any A l cap x W w.heap.size hl (hin.below h))
  cases hr : rdOk (valOf l x)
  · have Z : Hid (dpV l x = -1) := hide (dpV_no (fun k => by rw [hr] at k; cases k.1))
    rw [Z.out]
    rw [hr, Bool.false_and] at IS
    clear DP AT hz hr
    generalize l.length = n at *
    go_enter Tryz.func11, Tryz.ntmps11
    go_wp2_with fail
    refine IS.out.mono ?_
    rintro e w1 ⟨rfl, b1⟩
    have B1 := hide b1
    clear b1 IS
    go_wp2
    go_ret
    exact ⟨rfl, B1.out⟩
  · rw [hr, hrep, Bool.true_and] at IS
    obtain ⟨h1, h2⟩ := hasB_iff.1 (has_rd hr)
    have Z : Hid (dpV l x = (depK l x : Int)) := hide (dpV_yes hr hrep)
    rw [Z.out]
    have VX : Hid (∀ v : Nat → Nat, AllD l (depK l) v → v (atN l x) = depK l x) := hide (fun v h => by rw [h _ h1, h2])
    clear hz hr h2
    generalize l.length = n at *
    go_enter Tryz.func11, Tryz.ntmps11
    go_wp2_with fail
    refine IS.out.mono ?_
    rintro e w1 ⟨rfl, b1⟩
    have B1 := hide b1
    have D1 := hide (DP.out w1 b1)
    clear b1 IS DP
    go_wp2_with fail
    refine D1.out.mono ?_
    rintro e w2 ⟨v, rfl, hv, hrow, b2⟩
    have B2 := hide (B1.out.trans (b2.mono B1.out.size))
    have A2 := hide (AT.out w2 B2.out)
    have c2 := hrow.cell h1
    rw [VX.out v hv] at c2
    clear b2 D1 AT hrow hv VX
    generalize atN l x = j at *
    obtain ⟨d, hd⟩ : ∃ d, depK l x = d := ⟨_, rfl⟩
    have HD := hide hd
    rw [hd] at c2
    clear hd
    go_wp2_with fail
    refine A2.out.mono ?_
    rintro e w3 ⟨rfl, rfl⟩
    go_wp2
    go_ret
    exact ⟨ret_int (by rw [HD.out]), B2.out⟩
end Go.Proofs.YtdahpnjamlfakaaGreatDoor
/-
  What is drawn for the laws on depths and logs.
-/
namespace Go.Proofs.YtdahpnjamlfakaaGreatDoor
open Go.RowKit

set_option maxRecDepth 100000 in
set_option maxHeartbeats 1000000 in
theorem drawDepthOf_any (A : Option Addr) (n cap : Nat) (w : World) (hn : n ≤ 1048576) (hin : CIn w w.heap.size A n) :
    Calls Tryz.prog 9 #[.slice A n cap] w (DrawnRS w) := by
  go_enter Tryz.func9, Tryz.ntmps9
  go_wp2_with fail
  refine (drawCommitAt_any A n cap w hn hin).mono ?_
  rintro e w1 ⟨A2, cap2, l, id, h1, h2, h3, h4, rfl, h5, h6⟩
  go_wp2_with fail
  go_ret2
  exact ⟨A2, cap2, l, id, h1, h2, h3, h4, rfl, h5, h6⟩
set_option maxRecDepth 100000 in
set_option maxHeartbeats 1000000 in
theorem drawLogOf_any (A : Option Addr) (n cap : Nat) (w : World) (hn : n ≤ 1048576) (hin : CIn w w.heap.size A n) :
    Calls Tryz.prog 13 #[.slice A n cap] w (DrawnRS w) := by
  go_enter Tryz.func13, Tryz.ntmps13
  go_wp2_with fail
  refine (drawCommitAt_any A n cap w hn hin).mono ?_
  rintro e w1 ⟨A2, cap2, l, id, h1, h2, h3, h4, rfl, h5, h6⟩
  go_wp2_with fail
  go_ret2
  exact ⟨A2, cap2, l, id, h1, h2, h3, h4, rfl, h5, h6⟩
end Go.Proofs.YtdahpnjamlfakaaGreatDoor
