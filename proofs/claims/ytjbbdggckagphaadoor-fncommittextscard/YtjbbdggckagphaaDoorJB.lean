/-
  Texts that this proof leans on, joined: JB.
-/
import Derived.Test.YtjbbdggckagphaaDoorPMath
import Derived.Lib.Bytealg
import Derived.Test.YtjbbdggckagphaaDoorJA
import Derived.IntWalk
import Derived.Laws.IdiomStrings
import Derived.Deep.RegionHeld3
import Derived.BigQuiet
import Derived.Deep.RegionLaw
import Derived.StillTailTactics
import Derived.RegionTactic
import Derived.RegionDies
import Derived.Defers
import Derived.Recover
import Derived.Laws.Pointers
import Derived.Test.YtjbbdggckagphaaDoorCards
import Derived.Test.YtjbbdggckagphaaDoorTie
import Derived.WalkKit
import Derived.ProofKit
import Derived.OpenShut
import Derived.ShutString
import Derived.Deep.DeepHandedRow
import Derived.WalkSmall
import Derived.Carry
import Derived.LaidHandle
import Derived.Stop.LaidErr
import Derived.Maps.AppendAt
import Derived.Deep.Slices
import Derived.Lib.Builder
import Derived.Lib.AppendStr
import Derived.Lib.UnsafeStr
import Derived.Laws.Externs
/-
  The order of texts is a strict order without ends left open; where a key stands in a map, and what it has there. Plain mathematics.
-/
namespace Go.Proofs.YtjbbdggckagphaaDoor
open Go.RowKit

theorem bl_irrefl : ∀ x : List UInt8, Op.bytesLess x x = false
  | [] => rfl
  | a :: x => by simp [Op.bytesLess, bl_irrefl x]
theorem bl_trans : ∀ x y z : List UInt8, Op.bytesLess x y = true → Op.bytesLess y z = true → Op.bytesLess x z = true
  | _, _, [], _, h => by simp [Op.bytesLess] at h
  | _, [], _ :: _, h, _ => by simp [Op.bytesLess] at h
  | [], _ :: _, _ :: _, _, _ => by simp [Op.bytesLess]
  | a :: x, b :: y, c :: z, h, k => by
    simp only [Op.bytesLess, Bool.or_eq_true, Bool.and_eq_true, decide_eq_true_eq, beq_iff_eq] at h k ⊢
    rcases h with h | ⟨rfl, h⟩
    · rcases k with k | ⟨rfl, k⟩
      · exact .inl (UInt8.lt_trans h k)
      · exact .inl h
    · rcases k with k | ⟨rfl, k⟩
      · exact .inl k
      · exact .inr ⟨rfl, bl_trans x y z h k⟩
theorem bl_tri : ∀ x y : List UInt8, Op.bytesLess x y = true ∨ x = y ∨ Op.bytesLess y x = true
  | [], [] => .inr (.inl rfl)
  | [], _ :: _ => .inl rfl
  | _ :: _, [] => .inr (.inr rfl)
  | a :: x, b :: y => by
    simp only [Op.bytesLess, Bool.or_eq_true, Bool.and_eq_true, decide_eq_true_eq, beq_iff_eq]
    by_cases h : a < b
    · exact .inl (.inl h)
    · by_cases k : b < a
      · exact .inr (.inr (.inl k))
      · obtain rfl : a = b := UInt8.le_antisymm (UInt8.not_lt.1 k) (UInt8.not_lt.1 h)
        rcases bl_tri x y with g | rfl | g
        · exact .inl (.inr ⟨rfl, g⟩)
        · exact .inr (.inl rfl)
        · exact .inr (.inr (.inr ⟨rfl, g⟩))
theorem cmp_bl : ∀ x y : List UInt8, (Lib.compareBytes x y < 0 ↔ Op.bytesLess x y = true) ∧ (Lib.compareBytes x y = 0 ↔ x = y)
  | [], [] => by simp [Lib.compareBytes, Op.bytesLess]
  | [], _ :: _ => by simp [Lib.compareBytes, Op.bytesLess]
  | _ :: _, [] => by simp [Lib.compareBytes, Op.bytesLess]
  | a :: x, b :: y => by
    obtain ⟨h1, h2⟩ := cmp_bl x y
    unfold Lib.compareBytes Op.bytesLess
    by_cases hlt : a < b
    · have hne : ¬ a = b := by rintro rfl; exact UInt8.lt_irrefl _ hlt
      simp [hlt, hne]
    · by_cases hgt : b < a
      · have hne : ¬ a = b := by rintro rfl; exact UInt8.lt_irrefl _ hgt
        simp [hlt, hgt, hne]
      · obtain rfl : a = b := UInt8.le_antisymm (UInt8.not_lt.1 hgt) (UInt8.not_lt.1 hlt)
        simp [UInt8.lt_irrefl, h1, h2]

theorem ltB_irrefl (a : ByteArray) : ltB a a = false := bl_irrefl _
theorem ltB_trans {a b c : ByteArray} (h : ltB a b = true) (k : ltB b c = true) : ltB a c = true := bl_trans _ _ _ h k
theorem toList_inj {a b : ByteArray} (e : a.toList = b.toList) : a = b := by
  rw [Go.ByteArray.toList_eq, Go.ByteArray.toList_eq] at e
  exact Go.WideShapes.bytes_inj e
theorem ltB_tri (a b : ByteArray) : ltB a b = true ∨ a = b ∨ ltB b a = true := by
  rcases bl_tri a.toList b.toList with h | h | h
  · exact .inl h
  · exact .inr (.inl (toList_inj h))
  · exact .inr (.inr h)
theorem ltB_asymm {a b : ByteArray} (h : ltB a b = true) : ltB b a = false := by
  cases e : ltB b a
  · rfl
  · have := ltB_trans h e; rw [ltB_irrefl] at this; cases this
/-- what strings.Compare says -/
def cmpS (a b : ByteArray) : Int := Lib.compareBytes a.data.toList b.data.toList
theorem cmpS_lt {a b : ByteArray} : cmpS a b < 0 ↔ ltB a b = true := by
  unfold cmpS ltB; rw [Go.ByteArray.toList_eq, Go.ByteArray.toList_eq]; exact (cmp_bl _ _).1
theorem cmpS_eq {a b : ByteArray} : cmpS a b = 0 ↔ a = b := by
  unfold cmpS; rw [(cmp_bl _ _).2]; exact ⟨fun h => Go.WideShapes.bytes_inj h, fun h => by rw [h]⟩

theorem rises_lt {l : List Pr} (h : risesTo l l.length) : ∀ j (hj : j < l.length) i (hi : i < j), ltB (l[i]'(by omega)).1 l[j].1 = true
  | 0, _, i, hi => absurd hi (by omega)
  | j + 1, hj, i, hi => by
    have h1 := h j hj hj
    rcases Nat.lt_or_ge i j with g | g
    · exact ltB_trans (rises_lt h j (by omega) i g) h1
    · obtain rfl : i = j := by omega
      exact h1

/-- how many keys at the head of l are less: where the key would stand -/
def atN : List Pr → ByteArray → Nat
  | [], _ => 0
  | p :: r, k => if ltB p.1 k = true then atN r k + 1 else 0
theorem atN_le : ∀ (l : List Pr) (k : ByteArray), atN l k ≤ l.length
  | [], _ => Nat.le_refl _
  | p :: r, k => by
    unfold atN
    have := atN_le r k
    split <;> simp <;> omega
theorem atN_lt : ∀ (l : List Pr) (k : ByteArray) (i : Nat) (_ : i < atN l k) (h' : i < l.length), ltB l[i].1 k = true
  | [], _, i, _, h' => absurd h' (by simp)
  | p :: r, k, i, h, h' => by
    unfold atN at h
    split at h
    next e =>
      cases i with
      | zero => exact e
      | succ i => exact atN_lt r k i (by omega) (by simpa using h')
    next => omega
theorem atN_not : ∀ (l : List Pr) (k : ByteArray) (h : atN l k < l.length), ltB l[atN l k].1 k = false
  | [], _, h => absurd h (by simp)
  | p :: r, k, h => by
    by_cases e : ltB p.1 k = true
    · have h1 : atN (p :: r) k = atN r k + 1 := by rw [atN, if_pos e]
      have h2 : atN r k < r.length := by rw [h1] at h; simpa using h
      have h3 := atN_not r k h2
      simp only [h1, List.getElem_cons_succ]
      exact h3
    · have h1 : atN (p :: r) k = 0 := by rw [atN, if_neg e]
      simp only [h1, List.getElem_cons_zero]
      simpa using e
/-- the place is known by what stands on both sides of it -/
theorem atN_eq {l : List Pr} {k : ByteArray} {n : Nat} (hn : n ≤ l.length) (h1 : ∀ i (h : i < l.length), i < n → ltB l[i].1 k = true) (h2 : ∀ (h : n < l.length), ltB l[n].1 k = false) : atN l k = n := by
  rcases Nat.lt_trichotomy (atN l k) n with g | g | g
  · have := atN_not l k (by omega)
    rw [h1 _ (by omega) g] at this
    cases this
  · exact g
  · have h3 : n < l.length := by have := atN_le l k; omega
    have := atN_lt l k n g h3
    rw [h2 h3] at this
    cases this

/-- is the key there? -/
def hasB (l : List Pr) (k : ByteArray) : Bool := if h : atN l k < l.length then decide (l[atN l k].1 = k) else false
theorem hasB_yes {l : List Pr} {k : ByteArray} (h : atN l k < l.length) (e : l[atN l k].1 = k) : hasB l k = true := by unfold hasB; rw [dif_pos h]; exact decide_eq_true e
theorem hasB_no {l : List Pr} {k : ByteArray} (h : atN l k < l.length) (e : ¬ l[atN l k].1 = k) : hasB l k = false := by unfold hasB; rw [dif_pos h]; exact decide_eq_false e
theorem hasB_end {l : List Pr} {k : ByteArray} (h : ¬ atN l k < l.length) : hasB l k = false := by unfold hasB; rw [dif_neg h]
theorem hasB_iff {l : List Pr} {k : ByteArray} : hasB l k = true ↔ ∃ h : atN l k < l.length, l[atN l k].1 = k := by
  unfold hasB
  split
  next h => rw [decide_eq_true_iff]; exact ⟨fun e => ⟨h, e⟩, fun ⟨_, e⟩ => e⟩
  next h => simp; intro x; exact absurd x h
/-- its value, or nothing -/
def valOf (l : List Pr) (k : ByteArray) : ByteArray := if h : atN l k < l.length then (if l[atN l k].1 = k then l[atN l k].2 else ByteArray.empty) else ByteArray.empty
theorem valOf_yes {l : List Pr} {k : ByteArray} (h : atN l k < l.length) (e : l[atN l k].1 = k) : valOf l k = l[atN l k].2 := by unfold valOf; rw [dif_pos h, if_pos e]
theorem valOf_no {l : List Pr} {k : ByteArray} (h : hasB l k = false) : valOf l k = ByteArray.empty := by
  unfold valOf
  split
  next h' =>
    split
    next e => rw [hasB_yes h' e] at h; cases h
    next => rfl
  next => rfl
/-- what Get tells -/
noncomputable def getB (l : List Pr) (k : ByteArray) : Bool := mapB l && hasB l k
noncomputable def getV (l : List Pr) (k : ByteArray) : ByteArray := if mapB l = true then valOf l k else ByteArray.empty
end Go.Proofs.YtjbbdggckagphaaDoor
/-
  The laws' marks: markText, markPairS, heldPairS.
-/
namespace Go.Proofs.YtjbbdggckagphaaDoor
open Go.RowKit

def digF : Nat → Nat → ByteArray → ByteArray
  | 0, _, acc => acc
  | f + 1, k, acc => if k = 0 then acc else digF f (k / 10) (⟨#[(48 + k % 10).toUInt8]⟩ ++ acc)
theorem digF_step {f k : Nat} {s r : ByteArray} (hk : 0 < k) (hkf : k ≤ f) (h : digF f k s = r) : digF (f - 1) (k / 10) (⟨#[(48 + k % 10).toUInt8]⟩ ++ s) = r := by
  obtain ⟨g, rfl⟩ : ∃ g, f = g + 1 := ⟨f - 1, by omega⟩
  rw [digF, if_neg (by omega)] at h
  exact h
theorem digF_zero {f : Nat} {s r : ByteArray} (h : digF f 0 s = r) : s = r := by
  cases f with
  | zero => exact h
  | succ f => rw [digF, if_pos rfl] at h; exact h
/-- the text m and k in decimal -/
def markS (k : Nat) : ByteArray := ⟨#[109]⟩ ++ digF k k ByteArray.empty

theorem dig_conv (j : Nat) (W : World) : (convert 22 9 (.slice (some ⟨W.heap.size, 0, none⟩) 1 1)).run Tryd.prog (W.alloc (.cells #[.int .u8 (48 + (j : Int) % 10)] 5)) = .ok (.string ⟨#[(48 + j % 10).toUInt8]⟩) (W.alloc (.cells #[.int .u8 (48 + (j : Int) % 10)] 5)) := by
  have h := run_convert_bytes_back (P := Tryd.prog) (W.alloc (.cells #[.int .u8 (48 + (j : Int) % 10)] 5)) 22 9 5 ⟨W.heap.size, 0, none⟩ 1 [(48 + j % 10).toUInt8] Tryd.underlying22 Tryd.underlying5 Tryd.underlying9 (fun i hi => by
    obtain rfl : i = 0 := by simpa using hi
    rw [show (⟨W.heap.size, 0, none⟩ : Addr).add 0 = ⟨W.heap.size, 0, none⟩ from rfl, cell_of_row _ W.heap.size 0 _ 5 (0, 0) (heap_alloc_new W _)]
    simp
    omega)
  exact h

theorem dig_size : ∀ (f k : Nat) (s : ByteArray), (digF f k s).size ≤ s.size + f
  | 0, _, s => Nat.le_refl _
  | f + 1, k, s => by
    unfold digF
    split
    · omega
    · refine Nat.le_trans (dig_size f _ _) ?_
      rw [ByteArray.size_append]
      show 1 + s.size + f ≤ _
      omega
theorem mark_size (k : Nat) : (markS k).size ≤ k + 1 := by
  unfold markS
  rw [ByteArray.size_append]
  have := dig_size k k ByteArray.empty
  have h0 : ByteArray.empty.size = 0 := rfl
  have h1 : (ByteArray.mk #[109]).size = 1 := rfl
  omega
end Go.Proofs.YtjbbdggckagphaaDoor
/-
  What laws.markStringS and laws.heldStringS answer over rows of texts of the call's own.
-/
namespace Go.Proofs.YtjbbdggckagphaaDoor
open Go.RowKit

/-- n marks from k on -/
def marksZ (k n : Nat) : List ByteArray := (List.range n).map fun i => markS (k + i)
theorem marksZ_len (k n : Nat) : (marksZ k n).length = n := by unfold marksZ; simp
theorem marksZ_succ (k n : Nat) : marksZ k (n + 1) = marksZ k n ++ [markS (k + n)] := by unfold marksZ; rw [List.range_succ, List.map_append]; rfl
theorem marksZ_get (k n i : Nat) (h : i < (marksZ k n).length) : (marksZ k n)[i] = markS (k + i) := by simp only [marksZ, List.getElem_map, List.getElem_range]
theorem marksZ_step (k : Nat) (l : List ByteArray) (i : Nat) (h : i < l.length) : (marksZ k i ++ l.drop i).set i (markS (k + i)) = marksZ k (i + 1) ++ l.drop (i + 1) := by
  rw [List.set_append_right _ _ (by rw [marksZ_len]; exact Nat.le_refl _), marksZ_len, Nat.sub_self, List.drop_eq_getElem_cons h, List.set_cons_zero, marksZ_succ, List.append_assoc]
  rfl
def MarkRetZ (k : Nat) (w : World) (B : Nat) (A : Option Addr) (cap n : Nat) (e : Ending) (w' : World) : Prop := e = .returned (.int .i64 (k + n : Nat)) ∧ ZOwn w' B A cap (marksZ k n) ∧ w.grownBy w' (rowOf A)

end Go.Proofs.YtjbbdggckagphaaDoor
/-
  Rising texts: two of the same members are one; one more. Plain mathematics.
-/
namespace Go.Proofs.YtjbbdggckagphaaDoor
open Go.RowKit

/-- rising texts -/
def RisK (l : List ByteArray) : Prop := l.Pairwise fun a b => ltB a b = true
theorem RisK.ext : ∀ {l l' : List ByteArray}, RisK l → RisK l' → (∀ p, p ∈ l ↔ p ∈ l') → l = l'
  | [], [], _, _, _ => rfl
  | [], b :: t, _, _, h => absurd ((h b).2 (List.mem_cons_self ..)) (by simp)
  | a :: s, [], _, _, h => absurd ((h a).1 (List.mem_cons_self ..)) (by simp)
  | a :: s, b :: t, ha, hb, h => by
    have ha' := List.pairwise_cons.1 ha
    have hb' := List.pairwise_cons.1 hb
    have e : a = b := by
      rcases List.mem_cons.1 ((h a).1 (List.mem_cons_self ..)) with e | m
      · exact e
      · rcases List.mem_cons.1 ((h b).2 (List.mem_cons_self ..)) with e | m'
        · exact e.symm
        · have h1 := hb'.1 a m
          have h2 := ha'.1 b m'
          rw [ltB_asymm h1] at h2
          cases h2
    subst e
    congr 1
    refine RisK.ext ha'.2 hb'.2 fun p => ?_
    constructor
    · intro hp
      rcases List.mem_cons.1 ((h p).1 (List.mem_cons_of_mem _ hp)) with e | m
      · have := ha'.1 p hp
        rw [e, ltB_irrefl] at this
        cases this
      · exact m
    · intro hp
      rcases List.mem_cons.1 ((h p).2 (List.mem_cons_of_mem _ hp)) with e | m
      · have := hb'.1 p hp
        rw [e, ltB_irrefl] at this
        cases this
      · exact m
/-- a rising list with one more -/
def putK : List ByteArray → ByteArray → List ByteArray
  | [], s => [s]
  | x :: r, s => if ltB x s = true then x :: putK r s else if x = s then x :: r else s :: x :: r
theorem mem_putK : ∀ (l : List ByteArray) (s t : ByteArray), t ∈ putK l s ↔ t ∈ l ∨ t = s
  | [], s, t => by simp [putK]
  | x :: r, s, t => by
    unfold putK
    split
    · rw [List.mem_cons, List.mem_cons, mem_putK r s t]
      constructor
      · rintro (h | h | h)
        · exact .inl (.inl h)
        · exact .inl (.inr h)
        · exact .inr h
      · rintro ((h | h) | h)
        · exact .inl h
        · exact .inr (.inl h)
        · exact .inr (.inr h)
    · split
      next e => subst e; simp; intro h; exact .inl h
      next => simp [or_comm, or_left_comm]
theorem risK_put : ∀ {l : List ByteArray}, RisK l → ∀ s, RisK (putK l s)
  | [], _, s => List.pairwise_cons.2 ⟨fun _ h => absurd h (by simp), List.Pairwise.nil⟩
  | x :: r, h, s => by
    have h' := List.pairwise_cons.1 h
    unfold putK
    split
    next e =>
      refine List.pairwise_cons.2 ⟨fun t ht => ?_, risK_put h'.2 s⟩
      rcases (mem_putK r s t).1 ht with m | rfl
      · exact h'.1 t m
      · exact e
    next e =>
      split
      · exact h
      next ne =>
        have hlt : ltB s x = true := by
          rcases ltB_tri x s with g | g | g
          · exact absurd g e
          · exact absurd g ne
          · exact g
        refine List.pairwise_cons.2 ⟨fun t ht => ?_, h⟩
        rcases List.mem_cons.1 ht with rfl | m
        · exact hlt
        · exact ltB_trans hlt (h'.1 t m)
/-- found by what stands ahead of the place -/
theorem putK_there : ∀ (l : List ByteArray) (s : ByteArray) (k : Nat) (h : k < l.length), (∀ i (hi : i < l.length), i < k → ltB l[i] s = true) → l[k] = s → putK l s = l
  | x :: r, s, 0, _, _, he => by
    have he : x = s := he
    subst he
    unfold putK
    rw [ltB_irrefl]
    simp
  | x :: r, s, k + 1, h, hl, he => by
    have h0 : ltB x s = true := hl 0 (by simp) (by omega)
    unfold putK
    rw [if_pos h0, putK_there r s k (by simpa using h) (fun i hi hik => hl (i + 1) (by simpa using hi) (by omega)) (by simpa using he)]
theorem putK_new : ∀ (l : List ByteArray) (s : ByteArray) (k : Nat), k ≤ l.length → (∀ i (hi : i < l.length), i < k → ltB l[i] s = true) → (∀ (h : k < l.length), ltB l[k] s = false ∧ ¬ l[k] = s) → putK l s = l.take k ++ s :: l.drop k
  | [], s, k, hk, _, _ => by
    have : k = 0 := by simpa using hk
    subst this
    rfl
  | x :: r, s, 0, _, _, hn => by
    obtain ⟨h1, h2⟩ := hn (by simp)
    have h1 : ltB x s = false := h1
    have h2 : ¬ x = s := h2
    unfold putK
    rw [h1, if_neg (by simp), if_neg h2]
    rfl
  | x :: r, s, k + 1, hk, hl, hn => by
    have h0 : ltB x s = true := hl 0 (by simp) (by omega)
    unfold putK
    rw [if_pos h0, putK_new r s k (by simpa using hk) (fun i hi hik => hl (i + 1) (by simpa using hi) (by omega)) (fun h => hn (by simpa using h))]
    rfl
end Go.Proofs.YtjbbdggckagphaaDoor
/-
  What laws.sameTexts, laws.eqStringS, laws.has and laws.rises answer.
-/
namespace Go.Proofs.YtjbbdggckagphaaDoor
open Go.RowKit

theorem ZIn.quiet {w w' : World} {B : Nat} {A : Option Addr} {bs : List ByteArray} (h : ZIn w B A bs) (q : Quiet w w') : ZIn w' B A bs := h.below (q.below B)
set_option maxRecDepth 100000 in
set_option maxHeartbeats 1000000 in
theorem sameTexts_same (A A' : Option Addr) (l : List ByteArray) (cap cap' : Nat) (w : World) (B B' : Nat) (hl : l.length ≤ maxLen) (hin : ZIn w B A l) (hin' : ZIn w B' A' l) :
    Calls Tryd.prog 35 #[.slice A l.length cap, .slice A' l.length cap'] w fun e w' => e = .returned (.bool true) ∧ Quiet w w' := by
  unfold maxLen at hl
  have IN := hide hin
  have IN' := hide hin'
  clear hin hin'
  generalize hn : l.length = n at *
  have HN := hide hn
  clear hn
  have e0 : ((n : Int) != (n : Int)) = false := by simp
  go_enter Tryd.func35, Tryd.ntmps35
  go_wp2
  go_loopw [5] (fun iv wr => ∃ k : Nat, k ≤ n ∧ iv = .int .i64 k ∧ Hid (Quiet w wr)) (fun i _ => n - (intOf i).toNat)
  case atStart => exact ⟨0, Nat.zero_le _, rfl, Quiet.refl w⟩
  case round =>
    obtain ⟨k, hk, rfl, Q⟩ := hrel
    by_cases hlt : k < n
    · have hkl : k < l.length := by rw [HN.out]; omega
      obtain ⟨b, off, rfl, _, hc⟩ := IN.out (by omega)
      obtain ⟨b', off', rfl, _, hc'⟩ := IN'.out (by omega)
      have c1 := (Q.out.cell _).trans (hc k hkl)
      have c2 := (Q.out.cell _).trans (hc' k hkl)
      have e1 : (l[k].toList == l[k].toList) = true := by simp
      generalize l[k] = s at *
      clear hc hc'
      go_wp2
      go_quiet (fail)
      go_wp2
      exact ⟨⟨k + 1, by omega, by go_num, Q.out.drewN _⟩, by simp [intOf]; omega⟩
    · have hgt : ¬ ((k : Int) < (n : Int)) := by omega
      clear hlt
      go_wp2
      go_ret
      exact ⟨rfl, Q.out⟩
end Go.Proofs.YtjbbdggckagphaaDoor
/-
  Which texts are those of right commits, and of which. Plain mathematics.
-/
namespace Go.Proofs.YtjbbdggckagphaaDoor
open Go.RowKit

/-- a commit: its tree, its parents, its note -/
abbrev Com := ByteArray × List ByteArray × ByteArray
/-- what stands behind a tree's id: each parent with a blank ahead, a byte 10, the note -/
def tailL : List ByteArray → ByteArray → List UInt8
  | [], m => 10 :: m.data.toList
  | p :: r, m => 32 :: (p.data.toList ++ tailL r m)
def comW : List UInt8 := [99, 111, 109, 109, 105, 116, 32]
theorem headTo_list (t : ByteArray) (l : List ByteArray) : ∀ k, k ≤ l.length → (headTo t l k).data.toList = comW ++ t.data.toList ++ (l.take k).flatMap fun p => 32 :: p.data.toList
  | 0, _ => by simp [headTo, comW]
  | k + 1, h => by
    rw [headTo_next (by omega), List.take_succ_eq_append_getElem (by omega), List.flatMap_append]
    simp [headTo_list t l k (by omega)]
theorem tail_flat : ∀ (l : List ByteArray) (m : ByteArray), tailL l m = (l.flatMap fun p => 32 :: p.data.toList) ++ 10 :: m.data.toList
  | [], m => rfl
  | p :: r, m => by rw [tailL, tail_flat r m]; simp
theorem textC_list (t : ByteArray) (l : List ByteArray) (m : ByteArray) : (textC t l m).data.toList = comW ++ (t.data.toList ++ tailL l m) := by
  unfold textC
  rw [tail_flat]
  simp [headTo_list t l l.length (Nat.le_refl _)]
/-- the text is that of this right commit -/
def isCom (s : ByteArray) (c : Com) : Prop := comB c.1 c.2.1 c.2.2 = true ∧ textC c.1 c.2.1 c.2.2 = s
theorem ba_ext {a b : ByteArray} (h : a.data.toList = b.data.toList) : a = b := Go.WideShapes.bytes_inj h
theorem isCom_list {s : ByteArray} {c : Com} (h : isCom s c) : s.data.toList = comW ++ (c.1.data.toList ++ tailL c.2.1 c.2.2) := by rw [← h.2, textC_list]
theorem com_parts {c : Com} (h : comB c.1 c.2.1 c.2.2 = true) : c.1.size = 16 ∧ c.2.1.length ≤ 2 ∧ (∀ p ∈ c.2.1, p.size = 16) := by
  unfold comB at h
  rw [Bool.and_eq_true, Bool.and_eq_true] at h
  obtain ⟨⟨h1, h2⟩, _⟩ := h
  obtain ⟨h3, h4⟩ := parB_iff.1 h2
  refine ⟨idB_sz h1, h3, fun p hp => ?_⟩
  obtain ⟨i, hi, rfl⟩ := List.mem_iff_getElem.1 hp
  exact idB_sz (h4.1 i hi hi)
theorem tail_inj : ∀ (l l' : List ByteArray) (m m' : ByteArray), (∀ p ∈ l, p.size = 16) → (∀ p ∈ l', p.size = 16) → tailL l m = tailL l' m' → l = l' ∧ m = m'
  | [], [], m, m', _, _, h => ⟨rfl, ba_ext (by simpa [tailL] using h)⟩
  | [], p :: r, m, m', _, _, h => by simp [tailL] at h
  | p :: r, [], m, m', _, _, h => by simp [tailL] at h
  | p :: r, p' :: r', m, m', h1, h2, h => by
    simp only [tailL, List.cons.injEq, true_and] at h
    have e1 : p.data.toList.length = p'.data.toList.length := by
      have a := h1 p (List.mem_cons_self ..)
      have b := h2 p' (List.mem_cons_self ..)
      simpa using a.trans b.symm
    obtain ⟨ha, hb⟩ := List.append_inj h e1
    obtain ⟨hc, hd⟩ := tail_inj r r' m m' (fun q hq => h1 q (List.mem_cons_of_mem _ hq)) (fun q hq => h2 q (List.mem_cons_of_mem _ hq)) hb
    exact ⟨by rw [ba_ext ha, hc], hd⟩
theorem isCom_one {s : ByteArray} {c c' : Com} (h : isCom s c) (h' : isCom s c') : c = c' := by
  have e := (isCom_list h).symm.trans (isCom_list h')
  have e2 := List.append_cancel_left e
  obtain ⟨s1, _, p1⟩ := com_parts h.1
  obtain ⟨s2, _, p2⟩ := com_parts h'.1
  obtain ⟨ha, hb⟩ := List.append_inj e2 (by simpa using s1.trans s2.symm)
  obtain ⟨hc, hd⟩ := tail_inj _ _ _ _ p1 p2 hb
  exact Prod.ext (ba_ext ha) (Prod.ext hc hd)
open Classical in
/-- what a text reads as -/
noncomputable def rdOk (s : ByteArray) : Bool := decide (∃ c, isCom s c)
open Classical in
noncomputable def rdC (s : ByteArray) : Com := if h : ∃ c, isCom s c then h.choose else (ByteArray.empty, [], ByteArray.empty)
open Classical in
theorem rd_yes {s : ByteArray} {c : Com} (h : isCom s c) : rdOk s = true ∧ rdC s = c := by
  have hx : ∃ c, isCom s c := ⟨c, h⟩
  refine ⟨decide_eq_true hx, ?_⟩
  unfold rdC
  rw [dif_pos hx]
  exact isCom_one hx.choose_spec h
open Classical in
theorem rd_no {s : ByteArray} (h : ¬ ∃ c, isCom s c) : rdOk s = false ∧ rdC s = (ByteArray.empty, [], ByteArray.empty) := by
  refine ⟨decide_eq_false h, ?_⟩
  unfold rdC
  rw [dif_neg h]
/-! ### as the program reads: what is left, and what all right commits of the text have in common so far -/
/-- behind the tree and these parents the rest is left -/
def Left (s t : ByteArray) (ps : List ByteArray) (r : List UInt8) : Prop :=
  s.data.toList = comW ++ (t.data.toList ++ ((ps.flatMap fun p => 32 :: p.data.toList) ++ r)) ∧ t.size = 16 ∧ (∀ p ∈ ps, p.size = 16) ∧ ∀ c, isCom s c → c.1 = t ∧ ∃ l2, c.2.1 = ps ++ l2 ∧ r = tailL l2 c.2.2
theorem left_tree {s t : ByteArray} {r : List UInt8} (h : s.data.toList = comW ++ (t.data.toList ++ r)) (ht : t.size = 16) : Left s t [] r := by
  refine ⟨by simpa using h, ht, fun p hp => by simp at hp, fun c hc => ?_⟩
  have e := (isCom_list hc).symm.trans h
  obtain ⟨s1, _, p1⟩ := com_parts hc.1
  obtain ⟨ha, hb⟩ := List.append_inj (List.append_cancel_left e) (by simpa using s1.trans ht.symm)
  exact ⟨ba_ext ha, c.2.1, rfl, hb.symm⟩
theorem left_parent {s t p : ByteArray} {ps : List ByteArray} {r : List UInt8} (h : Left s t ps (32 :: (p.data.toList ++ r))) (hp : p.size = 16) : Left s t (ps ++ [p]) r := by
  obtain ⟨h1, h2, h3, h4⟩ := h
  refine ⟨by rw [h1]; simp, h2, fun q hq => ?_, fun c hc => ?_⟩
  · rcases List.mem_append.1 hq with x | x
    · exact h3 q x
    · rw [List.mem_singleton.1 x]; exact hp
  · obtain ⟨e1, l2, e2, e3⟩ := h4 c hc
    refine ⟨e1, ?_⟩
    obtain ⟨_, _, p1⟩ := com_parts hc.1
    cases l2 with
    | nil => simp [tailL] at e3
    | cons q l3 =>
      simp only [tailL, List.cons.injEq, true_and] at e3
      have hq : q.size = 16 := p1 q (by rw [e2]; simp)
      obtain ⟨ha, hb⟩ := List.append_inj e3 (by simpa using hp.trans hq.symm)
      refine ⟨l3, ?_, hb⟩
      rw [e2, ba_ext ha]
      simp
theorem left_short {s t : ByteArray} {ps : List ByteArray} {r : List UInt8} (h : Left s t ps (32 :: r)) (hr : r.length < 16) : ¬ ∃ c, isCom s c := by
  rintro ⟨c, hc⟩
  obtain ⟨_, l2, e2, e3⟩ := h.2.2.2 c hc
  obtain ⟨_, _, p1⟩ := com_parts hc.1
  cases l2 with
  | nil => simp [tailL] at e3
  | cons q l3 =>
    simp only [tailL, List.cons.injEq, true_and] at e3
    have hq : q.size = 16 := p1 q (by rw [e2]; simp)
    have hl := congrArg List.length e3
    have : q.data.toList.length = 16 := by simpa using hq
    rw [List.length_append] at hl
    omega
theorem left_end {s t : ByteArray} {ps : List ByteArray} {r : List UInt8} (h : Left s t ps r) (hr : ps.length = 2 ∨ r.head? ≠ some 32) (hn : r.head? ≠ some 10) : ¬ ∃ c, isCom s c := by
  rintro ⟨c, hc⟩
  obtain ⟨_, l2, e2, e3⟩ := h.2.2.2 c hc
  obtain ⟨_, hl, _⟩ := com_parts hc.1
  cases l2 with
  | nil => rw [e3] at hn; simp [tailL] at hn
  | cons q l3 =>
    rcases hr with hr | hr
    · rw [e2] at hl; simp at hl; omega
    · rw [e3] at hr; simp [tailL] at hr
theorem left_note {s t m : ByteArray} {ps : List ByteArray} (h : Left s t ps (10 :: m.data.toList)) : (comB t ps m = true → isCom s (t, ps, m)) ∧ (comB t ps m = false → ¬ ∃ c, isCom s c) := by
  refine ⟨fun hb => ⟨hb, ba_ext ?_⟩, fun hb => ?_⟩
  · rw [textC_list, h.1, tail_flat]
  · rintro ⟨c, hc⟩
    obtain ⟨e1, l2, e2, e3⟩ := h.2.2.2 c hc
    cases l2 with
    | cons q l3 => simp [tailL] at e3
    | nil =>
      have em : m = c.2.2 := ba_ext (by simpa [tailL] using e3)
      have := hc.1
      rw [e1, e2, List.append_nil, ← em, hb] at this
      cases this
theorem no_start {s : ByteArray} (h : ¬ comW <+: s.data.toList) : ¬ ∃ c, isCom s c := by
  rintro ⟨c, hc⟩
  exact h ⟨_, (isCom_list hc).symm⟩
theorem no_tree {s : ByteArray} {r : List UInt8} (h : s.data.toList = comW ++ r) (hr : r.length < 16) : ¬ ∃ c, isCom s c := by
  rintro ⟨c, hc⟩
  have e := List.append_cancel_left ((isCom_list hc).symm.trans h)
  obtain ⟨s1, _, _⟩ := com_parts hc.1
  have hl := congrArg List.length e
  have : c.1.data.toList.length = 16 := by simpa using s1
  rw [List.length_append] at hl
  omega
end Go.Proofs.YtjbbdggckagphaaDoor
/-
  What stands between blanks: as a list, and of a right commit's first line. Plain mathematics.
-/
namespace Go.Proofs.YtjbbdggckagphaaDoor
open Go.RowKit

theorem cutA_rest {s : ByteArray} {c : UInt8} (h : (cutS s c).2.2 = true) : (cutS s c).1.size + 1 + (cutS s c).2.1.size = s.size := by
  unfold cutS at h ⊢
  have := posB_le s c
  split at h
  · rename_i hp
    simp only [if_pos hp, ByteArray.size_extract]
    omega
  · simp at h
theorem cutA_one {s : ByteArray} {c : UInt8} : (cutS s c).1.size ≤ s.size ∧ (cutS s c).2.1.size ≤ s.size := by
  unfold cutS
  split
  · simp only [ByteArray.size_extract]; omega
  · simp
theorem cutA_app {a b : ByteArray} {c : UInt8} (h : ∀ x ∈ a.data.toList, x ≠ c) : cutS (a ++ ⟨#[c]⟩ ++ b) c = (a, b, true) := by
  have hl : (a ++ ⟨#[c]⟩ ++ b).data.toList = a.data.toList ++ (c :: b.data.toList) := by simp [ByteArray.data_append]
  have hp : posB (a ++ ⟨#[c]⟩ ++ b) c = a.size := by
    unfold posB
    rw [hl, List.findIdx_append]
    have : List.findIdx (fun x => x == c) a.data.toList = a.data.toList.length := by
      rw [List.findIdx_eq_length]
      intro x hx
      exact beq_eq_false_iff_ne.2 (h x hx)
    have hc0 : List.findIdx (fun x => x == c) (c :: b.data.toList) = 0 := by rw [List.findIdx_cons]; simp
    rw [this, if_neg (Nat.lt_irrefl _), hc0, Nat.zero_add]
    rfl
  have hz : (a ++ ⟨#[c]⟩ ++ b).size = a.size + 1 + b.size := by
    simp only [ByteArray.size_append]; rfl
  rw [cutS_yes (by rw [hp, hz]; omega), hp, hz]
  have e1 : (a ++ ⟨#[c]⟩ ++ b).extract 0 a.size = a := by
    apply Go.WideShapes.bytes_inj
    rw [ByteArray.data_extract, Array.toList_extract, hl]
    show List.take (a.size - 0) (List.drop 0 (a.data.toList ++ c :: b.data.toList)) = a.data.toList
    rw [List.drop_zero, Nat.sub_zero]
    exact List.take_left' rfl
  have e2 : (a ++ ⟨#[c]⟩ ++ b).extract (a.size + 1) (a.size + 1 + b.size) = b := by
    apply Go.WideShapes.bytes_inj
    rw [ByteArray.data_extract, Array.toList_extract, hl]
    show List.take (a.size + 1 + b.size - (a.size + 1)) (List.drop (a.size + 1) (a.data.toList ++ c :: b.data.toList)) = b.data.toList
    rw [show a.data.toList ++ c :: b.data.toList = (a.data.toList ++ [c]) ++ b.data.toList by simp, List.drop_left' (by rw [List.length_append]; rfl), Nat.add_sub_cancel_left]
    exact List.take_of_length_le (Nat.le_refl _)
  rw [e1, e2]
/-- what stands between blanks -/
def splitF : Nat → ByteArray → List ByteArray
  | 0, s => [s]
  | n + 1, s => if (cutS s 32).2.2 = true then (cutS s 32).1 :: splitF n (cutS s 32).2.1 else [(cutS s 32).1]
theorem splitF_more {n : Nat} {s : ByteArray} (h : (cutS s 32).2.2 = true) : splitF (n + 1) s = (cutS s 32).1 :: splitF n (cutS s 32).2.1 := by rw [splitF, if_pos h]
theorem splitF_last {n : Nat} {s : ByteArray} (h : (cutS s 32).2.2 = false) : splitF (n + 1) s = [(cutS s 32).1] := by rw [splitF, h]; rfl
theorem cut_none {s : ByteArray} {c : UInt8} (h : ∀ x ∈ s.data.toList, x ≠ c) : cutS s c = (s, ByteArray.empty, false) := by
  refine cutS_no fun hp => ?_
  have hp' : List.findIdx (fun x => x == c) s.data.toList < s.data.toList.length := hp
  have hc : s.data.toList[List.findIdx (fun x => x == c) s.data.toList] = c := by
    have := List.findIdx_getElem (w := hp')
    simpa using this
  exact h _ (List.getElem_mem hp') hc
theorem split_one {n : Nat} {s : ByteArray} (h : ∀ x ∈ s.data.toList, x ≠ 32) : splitF n s = [s] := by
  cases n with
  | zero => rfl
  | succ n => rw [splitF_last (by rw [cut_none h]), cut_none h]
theorem split_step {n : Nat} {a b : ByteArray} (h : ∀ x ∈ a.data.toList, x ≠ 32) : splitF (n + 1) (a ++ ⟨#[32]⟩ ++ b) = a :: splitF n b := by
  rw [splitF_more (by rw [cutA_app h]), cutA_app h]
/-- the parents, each with a blank ahead -/
def blanks : List ByteArray → ByteArray
  | [] => ByteArray.empty
  | p :: r => ⟨#[32]⟩ ++ p ++ blanks r
theorem split_all : ∀ (l : List ByteArray) (n : Nat) (t : ByteArray), l.length ≤ n → (∀ x ∈ t.data.toList, x ≠ 32) → (∀ p ∈ l, ∀ x ∈ p.data.toList, x ≠ 32) → splitF n (t ++ blanks l) = t :: l
  | [], n, t, _, ht, _ => by
    have : t ++ blanks [] = t := ba_ext (by simp [blanks])
    rw [this]
    exact split_one ht
  | p :: r, 0, t, hn, _, _ => by simp at hn
  | p :: r, n + 1, t, hn, ht, hp => by
    have e : t ++ blanks (p :: r) = t ++ ⟨#[32]⟩ ++ (p ++ blanks r) := ba_ext (by simp [blanks])
    rw [e, split_step ht, split_all r n p (by simpa using hn) (hp p (List.mem_cons_self ..)) (fun q hq => hp q (List.mem_cons_of_mem _ hq))]
theorem blanks_list : ∀ (l : List ByteArray), (blanks l).data.toList = l.flatMap fun p => 32 :: p.data.toList
  | [] => by simp [blanks]
  | p :: r => by simp [blanks, blanks_list r]
open Classical in
theorem hex_bytes {s : ByteArray} (h : QI.idB s = true) : ∀ x ∈ s.data.toList, x ≠ 32 ∧ x ≠ 10 := by
  intro x hx
  obtain ⟨i, hi, e⟩ := List.getElem_of_mem hx
  unfold QI.idB at h
  have h1 := (of_decide_eq_true h).2 i hi hi
  rw [show s[i] = x from e] at h1
  constructor <;> (rintro rfl; exact absurd h1 (by decide))
/-- the first line of a right commit's text, parted -/
theorem com_head {c : Com} (h : comB c.1 c.2.1 c.2.2 = true) : cutS (textC c.1 c.2.1 c.2.2) 10 = (⟨#[99, 111, 109, 109, 105, 116]⟩ ++ blanks (c.1 :: c.2.1), c.2.2, true) ∧ ∀ n, 3 ≤ n → splitF n (⟨#[99, 111, 109, 109, 105, 116]⟩ ++ blanks (c.1 :: c.2.1)) = ⟨#[99, 111, 109, 109, 105, 116]⟩ :: c.1 :: c.2.1 := by
  have h0 := h
  unfold comB at h
  rw [Bool.and_eq_true, Bool.and_eq_true] at h
  obtain ⟨⟨h1, h2⟩, _⟩ := h
  obtain ⟨h3, h4⟩ := parB_iff.1 h2
  have hall : ∀ p ∈ c.1 :: c.2.1, ∀ x ∈ p.data.toList, x ≠ 32 ∧ x ≠ 10 := by
    intro p hp
    rcases List.mem_cons.1 hp with rfl | hp
    · exact hex_bytes h1
    · obtain ⟨i, hi, rfl⟩ := List.mem_iff_getElem.1 hp
      exact hex_bytes (h4.1 i hi hi)
  constructor
  · have e : textC c.1 c.2.1 c.2.2 = (⟨#[99, 111, 109, 109, 105, 116]⟩ ++ blanks (c.1 :: c.2.1)) ++ ⟨#[10]⟩ ++ c.2.2 := ba_ext (by
      rw [textC_list, tail_flat]
      simp [blanks_list, comW])
    rw [e]
    refine cutA_app fun x hx => ?_
    simp only [ByteArray.data_append, Array.toList_append, List.mem_append, blanks_list, List.mem_flatMap, List.mem_cons] at hx
    rcases hx with hx | ⟨p, hp, hx | hx⟩
    · simp at hx; rcases hx with rfl | rfl | rfl | rfl | rfl | rfl <;> decide
    · subst hx; decide
    · exact (hall p (List.mem_cons.2 hp) x hx).2
  · intro n hn
    refine split_all (c.1 :: c.2.1) n _ (by simp; omega) ?_ (fun p hp x hx => (hall p hp x hx).1)
    intro x hx
    simp at hx
    rcases hx with rfl | rfl | rfl | rfl | rfl | rfl <;> decide
end Go.Proofs.YtjbbdggckagphaaDoor
/-
  What impl's commitReader does: skip, id; each goes on, or panics with the sentinel.
-/
namespace Go.Proofs.YtjbbdggckagphaaDoor
open Go.RowKit

/-- the sentinel that the reader panics with -/
def ErrC (w : World) (a : Addr) : Prop := w.cell? ⟨0, 0, none⟩ = some (.iface 80 (.pointer (some a))) ∧ 0 < w.heap.size
theorem ErrC.below {w w' : World} {a : Addr} (h : ErrC w a) (q : Below w.heap.size w w') : ErrC w' a := ⟨cellB q h.2 h.1, Nat.lt_of_lt_of_le h.2 q.size⟩
theorem ErrC.belowB {w w' : World} {a : Addr} {B : Nat} (h : ErrC w a) (q : Below B w w') (h1 : 0 < B) : ErrC w' a := ⟨cellB q h1 h.1, Nat.lt_of_lt_of_le h.2 q.size⟩
def pan (a : Addr) : Ending := .panicked [{ v := .iface 80 (.pointer (some a)), recovered := false }]
/-- what the reader has left -/
def RdR (w : World) (rb : Nat) (r : ByteArray) : Prop := w.heap[rb]? = some (.cells #[.string r] 50 (0, 0))
theorem ext_front {r want r' : ByteArray} (h : r.data.toList = want.data.toList ++ r'.data.toList) : want.size ≤ r.size ∧ r.extract 0 want.size = want ∧ r.extract want.size r.size = r' := by
  have hl : r.size = want.size + r'.size := by
    have := congrArg List.length h
    simpa using this
  refine ⟨by omega, ba_ext ?_, ba_ext ?_⟩
  · rw [ByteArray.data_extract, Array.toList_extract, h]
    show List.take (want.size - 0) (List.drop 0 (want.data.toList ++ r'.data.toList)) = want.data.toList
    rw [List.drop_zero, Nat.sub_zero]
    exact List.take_left' rfl
  · rw [ByteArray.data_extract, Array.toList_extract, h]
    show List.take (r.size - want.size) (List.drop want.size (want.data.toList ++ r'.data.toList)) = r'.data.toList
    rw [List.drop_left' (show want.data.toList.length = want.size from rfl)]
    exact List.take_of_length_le (by show r'.size ≤ _; omega)
theorem rd_cell {w : World} {rb : Nat} {r : ByteArray} (h : RdR w rb r) : w.cell? ⟨rb, 0, none⟩ = some (.string r) ∧ w.frozen? ⟨rb, 0, none⟩ = false := ⟨cell_of_row w rb 0 _ _ _ h, frozen_of_row w rb 0 _ _ h⟩
theorem rd_set {w : World} {rb : Nat} {r : ByteArray} (h : RdR w rb r) (r' : ByteArray) : RdR (w.setCell ⟨rb, 0, none⟩ (.string r')) rb r' := heap_setCell_same w rb 0 _ _ _ h

set_option maxRecDepth 100000 in
set_option maxHeartbeats 1000000 in
theorem skip_yes (rb : Nat) (r want r' : ByteArray) (w : World) (hw : RdR w rb r) (h : r.data.toList = want.data.toList ++ r'.data.toList) :
    Calls Tryd.prog 39 #[.pointer (some ⟨rb, 0, none⟩), .string want] w fun e w' => e = .returned (.tuple #[]) ∧ w' = w.setCell ⟨rb, 0, none⟩ (.string r') := by
  obtain ⟨h1, h2, h3⟩ := ext_front h
  obtain ⟨c0, f0⟩ := rd_cell hw
  have d1 : decide ((want.size : Int) ≤ (r.size : Int)) = true := decide_eq_true (by omega)
  have d2 : (want.toList == want.toList) = true := by simp
  have hle : (want.size : Int) ≤ (r.size : Int) := by omega
  clear hw h
  go_enter Tryd.func39, Tryd.ntmps39
  go_wp2
  go_end0
  exact ⟨rfl, rfl⟩

set_option maxRecDepth 100000 in
set_option maxHeartbeats 1000000 in
theorem skip_no (rb : Nat) (r want : ByteArray) (a : Addr) (w : World) (hw : RdR w rb r) (hE : ErrC w a) (h : ¬ want.data.toList <+: r.data.toList) :
    Calls Tryd.prog 39 #[.pointer (some ⟨rb, 0, none⟩), .string want] w fun e w' => e = pan a ∧ w = w' := by
  obtain ⟨c0, f0⟩ := rd_cell hw
  have x0 := hE.1
  by_cases hs : want.size ≤ r.size
  · have d1 : decide ((want.size : Int) ≤ (r.size : Int)) = true := decide_eq_true (by omega)
    have hle : (want.size : Int) ≤ (r.size : Int) := by omega
    have d2 : ((r.extract 0 want.size).toList == want.toList) = false := eqS_no (fun e => h (by
      have e1 : want.data.toList = r.data.toList.take want.size := by
        conv => lhs; rw [← e]
        rw [ByteArray.data_extract, Array.toList_extract]
        simp
      rw [e1]
      exact List.take_prefix _ _))
    clear hw h hE
    go_enter Tryd.func39, Tryd.ntmps39
    go_wp2
    exact ⟨rfl, rfl, rfl⟩
  · have d1 : decide ((want.size : Int) ≤ (r.size : Int)) = false := decide_eq_false (by omega)
    have hle : ¬ (want.size : Int) ≤ (r.size : Int) := by omega
    clear hw h hE
    go_enter Tryd.func39, Tryd.ntmps39
    go_wp2
    exact ⟨rfl, rfl, rfl⟩

set_option maxRecDepth 100000 in
set_option maxHeartbeats 1000000 in
theorem id_yes (rb : Nat) (r x r' : ByteArray) (w : World) (hw : RdR w rb r) (hx : x.size = 16) (h : r.data.toList = x.data.toList ++ r'.data.toList) :
    Calls Tryd.prog 40 #[.pointer (some ⟨rb, 0, none⟩)] w fun e w' => e = .returned (.string x) ∧ w' = w.setCell ⟨rb, 0, none⟩ (.string r') := by
  obtain ⟨h1, h2, h3⟩ := ext_front h
  rw [hx] at h1 h2 h3
  obtain ⟨c0, f0⟩ := rd_cell hw
  have d1 : ¬ (r.size : Int) < 16 := by omega
  clear hw h hx
  go_enter Tryd.func40, Tryd.ntmps40
  go_wp2
  go_ret
  exact ⟨rfl, rfl⟩

set_option maxRecDepth 100000 in
set_option maxHeartbeats 1000000 in
theorem id_no (rb : Nat) (r : ByteArray) (a : Addr) (w : World) (hw : RdR w rb r) (hE : ErrC w a) (h : r.data.toList.length < 16) :
    Calls Tryd.prog 40 #[.pointer (some ⟨rb, 0, none⟩)] w fun e w' => e = pan a ∧ w = w' := by
  obtain ⟨c0, f0⟩ := rd_cell hw
  have x0 := hE.1
  have hz : r.size < 16 := h
  have d1 : (r.size : Int) < 16 := by omega
  clear hw h hE
  go_enter Tryd.func40, Tryd.ntmps40
  go_wp2
  exact ⟨rfl, rfl, rfl⟩

theorem hasPrefix_any (r : ByteArray) (c : UInt8) (w : World) :
    Calls Tryd.prog 41 #[.string r, .string ⟨#[c]⟩] w fun e w' => e = .returned (.bool (decide (r.data.toList.head? = some c))) ∧ w = w' := by
  have hz : (ByteArray.mk #[c]).size = 1 := rfl
  by_cases hs : 1 ≤ r.size
  · have d1 : decide ((1 : Int) ≤ (r.size : Int)) = true := decide_eq_true (by omega)
    have hle : (1 : Int) ≤ (r.size : Int) := by omega
    by_cases he : r.data.toList.head? = some c
    · have D3 : Hid (decide (r.data.toList.head? = some c) = true) := hide (decide_eq_true he)
      have e1 : r.extract 0 1 = ⟨#[c]⟩ := ba_ext (by
        rw [ByteArray.data_extract, Array.toList_extract]
        cases hl : r.data.toList with
        | nil => rw [hl] at he; simp at he
        | cons x y => rw [hl] at he; simp at he; subst he; simp)
      clear he
      go_enter Tryd.func41, Tryd.ntmps41
      go_wp2
      go_ret
      exact ⟨ret_bool D3.out.symm, rfl⟩
    · have D3 : Hid (decide (r.data.toList.head? = some c) = false) := hide (decide_eq_false he)
      have d2 : ((r.extract 0 1).toList == (ByteArray.mk #[c]).toList) = false := eqS_no (fun e => he (by
        have e1 := congrArg (fun b : ByteArray => b.data.toList) e
        simp only [ByteArray.data_extract, Array.toList_extract] at e1
        cases hl : r.data.toList with
        | nil => rw [hl] at e1; simp at e1
        | cons x y => rw [hl] at e1; simp at e1; subst e1; rfl))
      have d4 : ((r.extract 0 1).toList == [c]) = false := by
        have e : (ByteArray.mk #[c]).toList = [c] := by rw [Go.ByteArray.toList_eq]
        rw [← e]; exact d2
      clear he
      go_enter Tryd.func41, Tryd.ntmps41
      go_wp2
      go_ret
      exact ⟨ret_bool D3.out.symm, rfl⟩
  · have D3 : Hid (decide (r.data.toList.head? = some c) = false) := hide (decide_eq_false (fun he => by
      have : r.data.toList = [] := List.eq_nil_of_length_eq_zero (by show r.size = 0; omega)
      rw [this] at he
      cases he))
    have hle : ¬ (1 : Int) ≤ (r.size : Int) := by omega
    go_enter Tryd.func41, Tryd.ntmps41
    go_wp2
    go_ret
    exact ⟨ret_bool D3.out.symm, rfl⟩
end Go.Proofs.YtjbbdggckagphaaDoor
/-
  What spec.l1Split does: what stands between blanks, in a row of the call's own.
-/
namespace Go.Proofs.YtjbbdggckagphaaDoor
open Go.RowKit

def more (sv bv : Value) : Nat := match sv, bv with
  | .string r, .bool true => r.size + 1
  | _, _ => 0
theorem more_t (r : ByteArray) : more (.string r) (.bool true) = r.size + 1 := rfl
theorem more_f (r : ByteArray) : more (.string r) (.bool false) = 0 := rfl

set_option maxRecDepth 100000 in
set_option maxHeartbeats 1000000 in
theorem l1Split_any (s : ByteArray) (w : World) (hs : s.size ≤ 1048576) :
    Calls Tryd.prog 28 #[.string s] w fun e w' => ∃ A cap, e = .returned (.slice A (splitF (s.size + 1) s).length cap) ∧ ZOwn w' w.heap.size A cap (splitF (s.size + 1) s) ∧ Below w.heap.size w w' ∧ (splitF (s.size + 1) s).length ≤ s.size + 1 := by
  have O0 := hide (ZOwn.built w w.heap.size (Nat.le_refl _))
  have B0 := hide ((Below.refl w.heap.size w).alloc (Nat.le_refl _) (.cells #[] 9))
  have E0 : Hid (splitF (s.size + 1) s = [] ++ splitF (s.size + 1) s) := hide (by simp)
  go_enter Tryd.func28, Tryd.ntmps28
  go_wp2
  go_loopw [0, 3, 4] (fun sv ov bv wr => ∃ (r : ByteArray) (d : List ByteArray) (A : Option Addr) (cap k : Nat) (b : Bool), sv = .string r ∧ ov = .slice A d.length cap ∧ bv = .bool b ∧ d.length + k ≤ s.size + 1 ∧ (b = true → r.size + 1 ≤ k) ∧ Hid (splitF (s.size + 1) s = if b then d ++ splitF k r else d) ∧ Hid (ZOwn wr w.heap.size A cap d) ∧ Hid (Below w.heap.size w wr)) (fun sv _ bv _ => more sv bv)
  case atStart => exact ⟨s, [], _, 0, s.size + 1, true, rfl, rfl, rfl, by simp, fun _ => Nat.le_refl _, E0, O0, B0⟩
  case round =>
    clear O0 B0 E0
    obtain ⟨r, d, A, cap, k, b, rfl, rfl, rfl, hd, hk, E, O, Q⟩ := hrel
    cases b
    · have Z : Hid (splitF (s.size + 1) s = d) := hide E.out
      clear E hk
      go_wp2
      go_ret
      exact ⟨A, cap, by rw [Z.out]; rfl, by rw [Z.out]; exact O.out, Q.out, by rw [Z.out]; omega⟩
    · obtain ⟨k, rfl⟩ : ∃ j, k = j + 1 := ⟨k - 1, by have := hk rfl; omega⟩
      have hk' : r.size ≤ k := by have := hk rfl; omega
      have hE : splitF (s.size + 1) s = d ++ splitF (k + 1) r := E.out
      have HE := hide hE
      clear E hk hE
      go_wp2_with fail
      refine (l1Cut_any r 32 32 wr (by unfold maxLen; omega) rfl).mono ?_
      rintro e w1 ⟨rfl, q1⟩
      have O1 := hide (O.out.below (q1.below _))
      have Q1 := hide (Q.out.trans (q1.below _))
      have hq1 := Q1.out.size
      clear q1 O Q
      cases hc : (cutS r 32).2.2
      · have Z : Hid (splitF (s.size + 1) s = d ++ [(cutS r 32).1]) := hide (by rw [HE.out, splitF_last hc])
        generalize (cutS r 32).1 = x at *
        generalize (cutS r 32).2.1 = y at *
        have hl1 : (d ++ [x]).length = d.length + 1 := by simp
        go_wp2_with (at_builtin; refine wpList_appZ (l := d) (l' := [x]) 24 Tryd.underlying24 rfl (.tmp 14) (.tmp 16) rfl rfl rfl rfl rfl (O1.out.alloc _) (ZIn.one x _ rfl) (Nat.le_trans hq1 (by simp)) (by simp; omega) ?_; intro A3 cap3 w3 own3 g3 r3; have B3 := hide (Q1.out.trans (((Below.refl _ w1).alloc hq1 (.cells #[Value.string x] 9)).trans ((O1.out.alloc (.cells #[Value.string x] 9)).grownBelow g3 (Nat.le_trans hq1 (by simp))))); have O3 := hide own3; clear own3 g3 r3)
        go_roundw
        case rel => exact ⟨y, d ++ [x], A3, cap3, 0, false, rfl, by rw [hl1], rfl, by rw [hl1]; omega, fun h => (Bool.noConfusion h), Z, O3, B3⟩
        case measure => simp only [more_t, more_f]; omega
      · have Z : Hid (splitF (s.size + 1) s = (d ++ [(cutS r 32).1]) ++ splitF k (cutS r 32).2.1) := hide (by rw [HE.out, splitF_more hc]; simp)
        have hrr := cutA_rest hc
        generalize (cutS r 32).1 = x at *
        generalize (cutS r 32).2.1 = y at *
        have hl1 : (d ++ [x]).length = d.length + 1 := by simp
        go_wp2_with (at_builtin; refine wpList_appZ (l := d) (l' := [x]) 24 Tryd.underlying24 rfl (.tmp 14) (.tmp 16) rfl rfl rfl rfl rfl (O1.out.alloc _) (ZIn.one x _ rfl) (Nat.le_trans hq1 (by simp)) (by simp; omega) ?_; intro A3 cap3 w3 own3 g3 r3; have B3 := hide (Q1.out.trans (((Below.refl _ w1).alloc hq1 (.cells #[Value.string x] 9)).trans ((O1.out.alloc (.cells #[Value.string x] 9)).grownBelow g3 (Nat.le_trans hq1 (by simp))))); have O3 := hide own3; clear own3 g3 r3)
        go_roundw
        case rel => exact ⟨y, d ++ [x], A3, cap3, k, true, rfl, by rw [hl1], rfl, by rw [hl1]; omega, fun _ => by omega, Z, O3, B3⟩
        case measure => simp only [more_t]; omega
end Go.Proofs.YtjbbdggckagphaaDoor
/-
  What impl's commitReader.commit does: it returns the right commit whose text is read, or panics with the sentinel where there is none.
-/
namespace Go.Proofs.YtjbbdggckagphaaDoor
open Go.RowKit

def C3 (t : ByteArray) (A : Option Addr) (n cap : Nat) (m : ByteArray) : Obj := .cells #[.string t, .slice A n cap, .string m] 26 (0, 0)
/-- the reader at work: what is left, the result's block, the commit that is made, its parents' row -/
structure St (w wr : World) (rb g : Nat) (r t : ByteArray) (A : Option Addr) (cap : Nat) (ps : List ByteArray) (m : ByteArray) : Prop where
  rd : RdR wr rb r
  c1 : wr.heap[g]? = some (C3 ByteArray.empty none 0 0 ByteArray.empty)
  c2 : wr.heap[g + 1]? = some (C3 t A ps.length cap m)
  own : ZOwn wr (g + 1 + 1) A cap ps
  bl : Below rb w wr
  lt : rb < g
  sz : g + 1 + 1 ≤ wr.heap.size
theorem St.drew {w wr : World} {rb g : Nat} {r t : ByteArray} {A : Option Addr} {cap : Nat} {ps : List ByteArray} {m : ByteArray} (h : St w wr rb g r t A cap ps m) : St w wr.drew rb g r t A cap ps m :=
  ⟨h.rd, h.c1, h.c2, h.own.below (Below.refl _ _).drew, h.bl.drew, h.lt, h.sz⟩
theorem St.below {w wr w' : World} {rb g : Nat} {r t : ByteArray} {A : Option Addr} {cap : Nat} {ps : List ByteArray} {m : ByteArray} (h : St w wr rb g r t A cap ps m) (q : Below wr.heap.size wr w') : St w w' rb g r t A cap ps m := by
  have h1 := h.lt
  have h2 := h.sz
  exact ⟨(q.block _ (by omega)).trans h.rd, (q.block _ (by omega)).trans h.c1, (q.block _ (by omega)).trans h.c2, h.own.below q, h.bl.trans (q.mono (by omega)), h1, Nat.le_trans h2 q.size⟩
theorem St.setR {w wr : World} {rb g : Nat} {r t : ByteArray} {A : Option Addr} {cap : Nat} {ps : List ByteArray} {m : ByteArray} (h : St w wr rb g r t A cap ps m) (r' : ByteArray) : St w (wr.setCell ⟨rb, 0, none⟩ (.string r')) rb g r' t A cap ps m := by
  have h1 := h.lt
  exact ⟨rd_set h.rd r', (Below.heap_setCell _ _ _ _ (by show g ≠ rb; omega)).trans h.c1, (Below.heap_setCell _ _ _ _ (by show g + 1 ≠ rb; omega)).trans h.c2, ownsRow_setCell_below h.own (by show rb < _; omega) _, h.bl.setCell (Nat.le_refl _) _, h1, Nat.le_trans h.sz ((Below.refl rb wr).setCell (p := ⟨rb, 0, none⟩) (Nat.le_refl _) (.string r')).size⟩
theorem St.setT {w wr : World} {rb g : Nat} {r t : ByteArray} {A : Option Addr} {cap : Nat} {ps : List ByteArray} {m : ByteArray} (h : St w wr rb g r t A cap ps m) (t' : ByteArray) : St w (wr.setCell ⟨g + 1, 0, none⟩ (.string t')) rb g r t' A cap ps m := by
  have h1 := h.lt
  exact ⟨(Below.heap_setCell _ _ _ _ (by show rb ≠ g + 1; omega)).trans h.rd, (Below.heap_setCell _ _ _ _ (by show g ≠ g + 1; omega)).trans h.c1, heap_setCell_same wr (g + 1) 0 _ _ _ h.c2, ownsRow_setCell_below h.own (by show g + 1 < _; omega) _, h.bl.setCell (by show rb ≤ g + 1; omega) _, h1, Nat.le_trans h.sz ((Below.refl rb wr).setCell (p := ⟨g + 1, 0, none⟩) (by show rb ≤ g + 1; omega) (.string t')).size⟩
theorem St.setM {w wr : World} {rb g : Nat} {r t : ByteArray} {A : Option Addr} {cap : Nat} {ps : List ByteArray} {m : ByteArray} (h : St w wr rb g r t A cap ps m) (m' : ByteArray) : St w (wr.setCell ⟨g + 1, 2, none⟩ (.string m')) rb g r t A cap ps m' := by
  have h1 := h.lt
  exact ⟨(Below.heap_setCell _ _ _ _ (by show rb ≠ g + 1; omega)).trans h.rd, (Below.heap_setCell _ _ _ _ (by show g ≠ g + 1; omega)).trans h.c1, heap_setCell_same wr (g + 1) 2 _ _ _ h.c2, ownsRow_setCell_below h.own (by show g + 1 < _; omega) _, h.bl.setCell (by show rb ≤ g + 1; omega) _, h1, Nat.le_trans h.sz ((Below.refl rb wr).setCell (p := ⟨g + 1, 2, none⟩) (by show rb ≤ g + 1; omega) (.string m')).size⟩
/-- the row has grown by one, and the cell takes it -/
theorem St.more {w wr w' : World} {rb g : Nat} {r t : ByteArray} {A A' : Option Addr} {cap cap' : Nat} {ps : List ByteArray} {m p : ByteArray} (h : St w wr rb g r t A cap ps m) (q : Below (g + 1 + 1) wr w') (o : ZOwn w' (g + 1 + 1) A' cap' (ps ++ [p])) : St w (w'.setCell ⟨g + 1, 1, none⟩ (.slice A' (ps ++ [p]).length cap')) rb g r t A' cap' (ps ++ [p]) m := by
  have h1 := h.lt
  have e2 : w'.heap[g + 1]? = some (C3 t A ps.length cap m) := (q.block _ (by omega)).trans h.c2
  exact ⟨(Below.heap_setCell _ _ _ _ (by show rb ≠ g + 1; omega)).trans ((q.block _ (by omega)).trans h.rd), (Below.heap_setCell _ _ _ _ (by show g ≠ g + 1; omega)).trans ((q.block _ (by omega)).trans h.c1), heap_setCell_same w' (g + 1) 1 _ _ _ e2, ownsRow_setCell_below o (by show g + 1 < _; omega) _, (h.bl.trans (q.mono (by omega))).setCell (by show rb ≤ g + 1; omega) _, h1, Nat.le_trans (Nat.le_trans h.sz q.size) ((Below.refl rb w').setCell (p := ⟨g + 1, 1, none⟩) (by show rb ≤ g + 1; omega) _).size⟩
theorem St.cells {w wr : World} {rb g : Nat} {r t : ByteArray} {A : Option Addr} {cap : Nat} {ps : List ByteArray} {m : ByteArray} (h : St w wr rb g r t A cap ps m) :
    wr.cell? ⟨rb, 0, none⟩ = some (.string r) ∧ wr.cell? ⟨g + 1, 0, none⟩ = some (.string t) ∧ wr.cell? ⟨g + 1, 1, none⟩ = some (.slice A ps.length cap) ∧ wr.cell? ⟨g + 1, 2, none⟩ = some (.string m) ∧ wr.frozen? ⟨g + 1, 0, none⟩ = false ∧ wr.frozen? ⟨g + 1, 1, none⟩ = false ∧ wr.frozen? ⟨g + 1, 2, none⟩ = false :=
  ⟨cell_of_row _ _ 0 _ _ _ h.rd, cell_of_row _ _ 0 _ _ _ h.c2, cell_of_row _ _ 1 _ _ _ h.c2, cell_of_row _ _ 2 _ _ _ h.c2, frozen_of_row _ _ 0 _ _ h.c2, frozen_of_row _ _ 1 _ _ h.c2, frozen_of_row _ _ 2 _ _ h.c2⟩
theorem St.cells1 {w wr : World} {rb g : Nat} {r t : ByteArray} {A : Option Addr} {cap : Nat} {ps : List ByteArray} {m : ByteArray} (h : St w wr rb g r t A cap ps m) :
    wr.cell? ⟨g, 0, none⟩ = some (.string ByteArray.empty) ∧ wr.cell? ⟨g, 1, none⟩ = some (.slice none 0 0) ∧ wr.cell? ⟨g, 2, none⟩ = some (.string ByteArray.empty) ∧ wr.frozen? ⟨g, 0, none⟩ = false ∧ wr.frozen? ⟨g, 1, none⟩ = false ∧ wr.frozen? ⟨g, 2, none⟩ = false :=
  ⟨cell_of_row _ _ 0 _ _ _ h.c1, cell_of_row _ _ 1 _ _ _ h.c1, cell_of_row _ _ 2 _ _ _ h.c1, frozen_of_row _ _ 0 _ _ h.c1, frozen_of_row _ _ 1 _ _ h.c1, frozen_of_row _ _ 2 _ _ h.c1⟩
theorem St.start {w : World} {rb : Nat} {r : ByteArray} (h : RdR w rb r) (hb : rb < w.heap.size) : St w ((w.alloc (.cells #[.string ByteArray.empty, .slice none 0 0, .string ByteArray.empty] 26)).alloc (.cells #[.string ByteArray.empty, .slice none 0 0, .string ByteArray.empty] 26)) rb w.heap.size r ByteArray.empty none 0 [] ByteArray.empty :=
  ⟨(Below.heap_alloc _ _ _ (by simp; omega)).trans ((Below.heap_alloc _ _ _ hb).trans h), heap_alloc2_old w _ _, heap_alloc2_new w _ _, ZOwn.nil _ _, ((Below.refl rb w).alloc (by omega) _).alloc (by simp; omega) _, hb, by simp⟩
def lenAt (w : World) (p : Addr) : Nat := match w.cell? p with
  | some (.slice _ n _) => n
  | _ => 0
theorem lenAt_of {w : World} {p : Addr} {A : Option Addr} {n cap : Nat} (h : w.cell? p = some (.slice A n cap)) : lenAt w p = n := by unfold lenAt; rw [h]
section
variable (t ty : TypeId) (ht : Tryd.prog.underlying t = some (.slice 9))
include ht
theorem step_appZ {w : World} {ops : Array Oper} {o : Oper} {a : Act} {K : Act → World → Prop} {Q : Exit → Act → World → Prop} {E : Prop} (hgd : o.guard = none) (s x : Operand)
    (ho : o.op = .call { callee := .builtin .append, args := #[s, x], argTypes := #[t, t] })
    {B B' : Nat} {A A' : Option Addr} {cap c n m : Nat} {l l' : List ByteArray} (hs : a.eval s = .slice A n cap) (hx : a.eval x = .slice A' m c) (hn : n = l.length) (hm : m = l'.length)
    (hown : ZOwn w B A cap l) (hin : ZIn w B' A' l') (hB : B ≤ w.heap.size) (hb : l.length + l'.length ≤ 3000000)
    (h : ∀ A2 cap2 w', ZOwn w' B A2 cap2 (l ++ l') → w.grownBy w' (rowOf A) → (rowOf A2 = rowOf A ∨ rowOf A2 = some w.heap.size) → K (a.put o.dst (.slice A2 (l ++ l').length cap2)) w') :
    if Region.wanted o (yielded ops a.tmps) = true then Oper.wp Tryd.prog o a w K Q else E := by
  have hw : Region.wanted o (yielded ops a.tmps) = true := by simp [Region.wanted, hgd]
  rw [if_pos hw]
  exact wp_appZ t ht s x ho hs hx hn hm hown hin hB hb h
end
end Go.Proofs.YtjbbdggckagphaaDoor
/-
  The walk of impl's commitReader.commit.
-/
namespace Go.Proofs.YtjbbdggckagphaaDoor
open Go.RowKit

def RetRd (s : ByteArray) (rb : Nat) (a : Addr) (w : World) (e : Ending) (w' : World) : Prop :=
  Below rb w w' ∧ ((∃ A cap t ps m, isCom s (t, ps, m) ∧ e = .returned (.agg #[.string t, .slice A ps.length cap, .string m]) ∧ ZOwn w' (w.heap.size + 1 + 1) A cap ps) ∨ ((¬ ∃ c, isCom s c) ∧ e = pan a))
theorem split_at {r : ByteArray} {n : Nat} (h : n ≤ r.size) : ∃ x r' : ByteArray, x.size = n ∧ r.data.toList = x.data.toList ++ r'.data.toList :=
  ⟨⟨(r.data.toList.take n).toArray⟩, ⟨(r.data.toList.drop n).toArray⟩, by
    show (r.data.toList.take n).toArray.size = n
    have h2 : r.data.toList.length = r.size := by simp
    rw [List.size_toArray, List.length_take, h2]
    omega, by simp⟩
theorem pre_rest {r : ByteArray} {l : List UInt8} (h : l <+: r.data.toList) : ∃ r' : ByteArray, r.data.toList = l ++ r'.data.toList := by
  obtain ⟨x, hx⟩ := h
  exact ⟨⟨x.toArray⟩, by simp [hx]⟩
theorem head_rest {r : ByteArray} {c : UInt8} (h : r.data.toList.head? = some c) : ∃ r' : ByteArray, r.data.toList = c :: r'.data.toList := by
  cases hl : r.data.toList with
  | nil => rw [hl] at h; cases h
  | cons x y => rw [hl] at h; simp at h; subst h; exact ⟨⟨y.toArray⟩, by simp⟩
theorem head_not {r : ByteArray} {c : UInt8} (h : ¬ r.data.toList.head? = some c) : ¬ (ByteArray.mk #[c]).data.toList <+: r.data.toList := by
  rintro ⟨x, hx⟩
  exact h (by rw [← hx]; rfl)
theorem left_len {s t m : ByteArray} {ps : List ByteArray} {x : UInt8} (h : Left s t ps (x :: m.data.toList)) : m.size ≤ s.size := by
  have := congrArg List.length h.1
  simp at this
  omega
theorem ZOwn.sin16 {w : World} {B : Nat} {A : Option Addr} {cap : Nat} {l : List ByteArray} (h : ZOwn w B A cap l) (hs : ∀ p ∈ l, p.size = 16) : SIn w w.heap.size A l := ⟨fun i hi => by have := hs _ (List.getElem_mem hi); unfold maxLen; omega, h.zin⟩

set_option maxRecDepth 100000 in
set_option maxHeartbeats 4000000 in
theorem commit_any (rb : Nat) (s : ByteArray) (a : Addr) (w : World) (hs : s.size ≤ maxLen) (hb : rb < w.heap.size) (hG : 0 < rb) (hw : RdR w rb s) (hE : ErrC w a) :
    Calls Tryd.prog 26 #[.pointer (some ⟨rb, 0, none⟩)] w (RetRd s rb a w) := by
  have S0 := hide (St.start hw hb)
  have EE := hide hE
  clear hw hE
  go_enter Tryd.func26, Tryd.ntmps26
  go_wp2_with fail
  by_cases h1 : comW <+: s.data.toList
  case neg =>
    refine (skip_no rb s _ a _ S0.out.rd (EE.out.belowB S0.out.bl hG) h1).mono ?_
    rintro e w1 ⟨rfl, rfl⟩
    exact ⟨rfl, S0.out.bl, .inr ⟨no_start h1, rfl⟩⟩
  obtain ⟨r1, hr1⟩ := pre_rest h1
  refine (skip_yes rb s _ r1 _ S0.out.rd hr1).mono ?_
  rintro e w1 ⟨rfl, hw1⟩
  have S1 : Hid (St w w1 rb w.heap.size r1 ByteArray.empty none 0 [] ByteArray.empty) := hide (hw1 ▸ S0.out.setR r1)
  have R1 := hide hr1
  clear hw1 hr1 S0 h1
  go_wp2_with fail
  by_cases h2 : 16 ≤ r1.size
  case neg =>
    refine (id_no rb r1 a _ S1.out.rd (EE.out.belowB S1.out.bl hG) (by show r1.size < 16; omega)).mono ?_
    rintro e w2 ⟨rfl, rfl⟩
    exact ⟨rfl, S1.out.bl, .inr ⟨no_tree R1.out (by show r1.size < 16; omega), rfl⟩⟩
  obtain ⟨t, r2, ht, hr2⟩ := split_at h2
  refine (id_yes rb r1 t r2 _ S1.out.rd ht hr2).mono ?_
  rintro e w2 ⟨rfl, hw2⟩
  have S2 : Hid (St w w2 rb w.heap.size r2 ByteArray.empty none 0 [] ByteArray.empty) := hide (hw2 ▸ S1.out.setR r2)
  have L2 : Hid (Left s t [] r2.data.toList) := hide (left_tree (by rw [R1.out, hr2]) ht)
  clear hw2 hr2 h2 S1 R1
  obtain ⟨-, x0, -, -, f0, -, -⟩ := S2.out.cells
  have S3 := hide (S2.out.setT t)
  clear S2
  go_wp2
  go_loopw [] (fun wr => ∃ (r : ByteArray) (ps : List ByteArray) (A : Option Addr) (cap : Nat), ps.length ≤ 2 ∧ Hid (Left s t ps r.data.toList) ∧ Hid (St w wr rb w.heap.size r t A cap ps ByteArray.empty)) (fun wr => 2 - lenAt wr ⟨w.heap.size + 1, 1, none⟩)
  case atStart => exact ⟨r2, [], none, 0, by simp, L2, S3⟩
  case round =>
    clear L2 S3 x0 f0
    obtain ⟨r, ps, A, cap, hps, L, S⟩ := hrel
    obtain ⟨y0, -, y1, -, -, f1, -⟩ := S.out.cells
    have Y := hide (lenAt_of y1)
    by_cases hlt : ps.length < 2
    · have hlti : (ps.length : Int) < 2 := by omega
      by_cases hh : r.data.toList.head? = some 32
      · obtain ⟨r3, hr3⟩ := head_rest hh
        have hd := decide_eq_true hh
        have HP := hide (hasPrefix_any r 32)
        rw [hd] at HP
        go_wp2_with (go_at_call 41; refine (HP.out wr).mono ?_; rintro e w' ⟨rfl, rfl⟩)
        refine (skip_yes rb r ⟨#[32]⟩ r3 _ S.out.rd hr3).mono ?_
        rintro e w3 ⟨rfl, hw3⟩
        have S3 : Hid (St w w3 rb w.heap.size r3 t A cap ps ByteArray.empty) := hide (hw3 ▸ S.out.setR r3)
        have L3 : Hid (Left s t ps (32 :: r3.data.toList)) := hide (hr3 ▸ L.out)
        clear hw3 hr3 S L y0 y1 f1 hd HP hh
        by_cases h16 : 16 ≤ r3.size
        · obtain ⟨p, r4, hp, hr4⟩ := split_at h16
          have L4 : Hid (Left s t (ps ++ [p]) r4.data.toList) := hide (left_parent (by rw [← hr4]; exact L3.out) hp)
          have S3d := hide S3.out.drew
          have y1 := S3d.out.cells.2.2.1
          have hl1 : (ps ++ [p]).length = ps.length + 1 := by simp
          clear S3 L3 h16
          go_wp2_with fail
          go_region_law (first
            | (refine step_appZ (n := ps.length) (m := 1) (A := A) (cap := cap) (A' := some ⟨w4.heap.size, 0, none⟩) (c := 1) (l := ps) (l' := [p]) 24 Tryd.underlying24 rfl (.tmp 23) (.tmp 26) rfl (by simp [Act.eval]) (by simp [Act.eval]) rfl rfl (S4.out.own.alloc _) (ZIn.one p _ rfl) (Nat.le_trans S4.out.sz (by simp)) (by simp; omega) ?_; intro A5 cap5 w5 own5 g5 r5; have B5 := hide (((Below.refl (w.heap.size + 1 + 1) w4).alloc S4.out.sz (.cells #[Value.string p] 9)).trans ((S4.out.own.alloc (.cells #[Value.string p] 9)).grownBelow g5 (Nat.le_trans S4.out.sz (by simp)))); have O5 := hide own5; have z5 := cellB B5.out (show w.heap.size + 1 < w.heap.size + 1 + 1 by omega) S4.out.cells.2.2.1; have zf5 : w5.frozen? ⟨w.heap.size + 1, 1, none⟩ = false := (B5.out.frozen (p := ⟨w.heap.size + 1, 1, none⟩) (by show w.heap.size + 1 < w.heap.size + 1 + 1; omega)).trans S4.out.cells.2.2.2.2.2.1; clear own5 g5 r5)
            | (go_simp; go_at_call 40; refine (id_yes rb r3 p r4 _ S3d.out.rd hp hr4).mono ?_; rintro e w4 ⟨rfl, hw4⟩; have S4 : Hid (St w w4 rb w.heap.size r4 t A cap ps ByteArray.empty) := hide (hw4 ▸ S3d.out.setR r4); have z4 := S4.out.cells.2.2.1; have z4a := cellB ((Below.refl w4.heap.size w4).alloc (Nat.le_refl _) (.cells #[Value.string p] 9)) (show w.heap.size + 1 < w4.heap.size by have := S4.out.sz; omega) S4.out.cells.2.2.1; clear hw4))
          all_goals
            have S6 := hide (S4.out.more B5.out O5.out)
            have y6 := lenAt_of S6.out.cells.2.2.1
            rw [hl1] at S6 y6
            go_wp2
            exact ⟨⟨r4, ps ++ [p], A5, cap5, by rw [hl1]; omega, L4, S6⟩, by rw [y6, Y.out]; omega⟩
        · have S3d := hide S3.out.drew
          have y1 := S3d.out.cells.2.2.1
          have h16' : r3.data.toList.length < 16 := by show r3.size < 16; omega
          go_wp2_with fail
          go_region_dies
          all_goals
            go_at_call 40
            refine (id_no rb r3 a _ S3d.out.rd (EE.out.belowB S3d.out.bl hG) h16').mono ?_
            rintro e w4 ⟨rfl, rfl⟩
            exact ⟨rfl, S3d.out.bl, .inr ⟨left_short L3.out h16', rfl⟩⟩
      · have HP := hide (hasPrefix_any r 32)
        rw [decide_eq_false hh] at HP
        go_wp2_with (go_at_call 41; refine (HP.out wr).mono ?_; rintro e w' ⟨rfl, rfl⟩)
        by_cases h10 : r.data.toList.head? = some 10
        case neg =>
          refine (skip_no rb r ⟨#[10]⟩ a _ S.out.rd (EE.out.belowB S.out.bl hG) (head_not h10)).mono ?_
          rintro e w3 ⟨rfl, rfl⟩
          exact ⟨rfl, S.out.bl, .inr ⟨left_end L.out (.inr hh) h10, rfl⟩⟩
        obtain ⟨m, hm⟩ := head_rest h10
        refine (skip_yes rb r ⟨#[10]⟩ m _ S.out.rd hm).mono ?_
        rintro e w3 ⟨rfl, hw3⟩
        have S3 : Hid (St w w3 rb w.heap.size m t A cap ps ByteArray.empty) := hide (hw3 ▸ S.out.setR m)
        have L3 : Hid (Left s t ps (10 :: m.data.toList)) := hide (hm ▸ L.out)
        have hms : m.size ≤ maxLen := Nat.le_trans (left_len L3.out) hs
        clear hw3 hm S L y0 y1 f1 h10 Y
        obtain ⟨z0, z1, z2, z3, -, -, f2⟩ := S3.out.cells
        have S4 := hide (S3.out.setM m)
        clear S3
        go_wp2_with fail
        refine (implCommitOk_any t m A ps cap _ (by rw [ht]; unfold maxLen; omega) hms (by unfold maxLen; omega) (S4.out.own.sin16 L3.out.2.2.1)).mono ?_
        rintro e w5 ⟨rfl, q5⟩
        have S5 := hide (S4.out.below q5)
        clear q5 S4 z0 z1 z2 z3 f2
        cases hc : comB t ps m
        · have x0 := (EE.out.belowB S5.out.bl hG).1
          go_wp2
          exact ⟨rfl, S5.out.bl, .inr ⟨(left_note L3.out).2 hc, rfl⟩⟩
        · obtain ⟨-, z1, z2, z3, -, -, -⟩ := S5.out.cells
          obtain ⟨g1, g2, g3, k1, k2, k3⟩ := S5.out.cells1
          have hrb : rb ≤ w.heap.size := by omega
          have O5 := hide (ownsRow_setCell_below (ownsRow_setCell_below (ownsRow_setCell_below S5.out.own (a := ⟨w.heap.size, 0, none⟩) (by show w.heap.size < _; omega) (.string t)) (a := ⟨w.heap.size, 1, none⟩) (by show w.heap.size < _; omega) (.slice A ps.length cap)) (a := ⟨w.heap.size, 2, none⟩) (by show w.heap.size < _; omega) (.string m))
          have B5 := hide (((S5.out.bl.setCell (p := ⟨w.heap.size, 0, none⟩) hrb (.string t)).setCell (p := ⟨w.heap.size, 1, none⟩) hrb (.slice A ps.length cap)).setCell (p := ⟨w.heap.size, 2, none⟩) hrb (.string m))
          go_wp2
          exact bodyPost_ret (v := .agg #[.string t, .slice A ps.length cap, .string m]) (by simp [results, Tryd.results26, go_sem, g1, g2, g3]) rfl ⟨B5.out, .inl ⟨A, cap, t, ps, m, (left_note L3.out).1 hc, rfl, O5.out⟩⟩
    · have hlti : ¬ (ps.length : Int) < 2 := by omega
      go_wp2_with fail
      by_cases h10 : r.data.toList.head? = some 10
      case neg =>
        refine (skip_no rb r ⟨#[10]⟩ a _ S.out.rd (EE.out.belowB S.out.bl hG) (head_not h10)).mono ?_
        rintro e w3 ⟨rfl, rfl⟩
        exact ⟨rfl, S.out.bl, .inr ⟨left_end L.out (.inl (by omega)) h10, rfl⟩⟩
      obtain ⟨m, hm⟩ := head_rest h10
      refine (skip_yes rb r ⟨#[10]⟩ m _ S.out.rd hm).mono ?_
      rintro e w3 ⟨rfl, hw3⟩
      have S3 : Hid (St w w3 rb w.heap.size m t A cap ps ByteArray.empty) := hide (hw3 ▸ S.out.setR m)
      have L3 : Hid (Left s t ps (10 :: m.data.toList)) := hide (hm ▸ L.out)
      have hms : m.size ≤ maxLen := Nat.le_trans (left_len L3.out) hs
      clear hw3 hm S L y0 y1 f1 h10 Y
      obtain ⟨z0, z1, z2, z3, -, -, f2⟩ := S3.out.cells
      have S4 := hide (S3.out.setM m)
      clear S3
      go_wp2_with fail
      refine (implCommitOk_any t m A ps cap _ (by rw [ht]; unfold maxLen; omega) hms (by unfold maxLen; omega) (S4.out.own.sin16 L3.out.2.2.1)).mono ?_
      rintro e w5 ⟨rfl, q5⟩
      have S5 := hide (S4.out.below q5)
      clear q5 S4 z0 z1 z2 z3 f2
      cases hc : comB t ps m
      · have x0 := (EE.out.belowB S5.out.bl hG).1
        go_wp2
        exact ⟨rfl, S5.out.bl, .inr ⟨(left_note L3.out).2 hc, rfl⟩⟩
      · obtain ⟨-, z1, z2, z3, -, -, -⟩ := S5.out.cells
        obtain ⟨g1, g2, g3, k1, k2, k3⟩ := S5.out.cells1
        have hrb : rb ≤ w.heap.size := by omega
        have O5 := hide (ownsRow_setCell_below (ownsRow_setCell_below (ownsRow_setCell_below S5.out.own (a := ⟨w.heap.size, 0, none⟩) (by show w.heap.size < _; omega) (.string t)) (a := ⟨w.heap.size, 1, none⟩) (by show w.heap.size < _; omega) (.slice A ps.length cap)) (a := ⟨w.heap.size, 2, none⟩) (by show w.heap.size < _; omega) (.string m))
        have B5 := hide (((S5.out.bl.setCell (p := ⟨w.heap.size, 0, none⟩) hrb (.string t)).setCell (p := ⟨w.heap.size, 1, none⟩) hrb (.slice A ps.length cap)).setCell (p := ⟨w.heap.size, 2, none⟩) hrb (.string m))
        go_wp2
        exact bodyPost_ret (v := .agg #[.string t, .slice A ps.length cap, .string m]) (by simp [results, Tryd.results26, go_sem, g1, g2, g3]) rfl ⟨B5.out, .inl ⟨A, cap, t, ps, m, (left_note L3.out).1 hc, rfl, O5.out⟩⟩
end Go.Proofs.YtjbbdggckagphaaDoor
/-
  The walk of impl.ReadCommit: what the reader's panic, caught, and its answer come to.
-/
namespace Go.Proofs.YtjbbdggckagphaaDoor
open Go.RowKit

def RetCom (s : ByteArray) (w : World) (e : Ending) (w' : World) : Prop :=
  ∃ A cap, e = .returned (.tuple #[.agg #[.string (rdC s).1, .slice A (rdC s).2.1.length cap, .string (rdC s).2.2], .bool (rdOk s)]) ∧ ZOwn w' w.heap.size A cap (rdC s).2.1 ∧ Below w.heap.size w w'
theorem rc_panicking (g : Nat) (u : TypeId) (pv : Value) (older : List PanicEntry) (w : World) (t m : ByteArray) (A : Option Addr) (n cap : Nat) (b : Bool) (h0 : w.heap[g]? = some (C3 t A n cap m)) (h1 : w.heap[g + 1]? = some (.cells #[.bool b] 4 (0, 0))) :
    CallsD Tryd.prog 25 #[.pointer (some ⟨g, 0, none⟩), .pointer (some ⟨g + 1, 0, none⟩)] (.panicking ({ v := .iface u pv, recovered := false } :: older)) w fun e u' w' =>
      e = .returned (.tuple #[]) ∧ u' = .panicking ({ v := .iface u pv, recovered := true } :: older) ∧ w' = (((w.setCell ⟨g, 0, none⟩ (.string ByteArray.empty)).setCell ⟨g, 1, none⟩ (.slice none 0 0)).setCell ⟨g, 2, none⟩ (.string ByteArray.empty)).setCell ⟨g + 1, 0, none⟩ (.bool false) := by
  have c0 := cell_of_row _ _ 0 _ _ _ h0
  have c1 := cell_of_row _ _ 1 _ _ _ h0
  have c2 := cell_of_row _ _ 2 _ _ _ h0
  have c3 := cell_of_row _ _ 0 _ _ _ h1
  have f0 := frozen_of_row _ _ 0 _ _ h0
  have f1 := frozen_of_row _ _ 1 _ _ h0
  have f2 := frozen_of_row _ _ 2 _ _ h0
  have f3 := frozen_of_row _ _ 0 _ _ h1
  refine callsD_of_wpS Tryd.func25 rfl fun c₀ cs hu => ?_
  apply wpS_seq
  apply wpS_region
  simp [wpOpsS, go_sem, recoverD, hu, Tryd.ntmps25, Exit.thenS]
  refine wpS_cond (t := true) (by simp [Act.eval, Array.replicate]) ?_
  simp only [if_true]
  apply wpS_region
  simp [wpOpsS, go_sem, c0, c1, c2, c3, f0, f1, f2, f3, bodyPostS, results, Tryd.results25]
  rfl

theorem rc_idle (p q : Addr) (w : World) :
    CallsD Tryd.prog 25 #[.pointer (some p), .pointer (some q)] .returning w fun e u' w' => e = .returned (.tuple #[]) ∧ u' = .returning ∧ w' = w := by
  refine callsD_of_wpS Tryd.func25 rfl fun c₀ cs hu => ?_
  apply wpS_seq
  apply wpS_region
  simp [wpOpsS, go_sem, recoverD, hu, Tryd.ntmps25, Exit.thenS]
  refine wpS_cond (t := false) (by simp [Act.eval, Array.replicate]) ?_
  simp only [Bool.false_eq_true, if_false]
  refine wpS_of_wp (wp_skip ?_)
  cases c₀
  simp_all [bodyPostS, results, Tryd.results25]
set_option maxRecDepth 100000 in
set_option maxHeartbeats 2000000 in
theorem implReadCommit_any (s : ByteArray) (a : Addr) (w : World) (hs : s.size ≤ maxLen) (hE : ErrC w a) :
    Calls Tryd.prog 9 #[.string s] w (RetCom s w) := by
  have hmf : ∀ (fn : Fn) (first cap : Array Value) (w : World), (Instr.makeFunc fn first cap).run Tryd.prog w = .ok (.func fn first cap) w := fun _ _ _ _ => rfl
  have A3 := hide (alloc3 w (.cells #[.string ByteArray.empty, .slice none 0 0, .string ByteArray.empty] 26) (.cells #[.bool false] 4) (.cells #[.string s] 50))
  have B3 := hide (((((Below.refl w.heap.size w).alloc (Nat.le_refl _) (.cells #[.string ByteArray.empty, .slice none 0 0, .string ByteArray.empty] 26)).alloc (by simp) (.cells #[.bool false] 4))).alloc (by simp; omega) (.cells #[.string s] 50))
  have hz3 : (((w.alloc (.cells #[.string ByteArray.empty, .slice none 0 0, .string ByteArray.empty] 26)).alloc (.cells #[.bool false] 4)).alloc (.cells #[.string s] 50)).heap.size = w.heap.size + 1 + 1 + 1 := by simp
  have C := hide (commit_any (w.heap.size + 1 + 1) s a _ hs (by rw [hz3]; omega) (by have := hE.2; omega) A3.out.2.2 (hE.below B3.out))
  go_enter_defers Tryd.func9, Tryd.ntmps9
  go_wp2_with fail
  refine C.out.mono ?_
  rintro e w1 ⟨q1, hh⟩
  have X0 := (q1.block w.heap.size (by omega)).trans A3.out.1
  have X1 := (q1.block (w.heap.size + 1) (by omega)).trans A3.out.2.1
  have BB := hide (B3.out.trans (q1.mono (by omega)))
  rcases hh with ⟨A, cap, t, ps, m, hc, rfl, own⟩ | ⟨hn, rfl⟩
  · obtain ⟨e1, e2⟩ := rd_yes hc
    have O := hide (own.more (B' := w.heap.size + 1 + 1) (by rw [hz3]; omega))
    clear own
    have c0 := cell_of_row _ _ 0 _ _ _ X0
    have c1 := cell_of_row _ _ 1 _ _ _ X0
    have c2 := cell_of_row _ _ 2 _ _ _ X0
    have c3 := cell_of_row _ _ 0 _ _ _ X1
    have f0 := frozen_of_row _ _ 0 _ _ X0
    have f1 := frozen_of_row _ _ 1 _ _ X0
    have f2 := frozen_of_row _ _ 2 _ _ X0
    have f3 := frozen_of_row _ _ 0 _ _ X1
    clear X0 X1 A3 B3 q1 C hz3
    go_wp2
    refine leaves_cons (f := 25) (args := #[.pointer (some ⟨w.heap.size, 0, none⟩), .pointer (some ⟨w.heap.size + 1, 0, none⟩)]) (by simp) (by simp [go_sem]) ?_
    refine (rc_idle ⟨w.heap.size, 0, none⟩ ⟨w.heap.size + 1, 0, none⟩ _).mono ?_
    rintro e u' w'' ⟨rfl, rfl, rfl⟩
    simp [Leaves, settle, results, Tryd.results9, go_sem, c0, c1, c2, c3]
    refine ⟨A, cap, by rw [e2, e1], ?_, (((BB.out.setCell (p := ⟨w.heap.size, 0, none⟩) (Nat.le_refl _) _).setCell (p := ⟨w.heap.size, 1, none⟩) (Nat.le_refl _) _).setCell (p := ⟨w.heap.size, 2, none⟩) (Nat.le_refl _) _).setCell (p := ⟨w.heap.size + 1, 0, none⟩) (Nat.le_succ _) _⟩
    rw [e2]
    have O2 : ZOwn _ (w.heap.size + 1 + 1) A cap ps := ownsRow_setCell_below (ownsRow_setCell_below (ownsRow_setCell_below (ownsRow_setCell_below O.out (a := ⟨w.heap.size, 0, none⟩) (by show w.heap.size < _; omega) (.string t)) (a := ⟨w.heap.size, 1, none⟩) (by show w.heap.size < _; omega) (.slice A ps.length cap)) (a := ⟨w.heap.size, 2, none⟩) (by show w.heap.size < _; omega) (.string m)) (a := ⟨w.heap.size + 1, 0, none⟩) (by show w.heap.size + 1 < _; omega) (.bool true)
    exact O2.more (by omega)
  · obtain ⟨e1, e2⟩ := rd_no hn
    clear A3 B3 q1 C hz3
    refine leaves_cons (f := 25) (args := #[.pointer (some ⟨w.heap.size, 0, none⟩), .pointer (some ⟨w.heap.size + 1, 0, none⟩)]) (by simp) (by simp [go_sem]) ?_
    refine (rc_panicking w.heap.size _ _ [] _ _ _ _ _ _ _ X0 X1).mono ?_
    rintro e u' w'' ⟨rfl, rfl, rfl⟩
    have c0 := cell_of_row _ _ 0 _ _ _ X0
    have c1 := cell_of_row _ _ 1 _ _ _ X0
    have c2 := cell_of_row _ _ 2 _ _ _ X0
    have c3 := cell_of_row _ _ 0 _ _ _ X1
    simp [Leaves, settle, results, Tryd.results9, go_sem, c0, c1, c2, c3]
    exact ⟨none, 0, by rw [e2, e1]; rfl, by rw [e2]; exact ZOwn.nil _ _, (((BB.out.setCell (p := ⟨w.heap.size, 0, none⟩) (Nat.le_refl _) _).setCell (p := ⟨w.heap.size, 1, none⟩) (Nat.le_refl _) _).setCell (p := ⟨w.heap.size, 2, none⟩) (Nat.le_refl _) _).setCell (p := ⟨w.heap.size + 1, 0, none⟩) (Nat.le_succ _) _⟩
end Go.Proofs.YtjbbdggckagphaaDoor
/-
  The walk of spec.ReadCommit.
-/
namespace Go.Proofs.YtjbbdggckagphaaDoor
open Go.RowKit

theorem ZOwn.setOther {w : World} {B : Nat} {A : Option Addr} {cap : Nat} {l : List ByteArray} (h : ZOwn w B A cap l) {p : Addr} (hp : rowOf A ≠ some p.block) (u : Value) : ZOwn (w.setCell p u) B A cap l :=
  h.kept (r := p.block) (by
    have b := (Below.refl p.block w).setCell (p := p) (Nat.le_refl _) u
    exact ⟨b.os, b.tape, b.output, b.size, fun i _ hne => Below.heap_setCell _ _ _ _ (fun e => hne (by rw [e]))⟩) hp
theorem split_size : ∀ (n : Nat) (s x : ByteArray), x ∈ splitF n s → x.size ≤ s.size
  | 0, s, x, h => by simp [splitF] at h; rw [h]; exact Nat.le_refl _
  | n + 1, s, x, h => by
    have hc := cutA_one (s := s) (c := 32)
    cases hb : (cutS s 32).2.2
    · rw [splitF_last hb] at h; simp at h; rw [h]; exact hc.1
    · rw [splitF_more hb] at h
      rcases List.mem_cons.1 h with rfl | h
      · exact hc.1
      · exact Nat.le_trans (split_size n _ x h) hc.2
/-- what a right commit's text looks like, cut and parted -/
theorem com_seen {s : ByteArray} {c : Com} (h : isCom s c) : (cutS s 10).2.2 = true ∧ (cutS s 10).2.1 = c.2.2 ∧ splitF ((cutS s 10).1.size + 1) (cutS s 10).1 = ⟨#[99, 111, 109, 109, 105, 116]⟩ :: c.1 :: c.2.1 := by
  obtain ⟨h1, h2⟩ := com_head h.1
  rw [h.2] at h1
  rw [h1]
  refine ⟨rfl, rfl, h2 _ ?_⟩
  have : 6 ≤ ((⟨#[99, 111, 109, 109, 105, 116]⟩ : ByteArray) ++ blanks (c.1 :: c.2.1)).size := by
    rw [ByteArray.size_append]
    show 6 ≤ 6 + _
    omega
  show 3 ≤ ((⟨#[99, 111, 109, 109, 105, 116]⟩ : ByteArray) ++ blanks (c.1 :: c.2.1)).size + 1
  omega
theorem com_text {s t m : ByteArray} {l : List ByteArray} (hc : (cutS s 10).2.2 = true) (h : comTextS t l m = s) : isCom s (t, l, m) := by
  cases hb : comB t l m
  · rw [comText_no hb] at h
    subst h
    have := cutA_rest hc
    simp at this
  · rw [comText_yes hb] at h
    exact ⟨hb, h⟩
theorem com_text_no {s t m : ByteArray} {l : List ByteArray} (hm : (cutS s 10).2.1 = m) (hp : splitF ((cutS s 10).1.size + 1) (cutS s 10).1 = ⟨#[99, 111, 109, 109, 105, 116]⟩ :: t :: l) (h : comTextS t l m ≠ s) : ¬ ∃ c, isCom s c := by
  rintro ⟨c, hc⟩
  obtain ⟨_, h2, h3⟩ := com_seen hc
  rw [hp] at h3
  simp only [List.cons.injEq, true_and] at h3
  refine h ?_
  rw [h3.1, h3.2, ← hm, h2, comText_yes hc.1]
  exact hc.2
theorem row_top {w : World} {B : Nat} {A : Option Addr} {cap : Nat} {l : List ByteArray} (h : ZOwn w B A cap l) : rowOf A ≠ some w.heap.size := fun e => by have := (h.row _ e).2; omega
theorem row_low {w : World} {B : Nat} {A : Option Addr} {cap : Nat} {l : List ByteArray} (h : ZOwn w (B + 1) A cap l) : rowOf A ≠ some B := fun e => by have := (h.row _ e).1; omega
theorem row_ne (K : Nat) : some (K + 1) ≠ rowOf (some (⟨K, 0, none⟩ : Addr)) := by simp [rowOf]
theorem row_mid {w : World} {C E : Obj} {A : Option Addr} (h : rowOf A = rowOf (some (⟨w.heap.size, 0, none⟩ : Addr)) ∨ rowOf A = some ((w.alloc E).alloc C).drew.heap.size) : rowOf A ≠ some (w.heap.size + 1) := fun e => by
  rcases h with r | r <;> rw [e] at r <;> simp [rowOf, World.drew] at r
theorem grown_other {w w' : World} {r : Option Nat} {i : Nat} (h : w.grownBy w' r) (hi : i < w.heap.size) (hne : some i ≠ r) : w'.heap[i]? = w.heap[i]? := h.block i hi hne
theorem keep3 {w : World} {b g o : Nat} {u0 u1 u2 v : Value} (hc : w.cell? ⟨g, o, none⟩ = some v) (h : g ≠ b) : (((w.setCell ⟨b, 0, none⟩ u0).setCell ⟨b, 1, none⟩ u1).setCell ⟨b, 2, none⟩ u2).cell? ⟨g, o, none⟩ = some v :=
  (World.cell?_of_block (a := ⟨g, o, none⟩) ((Below.heap_setCell _ _ _ _ h).trans ((Below.heap_setCell _ _ _ _ h).trans (Below.heap_setCell _ _ _ _ h)))).trans hc
/-- a commit stored in a block of its own -/
theorem put3 {w : World} {b : Nat} {t m t0 m0 : ByteArray} {A A0 : Option Addr} {n n0 cap cap0 : Nat} (h : w.heap[b]? = some (C3 t0 A0 n0 cap0 m0)) : (((w.setCell ⟨b, 0, none⟩ (.string t)).setCell ⟨b, 1, none⟩ (.slice A n cap)).setCell ⟨b, 2, none⟩ (.string m)).heap[b]? = some (C3 t A n cap m) :=
  heap_setCell_same _ b 2 _ _ _ (heap_setCell_same _ b 1 _ _ _ (heap_setCell_same w b 0 _ _ _ h))
theorem own3 {w : World} {B b : Nat} {A : Option Addr} {cap : Nat} {l : List ByteArray} {u0 u1 u2 : Value} (h : ZOwn w B A cap l) (hr : rowOf A ≠ some b) : ZOwn (((w.setCell ⟨b, 0, none⟩ u0).setCell ⟨b, 1, none⟩ u1).setCell ⟨b, 2, none⟩ u2) B A cap l := ((h.setOther (p := ⟨b, 0, none⟩) hr u0).setOther (p := ⟨b, 1, none⟩) hr u1).setOther (p := ⟨b, 2, none⟩) hr u2
theorem bel3 {w0 w : World} {B b : Nat} {u0 u1 u2 : Value} (h : Below B w0 w) (hb : B ≤ b) : Below B w0 (((w.setCell ⟨b, 0, none⟩ u0).setCell ⟨b, 1, none⟩ u1).setCell ⟨b, 2, none⟩ u2) := ((h.setCell (p := ⟨b, 0, none⟩) hb u0).setCell (p := ⟨b, 1, none⟩) hb u1).setCell (p := ⟨b, 2, none⟩) hb u2
def Zero (s : ByteArray) (w : World) (e : Ending) (w' : World) : Prop := (¬ ∃ c, isCom s c) → RetCom s w e w'

set_option maxRecDepth 100000 in
set_option maxHeartbeats 4000000 in
theorem specReadCommit_any (s : ByteArray) (w : World) (hs : s.size ≤ 1048576) :
    Calls Tryd.prog 10 #[.string s] w (RetCom s w) := by
  have B0 := hide ((Below.refl w.heap.size w).alloc (Nat.le_refl _) (.cells #[.string ByteArray.empty, .slice none 0 0, .string ByteArray.empty] 26))
  have X0 : Hid ((w.alloc (.cells #[.string ByteArray.empty, .slice none 0 0, .string ByteArray.empty] 26)).heap[w.heap.size]? = some (C3 ByteArray.empty none 0 0 ByteArray.empty)) := hide (heap_alloc_new w _)
  have hz0 : (w.alloc (.cells #[.string ByteArray.empty, .slice none 0 0, .string ByteArray.empty] 26)).heap.size = w.heap.size + 1 := by simp
  have hcs := (cutA_one (s := s) (c := 10))
  go_enter Tryd.func10, Tryd.ntmps10
  go_wp2_with fail
  refine (l1Cut_any s 10 10 _ (by unfold maxLen; omega) rfl).mono ?_
  rintro e w1 ⟨rfl, q1⟩
  go_wp2_with fail
  refine (l1Split_any (cutS s 10).1 w1 (by omega)).mono ?_
  rintro e w2 ⟨A1, cap1, rfl, own1, b2, hlen⟩
  have hz1 : w1.heap.size = w.heap.size + 1 := by
    obtain ⟨k, rfl⟩ := q1
    exact hz0
  have B2 := hide (B0.out.trans ((q1.below w.heap.size).trans (b2.mono (by omega))))
  have X2 := hide ((b2.block w.heap.size (by omega)).trans (((q1.below (w.heap.size + 1)).block w.heap.size (by omega)).trans X0.out))
  have O := hide own1
  rw [hz1] at O
  have hz2 : w.heap.size + 1 ≤ w2.heap.size := by have := b2.size; omega
  have g0 := cell_of_row _ _ 0 _ _ _ X2.out
  have g1 := cell_of_row _ _ 1 _ _ _ X2.out
  have g2 := cell_of_row _ _ 2 _ _ _ X2.out
  have k0 := frozen_of_row _ _ 0 _ _ X2.out
  have k1 := frozen_of_row _ _ 1 _ _ X2.out
  have k2 := frozen_of_row _ _ 2 _ _ X2.out
  have NO : Hid ((¬ ∃ c, isCom s c) → ∀ e, e = Ending.returned (.tuple #[.agg #[.string ByteArray.empty, .slice none 0 0, .string ByteArray.empty], .bool false]) → ∀ w3, Below w.heap.size w2 w3 → RetCom s w e (((w3.setCell ⟨w.heap.size, 0, none⟩ (.string ByteArray.empty)).setCell ⟨w.heap.size, 1, none⟩ (.slice none 0 0)).setCell ⟨w.heap.size, 2, none⟩ (.string ByteArray.empty))) := hide (by
    rintro hn e rfl w3 b3
    obtain ⟨e1, e2⟩ := rd_no hn
    exact ⟨none, 0, by rw [e2, e1]; rfl, by rw [e2]; exact ZOwn.nil _ _, (((B2.out.trans b3).setCell (p := ⟨w.heap.size, 0, none⟩) (Nat.le_refl _) _).setCell (p := ⟨w.heap.size, 1, none⟩) (Nat.le_refl _) _).setCell (p := ⟨w.heap.size, 2, none⟩) (Nat.le_refl _) _⟩)
  clear q1 b2 own1 hz0 hz1 X0 B0
  cases hcut : (cutS s 10).2.2
  · have N := hide (NO.out (fun ⟨c, hc⟩ => by have := (com_seen hc).1; rw [hcut] at this; cases this) _ rfl w2 (Below.refl _ _))
    clear hlen
    generalize splitF ((cutS s 10).1.size + 1) (cutS s 10).1 = p at *
    generalize (cutS s 10).1 = x at *
    generalize (cutS s 10).2.1 = m at *
    go_wp2
    exact bodyPost_ret (v := .tuple #[.agg #[.string ByteArray.empty, .slice none 0 0, .string ByteArray.empty], .bool false]) (by simp [results, Tryd.results10, go_sem, g0, g1, g2]; rfl) rfl N.out
  · generalize hp : splitF ((cutS s 10).1.size + 1) (cutS s 10).1 = p at *
    have hszp : Hid (∀ x ∈ p, x.size ≤ maxLen) := hide (fun x hx => by rw [← hp] at hx; have := split_size _ _ x hx; unfold maxLen; omega)
    have HP := hide hp
    have HC := hide hcut
    have hms : (cutS s 10).2.1.size ≤ 1048576 := by omega
    generalize hm : (cutS s 10).2.1 = m at *
    have HM := hide hm
    generalize hx : (cutS s 10).1 = x at *
    clear hp hm hcut
    have RET0 : ∀ (w3 : World) (a : Act), True := fun _ _ => trivial
    rcases p with _ | ⟨x0, _ | ⟨t, l⟩⟩
    · have N := hide (NO.out (fun ⟨c, hc⟩ => by have := (com_seen hc).2.2; rw [hx, HP.out] at this; cases this) _ rfl w2 (Below.refl _ _))
      go_wp2
      exact bodyPost_ret (v := .tuple #[.agg #[.string ByteArray.empty, .slice none 0 0, .string ByteArray.empty], .bool false]) (by simp [results, Tryd.results10, go_sem, g0, g1, g2]; rfl) rfl N.out
    · have N := hide (NO.out (fun ⟨c, hc⟩ => by have := (com_seen hc).2.2; rw [hx, HP.out] at this; cases this) _ rfl w2 (Below.refl _ _))
      go_wp2
      exact bodyPost_ret (v := .tuple #[.agg #[.string ByteArray.empty, .slice none 0 0, .string ByteArray.empty], .bool false]) (by simp [results, Tryd.results10, go_sem, g0, g1, g2]; rfl) rfl N.out
    · obtain ⟨gb, rfl, hgB, hgs⟩ : ∃ g, A1 = some ⟨g, 0, none⟩ ∧ w.heap.size + 1 ≤ g ∧ g < w2.heap.size := by
        rcases O.out.form with ⟨_, _, h⟩ | h
        · cases h
        · exact h
      obtain ⟨b, off, heq, hb, hc⟩ := O.out.zin (by simp)
      cases heq
      have c0 : w2.cell? ⟨gb, 0, none⟩ = some (.string x0) := hc 0 (by simp)
      have c1 : w2.cell? ⟨gb, 1, none⟩ = some (.string t) := hc 1 (by simp)
      have hcap := O.out.cap_le
      have IN := hide (O.out.zin.drop (cap := cap1) O.out.cap_le 2)
      clear hc
      have hln : (x0 :: t :: l).length = l.length + 2 := rfl
      generalize hn : (x0 :: t :: l).length = n at *
      have n2 : ¬ (n : Int) < 2 := by omega
      have n0 : (0 : Int) < (n : Int) := by omega
      have n1 : (1 : Int) < (n : Int) := by omega
      have HLN := hide hln
      have hl0 : l.length = n - 2 := by omega
      have HL0 := hide hl0
      have hn3 : n ≤ 1048577 := by omega
      clear hn hln hl0
      by_cases hx0 : x0 = ⟨#[99, 111, 109, 109, 105, 116]⟩
      case neg =>
        have d2 := eqS_no hx0
        have d4 : (x0.toList == [99, 111, 109, 109, 105, 116]) = false := by
          have e : (ByteArray.mk #[99, 111, 109, 109, 105, 116]).toList = [99, 111, 109, 109, 105, 116] := by rw [Go.ByteArray.toList_eq]
          rw [← e]; exact d2
        have N := hide (NO.out (fun ⟨c, hc⟩ => by have := (com_seen hc).2.2; rw [hx, HP.out] at this; simp only [List.cons.injEq] at this; exact hx0 this.1) _ rfl w2 (Below.refl _ _))
        go_wp2
        exact bodyPost_ret (v := .tuple #[.agg #[.string ByteArray.empty, .slice none 0 0, .string ByteArray.empty], .bool false]) (by simp [results, Tryd.results10, go_sem, g0, g1, g2]; rfl) rfl N.out
      subst hx0
      have K2 := run_cutZ_l 24 Tryd.underlying24 (some ⟨gb, 0, none⟩) n cap1 2 (by omega)
      have hb0 := hide ((Below.refl w2.heap.size w2).alloc (Nat.le_refl _) (Obj.cells #[] 9))
      have hb1 := hide ((Below.refl w2.heap.size w2).alloc (Nat.le_refl _) (Obj.cells #[Value.string { data := #[] }, Value.slice none 0 0, Value.string { data := #[] }] 26))
      have BC : Hid (Below w2.heap.size w2 (w2.alloc (Obj.cells #[] 9)).drew) := hide hb0.out.drew
      have BB : Hid (Below w2.heap.size w2 ((w2.alloc (Obj.cells #[] 9)).alloc (Obj.cells #[Value.string { data := #[] }, Value.slice none 0 0, Value.string { data := #[] }] 26)).drew) := hide (hb0.out.alloc hb0.out.size _).drew
      have BA1 : Hid (Below w2.heap.size w2 (w2.alloc (Obj.cells #[Value.string { data := #[] }, Value.slice none 0 0, Value.string { data := #[] }] 26)).drew) := hide hb1.out.drew
      have BA : Hid (Below w2.heap.size w2 ((w2.alloc (Obj.cells #[Value.string { data := #[] }, Value.slice none 0 0, Value.string { data := #[] }] 26)).alloc (Obj.cells #[] 9)).drew) := hide (hb1.out.alloc hb1.out.size _).drew
      have OC : Hid (ZOwn (w2.alloc (Obj.cells #[] 9)).drew w2.heap.size (some ⟨w2.heap.size, 0, none⟩) 0 []) := hide ((ZOwn.built w2 w2.heap.size (Nat.le_refl _)).below (Below.refl _ _).drew)
      have OB : Hid (ZOwn ((w2.alloc (Obj.cells #[] 9)).alloc (Obj.cells #[Value.string { data := #[] }, Value.slice none 0 0, Value.string { data := #[] }] 26)).drew w2.heap.size (some ⟨w2.heap.size, 0, none⟩) 0 []) := hide (((ZOwn.built w2 w2.heap.size (Nat.le_refl _)).alloc _).below (Below.refl _ _).drew)
      have OA : Hid (ZOwn ((w2.alloc (Obj.cells #[Value.string { data := #[] }, Value.slice none 0 0, Value.string { data := #[] }] 26)).alloc (Obj.cells #[] 9)).drew (w2.heap.size + 1) (some ⟨w2.heap.size + 1, 0, none⟩) 0 []) := hide (by
        have h := (ZOwn.built (w2.alloc (Obj.cells #[Value.string { data := #[] }, Value.slice none 0 0, Value.string { data := #[] }] 26)) (w2.heap.size + 1) (by simp)).below (Below.refl _ _).drew
        rw [show (w2.alloc (Obj.cells #[Value.string { data := #[] }, Value.slice none 0 0, Value.string { data := #[] }] 26)).heap.size = w2.heap.size + 1 by simp] at h
        exact h)
      have IC : Hid (ZIn (w2.alloc (Obj.cells #[] 9)).drew w2.heap.size (cutZ (some ⟨gb, 0, none⟩) cap1 2) l) := hide (IN.out.below BC.out)
      have IB : Hid (ZIn ((w2.alloc (Obj.cells #[] 9)).alloc (Obj.cells #[Value.string { data := #[] }, Value.slice none 0 0, Value.string { data := #[] }] 26)).drew w2.heap.size (cutZ (some ⟨gb, 0, none⟩) cap1 2) l) := hide (IN.out.below BB.out)
      have IA : Hid (ZIn ((w2.alloc (Obj.cells #[Value.string { data := #[] }, Value.slice none 0 0, Value.string { data := #[] }] 26)).alloc (Obj.cells #[] 9)).drew w2.heap.size (cutZ (some ⟨gb, 0, none⟩) cap1 2) l) := hide (IN.out.below BA.out)
      have YB : Hid ((((w2.alloc (Obj.cells #[] 9)).alloc (Obj.cells #[Value.string { data := #[] }, Value.slice none 0 0, Value.string { data := #[] }] 26)).drew).heap[w2.heap.size + 1]? = some (C3 ByteArray.empty none 0 0 ByteArray.empty)) := hide (heap_alloc2_new w2 _ _)
      have YA : Hid ((((w2.alloc (Obj.cells #[Value.string { data := #[] }, Value.slice none 0 0, Value.string { data := #[] }] 26)).alloc (Obj.cells #[] 9)).drew).heap[w2.heap.size]? = some (C3 ByteArray.empty none 0 0 ByteArray.empty)) := hide (heap_alloc2_old w2 _ _)
      have sB : w2.heap.size + 1 < (((w2.alloc (Obj.cells #[] 9)).alloc (Obj.cells #[Value.string { data := #[] }, Value.slice none 0 0, Value.string { data := #[] }] 26)).drew).heap.size := by simp [World.drew]
      have sA : w2.heap.size + 1 ≤ (((w2.alloc (Obj.cells #[Value.string { data := #[] }, Value.slice none 0 0, Value.string { data := #[] }] 26)).alloc (Obj.cells #[] 9)).drew).heap.size := by simp [World.drew]
      have hlb : ([] : List ByteArray).length + l.length ≤ 3000000 := by rw [HL0.out]; simp; omega
      have hgs' := hgs
      clear hb0 hb1
      go_wp2_with fail
      have hcut2 : (if cap1 = 2 then some (⟨gb, 0, none⟩ : Addr) else some ⟨gb, 2, none⟩) = cutZ (some ⟨gb, 0, none⟩) cap1 2 := by simp [cutZ, Addr.add]
      go_region_held3 (fun w' => w'.cell? ⟨gb, 1, none⟩ = some (.string t)) (first | go_keep | exact cellB BC.out hgs' c1 | exact cellB BB.out hgs' c1 | exact cellB BA1.out hgs' c1 | exact cellB BA.out hgs' c1 | exact z1 | exact keep3 z1 (by omega)) (first
        | (refine step_appZ (w := (w2.alloc (Obj.cells #[] 9)).drew) (n := 0) (m := n - 2) (A := some ⟨w2.heap.size, 0, none⟩) (cap := 0) (A' := cutZ (some ⟨gb, 0, none⟩) cap1 2) (c := cap1 - 2) (l := []) (l' := l) 24 Tryd.underlying24 rfl (.tmp 34) (.tmp 36) rfl (by simp [Act.eval]) (by simp [Act.eval, cutZ, Addr.add]) rfl HL0.out.symm OC.out IC.out BC.out.size hlb ?_; intro A5 cap5 w5 own5 g5 r5; have B5 := hide (BC.out.trans (OC.out.grownBelow g5 BC.out.size)); have ROW := hide (row_top own5); have O5 := hide own5; have z1 := cellB B5.out hgs' c1; have MC := trivial; clear own5 g5 r5)
        | (refine step_appZ (w := ((w2.alloc (Obj.cells #[] 9)).alloc (Obj.cells #[Value.string { data := #[] }, Value.slice none 0 0, Value.string { data := #[] }] 26)).drew) (n := 0) (m := n - 2) (A := some ⟨w2.heap.size, 0, none⟩) (cap := 0) (A' := cutZ (some ⟨gb, 0, none⟩) cap1 2) (c := cap1 - 2) (l := []) (l' := l) 24 Tryd.underlying24 rfl (.tmp 34) (.tmp 36) rfl (by simp [Act.eval]) (by simp [Act.eval, cutZ, Addr.add]) rfl HL0.out.symm OB.out IB.out BB.out.size hlb ?_; intro A5 cap5 w5 own5 g5 r5; have B5 := hide (BB.out.trans (OB.out.grownBelow g5 BB.out.size)); have X5 := hide ((grown_other g5 sB (row_ne _)).trans YB.out); have ROW := hide (row_mid r5); have c50 := cell_of_row _ _ 0 _ _ _ X5.out; have f50 := frozen_of_row _ _ 0 _ _ X5.out; have c51 := cell_of_row _ _ 1 _ _ _ X5.out; have f51 := frozen_of_row _ _ 1 _ _ X5.out; have c52 := cell_of_row _ _ 2 _ _ _ X5.out; have f52 := frozen_of_row _ _ 2 _ _ X5.out; have O5 := hide own5; have z1 := cellB B5.out hgs' c1; have MB := trivial; clear own5 g5 r5)
        | (refine step_appZ (w := ((w2.alloc (Obj.cells #[Value.string { data := #[] }, Value.slice none 0 0, Value.string { data := #[] }] 26)).alloc (Obj.cells #[] 9)).drew) (n := 0) (m := n - 2) (A := some ⟨w2.heap.size + 1, 0, none⟩) (cap := 0) (A' := cutZ (some ⟨gb, 0, none⟩) cap1 2) (c := cap1 - 2) (l := []) (l' := l) 24 Tryd.underlying24 rfl (.tmp 34) (.tmp 36) rfl (by simp [Act.eval]) (by simp [Act.eval, cutZ, Addr.add]) rfl HL0.out.symm OA.out IA.out sA hlb ?_; intro A5 cap5 w5 own5 g5 r5; have b5 := hide (OA.out.grownBelow g5 sA); have B5 := hide (BA.out.trans (b5.out.mono (Nat.le_succ _))); have X5 := hide ((b5.out.block w2.heap.size (Nat.lt_succ_self _)).trans YA.out); have ROW := hide (row_low own5); have c50 := cell_of_row _ _ 0 _ _ _ X5.out; have f50 := frozen_of_row _ _ 0 _ _ X5.out; have c51 := cell_of_row _ _ 1 _ _ _ X5.out; have f51 := frozen_of_row _ _ 1 _ _ X5.out; have c52 := cell_of_row _ _ 2 _ _ _ X5.out; have f52 := frozen_of_row _ _ 2 _ _ X5.out; have O5 := hide own5; have z1 := cellB B5.out hgs' c1; have MA := trivial; clear own5 g5 r5 b5))
      · clear hcut2 K2
        have X6 : Hid ((w5.alloc (Obj.cells #[Value.string t, Value.slice A5 l.length cap5, Value.string m] 26)).heap[w5.heap.size]? = some (C3 t A5 l.length cap5 m)) := hide (heap_alloc_new w5 _)
        have O6 : Hid (ZOwn (w5.alloc (Obj.cells #[Value.string t, Value.slice A5 l.length cap5, Value.string m] 26)) w2.heap.size A5 cap5 l) := hide (O5.out.alloc _)
        have B6 : Hid (Below w2.heap.size w2 (w5.alloc (Obj.cells #[Value.string t, Value.slice A5 l.length cap5, Value.string m] 26))) := hide (B5.out.alloc B5.out.size _)
        have hcb : w2.heap.size ≤ w5.heap.size := B5.out.size
        have S6 : w5.heap.size < (w5.alloc (Obj.cells #[Value.string t, Value.slice A5 l.length cap5, Value.string m] 26)).heap.size := (Array.getElem?_eq_some_iff.1 X6.out).1
        generalize (w5.alloc (Obj.cells #[Value.string t, Value.slice A5 l.length cap5, Value.string m] 26)) = w6 at *
        generalize hcbe : w5.heap.size = cb at *
        clear B5 O5 ROW z1 OC OB OA IC IB IA BC BB BA BA1 YA YB sA sB
        have c60 := cell_of_row _ _ 0 _ _ _ X6.out
        have c61 := cell_of_row _ _ 1 _ _ _ X6.out
        have c62 := cell_of_row _ _ 2 _ _ _ X6.out
        go_wp2_with fail
        refine (specCommitText_any t m A5 l cap5 w6 (hszp.out t (by simp)) (by unfold maxLen; omega) (by rw [HL0.out]; unfold maxLen; omega) ⟨fun i hi => hszp.out _ (List.mem_cons_of_mem _ (List.mem_cons_of_mem _ (List.getElem_mem hi))), O6.out.zin⟩).mono ?_
        rintro e w7 ⟨rfl, b7⟩
        have X7 := hide ((b7.block cb (by have := S6; omega)).trans X6.out)
        have G7 := hide ((b7.block w.heap.size (by have := S6; omega)).trans ((B6.out.block w.heap.size (by omega)).trans X2.out))
        have B7 := hide (B6.out.trans (b7.mono (by have := S6; have := B6.out.size; omega)))
        have O7 := hide (O6.out.below b7)
        clear b7 X6 B6 O6 c60 c61 c62 g0 g1 g2 k0 k1 k2 X2
        have c70 := cell_of_row _ _ 0 _ _ _ X7.out
        have c71 := cell_of_row _ _ 1 _ _ _ X7.out
        have c72 := cell_of_row _ _ 2 _ _ _ X7.out
        have g0 := cell_of_row _ _ 0 _ _ _ G7.out
        have g1 := cell_of_row _ _ 1 _ _ _ G7.out
        have g2 := cell_of_row _ _ 2 _ _ _ G7.out
        have k0 := frozen_of_row _ _ 0 _ _ G7.out
        have k1 := frozen_of_row _ _ 1 _ _ G7.out
        have k2 := frozen_of_row _ _ 2 _ _ G7.out
        by_cases hT : comTextS t l m = s
        · obtain ⟨e1, e2⟩ := rd_yes (com_text HC.out hT)
          have E := eqS_yes hT
          have RR := hide (show RetCom s w (.returned (.tuple #[.agg #[.string t, .slice A5 l.length cap5, .string m], .bool true])) (((w7.setCell ⟨w.heap.size, 0, none⟩ (.string t)).setCell ⟨w.heap.size, 1, none⟩ (.slice A5 l.length cap5)).setCell ⟨w.heap.size, 2, none⟩ (.string m)) from
            ⟨A5, cap5, by rw [e2, e1], by rw [e2]; exact (own3 O7.out (fun h => by have := (O7.out.row _ h).1; omega)).more (by omega), bel3 (B2.out.trans (B7.out.mono (by omega))) (Nat.le_refl _)⟩)
          clear hT e1 e2
          generalize comTextS t l m = cs at *
          generalize l.length = nl at *
          go_wp2
          exact bodyPost_ret (v := .tuple #[.agg #[.string t, .slice A5 nl cap5, .string m], .bool true]) (by simp [results, Tryd.results10, go_sem, g0, g1, g2]) rfl RR.out
        · have E := eqS_no hT
          have N := hide (NO.out (com_text_no HM.out (by rw [hx]; exact HP.out) hT) _ rfl w7 (B7.out.mono (by omega)))
          clear hT
          generalize comTextS t l m = cs at *
          generalize l.length = nl at *
          go_wp2
          exact bodyPost_ret (v := .tuple #[.agg #[.string ByteArray.empty, .slice none 0 0, .string ByteArray.empty], .bool false]) (by simp [results, Tryd.results10, go_sem, g0, g1, g2]; rfl) rfl N.out
      · clear hcut2 K2
        have X6 : Hid (((((w5).setCell ⟨w2.heap.size + 1, 0, none⟩ (Value.string t)).setCell ⟨w2.heap.size + 1, 1, none⟩ (Value.slice A5 l.length cap5)).setCell ⟨w2.heap.size + 1, 2, none⟩ (Value.string m)).heap[w2.heap.size + 1]? = some (C3 t A5 l.length cap5 m)) := hide (put3 X5.out)
        have O6 : Hid (ZOwn ((((w5).setCell ⟨w2.heap.size + 1, 0, none⟩ (Value.string t)).setCell ⟨w2.heap.size + 1, 1, none⟩ (Value.slice A5 l.length cap5)).setCell ⟨w2.heap.size + 1, 2, none⟩ (Value.string m)) w2.heap.size A5 cap5 l) := hide (own3 O5.out ROW.out)
        have B6 : Hid (Below w2.heap.size w2 ((((w5).setCell ⟨w2.heap.size + 1, 0, none⟩ (Value.string t)).setCell ⟨w2.heap.size + 1, 1, none⟩ (Value.slice A5 l.length cap5)).setCell ⟨w2.heap.size + 1, 2, none⟩ (Value.string m))) := hide (bel3 B5.out (Nat.le_succ _))
        have hcb : w2.heap.size ≤ w2.heap.size + 1 := (Nat.le_succ _)
        have S6 : w2.heap.size + 1 < ((((w5).setCell ⟨w2.heap.size + 1, 0, none⟩ (Value.string t)).setCell ⟨w2.heap.size + 1, 1, none⟩ (Value.slice A5 l.length cap5)).setCell ⟨w2.heap.size + 1, 2, none⟩ (Value.string m)).heap.size := (Array.getElem?_eq_some_iff.1 X6.out).1
        generalize ((((w5).setCell ⟨w2.heap.size + 1, 0, none⟩ (Value.string t)).setCell ⟨w2.heap.size + 1, 1, none⟩ (Value.slice A5 l.length cap5)).setCell ⟨w2.heap.size + 1, 2, none⟩ (Value.string m)) = w6 at *
        generalize hcbe : w2.heap.size + 1 = cb at *
        clear B5 O5 ROW z1 OC OB OA IC IB IA BC BB BA BA1 YA YB sA sB X5 c50 c51 c52 f50 f51 f52
        have c60 := cell_of_row _ _ 0 _ _ _ X6.out
        have c61 := cell_of_row _ _ 1 _ _ _ X6.out
        have c62 := cell_of_row _ _ 2 _ _ _ X6.out
        go_wp2_with fail
        refine (specCommitText_any t m A5 l cap5 w6 (hszp.out t (by simp)) (by unfold maxLen; omega) (by rw [HL0.out]; unfold maxLen; omega) ⟨fun i hi => hszp.out _ (List.mem_cons_of_mem _ (List.mem_cons_of_mem _ (List.getElem_mem hi))), O6.out.zin⟩).mono ?_
        rintro e w7 ⟨rfl, b7⟩
        have X7 := hide ((b7.block cb (by have := S6; omega)).trans X6.out)
        have G7 := hide ((b7.block w.heap.size (by have := S6; omega)).trans ((B6.out.block w.heap.size (by omega)).trans X2.out))
        have B7 := hide (B6.out.trans (b7.mono (by have := S6; have := B6.out.size; omega)))
        have O7 := hide (O6.out.below b7)
        clear b7 X6 B6 O6 c60 c61 c62 g0 g1 g2 k0 k1 k2 X2
        have c70 := cell_of_row _ _ 0 _ _ _ X7.out
        have c71 := cell_of_row _ _ 1 _ _ _ X7.out
        have c72 := cell_of_row _ _ 2 _ _ _ X7.out
        have g0 := cell_of_row _ _ 0 _ _ _ G7.out
        have g1 := cell_of_row _ _ 1 _ _ _ G7.out
        have g2 := cell_of_row _ _ 2 _ _ _ G7.out
        have k0 := frozen_of_row _ _ 0 _ _ G7.out
        have k1 := frozen_of_row _ _ 1 _ _ G7.out
        have k2 := frozen_of_row _ _ 2 _ _ G7.out
        by_cases hT : comTextS t l m = s
        · obtain ⟨e1, e2⟩ := rd_yes (com_text HC.out hT)
          have E := eqS_yes hT
          have RR := hide (show RetCom s w (.returned (.tuple #[.agg #[.string t, .slice A5 l.length cap5, .string m], .bool true])) (((w7.setCell ⟨w.heap.size, 0, none⟩ (.string t)).setCell ⟨w.heap.size, 1, none⟩ (.slice A5 l.length cap5)).setCell ⟨w.heap.size, 2, none⟩ (.string m)) from
            ⟨A5, cap5, by rw [e2, e1], by rw [e2]; exact (own3 O7.out (fun h => by have := (O7.out.row _ h).1; omega)).more (by omega), bel3 (B2.out.trans (B7.out.mono (by omega))) (Nat.le_refl _)⟩)
          clear hT e1 e2
          generalize comTextS t l m = cs at *
          generalize l.length = nl at *
          go_wp2
          exact bodyPost_ret (v := .tuple #[.agg #[.string t, .slice A5 nl cap5, .string m], .bool true]) (by simp [results, Tryd.results10, go_sem, g0, g1, g2]) rfl RR.out
        · have E := eqS_no hT
          have N := hide (NO.out (com_text_no HM.out (by rw [hx]; exact HP.out) hT) _ rfl w7 (B7.out.mono (by omega)))
          clear hT
          generalize comTextS t l m = cs at *
          generalize l.length = nl at *
          go_wp2
          exact bodyPost_ret (v := .tuple #[.agg #[.string ByteArray.empty, .slice none 0 0, .string ByteArray.empty], .bool false]) (by simp [results, Tryd.results10, go_sem, g0, g1, g2]; rfl) rfl N.out
      · clear hcut2 K2
        have X6 : Hid (((((w5).setCell ⟨w2.heap.size, 0, none⟩ (Value.string t)).setCell ⟨w2.heap.size, 1, none⟩ (Value.slice A5 l.length cap5)).setCell ⟨w2.heap.size, 2, none⟩ (Value.string m)).heap[w2.heap.size]? = some (C3 t A5 l.length cap5 m)) := hide (put3 X5.out)
        have O6 : Hid (ZOwn ((((w5).setCell ⟨w2.heap.size, 0, none⟩ (Value.string t)).setCell ⟨w2.heap.size, 1, none⟩ (Value.slice A5 l.length cap5)).setCell ⟨w2.heap.size, 2, none⟩ (Value.string m)) (w2.heap.size + 1) A5 cap5 l) := hide (own3 O5.out ROW.out)
        have B6 : Hid (Below w2.heap.size w2 ((((w5).setCell ⟨w2.heap.size, 0, none⟩ (Value.string t)).setCell ⟨w2.heap.size, 1, none⟩ (Value.slice A5 l.length cap5)).setCell ⟨w2.heap.size, 2, none⟩ (Value.string m))) := hide (bel3 B5.out (Nat.le_refl _))
        have hcb : w2.heap.size ≤ w2.heap.size := (Nat.le_refl _)
        have S6 : w2.heap.size < ((((w5).setCell ⟨w2.heap.size, 0, none⟩ (Value.string t)).setCell ⟨w2.heap.size, 1, none⟩ (Value.slice A5 l.length cap5)).setCell ⟨w2.heap.size, 2, none⟩ (Value.string m)).heap.size := (Array.getElem?_eq_some_iff.1 X6.out).1
        generalize ((((w5).setCell ⟨w2.heap.size, 0, none⟩ (Value.string t)).setCell ⟨w2.heap.size, 1, none⟩ (Value.slice A5 l.length cap5)).setCell ⟨w2.heap.size, 2, none⟩ (Value.string m)) = w6 at *
        generalize hcbe : w2.heap.size = cb at *
        clear B5 O5 ROW z1 OC OB OA IC IB IA BC BB BA BA1 YA YB sA sB X5 c50 c51 c52 f50 f51 f52
        have c60 := cell_of_row _ _ 0 _ _ _ X6.out
        have c61 := cell_of_row _ _ 1 _ _ _ X6.out
        have c62 := cell_of_row _ _ 2 _ _ _ X6.out
        go_wp2_with fail
        refine (specCommitText_any t m A5 l cap5 w6 (hszp.out t (by simp)) (by unfold maxLen; omega) (by rw [HL0.out]; unfold maxLen; omega) ⟨fun i hi => hszp.out _ (List.mem_cons_of_mem _ (List.mem_cons_of_mem _ (List.getElem_mem hi))), O6.out.zin⟩).mono ?_
        rintro e w7 ⟨rfl, b7⟩
        have X7 := hide ((b7.block cb (by have := S6; omega)).trans X6.out)
        have G7 := hide ((b7.block w.heap.size (by have := S6; omega)).trans ((B6.out.block w.heap.size (by omega)).trans X2.out))
        have B7 := hide (B6.out.trans (b7.mono (by have := S6; have := B6.out.size; omega)))
        have O7 := hide (O6.out.below b7)
        clear b7 X6 B6 O6 c60 c61 c62 g0 g1 g2 k0 k1 k2 X2
        have c70 := cell_of_row _ _ 0 _ _ _ X7.out
        have c71 := cell_of_row _ _ 1 _ _ _ X7.out
        have c72 := cell_of_row _ _ 2 _ _ _ X7.out
        have g0 := cell_of_row _ _ 0 _ _ _ G7.out
        have g1 := cell_of_row _ _ 1 _ _ _ G7.out
        have g2 := cell_of_row _ _ 2 _ _ _ G7.out
        have k0 := frozen_of_row _ _ 0 _ _ G7.out
        have k1 := frozen_of_row _ _ 1 _ _ G7.out
        have k2 := frozen_of_row _ _ 2 _ _ G7.out
        by_cases hT : comTextS t l m = s
        · obtain ⟨e1, e2⟩ := rd_yes (com_text HC.out hT)
          have E := eqS_yes hT
          have RR := hide (show RetCom s w (.returned (.tuple #[.agg #[.string t, .slice A5 l.length cap5, .string m], .bool true])) (((w7.setCell ⟨w.heap.size, 0, none⟩ (.string t)).setCell ⟨w.heap.size, 1, none⟩ (.slice A5 l.length cap5)).setCell ⟨w.heap.size, 2, none⟩ (.string m)) from
            ⟨A5, cap5, by rw [e2, e1], by rw [e2]; exact (own3 O7.out (fun h => by have := (O7.out.row _ h).1; omega)).more (by omega), bel3 (B2.out.trans (B7.out.mono (by omega))) (Nat.le_refl _)⟩)
          clear hT e1 e2
          generalize comTextS t l m = cs at *
          generalize l.length = nl at *
          go_wp2
          exact bodyPost_ret (v := .tuple #[.agg #[.string t, .slice A5 nl cap5, .string m], .bool true]) (by simp [results, Tryd.results10, go_sem, g0, g1, g2]) rfl RR.out
        · have E := eqS_no hT
          have N := hide (NO.out (com_text_no HM.out (by rw [hx]; exact HP.out) hT) _ rfl w7 (B7.out.mono (by omega)))
          clear hT
          generalize comTextS t l m = cs at *
          generalize l.length = nl at *
          go_wp2
          exact bodyPost_ret (v := .tuple #[.agg #[.string ByteArray.empty, .slice none 0 0, .string ByteArray.empty], .bool false]) (by simp [results, Tryd.results10, go_sem, g0, g1, g2]; rfl) rfl N.out
end Go.Proofs.YtjbbdggckagphaaDoor
/-
  What the rows' lists of package-level variables give: the reader's sentinel.
-/
namespace Go.Proofs.YtjbbdggckagphaaDoor
open Go.ChangeShapes Go.WideShapes Go.ChangeAt Go.RowKit

theorem own : ownKnob Tryd.prog.godebug = none := by kernel_rfl
theorem laidOut : laidOutB Tryd.prog = true := by kernel_rfl
theorem gErr : Tryd.prog.globalNamed "loop.example/g00652/impl.errNoCommit" = some 0 := by kernel_rfl
theorem tErr : (Tryd.prog.globals[0]?).map (·.type) = some 38 := by kernel_rfl
theorem star : ("*" ++ "errors.errorString" : String) = "*errors.errorString" := by decide
theorem strRow (u : TypeId) (h : Tryd.prog.typeName? 3 u = some "*errors.errorString") : u = 80 :=
  typeName_ptr_named (nm := "errors.errorString") (by rw [star]; kernel_rfl) (by kernel_rfl) (by decide) u (by rw [star]; exact h)
theorem cellsE : Tryd.prog.cellsOf 94 = 1 := by kernel_rfl
theorem cellsS : Tryd.prog.cellsOf 9 = 1 := by kernel_rfl
theorem var_lt {P : Program} {W : World} {n : String} {g : Nat} {cs : Array Value} (hg : P.globalNamed n = some g) (hv : W.var? P n = some cs) : g < W.heap.size := by
  unfold World.var? at hv
  simp only [hg, Option.bind_some] at hv
  by_cases h : g < W.heap.size
  · exact h
  · rw [Array.getElem?_eq_none (by omega)] at hv
    simp at hv

theorem errs_of {W : World} {t : List UInt8} (h : laidMet Tryd.prog [("loop.example/g00652/impl.errNoCommit", .iface "*errors.errorString" (.ptr (.agg [.lit (.string t)])))] W) :
    ∃ a, ErrC W a ∧ W.var? Tryd.prog "loop.example/g00652/impl.errNoCommit" = some #[.iface 80 (.pointer (some a))] := by
  obtain ⟨a, s, hv, _, _, _⟩ := laid_sentinel h gErr tErr Tryd.underlying38 strRow Tryd.underlying80 Tryd.underlying94 rfl rfl Tryd.underlying9 cellsE cellsS
  exact ⟨a, ⟨by simpa using World.var?_cell gErr hv 0, var_lt gErr hv⟩, hv⟩
/-- a block whose cells are others -/
def relay (cs : Array Value) : Obj → Obj
  | .cells _ t fr => .cells cs t fr
  | o => o
/-- the variables' blocks with what their initialisers lay -/
def layAll (w : World) : World := { w with heap := (w.heap.modify 0 (relay #[.iface 80 (.pointer (some ⟨w.heap.size, 0, none⟩))])).push (.cells #[.string ⟨#[116, 104, 101, 32, 116, 101, 120, 116, 32, 105, 115, 32, 110, 111, 32, 99, 111, 109, 109, 105, 116, 39, 115]⟩] 94) }
theorem list1 {α : Type} : ∀ {l : List α}, l.length = 1 → ∃ a, l = [a]
  | [a], _ => ⟨a, rfl⟩
end Go.Proofs.YtjbbdggckagphaaDoor
/-
  What strings.Builder does, at this program: copyCheck, WriteByte, WriteString, String.
-/
namespace Go.Proofs.YtjbbdggckagphaaDoor
open Go.RowKit

abbrev IsBld (B b : Nat) (bs : List Value) (w : World) : Prop := Lib.IsBuilder 36 5 B b bs w
theorem infoBld : (Tryd.prog.info? 36).map (fun i => i.size) = some 2 := by kernel_rfl
theorem infoU8 : (Tryd.prog.info? 5).map (fun i => (i.zero, i.size, i.bytes)) = some (some (.int .u8 0), 1, 1) := by kernel_rfl

/-- every block but b, and but rows of bytes, is as it was -/
def KeptB (b : Nat) (w w' : World) : Prop := ∀ k cs T fr, k ≠ b → w.heap[k]? = some (.cells cs T fr) → T ≠ 5 → w'.heap[k]? = some (.cells cs T fr)
theorem KeptB.refl (b : Nat) (w : World) : KeptB b w w := fun _ _ _ _ _ h _ => h
theorem KeptB.trans {b : Nat} {w w' w'' : World} (h : KeptB b w w') (h' : KeptB b w' w'') : KeptB b w w'' := fun k cs T fr hk hh hT => h' k cs T fr hk (h k cs T fr hk hh hT) hT
theorem KeptB.below {b : Nat} {w w' : World} (h : Below w.heap.size w w') : KeptB b w w' := fun k cs T fr _ hh _ => by rw [h.block k (Array.getElem?_eq_some_iff.1 hh).1]; exact hh
theorem KeptB.setCell (b o : Nat) (u : Value) (w : World) : KeptB b w (w.setCell ⟨b, o, none⟩ u) := fun k cs T fr hk hh _ => by rw [Below.heap_setCell w ⟨b, o, none⟩ u k hk]; exact hh
theorem KeptB.grown {b : Nat} {w w' : World} {v : Value} {B n : Nat} {xs : List Value} (hown : w.ownsRow B 5 1 v n xs) (hg : w.grownBy w' v.ownBlock) : KeptB b w w' := fun k cs T fr _ hh hT => by
  rw [hg.block k (Array.getElem?_eq_some_iff.1 hh).1 (fun e => Lib.ownBlock_ne hown hh hT e.symm)]; exact hh
theorem IsBld.below {B b : Nat} {bs : List Value} {w w' : World} (h : IsBld B b bs w) (hb : Below w.heap.size w w') : IsBld B b bs w' := by
  have one : ∀ p, Lib.BuilderAt 36 5 B b p bs w → Lib.BuilderAt 36 5 B b p bs w' := by
    rintro p ⟨hB, v, hbk, hown, hne⟩
    refine ⟨hB, v, ?_, hown.kept (Below.toGrown hb none) ?_, hne⟩
    · rw [hb.block b (Array.getElem?_eq_some_iff.1 hbk).1]; exact hbk
    · cases hv : v.ownBlock <;> simp
  rcases h with h | h
  · exact .inl (one _ h)
  · exact .inr (one _ h)

set_option maxHeartbeats 1000000 in
set_option maxRecDepth 100000 in
theorem copyCheck_any (B b : Nat) (bs : List Value) (w : World) (h : IsBld B b bs w) :
    Calls Tryd.prog 36 #[.pointer (some ⟨b, 0, none⟩)] w fun e w' => e = .returned (.tuple #[]) ∧ Lib.BuilderAt 36 5 B b (.pointer (some ⟨b, 0, none⟩)) bs w' ∧ Below B w w' ∧ KeptB b w w' := by
  obtain ⟨j, hj, hjs⟩ := Option.map_eq_some_iff.1 infoBld
  rcases h with h | h
  · have h0 := h.cell0
    have hsh := h.shape
    have hfz := h.frozen0
    have HH := hide h
    clear h
    go_enter Tryd.func36, Tryd.ntmps36
    go_wp2
    rw [Lib.run_to_unsafe w ⟨b, 0, none⟩ Tryd.underlying34 Tryd.underlying67 hj (by rw [hjs]; decide) hsh (Nat.zero_lt_succ 1)]
    simp only [Result.andThen]
    rw [Oper.upon_value]
    go_wp2
    rw [run_callFunc_extern Tryd.func44 (by kernel_rfl) (by kernel_rfl) (by kernel_rfl) (e := Extern.AbiNoEscape.same) (by kernel_rfl), Lib.run_noEscape]
    simp only [Result.andThen]
    rw [Oper.upon_value]
    go_wp2
    rw [Lib.run_from_unsafe w ⟨b, 0, none⟩ Tryd.underlying67 Tryd.underlying34 hj hsh (by kernel_rfl)]
    simp only [Result.andThen]
    rw [Oper.upon_value]
    go_wp2
    go_end0
    exact ⟨rfl, HH.out.used _, (Below.refl B w).setCell (p := ⟨b, 0, none⟩) HH.out.1 _, KeptB.setCell b 0 _ w⟩
  · have h0 := h.cell0
    have HH := hide h
    clear h
    go_enter Tryd.func36, Tryd.ntmps36
    go_wp2
    rw [Lib.run_neq_ptr_same w _ Tryd.underlying34 hj]
    go_wp2
    go_end0
    exact ⟨rfl, HH.out, Below.refl B _, KeptB.refl _ _⟩

set_option maxHeartbeats 2000000 in
set_option maxRecDepth 100000 in
theorem writeByte_any (B b : Nat) (bs : List Value) (c : Int) (w : World) (h : IsBld B b bs w) (hlen : bs.length + 1 ≤ 140737488355328) (hBw : B ≤ w.heap.size) :
    Calls Tryd.prog 16 #[.pointer (some ⟨b, 0, none⟩), .int .u8 c] w fun e w' => e = .returned .nilIface ∧ IsBld B b (bs ++ [.int .u8 c]) w' ∧ Below B w w' ∧ KeptB b w w' := by
  obtain ⟨i0, hi, hz0, hz1, hz2⟩ := info_parts infoU8
  go_enter Tryd.func16, Tryd.ntmps16
  go_wp2_with fail
  refine (copyCheck_any B b bs _ h).mono ?_
  rintro e w1 ⟨rfl, h1, hb1, k1⟩
  obtain ⟨hB, v, hbk, hown, hne⟩ := h1
  have c0 : w1.cell? ⟨b, 0, none⟩ = some (.pointer (some ⟨b, 0, none⟩)) := by rw [Lib.cell_of_heap hbk]; rfl
  have c1 : w1.cell? ⟨b, 1, none⟩ = some v := by rw [Lib.cell_of_heap hbk]; rfl
  have hlt : b < w1.heap.size := Array.getElem?_eq_some_iff.1 hbk |>.1
  have hs1 := hb1.size
  go_wp2_with (at_builtin; refine wpList_append_own _ rfl _ _ 22 rfl B 5 i0 (.int .u8 0) 1 1 Tryd.underlying22 hi hz0 hz1 hz2 rfl (by decide) _ _ _ rfl (hown.alloc _) ⟨w1.heap.size, 0, none⟩ 1 1 [.int .u8 c] rfl rfl ?c1 ?c2 ?c3 ?c4 ?c5 ?_)
  case c1 =>
    intro j u hj
    match j, hj with
    | 0, hj => simp at hj; subst hj; simp [Addr.add]
  case c2 => intro u hu; simp at hu; subst hu; rfl
  case c3 => unfold maxLen; omega
  case c4 => omega
  case c5 => simp; omega
  intro v' w2 hown' hgrow _
  have hb2 : w2.heap[b]? = some (.cells #[.pointer (some ⟨b, 0, none⟩), v] 36 (0, 0)) := by
    rw [hgrow.block b (by simp; omega) (fun e => hne e.symm), Lib.alloc_old w1 _ b hlt]
    exact hbk
  have d0 : w2.cell? ⟨b, 0, none⟩ = some (.pointer (some ⟨b, 0, none⟩)) := by rw [Lib.cell_of_heap hb2]; rfl
  have d1 : w2.cell? ⟨b, 1, none⟩ = some v := by rw [Lib.cell_of_heap hb2]; rfl
  have f1 : w2.frozen? ⟨b, 1, none⟩ = false := Lib.frozen_of_heap hb2 1
  obtain ⟨g, cap, rfl⟩ : ∃ g cap, v' = .slice (some ⟨g, 0, none⟩) (bs.length + 1) cap := by
    rcases hown'.2 with ⟨_, h0⟩ | ⟨g, cap, cur, hv, _⟩
    · omega
    · exact ⟨g, cap, hv⟩
  go_wp2
  go_ret
  refine ⟨rfl, .inr (Lib.BuilderAt.put (T := 36) (e := 5) hB hb2 (bs' := bs ++ [.int .u8 c]) (by simpa using hown') (by decide)), ?_, ?_⟩
  · exact ((hb1.alloc (by omega) _).grown hgrow (by simp; omega) (fun k hk => (hown.lt k hk).1)).setCell (p := ⟨b, 1, none⟩) hB _
  · exact ((k1.trans (KeptB.below ((Below.refl _ w1).alloc (Nat.le_refl _) _))).trans (KeptB.grown (hown.alloc _) hgrow)).trans (KeptB.setCell b 1 _ w2)

set_option maxHeartbeats 2000000 in
set_option maxRecDepth 100000 in
theorem writeString_any (B b : Nat) (bs : List Value) (s : ByteArray) (w : World) (h : IsBld B b bs w) (hlen : bs.length + s.size ≤ 140737488355328) (hBw : B ≤ w.heap.size) :
    Calls Tryd.prog 15 #[.pointer (some ⟨b, 0, none⟩), .string s] w fun e w' => e = .returned (.tuple #[.int .i64 s.size, .nilIface]) ∧ IsBld B b (bs ++ Lib.strCells s) w' ∧ Below B w w' ∧ KeptB b w w' := by
  obtain ⟨i0, hi, hz0, hz1, hz2⟩ := info_parts infoU8
  go_enter Tryd.func15, Tryd.ntmps15
  go_wp2_with fail
  refine (copyCheck_any B b bs _ h).mono ?_
  rintro e w1 ⟨rfl, h1, hb1, k1⟩
  obtain ⟨hB, v, hbk, hown, hne⟩ := h1
  have c0 : w1.cell? ⟨b, 0, none⟩ = some (.pointer (some ⟨b, 0, none⟩)) := by rw [Lib.cell_of_heap hbk]; rfl
  have c1 : w1.cell? ⟨b, 1, none⟩ = some v := by rw [Lib.cell_of_heap hbk]; rfl
  have hlt : b < w1.heap.size := Array.getElem?_eq_some_iff.1 hbk |>.1
  have hs1 := hb1.size
  go_wp2_with (at_builtin; refine Lib.wpList_append_own_string _ rfl _ _ 22 9 rfl B 5 i0 Tryd.underlying22 Tryd.underlying9 hi hz0 hz1 hz2 _ _ _ rfl hown s rfl ?c3 ?c4 ?c5 ?_)
  case c3 => unfold maxLen; omega
  case c4 => omega
  case c5 => omega
  intro v' w2 hown' hgrow _
  have hb2 : w2.heap[b]? = some (.cells #[.pointer (some ⟨b, 0, none⟩), v] 36 (0, 0)) := by
    rw [hgrow.block b hlt (fun e => hne e.symm)]
    exact hbk
  have d0 : w2.cell? ⟨b, 0, none⟩ = some (.pointer (some ⟨b, 0, none⟩)) := by rw [Lib.cell_of_heap hb2]; rfl
  have d1 : w2.cell? ⟨b, 1, none⟩ = some v := by rw [Lib.cell_of_heap hb2]; rfl
  have f1 : w2.frozen? ⟨b, 1, none⟩ = false := Lib.frozen_of_heap hb2 1
  obtain ⟨ao, n', cap, rfl⟩ : ∃ ao n' cap, v' = .slice ao n' cap := by
    rcases hown'.2 with ⟨hv, _⟩ | ⟨g, cap, cur, hv, _⟩
    · exact ⟨_, _, _, hv⟩
    · exact ⟨_, _, _, hv⟩
  go_wp2
  go_ret2
  refine ⟨rfl, .inr (Lib.BuilderAt.put (T := 36) (e := 5) hB hb2 (bs' := bs ++ Lib.strCells s) (by simpa [Lib.strCells_length] using hown') (by decide)), ?_, ?_⟩
  · exact (hb1.grown hgrow (by omega) (fun k hk => (hown.lt k hk).1)).setCell (p := ⟨b, 1, none⟩) hB _
  · exact (k1.trans (KeptB.grown hown hgrow)).trans (KeptB.setCell b 1 _ w2)

set_option maxHeartbeats 2000000 in
set_option maxRecDepth 100000 in
/-- the text of a builder that holds a byte or more -/
theorem string_some (B b : Nat) (l : List UInt8) (w : World) (h : IsBld B b (Lib.byteCells l) w) (h0 : l ≠ []) :
    Calls Tryd.prog 17 #[.pointer (some ⟨b, 0, none⟩)] w fun e w' => e = .returned (.string ⟨l.toArray⟩) ∧ Below B w w' := by
  obtain ⟨p, hB, v, hbk, hown, hne⟩ : ∃ p, Lib.BuilderAt 36 5 B b p (Lib.byteCells l) w := by
    rcases h with h | h <;> exact ⟨_, h⟩
  have hl0 : l.length ≠ 0 := by simpa using h0
  rw [Lib.byteCells_length] at hown
  obtain ⟨g, cap, cur, rfl, hbg, hg, hnc, hcm, hcs, htake⟩ : ∃ g cap cur, v = .slice (some ⟨g, 0, none⟩) l.length cap ∧ B ≤ g ∧ w.heap[g]? = some (.cells cur 5 (0, 0)) ∧ l.length ≤ cap ∧ cap ≤ maxLen ∧ cur.size = cap * 1 ∧ cur.toList.take (l.length * 1) = Lib.byteCells l := by
    rcases hown.2 with ⟨_, hz⟩ | ⟨g, cap, cur, hv, r⟩
    · exact absurd hz hl0
    · exact ⟨g, cap, cur, hv, r⟩
  have c1 : w.drew.cell? ⟨b, 1, none⟩ = some (.slice (some ⟨g, 0, none⟩) l.length cap) := by
    have : w.drew.heap[b]? = some (.cells #[p, .slice (some ⟨g, 0, none⟩) l.length cap] 36 (0, 0)) := hbk
    rw [Lib.cell_of_heap this]; rfl
  have hSD : (Builtin.unsafeSliceData_ #[22] 59 #[.slice (some ⟨g, 0, none⟩) l.length cap]).run Tryd.prog w.drew = .ok (.pointer (some ⟨g, 0, none⟩)) w.drew :=
    Lib.run_unsafeSliceData_row _ _ _ _ _ _ (by omega)
  have hUS : (Builtin.unsafeString_ #[59, 3] 9 #[.pointer (some ⟨g, 0, none⟩), .int .i64 l.length]).run Tryd.prog w.drew = .ok (.string ⟨l.toArray⟩) (w.drew.freeze ⟨g, 0, none⟩ l.length) := by
    refine Lib.run_unsafeString_row w.drew 59 3 9 5 Tryd.underlying59 (by kernel_rfl) g cur.size (by have hg' : w.drew.heap[g]? = some (.cells cur 5 (0, 0)) := hg; simp [World.shape?, hg']) l h0 (by omega) (by unfold maxLen at hcm; omega) ?_
    intro j x hx
    exact hown.cells (g := g) rfl j (.int .u8 x.toNat) (by simp [Lib.byteCells, hx])
  have HBG := hide hbg
  clear hown htake hcs hg hbk hne
  go_enter Tryd.func17, Tryd.ntmps17
  go_wp2
  go_region
  all_goals (go_wp2; go_ret; exact ⟨rfl, Lib.below_freeze (Below.drew (Below.refl B w)) (p := ⟨g, 0, none⟩) HBG.out _⟩)

set_option maxHeartbeats 2000000 in
set_option maxRecDepth 100000 in
/-- the text of a builder that nobody has written to -/
theorem string_none (B b : Nat) (p : Value) (w : World) (hbk : w.heap[b]? = some (.cells #[p, .slice none 0 0] 36 (0, 0))) :
    Calls Tryd.prog 17 #[.pointer (some ⟨b, 0, none⟩)] w fun e w' => e = .returned (.string ⟨#[]⟩) ∧ Below B w w' := by
  have hUS : ∀ (W : World) (q : Option Addr), (Builtin.unsafeString_ #[59, 3] 9 #[.pointer q, .int .i64 0]).run Tryd.prog W = .ok (.string .empty) W := fun W q => Lib.run_unsafeString_none W _ _ _ q
  have hSD : (Builtin.unsafeSliceData_ #[22] 59 #[.slice none 0 0]).run Tryd.prog w.drew = .ok (.pointer none) w.drew := Lib.run_unsafeSliceData_nil _ _ _ _ _
  have c1 : w.drew.cell? ⟨b, 1, none⟩ = some (.slice none 0 0) := by
    have : w.drew.heap[b]? = some (.cells #[p, .slice none 0 0] 36 (0, 0)) := hbk
    rw [Lib.cell_of_heap this]; rfl
  clear hbk
  go_enter Tryd.func17, Tryd.ntmps17
  go_wp2
  go_region
  all_goals (go_wp2; go_ret; exact ⟨rfl, Below.drew (Below.refl B w)⟩)
end Go.Proofs.YtjbbdggckagphaaDoor
/-
  What impl.CommitText answers.
-/
namespace Go.Proofs.YtjbbdggckagphaaDoor
open Go.RowKit

theorem head_bytes0 (t : ByteArray) (l : List ByteArray) : (([] : List Value) ++ Lib.strCells ⟨#[99, 111, 109, 109, 105, 116, 32]⟩) ++ Lib.strCells t = Lib.byteCells (headTo t l 0).data.toList := by
  rw [headTo]
  simp [Lib.byteCells, Lib.strCells, ByteArray.data_append]
theorem head_bytes1 {t : ByteArray} {l : List ByteArray} {k : Nat} (h : k < l.length) : (Lib.byteCells (headTo t l k).data.toList ++ [Value.int .u8 32]) ++ Lib.strCells l[k] = Lib.byteCells (headTo t l (k + 1)).data.toList := by
  rw [headTo_next h]
  simp [Lib.byteCells, Lib.strCells, ByteArray.data_append]
theorem head_bytes2 (t : ByteArray) (l : List ByteArray) (m : ByteArray) : (Lib.byteCells (headTo t l l.length).data.toList ++ [Value.int .u8 10]) ++ Lib.strCells m = Lib.byteCells (textC t l m).data.toList := by
  unfold textC
  simp [Lib.byteCells, Lib.strCells, ByteArray.data_append]
theorem textC_ne (t : ByteArray) (l : List ByteArray) (m : ByteArray) : (textC t l m).data.toList ≠ [] := by
  intro e
  have h2 : (textC t l m).size = 0 := by
    show (textC t l m).data.size = 0
    rw [← Array.length_toList, e]
    rfl
  unfold textC at h2
  rw [ByteArray.size_append, ByteArray.size_append] at h2
  have e2 : (ByteArray.mk #[10]).size = 1 := rfl
  omega

set_option maxRecDepth 100000 in
set_option maxHeartbeats 2000000 in
theorem implCommitText_any (t m : ByteArray) (A : Option Addr) (l : List ByteArray) (cap : Nat) (w : World) (ht : t.size ≤ maxLen) (hm : m.size ≤ maxLen) (hl : l.length ≤ maxLen) (hin : SIn w w.heap.size A l) :
    Calls Tryd.prog 6 #[.agg #[.string t, .slice A l.length cap, .string m]] w fun e w' => e = .returned (.string (comTextS t l m)) ∧ Below w.heap.size w w' := by
  have B1 : Hid (Below w.heap.size w (w.alloc (.cells #[.string t, .slice A l.length cap, .string m] 26))) := hide ((Below.refl _ w).alloc (Nat.le_refl _) _)
  have X := hide (box3 w (.string t) (.slice A l.length cap) (.string m) 26)
  have R := hide (implCommitOk_any t m A l cap _ ht hm hl ((hin.below B1.out).more B1.out.size))
  have IN := hide hin
  clear hin
  cases hc : comB t l m
  · rw [hc] at R
    have Z := hide (comText_no hc)
    go_enter Tryd.func6, Tryd.ntmps6
    go_wp2_with fail
    refine R.out.mono ?_
    rintro e w1 ⟨rfl, b1⟩
    have BB := hide (B1.out.trans (b1.mono B1.out.size))
    clear b1
    go_wp2
    go_ret
    exact ⟨ret_str Z.out.symm, BB.out⟩
  · rw [hc] at R
    have Z := hide (comText_yes hc)
    obtain ⟨g1, g2, g3, g4⟩ := comSz_of hc
    have SZ := hide (headTo_size g1 g3)
    have G3 := hide g3
    have E0 := hide (head_bytes0 t l)
    have E2 := hide (head_bytes2 t l m)
    have e7 : (ByteArray.mk #[99, 111, 109, 109, 105, 116, 32]).size = 7 := rfl
    clear g3 hc
    go_enter Tryd.func6, Tryd.ntmps6
    go_wp2_with fail
    refine R.out.mono ?_
    rintro e w1 ⟨rfl, b1⟩
    have lt : w.heap.size < (w.alloc (.cells #[.string t, .slice A l.length cap, .string m] 26)).heap.size := by simp
    have Y0 := hide (cellB b1 lt X.out.1)
    have Y1 := hide (cellB b1 lt X.out.2.1)
    have Y2 := hide (cellB b1 lt X.out.2.2)
    have lt1 : w.heap.size < w1.heap.size := Nat.lt_of_lt_of_le lt b1.size
    have BB := hide (B1.out.trans (b1.mono B1.out.size))
    have IN1 := hide ((IN.out.below BB.out).more BB.out.size)
    have I0 := hide (Lib.fresh_isBuilder 36 5 w1)
    have Q0 := hide ((Below.refl w1.heap.size w1).alloc (Nat.le_refl _) (.cells #[.pointer none, .slice none 0 0] 36))
    clear b1 R X B1 lt IN
    go_wp2_with fail
    refine (writeString_any w1.heap.size w1.heap.size [] ⟨#[99, 111, 109, 109, 105, 116, 32]⟩ _ I0.out (by rw [e7]; simp) Q0.out.size).mono ?_
    rintro e w2 ⟨rfl, i2, b2, _⟩
    have I2 := hide i2
    have Q2 := hide (Q0.out.trans b2)
    have x0 := cellB Q2.out lt1 Y0.out
    clear i2 b2 I0 Q0
    go_wp2_with fail
    refine (writeString_any w1.heap.size w1.heap.size _ t _ I2.out (by rw [List.length_append, Lib.strCells_length, e7]; simp; omega) Q2.out.size).mono ?_
    rintro e w3 ⟨rfl, i3, b3, _⟩
    rw [E0.out] at i3
    have I3 := hide i3
    have Q3 := hide (Q2.out.trans b3)
    have x1 := cellB Q3.out lt1 Y1.out
    clear i3 b3 I2 Q2 x0
    generalize hn : l.length = n at *
    have HN := hide hn
    clear hn
    clear E0 Y0 Y1 ht hm hl e7
    go_wp2_with fail
    go_loopw [16] (fun i wr => ∃ k : Nat, k ≤ n ∧ i = .int .i64 k ∧ Hid (IsBld w1.heap.size w1.heap.size (Lib.byteCells (headTo t l k).data.toList) wr) ∧ Hid (Below w1.heap.size w1 wr)) (fun i _ => n - (intOf i).toNat)
    case atStart => exact ⟨0, Nat.zero_le _, rfl, I3, Q3⟩
    case round =>
      clear I3 Q3 x1
      obtain ⟨k, hk, rfl, I, Q⟩ := hrel
      have s0 := SZ.out k
      have s0' : (Lib.byteCells (headTo t l k).data.toList).length ≤ 23 + 17 * k := by rw [Lib.byteCells_length]; exact s0
      by_cases hlt : k < n
      · have hkl : k < l.length := by rw [HN.out]; omega
        have in1 := IN1.out.below Q.out
        obtain ⟨b, off, rfl, hbB, hc⟩ := in1.2 (by omega)
        have c1 := hc k hkl
        have s1 := G3.out k hkl
        have E := hide (head_bytes1 (t := t) hkl)
        generalize l[k] = x at *
        generalize Lib.byteCells (headTo t l k).data.toList = bs at *
        clear in1 hc s0
        go_wp2_with fail
        refine (writeByte_any w1.heap.size w1.heap.size bs 32 _ I.out (by omega) Q.out.size).mono ?_
        rintro e w4 ⟨rfl, i4, b4, _⟩
        have I4 := hide i4
        have Q4 := hide (Q.out.trans b4)
        clear i4 b4 I Q c1
        go_wp2_with fail
        refine (writeString_any w1.heap.size w1.heap.size _ x _ I4.out (by rw [List.length_append]; simp; omega) Q4.out.size).mono ?_
        rintro e w5 ⟨rfl, i5, b5, _⟩
        rw [E.out] at i5
        have I5 := hide i5
        have Q5 := hide (Q4.out.trans b5)
        clear i5 b5 I4 Q4
        go_wp2
        go_roundw
        case rel => exact ⟨k + 1, by omega, by go_num, I5, Q5⟩
        case measure => simp [intOf]; omega
      · obtain rfl : k = n := by omega
        generalize Lib.byteCells (headTo t l k).data.toList = bs at *
        go_wp2_with fail
        refine (writeByte_any w1.heap.size w1.heap.size bs 10 _ I.out (by omega) Q.out.size).mono ?_
        rintro e w4 ⟨rfl, i4, b4, _⟩
        have I4 := hide i4
        have Q4 := hide (Q.out.trans b4)
        have x2 := cellB Q4.out lt1 Y2.out
        clear i4 b4 I Q
        go_wp2_with fail
        refine (writeString_any w1.heap.size w1.heap.size _ m _ I4.out (by rw [List.length_append]; simp; omega) Q4.out.size).mono ?_
        rintro e w5 ⟨rfl, i5, b5, _⟩
        rw [E2.out] at i5
        have I5 := hide i5
        have Q5 := hide (Q4.out.trans b5)
        clear i5 b5 I4 Q4 x2
        go_wp2_with fail
        refine (string_some w1.heap.size w1.heap.size (textC t l m).data.toList w5 I5.out (textC_ne t l m)).mono ?_
        rintro e w6 ⟨rfl, b6⟩
        have B6 := hide (BB.out.trans ((Q5.out.trans b6).mono BB.out.size))
        clear b6 I5 Q5
        go_wp2
        go_ret
        exact ⟨ret_str Z.out.symm, B6.out⟩
end Go.Proofs.YtjbbdggckagphaaDoor
