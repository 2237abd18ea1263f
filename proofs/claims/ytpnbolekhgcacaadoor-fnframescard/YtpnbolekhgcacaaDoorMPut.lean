/-
  Rising texts: two of the same members are one; one more. Plain mathematics.
-/
import Derived.Test.YtpnbolekhgcacaaDoorPOrd
namespace Go.Proofs.YtpnbolekhgcacaaDoor
open Go.RowKit

/-- rising texts -/
def RisK (l : List ByteArray) : Prop := l.Pairwise fun a b => ltB a b = true
theorem RisK.ext : ∀ {l l' : List ByteArray}, RisK l → RisK l' → (∀ p, p ∈ l ↔ p ∈ l') → l = l'
  | [], [], _, _, _ => rfl
  | [], b :: t, _, _, h => absurd ((h b).2 (List.mem_cons_self ..)) (by simp)
  | a :: s, [], _, _, h => absurd ((h a).1 (List.mem_cons_self ..)) (by simp)
  | a :: s, b :: t, ha, hb, h => by
    have ha' := List.pairwise_cons.1 ha
    have hb' := List.pairwise_cons.1 hb
    have e : a = b := by
      rcases List.mem_cons.1 ((h a).1 (List.mem_cons_self ..)) with e | m
      · exact e
      · rcases List.mem_cons.1 ((h b).2 (List.mem_cons_self ..)) with e | m'
        · exact e.symm
        · have h1 := hb'.1 a m
          have h2 := ha'.1 b m'
          rw [ltB_asymm h1] at h2
          cases h2
    subst e
    congr 1
    refine RisK.ext ha'.2 hb'.2 fun p => ?_
    constructor
    · intro hp
      rcases List.mem_cons.1 ((h p).1 (List.mem_cons_of_mem _ hp)) with e | m
      · have := ha'.1 p hp
        rw [e, ltB_irrefl] at this
        cases this
      · exact m
    · intro hp
      rcases List.mem_cons.1 ((h p).2 (List.mem_cons_of_mem _ hp)) with e | m
      · have := hb'.1 p hp
        rw [e, ltB_irrefl] at this
        cases this
      · exact m
/-- a rising list with one more -/
def putK : List ByteArray → ByteArray → List ByteArray
  | [], s => [s]
  | x :: r, s => if ltB x s = true then x :: putK r s else if x = s then x :: r else s :: x :: r
theorem mem_putK : ∀ (l : List ByteArray) (s t : ByteArray), t ∈ putK l s ↔ t ∈ l ∨ t = s
  | [], s, t => by simp [putK]
  | x :: r, s, t => by
    unfold putK
    split
    · rw [List.mem_cons, List.mem_cons, mem_putK r s t]
      constructor
      · rintro (h | h | h)
        · exact .inl (.inl h)
        · exact .inl (.inr h)
        · exact .inr h
      · rintro ((h | h) | h)
        · exact .inl h
        · exact .inr (.inl h)
        · exact .inr (.inr h)
    · split
      next e => subst e; simp; intro h; exact .inl h
      next => simp [or_comm, or_left_comm]
theorem risK_put : ∀ {l : List ByteArray}, RisK l → ∀ s, RisK (putK l s)
  | [], _, s => List.pairwise_cons.2 ⟨fun _ h => absurd h (by simp), List.Pairwise.nil⟩
  | x :: r, h, s => by
    have h' := List.pairwise_cons.1 h
    unfold putK
    split
    next e =>
      refine List.pairwise_cons.2 ⟨fun t ht => ?_, risK_put h'.2 s⟩
      rcases (mem_putK r s t).1 ht with m | rfl
      · exact h'.1 t m
      · exact e
    next e =>
      split
      · exact h
      next ne =>
        have hlt : ltB s x = true := by
          rcases ltB_tri x s with g | g | g
          · exact absurd g e
          · exact absurd g ne
          · exact g
        refine List.pairwise_cons.2 ⟨fun t ht => ?_, h⟩
        rcases List.mem_cons.1 ht with rfl | m
        · exact hlt
        · exact ltB_trans hlt (h'.1 t m)
/-- found by what stands ahead of the place -/
theorem putK_there : ∀ (l : List ByteArray) (s : ByteArray) (k : Nat) (h : k < l.length), (∀ i (hi : i < l.length), i < k → ltB l[i] s = true) → l[k] = s → putK l s = l
  | x :: r, s, 0, _, _, he => by
    have he : x = s := he
    subst he
    unfold putK
    rw [ltB_irrefl]
    simp
  | x :: r, s, k + 1, h, hl, he => by
    have h0 : ltB x s = true := hl 0 (by simp) (by omega)
    unfold putK
    rw [if_pos h0, putK_there r s k (by simpa using h) (fun i hi hik => hl (i + 1) (by simpa using hi) (by omega)) (by simpa using he)]
theorem putK_new : ∀ (l : List ByteArray) (s : ByteArray) (k : Nat), k ≤ l.length → (∀ i (hi : i < l.length), i < k → ltB l[i] s = true) → (∀ (h : k < l.length), ltB l[k] s = false ∧ ¬ l[k] = s) → putK l s = l.take k ++ s :: l.drop k
  | [], s, k, hk, _, _ => by
    have : k = 0 := by simpa using hk
    subst this
    rfl
  | x :: r, s, 0, _, _, hn => by
    obtain ⟨h1, h2⟩ := hn (by simp)
    have h1 : ltB x s = false := h1
    have h2 : ¬ x = s := h2
    unfold putK
    rw [h1, if_neg (by simp), if_neg h2]
    rfl
  | x :: r, s, k + 1, hk, hl, hn => by
    have h0 : ltB x s = true := hl 0 (by simp) (by omega)
    unfold putK
    rw [if_pos h0, putK_new r s k (by simpa using hk) (fun i hi hik => hl (i + 1) (by simpa using hi) (by omega)) (fun h => hn (by simpa using h))]
    rfl
end Go.Proofs.YtpnbolekhgcacaaDoor
