/-
  The digest as plain mathematics: a round on eight words, a block's step, the state behind n blocks, the padded text's bytes. No Go in it.
-/
import Derived.Test.YtdahpnjamlfakaaGreatDoorQSchedI
import Derived.Test.YtdahpnjamlfakaaGreatDoorQTab
namespace Go.Proofs.YtdahpnjamlfakaaGreatDoor
open Go.RowKit

def andI (a b : Int) : Int := bits BinOp.and IntKind.u32 a b
def notI (a : Int) : Int := bits BinOp.xor IntKind.u32 IntKind.u32.max a
def chI (e f g : Int) : Int := xorI (andI e f) (andI (notI e) g)
def maI (a b c : Int) : Int := xorI (xorI (andI a b) (andI a c)) (andI b c)
def bs1 (e : Int) : Int := xorI (xorI (rotI e 26) (rotI e 21)) (rotI e 7)
def bs0 (a : Int) : Int := xorI (xorI (rotI a 30) (rotI a 19)) (rotI a 10)
def t1I (v : Nat → Int) (k x : Int) : Int := (v 7 + bs1 (v 4) + chI (v 4) (v 5) (v 6) + k + x) % 4294967296
/-- one round -/
def rnd (v : Nat → Int) (k x : Int) : Nat → Int := fun j =>
  if j = 0 then (t1I v k x + bs0 (v 0) + maI (v 0) (v 1) (v 2)) % 4294967296
  else if j = 4 then (v 3 + t1I v k x) % 4294967296
  else v (j - 1)
/-- the first n rounds over the words x -/
def rndTo (v x : Nat → Int) : Nat → Nat → Int
  | 0 => v
  | i + 1 => rnd (rndTo v x i) (ksI i) (x i)
/-- a block's step -/
def mixI (v x : Nat → Int) : Nat → Int := fun j => (rndTo v x 64 j + v j) % 4294967296
/-- the state behind n blocks of the bytes y -/
def stTo (y : Nat → Int) : Nat → Nat → Int
  | 0 => fun j => fTab.getD j 0
  | n + 1 => mixI (stTo y n) (wAt (mOf fun i => y (64 * n + i)))

theorem mod_word (z : Int) : isW (z % 4294967296) := ⟨Int.emod_nonneg _ (by decide), Int.emod_lt_of_pos _ (by decide)⟩
theorem rnd_word {v : Nat → Int} (h : ∀ j, j < 8 → isW (v j)) (k x : Int) : ∀ j, j < 8 → isW (rnd v k x j) := by
  intro j hj
  unfold rnd
  split
  · exact mod_word _
  · split
    · exact mod_word _
    · exact h _ (by omega)
theorem rndTo_word {v x : Nat → Int} (h : ∀ j, j < 8 → isW (v j)) : ∀ i j, j < 8 → isW (rndTo v x i j)
  | 0, j, hj => h j hj
  | i + 1, j, hj => rnd_word (rndTo_word h i) _ _ j hj
theorem mixI_word (v x : Nat → Int) (j : Nat) : isW (mixI v x j) := mod_word _
theorem fTab_word : ∀ j, j < 8 → isW (fTab.getD j 0) := by
  intro j hj
  rcases (show j = 0 ∨ j = 1 ∨ j = 2 ∨ j = 3 ∨ j = 4 ∨ j = 5 ∨ j = 6 ∨ j = 7 by omega) with h | h | h | h | h | h | h | h <;> subst h <;> exact ⟨by decide, by decide⟩
theorem stTo_word (y : Nat → Int) : ∀ n j, j < 8 → isW (stTo y n j)
  | 0, j, hj => fTab_word j hj
  | _ + 1, _, _ => mixI_word _ _ _
theorem rnd0 (v : Nat → Int) (k x : Int) : rnd v k x 0 = (t1I v k x + bs0 (v 0) + maI (v 0) (v 1) (v 2)) % 4294967296 := rfl
theorem rnd1 (v : Nat → Int) (k x : Int) : rnd v k x 1 = v 0 := rfl
theorem rnd2 (v : Nat → Int) (k x : Int) : rnd v k x 2 = v 1 := rfl
theorem rnd3 (v : Nat → Int) (k x : Int) : rnd v k x 3 = v 2 := rfl
theorem rnd4 (v : Nat → Int) (k x : Int) : rnd v k x 4 = (v 3 + t1I v k x) % 4294967296 := rfl
theorem rnd5 (v : Nat → Int) (k x : Int) : rnd v k x 5 = v 4 := rfl
theorem rnd6 (v : Nat → Int) (k x : Int) : rnd v k x 6 = v 5 := rfl
theorem rnd7 (v : Nat → Int) (k x : Int) : rnd v k x 7 = v 6 := rfl
/-- words that are alike up to 64 give the same step -/
theorem rndTo_congr {v v' x x' : Nat → Int} (hv : ∀ j, j < 8 → v j = v' j) : ∀ i, (∀ k, k < i → x k = x' k) → ∀ j, j < 8 → rndTo v x i j = rndTo v' x' i j
  | 0, _, j, hj => hv j hj
  | i + 1, hx, j, hj => by
    have ih := rndTo_congr hv i (fun k hk => hx k (by omega))
    show rnd (rndTo v x i) (ksI i) (x i) j = rnd (rndTo v' x' i) (ksI i) (x' i) j
    rw [hx i (by omega)]
    unfold rnd t1I
    rw [ih 0 (by omega), ih 1 (by omega), ih 2 (by omega), ih 3 (by omega), ih 4 (by omega), ih 5 (by omega), ih 6 (by omega), ih 7 (by omega)]
    split
    · rfl
    · split
      · rfl
      · exact ih _ (by omega)
theorem wAt_congr {m m' : Nat → Int} (h : ∀ j, j < 16 → m j = m' j) (i : Nat) : wAt m i = wAt m' i := by
  induction i using Nat.strongRecOn with
  | _ i ih =>
    by_cases hi : i < 16
    · rw [wAt_low m hi, wAt_low m' hi, h i hi]
    · rw [wAt_high m hi, wAt_high m' hi, ih (i - 16) (by omega), ih (i - 15) (by omega), ih (i - 7) (by omega), ih (i - 2) (by omega)]
theorem mixI_congr {v v' m m' : Nat → Int} (hv : ∀ j, j < 8 → v j = v' j) (hm : ∀ j, j < 16 → m j = m' j) (j : Nat) (hj : j < 8) : mixI v (wAt m) j = mixI v' (wAt m') j := by
  unfold mixI
  rw [rndTo_congr hv 64 (fun k _ => wAt_congr hm k) j hj, hv j hj]
end Go.Proofs.YtdahpnjamlfakaaGreatDoor
