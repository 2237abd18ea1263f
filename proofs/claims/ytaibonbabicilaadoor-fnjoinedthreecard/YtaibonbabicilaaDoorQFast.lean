/-
  The ids of short texts, reckoned step by step, for the kernel. Plain mathematics.
-/
import Derived.Test.YtaibonbabicilaaDoorQIdI
namespace Go.Proofs.YtaibonbabicilaaDoor
open Go.RowKit

/-- a number that is reckoned ahead of what is done with it -/
def frc {α : Type} (x : Int) (k : Int → α) : α :=
  match x with
  | .ofNat n => (match n with
    | 0 => k 0
    | m + 1 => k (Int.ofNat (m + 1)))
  | .negSucc n => k (.negSucc n)
theorem frc_eq {α : Type} (x : Int) (k : Int → α) : frc x k = k x := by
  cases x with
  | ofNat n => cases n <;> rfl
  | negSucc n => rfl
/-- the words of a block, the newest first -/
def wL (m : Nat → Int) : Nat → List Int
  | 0 => []
  | i + 1 => frc (if i < 16 then m i else addI (addI (addI ((wL m i).getD 15 0) (sig0 ((wL m i).getD 14 0))) ((wL m i).getD 6 0)) (sig1 ((wL m i).getD 1 0))) fun y => y :: wL m i
theorem wL_get (m : Nat → Int) : ∀ n j, j < n → (wL m n).getD j 0 = wAt m (n - 1 - j)
  | 0, j, h => absurd h (by omega)
  | n + 1, 0, _ => by
    rw [wL, frc_eq, List.getD_cons_zero, wAt]
    by_cases h : n < 16
    · rw [if_pos h, dif_pos (by omega)]; rfl
    · rw [if_neg h, dif_neg (by omega), wL_get m n 15 (by omega), wL_get m n 14 (by omega), wL_get m n 6 (by omega), wL_get m n 1 (by omega)]
      rfl
  | n + 1, j + 1, h => by
    rw [wL, frc_eq, List.getD_cons_succ, wL_get m n j (by omega)]
    congr 1
    omega
/-- a state -/
structure St where
  a : Int
  b : Int
  c : Int
  d : Int
  e : Int
  f : Int
  g : Int
  h : Int
def St.at (s : St) : Nat → Int
  | 0 => s.a
  | 1 => s.b
  | 2 => s.c
  | 3 => s.d
  | 4 => s.e
  | 5 => s.f
  | 6 => s.g
  | 7 => s.h
  | _ => 0
def rE (s : St) (k x : Int) : St :=
  frc ((s.h + bs1 s.e + chI s.e s.f s.g + k + x) % 4294967296) fun t => frc ((t + bs0 s.a + maI s.a s.b s.c) % 4294967296) fun a => frc ((s.d + t) % 4294967296) fun e => ⟨a, s.a, s.b, s.c, e, s.e, s.f, s.g⟩
theorem rE_at {v : Nat → Int} {s : St} (h : ∀ j, j < 8 → s.at j = v j) (k x : Int) : ∀ j, j < 8 → (rE s k x).at j = rnd v k x j := by
  intro j hj
  have h0 := h 0 (by omega); have h1 := h 1 (by omega); have h2 := h 2 (by omega); have h3 := h 3 (by omega); have h4 := h 4 (by omega); have h5 := h 5 (by omega); have h6 := h 6 (by omega); have h7 := h 7 (by omega)
  simp only [St.at] at h0 h1 h2 h3 h4 h5 h6 h7
  unfold rE
  simp only [frc_eq]
  unfold rnd t1I
  rw [h0, h1, h2, h3, h4, h5, h6, h7]
  match j, hj with
  | 0, _ => simp [St.at]
  | 1, _ => simp [St.at]
  | 2, _ => simp [St.at]
  | 3, _ => simp [St.at]
  | 4, _ => simp [St.at]
  | 5, _ => simp [St.at]
  | 6, _ => simp [St.at]
  | 7, _ => simp [St.at]
/-- the rounds over words that stand the newest first -/
def rF (s : St) (x : Nat → Int) : Nat → St
  | 0 => s
  | i + 1 => match rF s x i with
    | ⟨a, b, c, d, e, f, g, h⟩ => rE ⟨a, b, c, d, e, f, g, h⟩ (ksI i) (x i)
theorem rF_at {v x y : Nat → Int} {s : St} (h : ∀ j, j < 8 → s.at j = v j) : ∀ n, (∀ i, i < n → x i = y i) → ∀ j, j < 8 → (rF s x n).at j = rndTo v y n j
  | 0, _, j, hj => h j hj
  | n + 1, hx, j, hj => by
    rw [rF, rndTo, ← hx n (by omega)]
    exact rE_at (rF_at h n fun i hi => hx i (by omega)) _ _ j hj
def s0 : St := ⟨1779033703, 3144134277, 1013904242, 2773480762, 1359893119, 2600822924, 528734635, 1541459225⟩
theorem s0_at : ∀ j, j < 8 → s0.at j = fTab.getD j 0 := by
  intro j hj
  match j, hj with
  | 0, _ => rfl
  | 1, _ => rfl
  | 2, _ => rfl
  | 3, _ => rfl
  | 4, _ => rfl
  | 5, _ => rfl
  | 6, _ => rfl
  | 7, _ => rfl
/-- the first word of a digest of a short text -/
def firstW (s : ByteArray) : Int := ((rF s0 (fun i => (wL (mOf fun i => padY s (64 * 0 + i)) 64).getD (63 - i) 0) 64).at 0 + 1779033703) % 4294967296
theorem firstW_eq {s : ByteArray} (h : padN s.size / 64 = 1) : stTo (padY s) (padN s.size / 64) 0 = firstW s := by
  rw [h]
  show mixI (stTo (padY s) 0) (wAt (mOf fun i => padY s (64 * 0 + i))) 0 = _
  unfold mixI firstW
  rw [rF_at (v := stTo (padY s) 0) (y := wAt (mOf fun i => padY s (64 * 0 + i))) s0_at 64 (fun i hi => by rw [wL_get _ 64 (63 - i) (by omega)]; congr 1; omega) 0 (by omega)]
  rfl
end Go.Proofs.YtaibonbabicilaaDoor
