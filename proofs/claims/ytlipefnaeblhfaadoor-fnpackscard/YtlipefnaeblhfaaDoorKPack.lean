/-
  What a pack's text reads as, as plain mathematics.
-/
import Derived.Test.YtlipefnaeblhfaaDoorKHead
import Derived.Test.YtlipefnaeblhfaaDoorQTexts
namespace Go.Proofs.YtlipefnaeblhfaaDoor
open Go.RowKit

/-- an object of a text -/
def objK (t : ByteArray) : Pr := (idT t, t)
/-- a piece stands at the head -/
def pieceP (s : ByteArray) : Prop := headP s ∧ hdE s + hdV s ≤ s.size
open Classical in
/-- the pieces of a pack's text -/
noncomputable def pk : Nat → ByteArray → Option (List ByteArray)
  | 0, _ => none
  | f + 1, s => if s.size = 0 then some [] else if pieceP s then (pk f (s.extract (hdE s + hdV s) s.size)).map (fun r => s.extract (hdE s) (hdE s + hdV s) :: r) else none
theorem pk_nil {f : Nat} {s : ByteArray} (h : s.size = 0) : pk (f + 1) s = some [] := by rw [pk, if_pos h]
theorem pk_bad {f : Nat} {s : ByteArray} (h : ¬ s.size = 0) (hp : ¬ pieceP s) : pk f s = none := by
  cases f with
  | zero => rfl
  | succ f => rw [pk, if_neg h, if_neg hp]
theorem pk_step {f : Nat} {s : ByteArray} (h : ¬ s.size = 0) (hp : pieceP s) : pk (f + 1) s = (pk f (s.extract (hdE s + hdV s) s.size)).map (fun r => s.extract (hdE s) (hdE s + hdV s) :: r) := by rw [pk, if_neg h, if_pos hp]
theorem pk_some {f : Nat} {s : ByteArray} {ts : List ByteArray} (h : ¬ s.size = 0) (hp : pk f s = some ts) : pieceP s ∧ ∃ r, ts = s.extract (hdE s) (hdE s + hdV s) :: r := by
  cases f with
  | zero => cases hp
  | succ f =>
    by_cases hx : pieceP s
    · refine ⟨hx, ?_⟩
      rw [pk_step h hx] at hp
      obtain ⟨r, _, e⟩ := Option.map_eq_some_iff.1 hp
      exact ⟨r, e.symm⟩
    · rw [pk_bad h hx] at hp
      cases hp
noncomputable def pkL (s : ByteArray) : Option (List ByteArray) := pk (s.size + 1) s
def rpP (s : ByteArray) : Prop := ∃ ts, pkL s = some ts ∧ objsB (ts.map objK) = true
open Classical in
noncomputable def rpB (s : ByteArray) : Bool := decide (rpP s)
open Classical in
noncomputable def rpL (s : ByteArray) : List Pr := if rpP s then ((pkL s).getD []).map objK else []
open Classical in
theorem rp_no {s : ByteArray} (h : ¬ rpP s) : rpB s = false ∧ rpL s = [] := ⟨decide_eq_false h, if_neg h⟩
open Classical in
theorem rp_yes {s : ByteArray} {ts : List ByteArray} (h : pkL s = some ts) (ho : objsB (ts.map objK) = true) : rpB s = true ∧ rpL s = ts.map objK := by
  have hp : rpP s := ⟨ts, h, ho⟩
  refine ⟨decide_eq_true hp, ?_⟩
  unfold rpL
  rw [if_pos hp, h]
  rfl
theorem rp_not {s : ByteArray} {ts : List ByteArray} (h : pkL s = some ts) (ho : objsB (ts.map objK) = false) : ¬ rpP s := by
  rintro ⟨ts', h1, h2⟩
  rw [h] at h1
  injection h1 with h1
  subst h1
  rw [ho] at h2
  cases h2
/-- so far: these texts, and the rest -/
def StK (s : ByteArray) (ts : List ByteArray) (r : ByteArray) : Prop := 2 * ts.length + r.size ≤ s.size ∧ ∃ f, r.size < f ∧ pkL s = (pk f r).map (fun x => ts ++ x)
theorem stK_start (s : ByteArray) : StK s [] s := ⟨by simp, s.size + 1, by omega, by unfold pkL; cases pk (s.size + 1) s <;> simp⟩
theorem hd_pieces {s : ByteArray} (h : headP s) : 2 ≤ hdE s ∧ hdE s ≤ s.size := by
  obtain ⟨_, e2⟩ := hd_yes h
  obtain ⟨p1, p2, _⟩ := h
  have hz : (s.extract 0 (posB s 10)).size = posB s 10 := by rw [ByteArray.size_extract]; omega
  rw [e2]
  omega
theorem stK_next {s r : ByteArray} {ts : List ByteArray} (h : StK s ts r) (h0 : ¬ r.size = 0) (hp : pieceP r) : StK s (ts ++ [r.extract (hdE r) (hdE r + hdV r)]) (r.extract (hdE r + hdV r) r.size) := by
  obtain ⟨h1, f, h2, h3⟩ := h
  obtain ⟨q1, q2⟩ := hd_pieces hp.1
  have hz : (r.extract (hdE r + hdV r) r.size).size = r.size - (hdE r + hdV r) := by rw [ByteArray.size_extract]; omega
  obtain ⟨f, rfl⟩ : ∃ g, f = g + 1 := ⟨f - 1, by omega⟩
  refine ⟨by rw [hz, List.length_append]; have := hp.2; simp; omega, f, by rw [hz]; omega, ?_⟩
  rw [h3, pk_step h0 hp]
  cases pk f (r.extract (hdE r + hdV r) r.size) <;> simp
theorem stK_end {s r : ByteArray} {ts : List ByteArray} (h : StK s ts r) (h0 : r.size = 0) : pkL s = some ts := by
  obtain ⟨_, f, h2, h3⟩ := h
  obtain ⟨f, rfl⟩ : ∃ g, f = g + 1 := ⟨f - 1, by omega⟩
  rw [h3, pk_nil h0]
  simp
theorem stK_bad {s r : ByteArray} {ts : List ByteArray} (h : StK s ts r) (h0 : ¬ r.size = 0) (hp : ¬ pieceP r) : ¬ rpP s := by
  obtain ⟨_, f, _, h3⟩ := h
  rintro ⟨ts', h4, _⟩
  rw [h3, pk_bad h0 hp] at h4
  cases h4
theorem stK_many {s r : ByteArray} {ts : List ByteArray} (h : StK s ts r) (h0 : ¬ r.size = 0) (h60 : 60 ≤ ts.length) : ¬ rpP s := by
  obtain ⟨_, f, _, h3⟩ := h
  rintro ⟨ts', h4, h5⟩
  rw [h3] at h4
  obtain ⟨x, hx, e⟩ := Option.map_eq_some_iff.1 h4
  obtain ⟨_, y, rfl⟩ := pk_some h0 hx
  have hl : 60 < (ts'.map objK).length := by rw [← e]; simp; omega
  rw [objsB_len hl] at h5
  cases h5
theorem stK_long {s r : ByteArray} {ts : List ByteArray} (h : StK s ts r) (h0 : ¬ r.size = 0) (hn : 2000 < hdV r) : ¬ rpP s := by
  obtain ⟨_, f, _, h3⟩ := h
  rintro ⟨ts', h4, h5⟩
  rw [h3] at h4
  obtain ⟨x, hx, e⟩ := Option.map_eq_some_iff.1 h4
  obtain ⟨hp, y, rfl⟩ := pk_some h0 hx
  have hz : (r.extract (hdE r) (hdE r + hdV r)).size = hdV r := by rw [ByteArray.size_extract]; have := hp.2; omega
  have hl : ts.length < (ts'.map objK).length := by rw [← e]; simp
  have hg : ((ts'.map objK)[ts.length]'hl).2 = r.extract (hdE r) (hdE r + hdV r) := by
    subst e
    simp [objK]
  rw [objsB_text hl (by rw [hg, hz]; exact hn)] at h5
  cases h5
end Go.Proofs.YtlipefnaeblhfaaDoor
