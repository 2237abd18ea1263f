/-
  An argument that is a commit, opened.
-/
import Derived.Test.YtfnaolhmjgikgaaCComL
import Derived.Test.YtfnaolhmjgikgaaChecked
import Derived.ProofKit
import Derived.OpenShut
import Derived.SliceStrings
import Derived.Lib.SmallJoins
namespace Go.Proofs.Ytfnaolhmjgikgaa
open Go.ChangeShapes Go.WideShapes Go.ChangeAt Go.RowKit

section
variable {H : Type} {enc : TypeId × Value → H} {W : World}
theorem open_strs1 {v : Value} {n : Nat} {y : DataW H × List MemPlace} (h : DataW.trod enc Try.prog W 0 (fun _ => true) true n 22 [v] = some y) :
    ∃ (A : Option Addr) (cap : Nat) (l : List ByteArray), v = .slice A l.length cap ∧ l.length ≤ maxLen ∧ SIn W W.heap.size A l := by
  rcases open_strings Try.underlying22 Try.underlying9 (by kernel_rfl) h with ⟨hcs, _⟩ | ⟨a, len, cap, ss, hcs, _, hlc, hcm, hsl, _, hc, hz⟩
  · simp at hcs
    exact ⟨none, 0, [], by simpa using hcs, by simp [maxLen], fun i hi => absurd hi (by simp), fun hp => absurd hp (by simp)⟩
  · simp at hcs
    simp only [if_true] at hsl
    have hll : (ss.take len).length = len := by rw [List.length_take]; omega
    refine ⟨some a, cap, ss.take len, by rw [hll]; exact hcs, by omega, fun i hi => hz _ (List.mem_of_mem_take (List.getElem_mem hi)), fun hp => ?_⟩
    have hn : 0 < len := by omega
    obtain ⟨b, off, spot⟩ := a
    have hc0 := hc 0 (by omega)
    have hspot : spot = none := by simpa [Addr.add] using World.cell?_spot hc0
    subst hspot
    refine ⟨b, off, rfl, ?_, fun i hi => ?_⟩
    · have := World.block_lt_of_cell? W _ hc0
      simpa [Addr.add] using this
    · have hi' : i < ss.length := by omega
      have h1 := hc i hi'
      rw [List.getElem_take]
      rw [show ss.getD i ByteArray.empty = ss[i] by simp [hi']] at h1
      have ea : (⟨b, off, none⟩ : Addr).add i = ⟨b, off + i, none⟩ := by simp [Addr.add]
      rw [ea] at h1
      exact h1

theorem open_commit {b0 : Nat} {r : Reach} {v : Value} {d : DataW H} {p : List MemPlace} (hv : Value.okWide Try.prog W r b0 24 v) (h : DataW.Trod enc Try.prog W 0 (fun _ => true) true 24 v d p) :
    ∃ (t m : ByteArray) (A : Option Addr) (cap : Nat) (l : List ByteArray), v = .agg #[.string t, .slice A l.length cap, .string m] ∧ t.size ≤ maxLen ∧ m.size ≤ maxLen ∧ l.length ≤ maxLen ∧ SIn W W.heap.size A l := by
  obtain ⟨v0, v1, v2, y0, y1, y2, n, rfl, _, _, t0, t1, t2⟩ := Go.Joins.open_agg3 Try.underlying24 (by kernel_rfl) (by kernel_rfl) hv h
  obtain ⟨s0, e0, _, z0⟩ := DataW.trod_string Try.underlying9 t0
  obtain ⟨s2, e2, _, z2⟩ := DataW.trod_string Try.underlying9 t2
  obtain ⟨A, cap, l, rfl, hl, hin⟩ := open_strs1 t1
  simp at e0 e2
  subst e0 e2
  exact ⟨s0, s2, A, cap, l, rfl, z0, z2, hl, hin⟩
end
end Go.Proofs.Ytfnaolhmjgikgaa
