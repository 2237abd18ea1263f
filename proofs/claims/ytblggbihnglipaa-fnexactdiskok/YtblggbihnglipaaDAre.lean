/-
  What impl.files' are answers.
-/
import Derived.Test.YtblggbihnglipaaDOkI
namespace Go.Proofs.Ytblggbihnglipaa
open Go.RowKit Go.Maps

open Classical in
noncomputable def eqF (l l2 : List Pr) : Bool := decide (l = l2)
open Classical in
theorem eqF_yes {l l2 : List Pr} (h : l = l2) : eqF l l2 = true := decide_eq_true h
open Classical in
theorem eqF_no {l l2 : List Pr} (h : ¬ l = l2) : eqF l l2 = false := decide_eq_false h
/-- the first k of the told files are among the files -/
def amTo (l l2 : List Pr) (k : Nat) : Prop := ∀ i (h : i < l2.length), i < k → hasB l l2[i].1 = true ∧ valOf l l2[i].1 = l2[i].2
theorem amTo_next {l l2 : List Pr} {k : Nat} (hk : k < l2.length) (h : amTo l l2 k) (h1 : hasB l l2[k].1 = true) (h2 : valOf l l2[k].1 = l2[k].2) : amTo l l2 (k + 1) := by
  intro i hi hik
  rcases Nat.lt_or_ge i k with g | g
  · exact h i hi g
  · obtain rfl : i = k := by omega
    exact ⟨h1, h2⟩
theorem am_mem {l : List Pr} {k v : ByteArray} (h1 : hasB l k = true) (h2 : valOf l k = v) : (k, v) ∈ l := by
  obtain ⟨a, b⟩ := hasB_iff.1 h1
  rw [valOf_yes a b] at h2
  have := List.getElem_mem a
  rw [show l[atN l k] = (k, v) from Prod.ext b h2] at this
  exact this
open Classical in
theorem am_end {l l2 : List Pr} (hr : Ris l) (hr2 : Ris l2) (h : amTo l l2 l2.length) (hl : l.length = l2.length) : l = l2 := by
  have hin : ∀ p ∈ l2, p ∈ l := fun p hp => by
    obtain ⟨i, hi, rfl⟩ := List.mem_iff_getElem.1 hp
    obtain ⟨a, b⟩ := h i hi hi
    exact am_mem a b
  have hf : l.filter (fun p => decide (p ∈ l2)) = l2 := Ris.ext (List.Pairwise.sublist List.filter_sublist hr) hr2 fun p => by
    rw [List.mem_filter, decide_eq_true_iff]
    exact ⟨fun h => h.2, fun h => ⟨hin p h, h⟩⟩
  have hs : List.Sublist (l.filter (fun p => decide (p ∈ l2))) l := List.filter_sublist
  rw [hf] at hs
  exact (hs.eq_of_length hl.symm).symm
theorem am_eq {l : List Pr} (hr : Ris l) {k : Nat} (hk : k < l.length) : hasB l l[k].1 = true ∧ valOf l l[k].1 = l[k].2 := by
  have h1 : hasB l l[k].1 = true := (has_iff hr _).2 ⟨l[k].2, List.getElem_mem hk⟩
  obtain ⟨a, b⟩ := hasB_iff.1 h1
  refine ⟨h1, ?_⟩
  rw [valOf_yes a b]
  refine hr.key (k := l[k].1) ?_ (List.getElem_mem hk)
  have := List.getElem_mem a
  rw [show l[atN l l[k].1] = (l[k].1, l[atN l l[k].1].2) from Prod.ext b rfl] at this
  exact this
set_option maxRecDepth 100000 in
set_option maxHeartbeats 2000000 in
theorem are_any {w : World} {B gm n : Nat} {l : List Pr} {rA : ByteArray → Option Addr} {rC : ByteArray → Nat} (h : FMap w B gm n l rA rC) (A : Option Addr) (l2 : List Pr) (cap : Nat) (hin : PIn w w.heap.size A l2) (hr2 : Ris l2) (hl2 : l2.length ≤ 1048576) :
    Calls Try.prog 52 #[.map (some gm), .slice A l2.length cap] w fun e w' => e = .returned (.bool (eqF l l2)) ∧ Below w.heap.size w w' := by
  have H := hide h
  have IN := hide hin
  have NO : Hid (∀ k (hk : k < l2.length), ¬ (hasB l l2[k].1 = true ∧ valOf l l2[k].1 = l2[k].2) → eqF l l2 = false) := hide (fun k hk hn => eqF_no (fun e => by subst e; exact hn (am_eq hr2 hk)))
  have EN : Hid (amTo l l2 l2.length → eqF l l2 = decide (l.length = l2.length)) := hide (fun ha => by
    by_cases e : l.length = l2.length
    · rw [decide_eq_true e]; exact eqF_yes (am_end h.ris hr2 ha e)
    · rw [decide_eq_false e]; exact eqF_no (fun x => e (by rw [x])))
  clear h hin hr2
  obtain ⟨m, hn⟩ : ∃ m, l2.length = m := ⟨_, rfl⟩
  have HN := hide hn
  rw [hn] at hl2 EN ⊢
  clear hn
  go_enter Try.func52, Try.ntmps52
  go_wp2
  go_loopw [11] (fun iv wr => ∃ k : Nat, k ≤ m ∧ iv = .int .i64 k ∧ Hid (amTo l l2 k) ∧ Hid (Below w.heap.size w wr)) (fun i _ => m - (intOf i).toNat)
  case atStart => exact ⟨0, Nat.zero_le _, rfl, hide fun _ _ h => absurd h (by omega), Below.refl _ _⟩
  case round =>
    obtain ⟨k, hk, rfl, AM, Q⟩ := hrel
    have hqs := Q.out.size
    by_cases hlt : k < m
    · have hkl : k < l2.length := by rw [HN.out]; omega
      have s1 := (IN.out.1 k hkl).1
      obtain ⟨b, off, rfl, hbB, hc⟩ := IN.out.2 (by omega)
      obtain ⟨c1', c2'⟩ := hc k hkl
      have c1 := (Q.out.cell (p := ⟨b, off + k * 2, none⟩) hbB).trans c1'
      have c2 := (Q.out.cell (p := ⟨b, off + k * 2 + 1, none⟩) hbB).trans c2'
      have NK := hide (NO.out k hkl)
      have NX := hide (fun h1 h2 => amTo_next hkl AM.out h1 h2)
      clear hc c1' c2' NO AM EN
      generalize (l2[k]'hkl).1 = x at *
      generalize (l2[k]'hkl).2 = t at *
      have XB := heap_alloc_new wr (.cells #[.string x, .string t] 86)
      have bx := (Below.refl wr.heap.size wr).alloc (Nat.le_refl _) (.cells #[.string x, .string t] 86)
      have F2 := ((H.out.below Q.out).below bx)
      obtain ⟨w3, hw3⟩ : ∃ W, wr.alloc (.cells #[.string x, .string t] 86) = W := ⟨_, rfl⟩
      rw [hw3] at XB bx F2
      have y0 := cell_of_row _ _ 0 _ _ _ XB
      have y1 := cell_of_row _ _ 1 _ _ _ XB
      obtain ⟨A2, c, lk, br, yes, no⟩ := F2.look s1
      have cv := br.str
      have Q1 := hide (Q.out.trans (bx.mono hqs))
      clear XB bx br F2 yes no
      cases hb : hasB l x
      · rw [hb] at lk
        have E := hide (NK.out (fun h => by rw [hb] at h; cases h.1))
        clear NK NX
        go_wp2
        go_ret
        exact ⟨ret_bool E.out.symm, Q1.out⟩
      · rw [hb] at lk
        by_cases hv : valOf l x = t
        · have FN := hide (NX.out hb hv)
          have e1 := eqS_yes hv
          clear NK NX hb
          rw [hv] at cv lk e1
          clear hv
          go_wp2
          go_roundw
          case rel => exact ⟨k + 1, by omega, by go_num, FN, Q1⟩
          case measure => simp [intOf]; omega
        · have E := hide (NK.out (fun h => hv h.2))
          have e1 := eqS_no hv
          clear NK NX hb hv
          generalize valOf l x = v at *
          go_wp2
          go_ret
          exact ⟨ret_bool E.out.symm, Q1.out⟩
    · have ek : k = m := by omega
      have hgt : ¬ ((k : Int) < (m : Int)) := by omega
      have E := hide (EN.out (by rw [← ek]; exact AM.out))
      have LN := fun ty => (H.out.below Q.out).len ty
      clear NO EN AM hlt
      by_cases hlm : l.length = m
      · have E' : Hid (eqF l l2 = true) := hide (by rw [E.out]; exact decide_eq_true hlm)
        have d1 : ((l.length : Int) == (m : Int)) = true := by rw [beq_iff_eq]; omega
        have d2 : decide ((l.length : Int) = (m : Int)) = true := decide_eq_true (by omega)
        clear E
        go_wp2
        go_ret
        exact ⟨ret_bool E'.out.symm, Q.out⟩
      · have E' : Hid (eqF l l2 = false) := hide (by rw [E.out]; exact decide_eq_false hlm)
        have d1 : ((l.length : Int) == (m : Int)) = false := by rw [beq_eq_false_iff_ne]; omega
        have d2 : decide ((l.length : Int) = (m : Int)) = false := decide_eq_false (by omega)
        clear E
        go_wp2
        go_ret
        exact ⟨ret_bool E'.out.symm, Q.out⟩
end Go.Proofs.Ytblggbihnglipaa
