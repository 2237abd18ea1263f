/-
  What impl.filesOf answers: a map of the files, each one's bytes in a row of its own.
-/
import Derived.Test.YtblggbihnglipaaDFN
namespace Go.Proofs.Ytblggbihnglipaa
open Go.RowKit Go.Maps

theorem take_set {l : List Pr} (hr : Ris l) {k : Nat} (h : k < l.length) : setL (l.take k) l[k].1 l[k].2 = l.take (k + 1) := by
  have hk : Ris (l.take k) := List.Pairwise.sublist (List.take_sublist _ _) hr
  refine Ris.ext (ris_set hk _ _) (List.Pairwise.sublist (List.take_sublist _ _) hr) fun p => ?_
  rw [mem_set hk, List.take_succ_eq_append_getElem h, List.mem_append, List.mem_singleton]
  constructor
  · rintro (e | ⟨h1, _⟩)
    · exact .inr e
    · exact .inl h1
  · rintro (h1 | e)
    · refine .inr ⟨h1, ?_⟩
      obtain ⟨i, hi, e⟩ := List.getElem_of_mem h1
      rw [List.length_take] at hi
      rw [List.getElem_take] at e
      have := List.pairwise_iff_getElem.1 hr i k (by omega) h (by omega)
      rw [e] at this
      exact ne_of_lt this
    · exact .inl e
theorem run_mkf (n : Nat) (w : World) : (Instr.makeMap 75 (some (.int .i64 (n : Int)))).run Try.prog w = .ok (.map (some w.heap.size)) (w.alloc (.map #[] 0)) := by
  simp [Instr.makeMap, run_underlying Try.underlying75, asInt, asIntOf]
set_option maxRecDepth 100000 in
set_option maxHeartbeats 2000000 in
theorem filesOf_any (A : Option Addr) (l : List Pr) (cap : Nat) (w : World) (hr : Ris l) (hl : l.length ≤ 1048576) (hin : PIn w w.heap.size A l) :
    Calls Try.prog 48 #[.slice A l.length cap] w fun e w' => ∃ rA rC, e = .returned (.map (some w.heap.size)) ∧ FMap w' (w.heap.size + 1) w.heap.size l.length l rA rC ∧ Below w.heap.size w w' := by
  have IN := hide hin
  have B0 := hide ((Below.refl w.heap.size w).alloc (Nat.le_refl _) (.map #[] 0))
  have F0 := hide (FMap.made w (fun _ => none) (fun _ => 0))
  have TS : Hid (∀ k (h : k < l.length), setL (l.take k) (l[k]'h).1 (l[k]'h).2 = l.take (k + 1)) := hide (fun k h => take_set hr h)
  have FIN : Hid (∀ wr rA rC, FMap wr (w.heap.size + 1) w.heap.size l.length (l.take l.length) rA rC → Below w.heap.size w wr → ∃ rA rC, FMap wr (w.heap.size + 1) w.heap.size l.length l rA rC ∧ Below w.heap.size w wr) := hide (fun wr rA rC h hb => ⟨rA, rC, by rw [List.take_length] at h; exact h, hb⟩)
  have hmk := run_mkf l.length w
  clear hin hr
  obtain ⟨n, hn⟩ : ∃ n, l.length = n := ⟨_, rfl⟩
  have HN := hide hn
  rw [hn] at hl hmk FIN ⊢
  clear hn
  go_enter Try.func48, Try.ntmps48
  go_wp2
  clear hmk
  go_loopw [11] (fun iv wr => ∃ (k : Nat) (rA : ByteArray → Option Addr) (rC : ByteArray → Nat), k ≤ n ∧ iv = .int .i64 k ∧ Hid (FMap wr (w.heap.size + 1) w.heap.size k (l.take k) rA rC) ∧ Hid (Below w.heap.size w wr)) (fun i _ => n - (intOf i).toNat)
  case atStart => exact ⟨0, _, _, Nat.zero_le _, rfl, F0, B0⟩
  case round =>
    clear F0 B0
    obtain ⟨k, rA, rC, hk, rfl, FM, Q⟩ := hrel
    by_cases hlt : k < n
    · have hkl : k < l.length := by rw [HN.out]; exact hlt
      have sz := IN.out.1 k hkl
      obtain ⟨b, off, rfl, hbB, hc⟩ := IN.out.2 (by omega)
      obtain ⟨c1, c2⟩ := hc k hkl
      have d1 := (Q.out.cell (p := ⟨b, off + k * 2, none⟩) hbB).trans c1
      have d2 := (Q.out.cell (p := ⟨b, off + k * 2 + 1, none⟩) hbB).trans c2
      have TK := hide (TS.out k hkl)
      have HL := hide hlt
      clear hc c1 c2 hlt TS FIN
      generalize (l[k]'hkl).1 = x at *
      generalize (l[k]'hkl).2 = t at *
      clear hkl
      have XB := heap_alloc_new wr (.cells #[.string x, .string t] 86)
      have bx := (Below.refl wr.heap.size wr).alloc (Nat.le_refl _) (.cells #[.string x, .string t] 86)
      have FX := FM.out.below bx
      have sx : (wr.alloc (.cells #[.string x, .string t] 86)).heap.size = wr.heap.size + 1 := by simp
      obtain ⟨w3, hw3⟩ : ∃ W, wr.alloc (.cells #[.string x, .string t] 86) = W := ⟨_, rfl⟩
      rw [hw3] at XB bx FX sx
      have y0 := cell_of_row _ _ 0 _ _ _ XB
      have y1 := cell_of_row _ _ 1 _ _ _ XB
      obtain ⟨c, hcv, br, bb, hs4⟩ := run_bytes w3 t sz.2
      have hlow := FM.out.lt
      obtain ⟨w5, hst, F5, g5⟩ := (FX.below bb).store (k := x) (by unfold maxLen; omega) sz.1 (br.more (show w.heap.size + 1 ≤ w3.heap.size by have := Q.out.size; omega)) (fun k' hk' _ g hg e => by
        injection hg with hg
        have := ((FX.row k' hk').row g e).2
        simp only at hg
        omega)
      have F6 := hide F5
      rw [TK.out] at F6
      have Q6 := hide ((((Q.out.trans (bx.mono Q.out.size)).trans (bb.mono (Nat.le_trans Q.out.size bx.size)))).grown g5 (by have := Q.out.size; have := bx.size; omega) (fun k e => by injection e with e; omega))
      clear br F5 g5 bb FX bx XB sx hs4 FM TK
      go_wp2
      go_roundw
      case rel => exact ⟨k + 1, _, _, HL.out, by have := HL.out; go_num, F6, Q6⟩
      case measure => have := HL.out; simp [intOf]; omega
    · obtain rfl : k = n := by omega
      have hgt : ¬ ((k : Int) < (k : Int)) := by omega
      have G := hide (FIN.out wr rA rC FM.out Q.out)
      clear hlt FIN FM
      go_wp2
      go_ret
      obtain ⟨rA', rC', h1, h2⟩ := G.out
      exact ⟨rfl, ⟨rA', rC', h1⟩, h2⟩
end Go.Proofs.Ytblggbihnglipaa
