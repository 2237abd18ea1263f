/-
  What the laws' own helpers on lists of pairs answer: toPairS, eqPairS.
-/
import Derived.Test.YtblggbihnglipaaLPair
namespace Go.Proofs.Ytblggbihnglipaa
open Go.RowKit

theorem infoPair : (Try.prog.info? 86).map (fun i => (i.zero, i.size, i.bytes)) = some (some (.agg #[.string ByteArray.empty, .string ByteArray.empty]), 2, 32) := by kernel_rfl

theorem made_pairs (n : Nat) : (madeCells #[Value.string ByteArray.empty, Value.string ByteArray.empty] (n * 2)).toList = pcells (List.replicate n emp) := by
  apply List.ext_getElem?
  intro j
  by_cases hj : j < n * 2
  · have h2 := pcells_get (List.replicate n emp) (j / 2) (by simp; omega)
    rcases Nat.mod_two_eq_zero_or_one j with e | e
    · have hj2 : j / 2 * 2 = j := by omega
      rw [hj2] at h2
      rw [h2.1]
      simp [madeCells, hj, e, emp]
    · have hj2 : j / 2 * 2 + 1 = j := by omega
      rw [hj2] at h2
      rw [h2.2]
      simp [madeCells, hj, e, emp]
  · rw [List.getElem?_eq_none (by simp [madeCells]; omega), List.getElem?_eq_none (by rw [pcells_length]; simp; omega)]

theorem set_step (l : List Pr) (n k : Nat) (hk : k < l.length) (hn : l.length = n) : (l.take k ++ List.replicate (n - k) emp).set k (l[k].1, l[k].2) = l.take (k + 1) ++ List.replicate (n - (k + 1)) emp := by
  have hlen : (l.take k).length = k := by rw [List.length_take]; omega
  have h1 : (l.take k ++ List.replicate (n - k) emp).set k (l[k].1, l[k].2) = l.take k ++ (List.replicate (n - k) emp).set 0 (l[k].1, l[k].2) := by
    rw [List.set_append_right _ _ (by omega), hlen, Nat.sub_self]
  rw [h1, show n - k = n - (k + 1) + 1 by omega, List.replicate_succ, List.set_cons_zero, List.take_succ_eq_append_getElem hk, List.append_assoc]
  rfl

set_option maxRecDepth 100000 in
set_option maxHeartbeats 1000000 in
theorem toPairS_any (A : Option Addr) (l : List Pr) (cap : Nat) (w : World) (hl : l.length ≤ 1048576) (hin : PIn w w.heap.size A l) :
    Calls Try.prog 45 #[.slice A l.length cap] w fun e w' => e = .returned (.slice (some ⟨w.heap.size, 0, none⟩) l.length l.length) ∧ Own w' w.heap.size (some ⟨w.heap.size, 0, none⟩) l.length l ∧ Below w.heap.size w w' := by
  generalize hn : l.length = n at *
  have HN := hide hn
  clear hn
  obtain ⟨i0, hi, hz0, hz1, hz2⟩ := info_parts infoPair
  go_enter Try.func45, Try.ntmps45
  go_wp2_with (at_make; refine wpList_make_full _ rfl _ _ 28 rfl w.heap.size 86 i0 _ 2 Try.underlying28 hi hz0 hz1 _ _ _ _ n rfl rfl rfl rfl ?c1 ?c2 ?c3 ?_)
  case c1 => rw [hz2]; omega
  case c2 => unfold maxLen; omega
  case c3 => exact Nat.le_refl _
  intro w1 hown hg
  rw [made_pairs] at hown
  have Q1 := hide ((Below.refl w.heap.size w).grown hg (Nat.le_refl _) (by simp))
  have O1 := hide hown
  clear hown hg
  go_wp2
  go_loopw [4] (fun i wr => ∃ k : Nat, k ≤ n ∧ i = .int .i64 k ∧ Hid (wr.ownsRow w.heap.size 86 2 (.slice (some ⟨w.heap.size, 0, none⟩) n n) n (pcells (l.take k ++ List.replicate (n - k) emp))) ∧ Hid (Below w.heap.size w wr)) (fun i _ => n - (intOf i).toNat)
  case atStart => exact ⟨0, Nat.zero_le _, rfl, by simpa using O1, Q1⟩
  case round =>
    clear Q1 O1
    obtain ⟨k, hk, rfl, O, Q⟩ := hrel
    by_cases hlt : k < n
    · have hin2 := hin.below Q.out
      have hkl : k < l.length := by rw [HN.out]; omega
      obtain ⟨b, off, rfl, hbB, hc⟩ := hin2.2 (by omega)
      obtain ⟨c1, c2⟩ := hc k hkl
      have E := hide (set_step l n k hkl HN.out)
      generalize (l[k]'hkl).1 = s at *
      generalize (l[k]'hkl).2 = v at *
      clear hin hin2 hc
      go_wp2_with fail
      refine (toPair_any s v _).mono ?_
      rintro e w2 ⟨rfl, hb⟩
      have O2 := hide (O.out.kept (Below.toGrown hb none) (.inr (by simp [Value.ownBlock])))
      have B2 := hide (Q.out.trans (hb.mono Q.out.size))
      have r1 := O2.out.cellAt (k * 2) (by omega)
      have r2 := O2.out.cellAt (k * 2 + 1) (by omega)
      obtain ⟨x1, r1'⟩ : ∃ x, w2.cell? ⟨w.heap.size, k * 2, none⟩ = some x := by rw [r1]; exact ⟨_, List.getElem?_eq_getElem (by rw [pcells_length]; simp; omega)⟩
      obtain ⟨x2, r2'⟩ : ∃ x, w2.cell? ⟨w.heap.size, k * 2 + 1, none⟩ = some x := by rw [r2]; exact ⟨_, List.getElem?_eq_getElem (by rw [pcells_length]; simp; omega)⟩
      have f1 := O2.out.frozenAt (k * 2)
      have f2 := O2.out.frozenAt (k * 2 + 1)
      clear r1 r2 hb
      go_wp2
      go_roundw
      case rel =>
        have S1 := O2.out.stored (k * 2) (.string s)
        have S2 := S1.1.stored (k * 2 + 1) (.string v)
        rw [pcells_set, E.out] at S2
        exact ⟨k + 1, by omega, by go_num, S2.1, (B2.out.setCell (Nat.le_refl _) _).setCell (Nat.le_refl _) _⟩
      case measure => simp [intOf]; omega
    · obtain rfl : k = n := by omega
      have F : Hid (l.take k ++ List.replicate (k - k) emp = l) := hide (by rw [← HN.out]; simp)
      go_wp2
      go_ret
      refine ⟨rfl, ⟨hin.1, ?_⟩, Q.out⟩
      have O2 := O.out
      rw [F.out] at O2
      rw [HN.out]
      exact O2

set_option maxRecDepth 100000 in
set_option maxHeartbeats 1000000 in
theorem eqPairS_any (A A' : Option Addr) (l l' : List Pr) (cap cap' : Nat) (w : World) (hl : l.length ≤ maxLen) (hl' : l'.length ≤ maxLen) (hin : PIn w w.heap.size A l) (hin' : PIn w w.heap.size A' l') :
    Calls Try.prog 53 #[.slice A l.length cap, .slice A' l'.length cap'] w fun e w' => e = .returned (.bool (eqL l l')) ∧ Below w.heap.size w w' := by
  unfold maxLen at hl hl'
  by_cases he : l.length = l'.length
  · rw [← he]
    rw [← he] at hl'
    generalize hn : l.length = n at *
    have HN := hide hn
    have HN' := hide he
    clear hn he hl'
    go_enter Try.func53, Try.ntmps53
    go_wp2
    go_loopw [5] (fun i wr => ∃ k : Nat, k ≤ n ∧ i = .int .i64 k ∧ Hid (l.take k = l'.take k) ∧ Hid (Below w.heap.size w wr)) (fun i _ => n - (intOf i).toNat)
    case atStart => exact ⟨0, Nat.zero_le _, rfl, rfl, Below.refl _ w⟩
    case round =>
      obtain ⟨k, hk, rfl, H, Q⟩ := hrel
      by_cases hlt : k < n
      · have hin2 := hin.below Q.out
        have hin2' := hin'.below Q.out
        have hkl : k < l.length := by rw [HN.out]; omega
        have hkl' : k < l'.length := by rw [← HN'.out]; omega
        obtain ⟨b, off, rfl, hbB, hc⟩ := hin2.2 (by omega)
        obtain ⟨b', off', rfl, hbB', hc'⟩ := hin2'.2 (by omega)
        obtain ⟨c1, c2⟩ := hc k hkl
        obtain ⟨c3, c4⟩ := hc' k hkl'
        by_cases hp : l[k]'hkl = l'[k]'hkl'
        · have Z : Hid (l.take (k + 1) = l'.take (k + 1)) := hide (by rw [List.take_succ_eq_append_getElem hkl, List.take_succ_eq_append_getElem hkl', H.out, hp])
          have d : eqPr ((l[k]'hkl).1, (l[k]'hkl).2) ((l'[k]'hkl').1, (l'[k]'hkl').2) = true := eqPr_yes hp
          generalize (l[k]'hkl).1 = s at *
          generalize (l[k]'hkl).2 = v at *
          generalize (l'[k]'hkl').1 = s' at *
          generalize (l'[k]'hkl').2 = v' at *
          clear hin hin2 hc hin' hin2' hc' hp
          go_wp2
          go_region_held3 (fun w' => w'.cell? ⟨b, off + k * 2, none⟩ = some (.string s) ∧ w'.cell? ⟨b, off + k * 2 + 1, none⟩ = some (.string v) ∧ w'.cell? ⟨b', off' + k * 2, none⟩ = some (.string s') ∧ w'.cell? ⟨b', off' + k * 2 + 1, none⟩ = some (.string v')) (go_keep)
            (first | (go_at_call 82; refine (eqPair_any s v s' v' _).mono ?_; rintro e w' ⟨rfl, rfl⟩))
          all_goals
            clear d
            go_wp2
            go_roundw
            case rel => exact ⟨k + 1, by omega, by go_num, Z, Q.out.trans ((((Below.refl _ _).drew).alloc Q.out.size _).alloc (by have := Q.out.size; simp; omega) _)⟩
            case measure => simp [intOf]; omega
        · have Z : Hid (eqL l l' = false) := hide (eqL_no (by rintro rfl; exact hp rfl))
          have d : eqPr ((l[k]'hkl).1, (l[k]'hkl).2) ((l'[k]'hkl').1, (l'[k]'hkl').2) = false := eqPr_no hp
          generalize (l[k]'hkl).1 = s at *
          generalize (l[k]'hkl).2 = v at *
          generalize (l'[k]'hkl').1 = s' at *
          generalize (l'[k]'hkl').2 = v' at *
          clear hin hin2 hc hin' hin2' hc' hp
          go_wp2
          go_region_held3 (fun w' => w'.cell? ⟨b, off + k * 2, none⟩ = some (.string s) ∧ w'.cell? ⟨b, off + k * 2 + 1, none⟩ = some (.string v) ∧ w'.cell? ⟨b', off' + k * 2, none⟩ = some (.string s') ∧ w'.cell? ⟨b', off' + k * 2 + 1, none⟩ = some (.string v')) (go_keep)
            (first | (go_at_call 82; refine (eqPair_any s v s' v' _).mono ?_; rintro e w' ⟨rfl, rfl⟩))
          all_goals
            clear d
            go_wp2
            go_ret
            exact ⟨ret_bool Z.out.symm, Q.out.trans ((((Below.refl _ _).drew).alloc Q.out.size _).alloc (by have := Q.out.size; simp; omega) _)⟩
      · obtain rfl : k = n := by omega
        have Z : Hid (eqL l l' = true) := hide (eqL_yes (by
          have h := H.out
          rw [List.take_of_length_le (by rw [HN.out]; exact Nat.le_refl _), List.take_of_length_le (by rw [← HN'.out]; exact Nat.le_refl _)] at h
          exact h))
        go_wp2
        go_ret
        exact ⟨ret_bool Z.out.symm, Q.out⟩
  · have Z : Hid (eqL l l' = false) := hide (eqL_no (by rintro rfl; exact he rfl))
    have d : ((l.length : Int) != (l'.length : Int)) = true := by simp; omega
    clear he
    go_enter Try.func53, Try.ntmps53
    go_wp2
    go_ret
    exact ⟨ret_bool Z.out.symm, Below.refl _ _⟩
end Go.Proofs.Ytblggbihnglipaa
