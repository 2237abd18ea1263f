/-
  What the laws' helpers on lists of changes answer: toChangeS, eqChangeS; an argument that is a list of changes, opened.
-/
import Derived.Test.YtcpalnkcjcgaeaaHLaw
import Derived.Test.YtcpalnkcjcgaeaaPCls
import Derived.Deep.Slices
namespace Go.Proofs.Ytcpalnkcjcgaeaa
open Go.RowKit

set_option maxRecDepth 100000 in
set_option maxHeartbeats 1000000 in
theorem toChangeS_any (A : Option Addr) (l : List Ch) (cap : Nat) (w : World) (hl : l.length ≤ 1048576) (hin : HIn w w.heap.size A l) :
    Calls Try.prog 39 #[.slice A l.length cap] w fun e w' => e = .returned (.slice (some ⟨w.heap.size, 0, none⟩) l.length l.length) ∧ HOwn w' w.heap.size (some ⟨w.heap.size, 0, none⟩) l.length l ∧ Below w.heap.size w w' := by
  generalize hn : l.length = n at *
  have HN := hide hn
  clear hn
  obtain ⟨i0, hi, hz0, hz1, hz2⟩ := info_parts infoC
  go_enter Try.func39, Try.ntmps39
  go_wp2_with (at_make; refine wpList_make_full _ rfl _ _ 27 rfl w.heap.size 45 i0 _ 5 Try.underlying27 hi hz0 hz1 _ _ _ _ n rfl rfl rfl rfl ?c1 ?c2 ?c3 ?_)
  case c1 => rw [hz2]; omega
  case c2 => unfold maxLen; omega
  case c3 => exact Nat.le_refl _
  intro w1 hown hg
  rw [made_changes] at hown
  have Q1 := hide ((Below.refl w.heap.size w).grown hg (Nat.le_refl _) (by simp))
  have O1 := hide hown
  clear hown hg
  go_wp2
  go_loopw [4] (fun i wr => ∃ k : Nat, k ≤ n ∧ i = .int .i64 k ∧ Hid (wr.ownsRow w.heap.size 45 5 (.slice (some ⟨w.heap.size, 0, none⟩) n n) n (ccells (l.take k ++ List.replicate (n - k) emC))) ∧ Hid (Below w.heap.size w wr)) (fun i _ => n - (intOf i).toNat)
  case atStart => exact ⟨0, Nat.zero_le _, rfl, by simpa using O1, Q1⟩
  case round =>
    clear Q1 O1
    obtain ⟨k, hk, rfl, O, Q⟩ := hrel
    by_cases hlt : k < n
    · have hin2 := hin.below Q.out
      have hkl : k < l.length := by rw [HN.out]; omega
      obtain ⟨b, off, rfl, hbB, hc⟩ := hin2.2 (by omega)
      obtain ⟨c1, c2, c3, c4, c5⟩ := hc k hkl
      have E := hide (ccells_set (l.take k ++ List.replicate (n - k) emC) k (l[k]'hkl))
      rw [set_stepC l n k hkl HN.out] at E
      generalize (l[k]'hkl).1 = x1 at *
      generalize (l[k]'hkl).2.1 = x2 at *
      generalize (l[k]'hkl).2.2.1 = x3 at *
      generalize (l[k]'hkl).2.2.2.1 = x4 at *
      generalize (l[k]'hkl).2.2.2.2 = x5 at *
      clear hin hin2 hc
      go_wp2_with fail
      refine (toChange_any x1 x2 x3 x4 x5 _).mono ?_
      rintro e w2 ⟨rfl, hb⟩
      have O2 := hide (O.out.kept (Below.toGrown hb none) (.inr (by simp [Value.ownBlock])))
      have B2 := hide (Q.out.trans (hb.mono Q.out.size))
      have RR : ∀ i, i < n * 5 → ∃ x, w2.cell? ⟨w.heap.size, i, none⟩ = some x := fun i hi => by rw [O2.out.cellAt i (by omega)]; exact ⟨_, List.getElem?_eq_getElem (by rw [ccells_length]; simp; omega)⟩
      obtain ⟨y1, r1⟩ := RR (k * 5) (by omega)
      obtain ⟨y2, r2⟩ := RR (k * 5 + 1) (by omega)
      obtain ⟨y3, r3⟩ := RR (k * 5 + 2) (by omega)
      obtain ⟨y4, r4⟩ := RR (k * 5 + 3) (by omega)
      obtain ⟨y5, r5⟩ := RR (k * 5 + 4) (by omega)
      have f1 := O2.out.frozenAt (k * 5)
      have f2 := O2.out.frozenAt (k * 5 + 1)
      have f3 := O2.out.frozenAt (k * 5 + 2)
      have f4 := O2.out.frozenAt (k * 5 + 3)
      have f5 := O2.out.frozenAt (k * 5 + 4)
      clear hb RR
      go_wp2
      go_roundw
      case rel =>
        have S1 := O2.out.stored (k * 5) (.string x1)
        have S2 := S1.1.stored (k * 5 + 1) (.string x2)
        have S3 := S2.1.stored (k * 5 + 2) (.string x3)
        have S4 := S3.1.stored (k * 5 + 3) (.bool x4)
        have S5 := (S4.1.stored (k * 5 + 4) (.bool x5)).1
        rw [E.out] at S5
        exact ⟨k + 1, by omega, by go_num, S5, ((((B2.out.setCell (Nat.le_refl _) _).setCell (Nat.le_refl _) _).setCell (Nat.le_refl _) _).setCell (Nat.le_refl _) _).setCell (Nat.le_refl _) _⟩
      case measure => simp [intOf]; omega
    · obtain rfl : k = n := by omega
      have F : Hid (l.take k ++ List.replicate (k - k) emC = l) := hide (by rw [← HN.out]; simp)
      go_wp2
      go_ret
      refine ⟨rfl, ⟨hin.1, ?_⟩, Q.out⟩
      have O2 := O.out
      rw [F.out] at O2
      rw [HN.out]
      exact O2

/-- what a region holds while two changes are held against each other -/
def Two5 (b o b' o' : Nat) (c c' : Ch) (w : World) : Prop := At5 w b o c ∧ At5 w b' o' c'
set_option maxRecDepth 100000 in
set_option maxHeartbeats 2000000 in
theorem eqChangeS_any (A A' : Option Addr) (l l' : List Ch) (cap cap' : Nat) (w : World) (hl : l.length ≤ maxLen) (hl' : l'.length ≤ maxLen) (hin : HIn w w.heap.size A l) (hin' : HIn w w.heap.size A' l') :
    Calls Try.prog 33 #[.slice A l.length cap, .slice A' l'.length cap'] w fun e w' => e = .returned (.bool (eqCL l l')) ∧ Below w.heap.size w w' := by
  unfold maxLen at hl hl'
  by_cases he : l.length = l'.length
  · rw [← he]
    rw [← he] at hl'
    generalize hn : l.length = n at *
    have HN := hide hn
    have HN' := hide he
    clear hn he hl'
    go_enter Try.func33, Try.ntmps33
    go_wp2
    go_loopw [5] (fun i wr => ∃ k : Nat, k ≤ n ∧ i = .int .i64 k ∧ Hid (l.take k = l'.take k) ∧ Hid (Below w.heap.size w wr)) (fun i _ => n - (intOf i).toNat)
    case atStart => exact ⟨0, Nat.zero_le _, rfl, rfl, Below.refl _ w⟩
    case round =>
      obtain ⟨k, hk, rfl, H, Q⟩ := hrel
      by_cases hlt : k < n
      · have hin2 := hin.below Q.out
        have hin2' := hin'.below Q.out
        have hkl : k < l.length := by rw [HN.out]; omega
        have hkl' : k < l'.length := by rw [← HN'.out]; omega
        obtain ⟨b, off, rfl, hbB, hc⟩ := hin2.2 (by omega)
        obtain ⟨b', off', rfl, hbB', hc'⟩ := hin2'.2 (by omega)
        obtain ⟨c1, c2, c3, c4, c5⟩ := hc k hkl
        obtain ⟨d1, d2, d3, d4, d5⟩ := hc' k hkl'
        have hqs := Q.out.size
        have EV : Hid (∀ W, Calls Try.prog 67 #[.agg #[.string (l[k]'hkl).1, .string (l[k]'hkl).2.1, .string (l[k]'hkl).2.2.1, .bool (l[k]'hkl).2.2.2.1, .bool (l[k]'hkl).2.2.2.2], .agg #[.string (l'[k]'hkl').1, .string (l'[k]'hkl').2.1, .string (l'[k]'hkl').2.2.1, .bool (l'[k]'hkl').2.2.2.1, .bool (l'[k]'hkl').2.2.2.2]] W fun e w' => e = .returned (.bool (eqC (l[k]'hkl) (l'[k]'hkl'))) ∧ Below W.heap.size W w') := hide fun W => (eqChange_any _ _ _ _ _ _ _ _ _ _ W).mono fun e w' ⟨he, hw⟩ => ⟨he, by rw [← hw]; exact ((Below.refl _ _).alloc (Nat.le_refl _) _).alloc (by simp) _⟩
        have y1 := cls_cell (B := wr.heap.size) (p := ⟨b, off + k * 5, none⟩) (show b < wr.heap.size by omega) c1
        have y2 := cls_cell (B := wr.heap.size) (p := ⟨b, off + k * 5 + 1, none⟩) (show b < wr.heap.size by omega) c2
        have y3 := cls_cell (B := wr.heap.size) (p := ⟨b, off + k * 5 + 2, none⟩) (show b < wr.heap.size by omega) c3
        have y4 := cls_cell (B := wr.heap.size) (p := ⟨b, off + k * 5 + 3, none⟩) (show b < wr.heap.size by omega) c4
        have y5 := cls_cell (B := wr.heap.size) (p := ⟨b, off + k * 5 + 4, none⟩) (show b < wr.heap.size by omega) c5
        have z1 := cls_cell (B := wr.heap.size) (p := ⟨b', off' + k * 5, none⟩) (show b' < wr.heap.size by omega) d1
        have z2 := cls_cell (B := wr.heap.size) (p := ⟨b', off' + k * 5 + 1, none⟩) (show b' < wr.heap.size by omega) d2
        have z3 := cls_cell (B := wr.heap.size) (p := ⟨b', off' + k * 5 + 2, none⟩) (show b' < wr.heap.size by omega) d3
        have z4 := cls_cell (B := wr.heap.size) (p := ⟨b', off' + k * 5 + 3, none⟩) (show b' < wr.heap.size by omega) d4
        have z5 := cls_cell (B := wr.heap.size) (p := ⟨b', off' + k * 5 + 4, none⟩) (show b' < wr.heap.size by omega) d5
        clear c1 c2 c3 c4 c5 d1 d2 d3 d4 d5
        by_cases hp : l[k]'hkl = l'[k]'hkl'
        · have Z : Hid (l.take (k + 1) = l'.take (k + 1)) := hide (by rw [List.take_succ_eq_append_getElem hkl, List.take_succ_eq_append_getElem hkl', H.out, hp])
          have d : eqC (l[k]'hkl) (l'[k]'hkl') = true := eqC_yes hp
          rw [d] at EV
          generalize (l[k]'hkl).1 = x1 at *
          generalize (l[k]'hkl).2.1 = x2 at *
          generalize (l[k]'hkl).2.2.1 = x3 at *
          generalize (l[k]'hkl).2.2.2.1 = x4 at *
          generalize (l[k]'hkl).2.2.2.2 = x5 at *
          generalize (l'[k]'hkl').1 = x1' at *
          generalize (l'[k]'hkl').2.1 = x2' at *
          generalize (l'[k]'hkl').2.2.1 = x3' at *
          generalize (l'[k]'hkl').2.2.2.1 = x4' at *
          generalize (l'[k]'hkl').2.2.2.2 = x5' at *
          clear hin hin2 hc hin' hin2' hc' hp d
          go_wp2
          refine wp_region_cls (by kernel_rfl) (by kernel_rfl) wr.heap.size ?_
          repeat (go_big_quiet_step ((go_at_call 67; exact cls_call (Nat.le_refl _) (EV.out _))))
          refine wpQuiet_nil ?_
          intro _ hw'
          obtain ⟨u, hw''⟩ := hw'
          subst hw''
          clear y1 y2 y3 y4 y5 z1 z2 z3 z4 z5
          go_wp2
          exact ⟨⟨k + 1, by omega, by go_num, Z, hide (Q.out.trans (u.below.mono hqs))⟩, by simp [intOf]; omega⟩
        · have Z : Hid (eqCL l l' = false) := hide (eqCL_no (by rintro rfl; exact hp rfl))
          have d : eqC (l[k]'hkl) (l'[k]'hkl') = false := eqC_no hp
          rw [d] at EV
          generalize (l[k]'hkl).1 = x1 at *
          generalize (l[k]'hkl).2.1 = x2 at *
          generalize (l[k]'hkl).2.2.1 = x3 at *
          generalize (l[k]'hkl).2.2.2.1 = x4 at *
          generalize (l[k]'hkl).2.2.2.2 = x5 at *
          generalize (l'[k]'hkl').1 = x1' at *
          generalize (l'[k]'hkl').2.1 = x2' at *
          generalize (l'[k]'hkl').2.2.1 = x3' at *
          generalize (l'[k]'hkl').2.2.2.1 = x4' at *
          generalize (l'[k]'hkl').2.2.2.2 = x5' at *
          clear hin hin2 hc hin' hin2' hc' hp d
          go_wp2
          refine wp_region_cls (by kernel_rfl) (by kernel_rfl) wr.heap.size ?_
          repeat (go_big_quiet_step ((go_at_call 67; exact cls_call (Nat.le_refl _) (EV.out _))))
          refine wpQuiet_nil ?_
          intro _ hw'
          obtain ⟨u, hw''⟩ := hw'
          subst hw''
          clear y1 y2 y3 y4 y5 z1 z2 z3 z4 z5
          go_wp2
          go_ret
          exact ⟨ret_bool Z.out.symm, Q.out.trans (u.below.mono hqs)⟩
      · obtain rfl : k = n := by omega
        have Z : Hid (eqCL l l' = true) := hide (eqCL_yes (by
          have h := H.out
          rw [List.take_of_length_le (by rw [HN.out]; exact Nat.le_refl _), List.take_of_length_le (by rw [← HN'.out]; exact Nat.le_refl _)] at h
          exact h))
        go_wp2
        go_ret
        exact ⟨ret_bool Z.out.symm, Q.out⟩
  · have Z : Hid (eqCL l l' = false) := hide (eqCL_no (by rintro rfl; exact he rfl))
    have d : ((l.length : Int) != (l'.length : Int)) = true := by simp; omega
    clear he
    go_enter Try.func33, Try.ntmps33
    go_wp2
    go_ret
    exact ⟨ret_bool Z.out.symm, Below.refl _ _⟩
end Go.Proofs.Ytcpalnkcjcgaeaa
