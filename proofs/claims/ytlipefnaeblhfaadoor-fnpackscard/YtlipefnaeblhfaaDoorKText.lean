/-
  A pack's text: as plain mathematics; what spec.l10Text and spec.PackText answer.
-/
import Derived.Test.YtlipefnaeblhfaaDoorKDec
import Derived.Test.YtlipefnaeblhfaaDoorQTexts
import Derived.Test.YtlipefnaeblhfaaDoorPCls
namespace Go.Proofs.YtlipefnaeblhfaaDoor
open Go.RowKit

/-- an object's piece -/
def pieceT (t : ByteArray) : ByteArray := decB t.size ++ ⟨#[10]⟩ ++ t
/-- the pieces of objects, one behind the other -/
def packL : List Pr → ByteArray
  | [] => ByteArray.empty
  | p :: r => pieceT p.2 ++ packL r
theorem packL_list : ∀ l : List Pr, (packL l).data.toList = l.flatMap fun p => (pieceT p.2).data.toList
  | [] => by simp [packL]
  | p :: r => by simp [packL, packL_list r]
theorem packL_app (l l' : List Pr) : packL (l ++ l') = packL l ++ packL l' := Go.WideShapes.bytes_inj (by simp [packL_list])
theorem packL_next {l : List Pr} {k : Nat} (h : k < l.length) : packL (l.take (k + 1)) = packL (l.take k) ++ decB l[k].2.size ++ ⟨#[10]⟩ ++ l[k].2 := by
  rw [List.take_succ_eq_append_getElem h, packL_app]
  exact Go.WideShapes.bytes_inj (by simp [packL, pieceT])
theorem pieceT_size (t : ByteArray) : (pieceT t).size ≤ 2 * t.size + 2 := by
  have := decB_size t.size
  have h1 : (ByteArray.mk #[10]).size = 1 := rfl
  simp only [pieceT, ByteArray.size_append]
  omega
theorem packL_size : ∀ l : List Pr, (∀ p ∈ l, p.2.size ≤ 2000) → (packL l).size ≤ 4002 * l.length
  | [], _ => by simp [packL]
  | p :: r, h => by
    have h1 := packL_size r (fun q hq => h q (List.mem_cons_of_mem _ hq))
    have h2 := pieceT_size p.2
    have h3 := h p (List.mem_cons_self ..)
    simp only [packL, ByteArray.size_append, List.length_cons]
    omega
theorem objs_texts {l : List Pr} (h : objsB l = true) : ∀ p ∈ l, p.2.size ≤ 2000 := fun p hp => by
  obtain ⟨i, hi, rfl⟩ := List.mem_iff_getElem.1 hp
  exact ((objsB_iff.1 h).2.1 i hi hi).1
/-- the text of a pack; nothing of objects that are not right -/
noncomputable def packT (l : List Pr) : ByteArray := if objsB l = true then packL l else ByteArray.empty
theorem packT_yes {l : List Pr} (h : objsB l = true) : packT l = packL l := if_pos h
theorem packT_no {l : List Pr} (h : objsB l = false) : packT l = ByteArray.empty := if_neg (by rw [h]; decide)

set_option maxRecDepth 100000 in
set_option maxHeartbeats 1000000 in
theorem l10Text_any (A : Option Addr) (l : List Pr) (cap : Nat) (w : World) (ho : objsB l = true) (hin : PIn w w.heap.size A l) :
    Calls Tryd.prog 22 #[.slice A l.length cap] w fun e w' => e = .returned (.string (packL l)) ∧ Below w.heap.size w w' := by
  have h60 := (objsB_iff.1 ho).1
  have TS := hide (objs_texts ho)
  have IN := hide hin
  have E0 : Hid (packL (l.take 0) = ByteArray.empty) := hide rfl
  clear hin ho
  generalize hn : l.length = n at *
  have HN := hide hn
  clear hn
  go_enter Tryd.func22, Tryd.ntmps22
  go_wp2
  go_loopw [3, 4] (fun sv iv wr => ∃ k : Nat, k ≤ n ∧ sv = .string (packL (l.take k)) ∧ iv = .int .i64 k ∧ Hid (Below w.heap.size w wr)) (fun _ i _ => n - (intOf i).toNat)
  case atStart => exact ⟨0, Nat.zero_le _, rfl, rfl, Below.refl _ _⟩
  case round =>
    clear E0
    obtain ⟨k, hk, rfl, rfl, Q⟩ := hrel
    have hqs := Q.out.size
    by_cases hlt : k < n
    · have hkl : k < l.length := by rw [HN.out]; omega
      have in1 := (IN.out.below Q.out).more hqs
      obtain ⟨b, off, rfl, hbB, hc⟩ := in1.2 (by omega)
      obtain ⟨_, c2⟩ := hc k hkl
      have ht := TS.out _ (List.getElem_mem hkl)
      have ST := hide (packL_next hkl)
      have zs := packL_size (l.take k) (fun p hp => TS.out p (List.mem_of_mem_take hp))
      have zl : (l.take k).length ≤ 60 := by rw [List.length_take]; omega
      have zd := decB_size (l[k]'hkl).2.size
      have D := hide (fun W => l1Dec_any (l[k]'hkl).2.size W (by omega))
      generalize (l[k]'hkl).2 = t at *
      generalize packL (l.take k) = p at *
      generalize decB t.size = d at *
      have z1 : p.size ≤ 300000 := by omega
      have zz1 : p.size + d.size ≤ 310000 := by omega
      have m1 : p.size + d.size ≤ maxLen := by unfold maxLen; omega
      have z2 : (p ++ d).size ≤ 310000 := by rw [ByteArray.size_append]; omega
      have z3 : (p ++ d ++ ⟨#[10]⟩).size ≤ 320000 := by rw [ByteArray.size_append]; show _ + 1 ≤ _; omega
      have m2 : (p ++ d).size + (⟨#[10]⟩ : ByteArray).size ≤ maxLen := by unfold maxLen; show _ + 1 ≤ _; omega
      have m3 : (p ++ d ++ ⟨#[10]⟩).size + t.size ≤ maxLen := by unfold maxLen; omega
      have z4 : (p ++ d ++ ⟨#[10]⟩ ++ t).size ≤ 330000 := by rw [ByteArray.size_append]; omega
      have y2 := cls_cell (B := wr.heap.size) hbB c2
      clear in1 hc zs zl zd
      go_wp2
      refine wp_region_cls (by kernel_rfl) (by kernel_rfl) wr.heap.size ?_
      repeat (go_big_quiet_step ((go_at_call 41; exact cls_call (Nat.le_refl _) (D.out _))))
      refine wpQuiet_nil ?_
      intro _ hw'
      obtain ⟨u, hw''⟩ := hw'
      subst hw''
      have Q1 := hide (Q.out.trans (u.below.mono hqs))
      go_wp2
      go_roundw
      case rel => exact ⟨k + 1, by omega, by rw [ST.out], by go_num, Q1⟩
      case measure => simp [intOf]; omega
    · have E : Hid (packL (l.take k) = packL l) := hide (by rw [List.take_of_length_le (by rw [HN.out]; omega)])
      have hgt : ¬ ((k : Int) < (n : Int)) := by omega
      clear hlt
      go_wp2
      go_ret
      exact ⟨ret_str E.out, Q.out⟩

theorem specPackText_any (A : Option Addr) (l : List Pr) (cap : Nat) (w : World) (hl : l.length ≤ maxLen) (hin : PIn w w.heap.size A l) :
    Calls Tryd.prog 8 #[.slice A l.length cap] w fun e w' => e = .returned (.string (packT l)) ∧ Below w.heap.size w w' := by
  have R := hide (specObjsOk_any A l cap w hl hin)
  have IN := hide hin
  clear hin hl
  cases hb : objsB l
  · have E := hide (packT_no hb)
    rw [hb] at R
    go_enter Tryd.func8, Tryd.ntmps8
    go_wp2_with fail
    refine R.out.mono ?_
    rintro e w1 ⟨rfl, b1⟩
    have B1 := hide b1
    clear b1 R
    go_wp2
    go_ret
    exact ⟨ret_str E.out.symm, B1.out⟩
  · have E := hide (packT_yes hb)
    rw [hb] at R
    go_enter Tryd.func8, Tryd.ntmps8
    go_wp2_with fail
    refine R.out.mono ?_
    rintro e w1 ⟨rfl, b1⟩
    have B1 := hide b1
    clear b1 R
    go_wp2_with fail
    refine (l10Text_any A l cap w1 hb ((IN.out.below B1.out).more B1.out.size)).mono ?_
    rintro e w2 ⟨rfl, b2⟩
    have B2 := hide (B1.out.trans (b2.mono B1.out.size))
    clear b2
    go_wp2
    go_ret
    exact ⟨ret_str E.out.symm, B2.out⟩
end Go.Proofs.YtlipefnaeblhfaaDoor
