/-
  What impl.filesOk, impl.dataOf and impl.files' are answer.
-/
import Derived.Test.YtblggbihnglipaaDFit
import Derived.Test.YtblggbihnglipaaPFind
namespace Go.Proofs.Ytblggbihnglipaa
open Go.RowKit Go.Maps

/-- the names of the first k files are right, and their bytes are few enough -/
def nmTo (l : List Pr) (k : Nat) : Prop := (∀ i (h : i < l.length), i < k → nameP l[i].1) ∧ sumF (l.take k) ≤ 200000
theorem nmTo_next {l : List Pr} {k : Nat} (hk : k < l.length) (h : nmTo l k) (h1 : nameP l[k].1) (h2 : sumF (l.take k) + l[k].2.size ≤ 200000) : nmTo l (k + 1) := by
  refine ⟨fun i hi hik => ?_, by rw [sumF_take_next hk]; exact h2⟩
  rcases Nat.lt_or_ge i k with g | g
  · exact h.1 i hi g
  · obtain rfl : i = k := by omega
    exact h1
theorem nm_end {l : List Pr} (h60 : l.length ≤ 60) (h : nmTo l l.length) : filesB l = risesB l := by
  have hs := h.2
  rw [List.take_length] at hs
  cases e : risesB l
  · exact filesB_no (fun hp => by rw [risesB_yes hp.2.2.1] at e; cases e)
  · refine filesB_yes ⟨h60, fun p hp => ?_, risesB_iff.1 e, hs⟩
    obtain ⟨i, hi, rfl⟩ := List.mem_iff_getElem.1 hp
    exact h.1 i hi hi
set_option maxRecDepth 100000 in
set_option maxHeartbeats 2000000 in
theorem filesOk_any (A : Option Addr) (l : List Pr) (cap : Nat) (w : World) (hl : l.length ≤ maxLen) (hin : PIn w w.heap.size A l) (hd : sumF l ≤ 1099511627776) :
    Calls Try.prog 47 #[.slice A l.length cap] w fun e w' => e = .returned (.bool (filesB l)) ∧ Below w.heap.size w w' := by
  have HL := hide hl
  unfold maxLen at hl
  by_cases h60 : 60 < l.length
  · have E := hide (filesB_no (l := l) (fun h => by have := h.1; omega))
    generalize l.length = n at *
    have d1 : (60 : Int) < (n : Int) := by omega
    go_enter Try.func47, Try.ntmps47
    go_wp2
    go_ret
    exact ⟨ret_bool E.out.symm, Below.refl _ _⟩
  · have IN := hide hin
    have SD := hide hd
    clear hd
    have d0 : ¬ ((60 : Int) < (l.length : Int)) := by omega
    have RI := hide (fun W (hb : Below w.heap.size w W) => rises_any A l cap W HL.out ((hin.below hb).more hb.size))
    have H60 : Hid (l.length ≤ 60) := hide (by omega)
    clear hin
    generalize hn : l.length = n at *
    have HN := hide hn
    clear hn
    go_enter Try.func47, Try.ntmps47
    go_wp2
    go_loopw [3, 11] (fun sv iv wr => ∃ k : Nat, k ≤ n ∧ sv = .int .i64 (sumF (l.take k) : Int) ∧ iv = .int .i64 k ∧ Hid (nmTo l k) ∧ Hid (Below w.heap.size w wr)) (fun _ i _ => n - (intOf i).toNat)
    case atStart => exact ⟨0, Nat.zero_le _, rfl, rfl, hide ⟨fun _ _ h => absurd h (by omega), by show sumF [] ≤ 200000; rw [sumF_nil]; omega⟩, Below.refl _ _⟩
    case round =>
      obtain ⟨k, hk, rfl, rfl, F, Q⟩ := hrel
      have hqs := Q.out.size
      by_cases hlt : k < n
      · have hkl : k < l.length := by rw [HN.out]; omega
        have in1 := (IN.out.below Q.out).more hqs
        have s1 := (in1.1 k hkl).1
        have s2 := (in1.1 k hkl).2
        obtain ⟨b, off, rfl, hbB, hc⟩ := in1.2 (by omega)
        obtain ⟨c1, c2⟩ := hc k hkl
        have ST := hide (sumF_take_next hkl)
        have TL := hide (sumF_take_le l (k + 1))
        have hsm := F.out.2
        have zz : sumF (l.take k) + (l[k]'hkl).2.size ≤ 1099511627776 := by rw [← ST.out]; exact Nat.le_trans TL.out SD.out
        have NM := hide (fun h => fil_name hkl h)
        have NX := hide (fun h1 h2 => nmTo_next hkl F.out h1 h2)
        have NA := hide (fun W => nameOk_any (l[k]'hkl).1 W s1)
        unfold maxLen at s1 s2
        have XB := heap_alloc_new wr (.cells #[.string (l[k]'hkl).1, .string (l[k]'hkl).2] 86)
        have bx := (Below.refl wr.heap.size wr).alloc (Nat.le_refl _) (.cells #[.string (l[k]'hkl).1, .string (l[k]'hkl).2] 86)
        have Q1 := hide (Q.out.trans (bx.mono hqs))
        clear in1 hc bx
        by_cases hnm : nameP (l[k]'hkl).1
        · rw [nameB_yes hnm] at NA
          by_cases hss : sumF (l.take k) + (l[k]'hkl).2.size ≤ 200000
          · have FN := hide (NX.out hnm hss)
            clear NX NM TL F
            generalize (l[k]'hkl).1 = x at *
            generalize (l[k]'hkl).2 = t at *
            generalize sumF (l.take k) = sm at *
            have g1 : decide ((200000 : Int) < (sm : Int) + (t.size : Int)) = false := decide_eq_false (by omega)
            have g2 : decide (200000 < sm + t.size) = false := decide_eq_false (by omega)
            obtain ⟨w3, hw3⟩ : ∃ W, wr.alloc (.cells #[.string x, .string t] 86) = W := ⟨_, rfl⟩
            rw [hw3] at XB Q1
            have y0 := cell_of_row _ _ 0 _ _ _ XB
            have y1 := cell_of_row _ _ 1 _ _ _ XB
            clear XB
            go_wp2_with (go_at_call 80; refine (NA.out _).mono ?_; rintro e w' ⟨rfl, rfl⟩)
            go_roundw
            case rel => exact ⟨k + 1, by omega, by rw [ST.out]; go_num, by go_num, FN, Q1⟩
            case measure => simp [intOf]; omega
          · have E := hide (filesB_no (l := l) (fun hp => by have h1 := hp.2.2.2; have h2 := TL.out; rw [ST.out] at h2; omega))
            clear NX NM TL F
            generalize (l[k]'hkl).1 = x at *
            generalize (l[k]'hkl).2 = t at *
            generalize sumF (l.take k) = sm at *
            have g1 : decide ((200000 : Int) < (sm : Int) + (t.size : Int)) = true := decide_eq_true (by omega)
            have g2 : decide (200000 < sm + t.size) = true := decide_eq_true (by omega)
            obtain ⟨w3, hw3⟩ : ∃ W, wr.alloc (.cells #[.string x, .string t] 86) = W := ⟨_, rfl⟩
            rw [hw3] at XB Q1
            have y0 := cell_of_row _ _ 0 _ _ _ XB
            have y1 := cell_of_row _ _ 1 _ _ _ XB
            clear XB
            go_wp2_with (go_at_call 80; refine (NA.out _).mono ?_; rintro e w' ⟨rfl, rfl⟩)
            go_ret
            exact ⟨ret_bool E.out.symm, Q1.out⟩
        · have E := hide (filesB_no (NM.out hnm))
          rw [nameB_no hnm] at NA
          clear NX NM TL F
          generalize (l[k]'hkl).1 = x at *
          generalize (l[k]'hkl).2 = t at *
          generalize sumF (l.take k) = sm at *
          obtain ⟨w3, hw3⟩ : ∃ W, wr.alloc (.cells #[.string x, .string t] 86) = W := ⟨_, rfl⟩
          rw [hw3] at XB Q1
          have y0 := cell_of_row _ _ 0 _ _ _ XB
          have y1 := cell_of_row _ _ 1 _ _ _ XB
          clear XB
          go_wp2_with (go_at_call 80; refine (NA.out _).mono ?_; rintro e w' ⟨rfl, rfl⟩)
          go_ret
          exact ⟨ret_bool E.out.symm, Q1.out⟩
      · have ek : k = n := by omega
        have F2 := F.out
        have hgt : ¬ ((k : Int) < (n : Int)) := by omega
        have FE := hide (nm_end (by rw [HN.out]; exact H60.out) (by rw [HN.out, ← ek]; exact F2))
        have R := hide (RI.out wr Q.out)
        clear hlt F F2 RI
        go_wp2_with (go_at_call 81; refine R.out.mono ?_; rintro e w' ⟨rfl, hb⟩)
        go_ret
        exact ⟨ret_bool FE.out.symm, Q.out.trans (hb.mono hqs)⟩
theorem dataOf_any (A : Option Addr) (l : List Pr) (cap : Nat) (key : ByteArray) (w : World) (hl : l.length ≤ 65536) (hin : PIn w w.heap.size A l) (hr : risesTo l l.length) :
    Calls Try.prog 56 #[.slice A l.length cap, .string key] w fun e w' => e = .returned (.tuple #[.string (valOf l key), .bool (hasB l key)]) ∧ Below w.heap.size w w' := by
  have R := hide (place_any A l cap key w hl hin hr)
  cases hb : hasB l key
  · rw [hb] at R
    have V := hide (valOf_no hb)
    clear hin hr hb
    generalize l.length = n at *
    go_enter Try.func56, Try.ntmps56
    go_wp2_with (go_at_call 84; refine R.out.mono ?_; rintro e w' ⟨rfl, hb⟩)
    go_ret2
    exact ⟨by rw [V.out]; rfl, hb⟩
  · rw [hb] at R
    obtain ⟨h1, h2⟩ := hasB_iff.1 hb
    have V := hide (valOf_yes h1 h2)
    obtain ⟨b, off, rfl, hbB, hc⟩ := hin.2 (by omega)
    obtain ⟨c1, c2⟩ := hc _ h1
    generalize (l[atN l key]'h1).2 = v at *
    generalize atN l key = j at *
    have hj : (j : Int) < (l.length : Int) := by omega
    clear hin hr hb hc c1 h2
    go_enter Try.func56, Try.ntmps56
    go_wp2_with (go_at_call 84; refine R.out.mono ?_; rintro e w' ⟨rfl, hb⟩; have c2' := (hb.cell (p := ⟨b, off + j * 2 + 1, none⟩) hbB).trans c2)
    go_ret2
    exact ⟨by rw [V.out]; rfl, hb⟩
end Go.Proofs.Ytblggbihnglipaa
