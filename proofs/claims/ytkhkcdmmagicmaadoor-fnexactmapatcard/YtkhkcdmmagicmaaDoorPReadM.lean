/-
  What ReadMap reads, in the reference and in the program.
-/
import Derived.Test.YtkhkcdmmagicmaaDoorPLines
import Derived.Test.YtkhkcdmmagicmaaDoorQRowM
import Derived.Test.YtkhkcdmmagicmaaDoorPMapOkIM
import Derived.Test.YtkhkcdmmagicmaaDoorPMapOkSM
namespace Go.Proofs.YtkhkcdmmagicmaaDoor.M
open Go.RowKit

def pairOf (x : ByteArray) : Pr := ((cutS x 61).1, (cutS x 61).2.1)
def parted (x : ByteArray) : Bool := (cutS x 61).2.2
noncomputable def okR (s : ByteArray) : Bool := (linesS s).1.all parted && (linesS s).2 && mapB ((linesS s).1.map pairOf)
noncomputable def readL (s : ByteArray) : List Pr := if okR s = true then (linesS s).1.map pairOf else []
theorem readL_no {s : ByteArray} (h : okR s = false) : readL s = [] := by unfold readL; rw [h]; rfl
theorem readL_yes {s : ByteArray} (h : okR s = true) : readL s = (linesS s).1.map pairOf := by unfold readL; rw [h]; rfl
theorem okR_open {s : ByteArray} (h : (linesS s).2 = false) : okR s = false := by unfold okR; rw [h]; simp
theorem okR_part {s x : ByteArray} (h : x ∈ (linesS s).1) (hp : parted x = false) : okR s = false := by
  unfold okR
  have : (linesS s).1.all parted = false := by
    rw [← Bool.not_eq_true, List.all_eq_true]
    intro h'
    have := h' x h
    rw [hp] at this
    simp at this
  rw [this]; simp
theorem okR_map {s : ByteArray} (h : mapB ((linesS s).1.map pairOf) = false) : okR s = false := by unfold okR; rw [h]; simp
theorem okR_long {s : ByteArray} (h : 40 < (linesS s).1.length) : okR s = false := okR_map (by
  rw [← Bool.not_eq_true]
  intro h'
  have := (mapB_iff.1 h').1
  rw [List.length_map] at this
  omega)
theorem okR_yes {s : ByteArray} (h1 : (linesS s).1.all parted = true) (h2 : (linesS s).2 = true) (h3 : mapB ((linesS s).1.map pairOf) = true) : okR s = true := by unfold okR; rw [h1, h2, h3]; rfl
theorem all_snoc {l : List ByteArray} {x : ByteArray} (h : l.all parted = true) (hx : parted x = true) : (l ++ [x]).all parted = true := by rw [List.all_append, h]; simp [hx]
theorem pairOf_size (x : ByteArray) (h : x.size ≤ maxLen) : (cutS x 61).1.size ≤ maxLen ∧ (cutS x 61).2.1.size ≤ maxLen := by
  have := cutS_one (s := x) (c := 61)
  omega

theorem SOwn.kept {w w' : World} {B : Nat} {A A' : Option Addr} {cap : Nat} {l : List ByteArray} (h : SOwn w B A cap l) (hg : w.grownBy w' (rowOf A')) (hne : ∀ g, rowOf A = some g → rowOf A' ≠ some g) : SOwn w' B A cap l := by
  refine ⟨h.1, h.2.kept hg ?_⟩
  rw [rowOf_own]
  cases e : rowOf A with
  | none => exact .inl rfl
  | some g => exact .inr (fun x => hne g e x.symm)

theorem rows_apart {w : World} {B : Nat} {A A' A3 : Option Addr} {cap : Nat} {l : List ByteArray} {o : Obj} (h : SOwn w B A cap l) (hne : ∀ g, rowOf A = some g → rowOf A' ≠ some g) (hr : rowOf A3 = rowOf A' ∨ rowOf A3 = some (w.alloc o).heap.size) : ∀ g, rowOf A = some g → rowOf A3 ≠ some g := by
  intro g hg h3
  rcases hr with e | e
  · exact hne g hg (by rw [← e]; exact h3)
  · have := (h.row g hg).2
    rw [e] at h3
    injection h3 with h3
    have h4 : (w.alloc o).heap.size = w.heap.size + 1 := by simp
    omega

set_option maxRecDepth 100000 in
set_option maxHeartbeats 1000000 in
theorem implReadMap_any (s : ByteArray) (w : World) (hs : s.size ≤ 1048576) :
    Calls Tryd.prog 50 #[.string s] w (RetOwnB w.heap.size (readL s) (okR s) w) := by
  have O0 := hide (Own.nil w w.heap.size)
  have B0 := hide (Below.refl w.heap.size w)
  have E0 : Hid (linesS s = ([] ++ (linesS s).1, (linesS s).2)) := hide (by simp)
  go_enter Tryd.func50, Tryd.ntmps50
  go_wp2
  go_loopw [0, 4] (fun sv ov wr => ∃ (r : ByteArray) (ls : List ByteArray) (d : List Pr) (A : Option Addr) (cap : Nat), sv = .string r ∧ ov = .slice A d.length cap ∧ d.length ≤ 40 ∧ ls.length + r.size ≤ s.size ∧ Hid (linesS s = (ls ++ (linesS r).1, (linesS r).2)) ∧ Hid (d = ls.map pairOf ∧ ls.all parted = true) ∧ Hid (Own wr w.heap.size A cap d) ∧ Hid (Below w.heap.size w wr)) (fun sv _ _ => strLen sv)
  case atStart => exact ⟨s, [], [], none, 0, rfl, rfl, by simp, by simp, E0, ⟨rfl, rfl⟩, O0, B0⟩
  case round =>
    clear O0 B0 E0
    obtain ⟨r, ls, d, A, cap, rfl, rfl, hd, hlr, E, D, O, Q⟩ := hrel
    by_cases h0 : r.size = 0
    · have Z : Hid (linesS s = (ls, true)) := hide (by rw [E.out, linesS_none h0]; simp)
      obtain rfl := size_zero h0
      go_wp2_with fail
      refine (implMapOk_any A d cap wr (by unfold maxLen; omega) O.out.pin).mono ?_
      rintro e w1 ⟨rfl, b1⟩
      have O1 := hide (O.out.below b1)
      have Q1 := hide (Q.out.trans (b1.mono Q.out.size))
      clear b1 O Q
      cases hm : mapB d
      · have Y := hide (okR_map (s := s) (by rw [Z.out]; show mapB (ls.map pairOf) = false; rw [← D.out.1]; exact hm))
        go_wp2
        go_ret2
        exact retOwnB_no (readL_no Y.out) Y.out Q1.out
      · have Y := hide (okR_yes (s := s) (by rw [Z.out]; exact D.out.2) (by rw [Z.out]) (by rw [Z.out]; show mapB (ls.map pairOf) = true; rw [← D.out.1]; exact hm))
        have X : Hid (readL s = d) := hide (by rw [readL_yes Y.out, Z.out, D.out.1])
        go_wp2
        go_ret2
        exact ⟨A, cap, by rw [X.out]; exact O1.out.cap_le, by rw [X.out, Y.out]; rfl, by rw [X.out]; exact O1.out, Q1.out⟩
    · have ne := ne_empty h0
      have H0 := hide h0
      clear h0
      go_wp2_with fail
      refine (stringsCut_any r 10 wr (by unfold maxLen; omega)).mono ?_
      rintro e w1 ⟨rfl, q1⟩
      have O1 := hide (O.out.below (q1.below _))
      have Q1 := hide (Q.out.trans (q1.below _))
      have hsz := (cutS_one (s := r) (c := 10)).1
      clear q1 O Q
      go_wp2_with fail
      refine (stringsCut_any (cutS r 10).1 61 w1 (by unfold maxLen; omega)).mono ?_
      rintro e w2 ⟨rfl, q2⟩
      have O2 := hide (O1.out.below (q2.below _))
      have Q2 := hide (Q1.out.trans (q2.below _))
      clear q2 O1 Q1
      cases hc : (cutS r 10).2.2
      · have Y := hide (okR_open (s := s) (by rw [E.out, linesS_last H0.out hc]))
        go_wp2
        go_ret2
        exact retOwnB_no (readL_no Y.out) Y.out Q2.out
      · have Z : Hid (linesS s = ((ls ++ [(cutS r 10).1]) ++ (linesS (cutS r 10).2.1).1, (linesS (cutS r 10).2.1).2)) := hide (by rw [E.out, linesS_more H0.out hc]; simp)
        have hrr := cutS_rest hc
        clear hc E
        generalize (cutS r 10).1 = x at *
        generalize (cutS r 10).2.1 = y at *
        have hps := pairOf_size x (by unfold maxLen; omega)
        cases hp : (cutS x 61).2.2
        · have Y := hide (okR_part (s := s) (x := x) (by rw [Z.out]; simp) hp)
          go_wp2
          go_ret2
          exact retOwnB_no (readL_no Y.out) Y.out Q2.out
        · by_cases h40 : d.length = 40
          · have Y := hide (okR_long (s := s) (by
              rw [Z.out]
              have : ls.length = 40 := by rw [← h40, D.out.1, List.length_map]
              simp only [List.length_append, List.length_singleton]
              omega))
            have e40 : ((d.length : Int) == 40) = true := by rw [beq_iff_eq]; omega
            go_wp2
            go_ret2
            exact retOwnB_no (readL_no Y.out) Y.out Q2.out
          · have e40 : ((d.length : Int) == 40) = false := by rw [beq_eq_false_iff_ne]; omega
            have D2 : Hid (d ++ [((cutS x 61).1, (cutS x 61).2.1)] = (ls ++ [x]).map pairOf ∧ (ls ++ [x]).all parted = true) := hide ⟨by rw [D.out.1]; simp [pairOf], all_snoc D.out.2 hp⟩
            have hl1 : (ls ++ [x]).length = ls.length + 1 := by simp
            clear D
            generalize (cutS x 61).1 = k at *
            generalize (cutS x 61).2.1 = v at *
            go_wp2_with (at_builtin; refine wpList_app (l := d) (l' := [(k, v)]) 24 Tryd.underlying24 rfl (.tmp 36) (.tmp 40) rfl rfl rfl rfl rfl (O2.out.alloc _) (PIn.one w2 k v hps.1 hps.2 _) (Nat.le_trans Q2.out.size (by simp)) (by simp; omega) ?_; intro A3 cap3 w3 own3 g3 r3; have B3 := hide (Q2.out.trans (((Below.refl _ w2).alloc Q2.out.size (.cells #[.string k, .string v] 55)).trans ((O2.out.alloc (.cells #[.string k, .string v] 55)).grownBelow (by rw [rowOf_own]; exact g3) (Nat.le_trans Q2.out.size (by simp))))); have O3 := hide own3; clear own3 g3)
            go_roundw
            case rel => exact ⟨y, ls ++ [x], d ++ [(k, v)], A3, cap3, rfl, by rw [show (d ++ [(k, v)]).length = d.length + 1 by simp], by simp; omega, by rw [hl1]; omega, Z, D2, O3, B3⟩
            case measure => simp only [strLen_s]; omega

set_option maxRecDepth 100000 in
set_option maxHeartbeats 1000000 in
theorem specReadMap_any (s : ByteArray) (w : World) (hs : s.size ≤ 1048576) :
    Calls Tryd.prog 47 #[.string s] w (RetOwnB w.heap.size (readL s) (okR s) w) := by
  have O0 := hide (Own.built w w.heap.size (Nat.le_refl _))
  have B0 := hide ((Below.refl w.heap.size w).alloc (Nat.le_refl _) (.cells #[] 55))
  go_enter Tryd.func47, Tryd.ntmps47
  go_wp2_with fail
  refine (l1Lines_any s _ hs).mono ?_
  rintro e w1 ⟨AL, capL, rfl, so, b1, hll⟩
  have S1 := hide so
  have O1 := hide (O0.out.below b1)
  have B1 := hide (B0.out.trans (b1.mono B0.out.size))
  have N1 : Hid (∀ g, rowOf AL = some g → rowOf (some (⟨w.heap.size, 0, none⟩ : Addr)) ≠ some g) := hide (fun g hg h => by
    have h1 := (so.row g hg).1
    have : w.heap.size = g := by simpa [rowOf] using h
    simp at h1
    omega)
  have EL : Hid (linesS s = ((linesS s).1, (linesS s).2)) := hide rfl
  have S2 := hide (S1.out.more (B' := w.heap.size) (by simp))
  clear so b1 O0 B0 S1
  generalize (linesS s).1 = ls at *
  generalize (linesS s).2 = en at *
  go_wp2
  go_loopw [4, 7] (fun ov iv wr => ∃ (k : Nat) (d : List Pr) (A : Option Addr) (cap : Nat), k ≤ ls.length ∧ Hid (d.length = k) ∧ iv = .int .i64 k ∧ ov = .slice A d.length cap ∧ Hid (d = (ls.take k).map pairOf ∧ (ls.take k).all parted = true) ∧ Hid (Own wr w.heap.size A cap d) ∧ Hid (SOwn wr w.heap.size AL capL ls) ∧ Hid (∀ g, rowOf AL = some g → rowOf A ≠ some g) ∧ Hid (Below w.heap.size w wr)) (fun _ i _ => ls.length - (intOf i).toNat)
  case atStart => exact ⟨0, [], _, 0, Nat.zero_le _, rfl, rfl, rfl, ⟨rfl, rfl⟩, O1, S2, N1, B1⟩
  case round =>
    clear O1 S2 N1 B1
    obtain ⟨k, d, A, cap, hk, hdk, rfl, rfl, D, O, S, N, Q⟩ := hrel
    by_cases hlt : k < ls.length
    · obtain ⟨g, rfl, hg, c⟩ := S.out.cell hlt
      have hx : (ls[k]'hlt).size ≤ maxLen := S.out.1 _ (List.getElem_mem _)
      have HT := hide (List.take_succ_eq_append_getElem hlt)
      have HM : Hid ((ls[k]'hlt) ∈ ls) := hide (List.getElem_mem _)
      generalize (ls[k]'hlt) = x at *
      go_wp2_with fail
      refine (l1Cut_any x 61 61 wr hx rfl).mono ?_
      rintro e w2 ⟨rfl, q2⟩
      have O2 := hide (O.out.below (q2.below _))
      have S2 := hide (S.out.below (q2.below _))
      have Q2 := hide (Q.out.trans (q2.below _))
      clear q2 O Q S c hg
      have hps := pairOf_size x hx
      cases hp : (cutS x 61).2.2
      · have Y := hide (okR_part (s := s) (x := x) (by rw [EL.out]; exact HM.out) hp)
        go_wp2
        go_ret2
        exact retOwnB_no (readL_no Y.out) Y.out Q2.out
      · have D2 : Hid (d ++ [((cutS x 61).1, (cutS x 61).2.1)] = (ls.take (k + 1)).map pairOf ∧ (ls.take (k + 1)).all parted = true) := hide (by rw [HT.out]; exact ⟨by rw [D.out.1]; simp [pairOf], all_snoc D.out.2 hp⟩)
        clear D HT HM
        generalize (cutS x 61).1 = y at *
        generalize (cutS x 61).2.1 = v at *
        go_wp2_with (at_builtin; refine wpList_app (l := d) (l' := [(y, v)]) 24 Tryd.underlying24 rfl (.tmp 34) (.tmp 38) rfl rfl rfl rfl rfl (O2.out.alloc _) (PIn.one w2 y v hps.1 hps.2 _) (Nat.le_trans Q2.out.size (by simp)) (by have := hdk.out; simp; omega) ?_; intro A3 cap3 w3 own3 g3 r3; have B3 := hide (Q2.out.trans (((Below.refl _ w2).alloc Q2.out.size (.cells #[.string y, .string v] 55)).trans ((O2.out.alloc (.cells #[.string y, .string v] 55)).grownBelow (by rw [rowOf_own]; exact g3) (Nat.le_trans Q2.out.size (by simp))))); have O3 := hide own3; have S3 := hide (SOwn.kept (S2.out.alloc (.cells #[.string y, .string v] 55)) g3 N.out); have N3 := hide (rows_apart S2.out N.out r3); clear own3 g3 r3)
        go_roundw
        case rel => exact ⟨k + 1, d ++ [(y, v)], A3, cap3, by omega, hide (by rw [List.length_append, hdk.out]; rfl), by go_num, by rw [show (d ++ [(y, v)]).length = d.length + 1 by simp], D2, O3, S3, N3, B3⟩
        case measure => simp [intOf]; omega
    · obtain rfl : k = ls.length := by omega
      have D2 : Hid (d = ls.map pairOf ∧ ls.all parted = true) := hide (by have := D.out; rw [List.take_length] at this; exact this)
      clear D N S
      cases en
      · have Y := hide (okR_open (s := s) (by rw [EL.out]))
        go_wp2
        go_ret2
        exact retOwnB_no (readL_no Y.out) Y.out Q.out
      · go_wp2_with fail
        refine (specMapOk_any A d cap wr _ (by have := hdk.out; unfold maxLen; omega) O.out.pin).mono ?_
        rintro e w2 ⟨rfl, q2⟩
        have O2 := hide (O.out.below (q2.below _))
        have Q2 := hide (Q.out.trans (q2.below _))
        clear q2 O Q
        cases hm : mapB d
        · have Y := hide (okR_map (s := s) (by rw [EL.out]; show mapB (ls.map pairOf) = false; rw [← D2.out.1]; exact hm))
          go_wp2
          go_ret2
          exact retOwnB_no (readL_no Y.out) Y.out Q2.out
        · have Y := hide (okR_yes (s := s) (by rw [EL.out]; exact D2.out.2) (by rw [EL.out]) (by rw [EL.out]; show mapB (ls.map pairOf) = true; rw [← D2.out.1]; exact hm))
          have X : Hid (readL s = d) := hide (by rw [readL_yes Y.out, EL.out, D2.out.1])
          go_wp2
          go_ret2
          exact ⟨A, cap, by rw [X.out]; exact O2.out.cap_le, by rw [X.out, Y.out]; rfl, by rw [X.out]; exact O2.out, Q2.out⟩
end Go.Proofs.YtkhkcdmmagicmaaDoor.M
