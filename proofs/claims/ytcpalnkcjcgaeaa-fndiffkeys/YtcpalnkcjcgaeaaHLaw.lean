/-
  What the laws' own helpers on changes answer: szChange, toChange, eqChange, szChangeS, toChangeS, eqChangeS; an argument that is a list of changes, opened.
-/
import Derived.Test.YtcpalnkcjcgaeaaHMem
import Derived.Test.YtcpalnkcjcgaeaaLPair
import Derived.Test.YtcpalnkcjcgaeaaLPairS
import Derived.Test.YtcpalnkcjcgaeaaLOpen
import Derived.Deep.Slices
namespace Go.Proofs.Ytcpalnkcjcgaeaa
open Go.RowKit

def eqC (p q : Ch) : Bool := decide (p = q)
theorem eqC_yes {p q : Ch} (h : p = q) : eqC p q = true := decide_eq_true h
theorem eqC_no {p q : Ch} (h : ¬ p = q) : eqC p q = false := decide_eq_false h
def eqCL (l l' : List Ch) : Bool := decide (l = l')
theorem eqCL_yes {p q : List Ch} (h : p = q) : eqCL p q = true := decide_eq_true h
theorem eqCL_no {p q : List Ch} (h : ¬ p = q) : eqCL p q = false := decide_eq_false h
theorem eqCL_self (p : List Ch) : eqCL p p = true := eqCL_yes rfl
theorem neB_yes {a b : Bool} (h : ¬ a = b) : (a != b) = true := by cases a <;> cases b <;> simp_all
theorem eqBf {a b : Bool} (h : ¬ a = b) : (a == b) = false := by cases a <;> cases b <;> simp_all

set_option maxHeartbeats 1000000 in
theorem szChange_any (a b c : ByteArray) (p q : Bool) (left : Int) (w : World) (ha : a.size ≤ maxLen) (hb : b.size ≤ maxLen) (hc : c.size ≤ maxLen) (h0 : 0 ≤ left) (h1 : left ≤ 1048576) :
    Calls Try.prog 70 #[.agg #[.string a, .string b, .string c, .bool p, .bool q], .int .i64 left] w (SzRet 0 left w) := by
  unfold maxLen at ha hb hc
  by_cases c1 : left - a.size < 0
  · go_enter Try.func70, Try.ntmps70
    go_wp2
    go_ret
    exact ⟨.inl rfl, (Below.refl _ _).alloc (Nat.le_refl _) _⟩
  · by_cases c2 : left - a.size - b.size < 0
    · go_enter Try.func70, Try.ntmps70
      go_wp2
      go_ret
      exact ⟨.inl rfl, (Below.refl _ _).alloc (Nat.le_refl _) _⟩
    · by_cases c3 : left - a.size - b.size - c.size < 0
      · go_enter Try.func70, Try.ntmps70
        go_wp2
        go_ret
        exact ⟨.inl rfl, (Below.refl _ _).alloc (Nat.le_refl _) _⟩
      · go_enter Try.func70, Try.ntmps70
        go_wp2
        go_ret
        exact ⟨.inr ⟨left - a.size - b.size - c.size, by omega, by omega, rfl⟩, (Below.refl _ _).alloc (Nat.le_refl _) _⟩

set_option maxRecDepth 100000 in
set_option maxHeartbeats 1000000 in
theorem toChange_any (a b c : ByteArray) (p q : Bool) (w : World) :
    Calls Try.prog 71 #[.agg #[.string a, .string b, .string c, .bool p, .bool q]] w fun e w' => e = .returned (.agg #[.string a, .string b, .string c, .bool p, .bool q]) ∧ Below w.heap.size w w' := by
  go_enter Try.func71, Try.ntmps71
  go_wp2
  exact bodyPost_ret (v := .agg #[.string a, .string b, .string c, .bool p, .bool q]) (by simp [results, Try.results71, go_sem]) rfl ⟨rfl, (((Below.refl _ _).alloc (Nat.le_refl _) _).alloc (by simp) _).alloc (by simp; omega) _⟩

set_option maxHeartbeats 1000000 in
theorem eqChange_any (a b c : ByteArray) (p q : Bool) (a' b' c' : ByteArray) (p' q' : Bool) (w : World) :
    Calls Try.prog 67 #[.agg #[.string a, .string b, .string c, .bool p, .bool q], .agg #[.string a', .string b', .string c', .bool p', .bool q']] w fun e w' => e = .returned (.bool (eqC (a, b, c, p, q) (a', b', c', p', q'))) ∧ (w.alloc (.cells #[.string a, .string b, .string c, .bool p, .bool q] 45)).alloc (.cells #[.string a', .string b', .string c', .bool p', .bool q'] 45) = w' := by
  by_cases h1 : a = a'
  · subst h1
    by_cases h2 : b = b'
    · subst h2
      by_cases h3 : c = c'
      · subst h3
        by_cases h4 : p = p'
        · subst h4
          by_cases h5 : q = q'
          · subst h5
            have e4 : (p != p) = false := by simp
            have e5 : (q != q) = false := by simp
            go_enter Try.func67, Try.ntmps67
            go_wp2
            go_ret
            exact ⟨ret_bool (eqC_yes rfl).symm, rfl⟩
          · have e4 : (p != p) = false := by simp
            have e5 := eqBf h5
            have Z := hide h5
            clear h5
            go_enter Try.func67, Try.ntmps67
            go_wp2
            go_ret
            exact ⟨ret_bool (eqC_no (by simp [Z.out])).symm, rfl⟩
        · have e4 := eqBf h4
          have Z := hide h4
          clear h4
          go_enter Try.func67, Try.ntmps67
          go_wp2
          go_ret
          exact ⟨ret_bool (eqC_no (by simp [Z.out])).symm, rfl⟩
      · have hb := eqS_no h3
        have Z := hide h3
        clear h3
        go_enter Try.func67, Try.ntmps67
        go_wp2
        go_ret
        exact ⟨ret_bool (eqC_no (by simp [Z.out])).symm, rfl⟩
    · have hb := eqS_no h2
      have Z := hide h2
      clear h2
      go_enter Try.func67, Try.ntmps67
      go_wp2
      go_ret
      exact ⟨ret_bool (eqC_no (by simp [Z.out])).symm, rfl⟩
  · have hb := eqS_no h1
    have Z := hide h1
    clear h1
    go_enter Try.func67, Try.ntmps67
    go_wp2
    go_ret
    exact ⟨ret_bool (eqC_no (by simp [Z.out])).symm, rfl⟩

set_option maxRecDepth 100000 in
set_option maxHeartbeats 1000000 in
theorem szChangeS_any (A : Option Addr) (l : List Ch) (cap : Nat) (left : Int) (w : World) (hl : l.length ≤ maxLen) (hin : HIn w w.heap.size A l) (h0 : 0 ≤ left) (h1 : left ≤ 1048576) :
    Calls Try.prog 38 #[.slice A l.length cap, .int .i64 left] w (SzRet l.length left w) := by
  unfold maxLen at hl
  generalize hn : l.length = n at *
  have HN := hide hn
  clear hn
  by_cases c1 : left - n < 0
  · go_enter Try.func38, Try.ntmps38
    go_wp2
    go_ret
    exact ⟨.inl rfl, Below.refl _ _⟩
  · go_enter Try.func38, Try.ntmps38
    go_wp2
    go_loopw [1, 5] (fun r i wr => ∃ (k : Nat) (q : Int), k ≤ n ∧ i = .int .i64 k ∧ r = .int .i64 q ∧ 0 ≤ q ∧ q ≤ left - n ∧ Hid (Below w.heap.size w wr)) (fun _ i _ => n - (intOf i).toNat)
    case atStart => exact ⟨0, left - n, Nat.zero_le _, rfl, rfl, by omega, by omega, Below.refl _ w⟩
    case round =>
      obtain ⟨k, q, hk, rfl, rfl, hq0, hq1, Q⟩ := hrel
      by_cases hlt : k < n
      · have hin2 := hin.below Q.out
        obtain ⟨b, off, rfl, hbB, hc⟩ := hin2.2 (by rw [HN.out]; omega)
        have hkl : k < l.length := by rw [HN.out]; omega
        obtain ⟨c1, c2, c3, c4, c5⟩ := hc k hkl
        obtain ⟨s1, s2, s3⟩ := hin2.1 k hkl
        generalize (l[k]'hkl).1 = x1 at *
        generalize (l[k]'hkl).2.1 = x2 at *
        generalize (l[k]'hkl).2.2.1 = x3 at *
        generalize (l[k]'hkl).2.2.2.1 = x4 at *
        generalize (l[k]'hkl).2.2.2.2 = x5 at *
        clear hin hin2 hc
        go_wp2_with fail
        refine (szChange_any x1 x2 x3 x4 x5 q _ s1 s2 s3 hq0 (by omega)).mono ?_
        rintro e w' ⟨hr, hb⟩
        rcases hr with rfl | ⟨r, hr0, hr1, rfl⟩
        · go_wp2
          go_ret
          exact ⟨.inl rfl, Q.out.trans (hb.mono Q.out.size)⟩
        · go_wp2
          go_roundw
          case rel => exact ⟨k + 1, r, by omega, by go_num, rfl, hr0, by omega, Q.out.trans (hb.mono Q.out.size)⟩
          case measure => simp [intOf]; omega
      · go_wp2
        go_ret
        exact ⟨.inr ⟨q, hq0, by omega, rfl⟩, Q.out⟩

theorem made_changes (n : Nat) : (madeCells (arrC emC) (n * 5)).toList = ccells (List.replicate n emC) := by
  apply List.ext_getElem?
  intro j
  by_cases hj : j < n * 5
  · obtain ⟨p0, p1, p2, p3, p4⟩ := ccells_get (List.replicate n emC) (j / 5) (by simp; omega)
    have hj5 : j = j / 5 * 5 + j % 5 := by omega
    have hm : j % 5 < 5 := Nat.mod_lt _ (by omega)
    have hmm : (madeCells (arrC emC) (n * 5)).toList[j]? = some ((arrC emC).getD (j % 5) default) := by simp [madeCells, hj, arrC]
    rw [hmm]
    generalize j % 5 = r at hj5 hm
    match r, hm with
    | 0, _ => rw [show j / 5 * 5 = j by omega] at p0; rw [p0]; simp [arrC, emC]
    | 1, _ => rw [show j / 5 * 5 + 1 = j by omega] at p1; rw [p1]; simp [arrC, emC]
    | 2, _ => rw [show j / 5 * 5 + 2 = j by omega] at p2; rw [p2]; simp [arrC, emC]
    | 3, _ => rw [show j / 5 * 5 + 3 = j by omega] at p3; rw [p3]; simp [arrC, emC]
    | 4, _ => rw [show j / 5 * 5 + 4 = j by omega] at p4; rw [p4]; simp [arrC, emC]
  · rw [List.getElem?_eq_none (by simp [madeCells]; omega), List.getElem?_eq_none (by rw [ccells_length]; simp; omega)]
theorem set_stepC (l : List Ch) (n k : Nat) (hk : k < l.length) (hn : l.length = n) : (l.take k ++ List.replicate (n - k) emC).set k l[k] = l.take (k + 1) ++ List.replicate (n - (k + 1)) emC := by
  have hlen : (l.take k).length = k := by rw [List.length_take]; omega
  have h1 : (l.take k ++ List.replicate (n - k) emC).set k l[k] = l.take k ++ (List.replicate (n - k) emC).set 0 l[k] := by
    rw [List.set_append_right _ _ (by omega), hlen, Nat.sub_self]
  rw [h1, show n - k = n - (k + 1) + 1 by omega, List.replicate_succ, List.set_cons_zero, List.take_succ_eq_append_getElem hk, List.append_assoc]
  rfl
end Go.Proofs.Ytcpalnkcjcgaeaa
