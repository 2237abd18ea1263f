/-
  What the laws' own helpers on ops answer: szDOp, toDOp, eqDOp, szDOpS, toDOpS, eqDOpS.
-/
import Derived.Test.YtblggbihnglipaaDDkM
import Derived.Test.YtblggbihnglipaaLPair
import Derived.Test.YtblggbihnglipaaLPairS
import Derived.Test.YtblggbihnglipaaPCls
import Derived.Deep.Slices
namespace Go.Proofs.Ytblggbihnglipaa
open Go.RowKit

def eqD (p q : Dp) : Bool := decide (p = q)
theorem eqD_yes {p q : Dp} (h : p = q) : eqD p q = true := decide_eq_true h
theorem eqD_no {p q : Dp} (h : ¬ p = q) : eqD p q = false := decide_eq_false h
def eqDL (l l' : List Dp) : Bool := decide (l = l')
theorem eqDL_yes {p q : List Dp} (h : p = q) : eqDL p q = true := decide_eq_true h
theorem eqDL_no {p q : List Dp} (h : ¬ p = q) : eqDL p q = false := decide_eq_false h
set_option maxHeartbeats 1000000 in
theorem szDOp_each (k : Int) (a b c : ByteArray) (left : Int) (w : World) (ha : a.size ≤ maxLen) (hb : b.size ≤ maxLen) (hc : c.size ≤ maxLen) (h0 : 0 ≤ left) (h1 : left ≤ 1048576) :
    Calls Try.prog 23 #[.agg #[.int .i64 k, .string a, .string b, .string c], .int .i64 left] w fun e w' => (e = .returned (.int .i64 (-1)) ∨ ∃ r : Int, 0 ≤ r ∧ r + a.size + b.size + c.size ≤ left ∧ e = .returned (.int .i64 r)) ∧ Below w.heap.size w w' := by
  unfold maxLen at ha hb hc
  by_cases c1 : left - a.size < 0
  · go_enter Try.func23, Try.ntmps23
    go_wp2
    go_ret
    exact ⟨.inl rfl, (Below.refl _ _).alloc (Nat.le_refl _) _⟩
  · by_cases c2 : left - a.size - b.size < 0
    · go_enter Try.func23, Try.ntmps23
      go_wp2
      go_ret
      exact ⟨.inl rfl, (Below.refl _ _).alloc (Nat.le_refl _) _⟩
    · by_cases c3 : left - a.size - b.size - c.size < 0
      · go_enter Try.func23, Try.ntmps23
        go_wp2
        go_ret
        exact ⟨.inl rfl, (Below.refl _ _).alloc (Nat.le_refl _) _⟩
      · go_enter Try.func23, Try.ntmps23
        go_wp2
        go_ret
        exact ⟨.inr ⟨left - a.size - b.size - c.size, by omega, by omega, rfl⟩, (Below.refl _ _).alloc (Nat.le_refl _) _⟩
set_option maxRecDepth 100000 in
set_option maxHeartbeats 1000000 in
theorem toDOp_any (k : Int) (a b c : ByteArray) (w : World) :
    Calls Try.prog 25 #[.agg #[.int .i64 k, .string a, .string b, .string c]] w fun e w' => e = .returned (.agg #[.int .i64 k, .string a, .string b, .string c]) ∧ Below w.heap.size w w' := by
  go_enter Try.func25, Try.ntmps25
  go_wp2
  exact bodyPost_ret (v := .agg #[.int .i64 k, .string a, .string b, .string c]) (by simp [results, Try.results25, go_sem]) rfl ⟨rfl, (((Below.refl _ _).alloc (Nat.le_refl _) _).alloc (by simp) _).alloc (by simp; omega) _⟩
set_option maxHeartbeats 1000000 in
theorem eqDOp_any (k : Int) (a b c : ByteArray) (k' : Int) (a' b' c' : ByteArray) (w : World) :
    Calls Try.prog 83 #[.agg #[.int .i64 k, .string a, .string b, .string c], .agg #[.int .i64 k', .string a', .string b', .string c']] w fun e w' => e = .returned (.bool (eqD (k, a, b, c) (k', a', b', c'))) ∧ (w.alloc (.cells #[.int .i64 k, .string a, .string b, .string c] 45)).alloc (.cells #[.int .i64 k', .string a', .string b', .string c'] 45) = w' := by
  by_cases h0 : k = k'
  · subst h0
    have e0 : (k != k) = false := by simp
    by_cases h1 : a = a'
    · subst h1
      by_cases h2 : b = b'
      · subst h2
        by_cases h3 : c = c'
        · subst h3
          go_enter Try.func83, Try.ntmps83
          go_wp2
          go_ret
          exact ⟨ret_bool (eqD_yes rfl).symm, rfl⟩
        · have hb := eqS_no h3
          have Z := hide h3
          clear h3
          go_enter Try.func83, Try.ntmps83
          go_wp2
          go_ret
          exact ⟨ret_bool (eqD_no (by simp [Z.out])).symm, rfl⟩
      · have hb := eqS_no h2
        have Z := hide h2
        clear h2
        go_enter Try.func83, Try.ntmps83
        go_wp2
        go_ret
        exact ⟨ret_bool (eqD_no (by simp [Z.out])).symm, rfl⟩
    · have hb := eqS_no h1
      have Z := hide h1
      clear h1
      go_enter Try.func83, Try.ntmps83
      go_wp2
      go_ret
      exact ⟨ret_bool (eqD_no (by simp [Z.out])).symm, rfl⟩
  · have e0 : (k != k') = true := by simpa using h0
    have e1 : (k == k') = false := by simpa using h0
    have Z := hide h0
    clear h0
    go_enter Try.func83, Try.ntmps83
    go_wp2
    go_ret
    exact ⟨ret_bool (eqD_no (by simp [Z.out])).symm, rfl⟩
/-- the first k ops have short texts -/
def opsS (l : List Dp) (k : Nat) : Prop := ∀ i (h : i < l.length), i < k → opS l[i]
theorem opsS_succ {l : List Dp} {k : Nat} (hk : k < l.length) (h : opsS l k) (h1 : opS l[k]) : opsS l (k + 1) := by
  intro i hi hik
  by_cases e : i = k
  · subst e; exact h1
  · exact h i hi (by omega)
theorem opsS_all {l : List Dp} (h : opsS l l.length) : ∀ o ∈ l, opS o := fun o ho => by
  obtain ⟨i, hi, rfl⟩ := List.mem_iff_getElem.1 ho
  exact h i hi hi
set_option maxRecDepth 100000 in
set_option maxHeartbeats 1000000 in
theorem szDOpS_each (A : Option Addr) (l : List Dp) (cap : Nat) (left : Int) (w : World) (hl : l.length ≤ maxLen) (hin : DIn w w.heap.size A l) (h0 : 0 ≤ left) (h1 : left ≤ 1048576) :
    Calls Try.prog 40 #[.slice A l.length cap, .int .i64 left] w fun e w' => (e = .returned (.int .i64 (-1)) ∨ ∃ r : Int, 0 ≤ r ∧ r + l.length ≤ left ∧ (∀ o ∈ l, opS o) ∧ e = .returned (.int .i64 r)) ∧ Below w.heap.size w w' := by
  unfold maxLen at hl
  have FIN : Hid (opsS l l.length → ∀ o ∈ l, opS o) := hide opsS_all
  obtain ⟨n, hn⟩ : ∃ n, l.length = n := ⟨_, rfl⟩
  have HN := hide hn
  rw [hn] at hl FIN ⊢
  clear hn
  by_cases c1 : left - n < 0
  · go_enter Try.func40, Try.ntmps40
    go_wp2
    go_ret
    exact ⟨.inl rfl, Below.refl _ _⟩
  · go_enter Try.func40, Try.ntmps40
    go_wp2
    go_loopw [1, 5] (fun r i wr => ∃ (k : Nat) (q : Int), k ≤ n ∧ i = .int .i64 k ∧ r = .int .i64 q ∧ 0 ≤ q ∧ q ≤ left - n ∧ Hid (opsS l k) ∧ Hid (Below w.heap.size w wr)) (fun _ i _ => n - (intOf i).toNat)
    case atStart => exact ⟨0, left - n, Nat.zero_le _, rfl, rfl, by omega, by omega, hide (fun _ _ h => absurd h (by omega)), Below.refl _ w⟩
    case round =>
      obtain ⟨k, q, hk, rfl, rfl, hq0, hq1, E, Q⟩ := hrel
      by_cases hlt : k < n
      · have hin2 := hin.below Q.out
        obtain ⟨b, off, rfl, hbB, hc⟩ := hin2.2 (by rw [HN.out]; omega)
        have hkl : k < l.length := by rw [HN.out]; omega
        obtain ⟨c1, c2, c3, c4⟩ := hc k hkl
        obtain ⟨s1, s2, s3⟩ := hin2.1 k hkl
        have ES := hide (opsS_succ hkl E.out)
        unfold opS at ES
        generalize (l[k]'hkl).1 = x1 at *
        generalize (l[k]'hkl).2.1 = x2 at *
        generalize (l[k]'hkl).2.2.1 = x3 at *
        generalize (l[k]'hkl).2.2.2 = x4 at *
        clear hin hin2 hc E FIN
        go_wp2_with fail
        refine (szDOp_each x1 x2 x3 x4 q _ s1 s2 s3 hq0 (by omega)).mono ?_
        rintro e w' ⟨hr, hb⟩
        rcases hr with rfl | ⟨r, hr0, hr1, rfl⟩
        · go_wp2
          go_ret
          exact ⟨.inl rfl, Q.out.trans (hb.mono Q.out.size)⟩
        · have E2 := hide (ES.out ⟨by omega, by omega, by omega⟩)
          have hr2 : r ≤ left - n := by omega
          clear hr1 ES
          go_wp2
          go_roundw
          case rel => exact ⟨k + 1, r, by omega, by go_num, rfl, hr0, hr2, E2, Q.out.trans (hb.mono Q.out.size)⟩
          case measure => simp [intOf]; omega
      · have ek : k = n := by omega
        have EE := hide (FIN.out (by rw [← ek]; exact E.out))
        clear ek E FIN
        go_wp2
        go_ret
        exact ⟨.inr ⟨q, hq0, by omega, EE.out, rfl⟩, Q.out⟩
theorem made_ops (n : Nat) : (madeCells (arrD emD) (n * 4)).toList = dcells (List.replicate n emD) := by
  apply List.ext_getElem?
  intro j
  by_cases hj : j < n * 4
  · obtain ⟨p0, p1, p2, p3⟩ := dcells_get (List.replicate n emD) (j / 4) (by simp; omega)
    have hj5 : j = j / 4 * 4 + j % 4 := by omega
    have hm : j % 4 < 4 := Nat.mod_lt _ (by omega)
    have hmm : (madeCells (arrD emD) (n * 4)).toList[j]? = some ((arrD emD).getD (j % 4) default) := by simp [madeCells, hj, arrD]
    rw [hmm]
    generalize j % 4 = r at hj5 hm
    match r, hm with
    | 0, _ => rw [show j / 4 * 4 = j by omega] at p0; rw [p0]; simp [arrD, emD]
    | 1, _ => rw [show j / 4 * 4 + 1 = j by omega] at p1; rw [p1]; simp [arrD, emD]
    | 2, _ => rw [show j / 4 * 4 + 2 = j by omega] at p2; rw [p2]; simp [arrD, emD]
    | 3, _ => rw [show j / 4 * 4 + 3 = j by omega] at p3; rw [p3]; simp [arrD, emD]
  · rw [List.getElem?_eq_none (by simp [madeCells]; omega), List.getElem?_eq_none (by rw [dcells_length]; simp; omega)]
theorem set_stepD (l : List Dp) (n k : Nat) (hk : k < l.length) (hn : l.length = n) : (l.take k ++ List.replicate (n - k) emD).set k l[k] = l.take (k + 1) ++ List.replicate (n - (k + 1)) emD := by
  have hlen : (l.take k).length = k := by rw [List.length_take]; omega
  have h1 : (l.take k ++ List.replicate (n - k) emD).set k l[k] = l.take k ++ (List.replicate (n - k) emD).set 0 l[k] := by
    rw [List.set_append_right _ _ (by omega), hlen, Nat.sub_self]
  rw [h1, show n - k = n - (k + 1) + 1 by omega, List.replicate_succ, List.set_cons_zero, List.take_succ_eq_append_getElem hk, List.append_assoc]
  rfl
set_option maxRecDepth 100000 in
set_option maxHeartbeats 1000000 in
theorem toDOpS_any (A : Option Addr) (l : List Dp) (cap : Nat) (w : World) (hl : l.length ≤ 1048576) (hin : DIn w w.heap.size A l) :
    Calls Try.prog 46 #[.slice A l.length cap] w fun e w' => e = .returned (.slice (some ⟨w.heap.size, 0, none⟩) l.length l.length) ∧ DOwn w' w.heap.size (some ⟨w.heap.size, 0, none⟩) l.length l ∧ Below w.heap.size w w' := by
  generalize hn : l.length = n at *
  have HN := hide hn
  clear hn
  obtain ⟨i0, hi, hz0, hz1, hz2⟩ := info_parts infoD
  go_enter Try.func46, Try.ntmps46
  go_wp2_with (at_make; refine wpList_make_full _ rfl _ _ 29 rfl w.heap.size 45 i0 _ 4 Try.underlying29 hi hz0 hz1 _ _ _ _ n rfl rfl rfl rfl ?c1 ?c2 ?c3 ?_)
  case c1 => rw [hz2]; omega
  case c2 => unfold maxLen; omega
  case c3 => exact Nat.le_refl _
  intro w1 hown hg
  rw [made_ops] at hown
  have Q1 := hide ((Below.refl w.heap.size w).grown hg (Nat.le_refl _) (by simp))
  have O1 := hide hown
  clear hown hg
  go_wp2
  go_loopw [4] (fun i wr => ∃ k : Nat, k ≤ n ∧ i = .int .i64 k ∧ Hid (wr.ownsRow w.heap.size 45 4 (.slice (some ⟨w.heap.size, 0, none⟩) n n) n (dcells (l.take k ++ List.replicate (n - k) emD))) ∧ Hid (Below w.heap.size w wr)) (fun i _ => n - (intOf i).toNat)
  case atStart => exact ⟨0, Nat.zero_le _, rfl, by simpa using O1, Q1⟩
  case round =>
    clear Q1 O1
    obtain ⟨k, hk, rfl, O, Q⟩ := hrel
    by_cases hlt : k < n
    · have hin2 := hin.below Q.out
      have hkl : k < l.length := by rw [HN.out]; omega
      obtain ⟨b, off, rfl, hbB, hc⟩ := hin2.2 (by omega)
      obtain ⟨c1, c2, c3, c4⟩ := hc k hkl
      have E := hide (dcells_set (l.take k ++ List.replicate (n - k) emD) k (l[k]'hkl))
      rw [set_stepD l n k hkl HN.out] at E
      generalize (l[k]'hkl).1 = x1 at *
      generalize (l[k]'hkl).2.1 = x2 at *
      generalize (l[k]'hkl).2.2.1 = x3 at *
      generalize (l[k]'hkl).2.2.2 = x4 at *
      clear hin hin2 hc
      go_wp2_with fail
      refine (toDOp_any x1 x2 x3 x4 _).mono ?_
      rintro e w2 ⟨rfl, hb⟩
      have O2 := hide (O.out.kept (Below.toGrown hb none) (.inr (by simp [Value.ownBlock])))
      have B2 := hide (Q.out.trans (hb.mono Q.out.size))
      have RR : ∀ i, i < n * 4 → ∃ x, w2.cell? ⟨w.heap.size, i, none⟩ = some x := fun i hi => by rw [O2.out.cellAt i (by omega)]; exact ⟨_, List.getElem?_eq_getElem (by rw [dcells_length]; simp; omega)⟩
      obtain ⟨y1, r1⟩ := RR (k * 4) (by omega)
      obtain ⟨y2, r2⟩ := RR (k * 4 + 1) (by omega)
      obtain ⟨y3, r3⟩ := RR (k * 4 + 2) (by omega)
      obtain ⟨y4, r4⟩ := RR (k * 4 + 3) (by omega)
      have f1 := O2.out.frozenAt (k * 4)
      have f2 := O2.out.frozenAt (k * 4 + 1)
      have f3 := O2.out.frozenAt (k * 4 + 2)
      have f4 := O2.out.frozenAt (k * 4 + 3)
      clear hb RR
      go_wp2
      go_roundw
      case rel =>
        have S1 := O2.out.stored (k * 4) (.int .i64 x1)
        have S2 := S1.1.stored (k * 4 + 1) (.string x2)
        have S3 := S2.1.stored (k * 4 + 2) (.string x3)
        have S4 := (S3.1.stored (k * 4 + 3) (.string x4)).1
        rw [E.out] at S4
        exact ⟨k + 1, by omega, by go_num, S4, (((B2.out.setCell (Nat.le_refl _) _).setCell (Nat.le_refl _) _).setCell (Nat.le_refl _) _).setCell (Nat.le_refl _) _⟩
      case measure => simp [intOf]; omega
    · obtain rfl : k = n := by omega
      have F : Hid (l.take k ++ List.replicate (k - k) emD = l) := hide (by rw [← HN.out]; simp)
      go_wp2
      go_ret
      refine ⟨rfl, ⟨hin.1, ?_⟩, Q.out⟩
      have O2 := O.out
      rw [F.out] at O2
      rw [HN.out]
      exact O2
set_option maxRecDepth 100000 in
set_option maxHeartbeats 2000000 in
theorem eqDOpS_any (A A' : Option Addr) (l l' : List Dp) (cap cap' : Nat) (w : World) (hl : l.length ≤ maxLen) (hl' : l'.length ≤ maxLen) (hin : DIn w w.heap.size A l) (hin' : DIn w w.heap.size A' l') :
    Calls Try.prog 54 #[.slice A l.length cap, .slice A' l'.length cap'] w fun e w' => e = .returned (.bool (eqDL l l')) ∧ Below w.heap.size w w' := by
  unfold maxLen at hl hl'
  by_cases he : l.length = l'.length
  · rw [← he]
    rw [← he] at hl'
    generalize hn : l.length = n at *
    have HN := hide hn
    have HN' := hide he
    clear hn he hl'
    go_enter Try.func54, Try.ntmps54
    go_wp2
    go_loopw [5] (fun i wr => ∃ k : Nat, k ≤ n ∧ i = .int .i64 k ∧ Hid (l.take k = l'.take k) ∧ Hid (Below w.heap.size w wr)) (fun i _ => n - (intOf i).toNat)
    case atStart => exact ⟨0, Nat.zero_le _, rfl, rfl, Below.refl _ w⟩
    case round =>
      obtain ⟨k, hk, rfl, H, Q⟩ := hrel
      by_cases hlt : k < n
      · have hin2 := hin.below Q.out
        have hin2' := hin'.below Q.out
        have hkl : k < l.length := by rw [HN.out]; omega
        have hkl' : k < l'.length := by rw [← HN'.out]; omega
        obtain ⟨b, off, rfl, hbB, hc⟩ := hin2.2 (by omega)
        obtain ⟨b', off', rfl, hbB', hc'⟩ := hin2'.2 (by omega)
        obtain ⟨c1, c2, c3, c4⟩ := hc k hkl
        obtain ⟨d1, d2, d3, d4⟩ := hc' k hkl'
        have hqs := Q.out.size
        have EV : Hid (∀ W, Calls Try.prog 83 #[.agg #[.int .i64 (l[k]'hkl).1, .string (l[k]'hkl).2.1, .string (l[k]'hkl).2.2.1, .string (l[k]'hkl).2.2.2], .agg #[.int .i64 (l'[k]'hkl').1, .string (l'[k]'hkl').2.1, .string (l'[k]'hkl').2.2.1, .string (l'[k]'hkl').2.2.2]] W fun e w' => e = .returned (.bool (eqD (l[k]'hkl) (l'[k]'hkl'))) ∧ Below W.heap.size W w') := hide fun W => (eqDOp_any _ _ _ _ _ _ _ _ W).mono fun e w' ⟨he, hw⟩ => ⟨he, by rw [← hw]; exact ((Below.refl _ _).alloc (Nat.le_refl _) _).alloc (by simp) _⟩
        have y1 := cls_cell (B := wr.heap.size) (p := ⟨b, off + k * 4, none⟩) (show b < wr.heap.size by omega) c1
        have y2 := cls_cell (B := wr.heap.size) (p := ⟨b, off + k * 4 + 1, none⟩) (show b < wr.heap.size by omega) c2
        have y3 := cls_cell (B := wr.heap.size) (p := ⟨b, off + k * 4 + 2, none⟩) (show b < wr.heap.size by omega) c3
        have y4 := cls_cell (B := wr.heap.size) (p := ⟨b, off + k * 4 + 3, none⟩) (show b < wr.heap.size by omega) c4
        have z1 := cls_cell (B := wr.heap.size) (p := ⟨b', off' + k * 4, none⟩) (show b' < wr.heap.size by omega) d1
        have z2 := cls_cell (B := wr.heap.size) (p := ⟨b', off' + k * 4 + 1, none⟩) (show b' < wr.heap.size by omega) d2
        have z3 := cls_cell (B := wr.heap.size) (p := ⟨b', off' + k * 4 + 2, none⟩) (show b' < wr.heap.size by omega) d3
        have z4 := cls_cell (B := wr.heap.size) (p := ⟨b', off' + k * 4 + 3, none⟩) (show b' < wr.heap.size by omega) d4
        clear c1 c2 c3 c4 d1 d2 d3 d4
        by_cases hp : l[k]'hkl = l'[k]'hkl'
        · have Z : Hid (l.take (k + 1) = l'.take (k + 1)) := hide (by rw [List.take_succ_eq_append_getElem hkl, List.take_succ_eq_append_getElem hkl', H.out, hp])
          have d : eqD (l[k]'hkl) (l'[k]'hkl') = true := eqD_yes hp
          rw [d] at EV
          generalize (l[k]'hkl).1 = x1 at *
          generalize (l[k]'hkl).2.1 = x2 at *
          generalize (l[k]'hkl).2.2.1 = x3 at *
          generalize (l[k]'hkl).2.2.2 = x4 at *
          generalize (l'[k]'hkl').1 = x1' at *
          generalize (l'[k]'hkl').2.1 = x2' at *
          generalize (l'[k]'hkl').2.2.1 = x3' at *
          generalize (l'[k]'hkl').2.2.2 = x4' at *
          clear hin hin2 hc hin' hin2' hc' hp d
          go_wp2
          refine wp_region_cls (by kernel_rfl) (by kernel_rfl) wr.heap.size ?_
          repeat (go_big_quiet_step ((go_at_call 83; exact cls_call (Nat.le_refl _) (EV.out _))))
          refine wpQuiet_nil ?_
          intro _ hw'
          obtain ⟨u, hw''⟩ := hw'
          subst hw''
          clear y1 y2 y3 y4 z1 z2 z3 z4
          go_wp2
          exact ⟨⟨k + 1, by omega, by go_num, Z, hide (Q.out.trans (u.below.mono hqs))⟩, by simp [intOf]; omega⟩
        · have Z : Hid (eqDL l l' = false) := hide (eqDL_no (by rintro rfl; exact hp rfl))
          have d : eqD (l[k]'hkl) (l'[k]'hkl') = false := eqD_no hp
          rw [d] at EV
          generalize (l[k]'hkl).1 = x1 at *
          generalize (l[k]'hkl).2.1 = x2 at *
          generalize (l[k]'hkl).2.2.1 = x3 at *
          generalize (l[k]'hkl).2.2.2 = x4 at *
          generalize (l'[k]'hkl').1 = x1' at *
          generalize (l'[k]'hkl').2.1 = x2' at *
          generalize (l'[k]'hkl').2.2.1 = x3' at *
          generalize (l'[k]'hkl').2.2.2 = x4' at *
          clear hin hin2 hc hin' hin2' hc' hp d
          go_wp2
          refine wp_region_cls (by kernel_rfl) (by kernel_rfl) wr.heap.size ?_
          repeat (go_big_quiet_step ((go_at_call 83; exact cls_call (Nat.le_refl _) (EV.out _))))
          refine wpQuiet_nil ?_
          intro _ hw'
          obtain ⟨u, hw''⟩ := hw'
          subst hw''
          clear y1 y2 y3 y4 z1 z2 z3 z4
          go_wp2
          go_ret
          exact ⟨ret_bool Z.out.symm, Q.out.trans (u.below.mono hqs)⟩
      · obtain rfl : k = n := by omega
        have Z : Hid (eqDL l l' = true) := hide (eqDL_yes (by
          have h := H.out
          rw [List.take_of_length_le (by rw [HN.out]; exact Nat.le_refl _), List.take_of_length_le (by rw [← HN'.out]; exact Nat.le_refl _)] at h
          exact h))
        go_wp2
        go_ret
        exact ⟨ret_bool Z.out.symm, Q.out⟩
  · have Z : Hid (eqDL l l' = false) := hide (eqDL_no (by rintro rfl; exact he rfl))
    have d : ((l.length : Int) != (l'.length : Int)) = true := by simp; omega
    clear he
    go_enter Try.func54, Try.ntmps54
    go_wp2
    go_ret
    exact ⟨ret_bool Z.out.symm, Below.refl _ _⟩
end Go.Proofs.Ytblggbihnglipaa
