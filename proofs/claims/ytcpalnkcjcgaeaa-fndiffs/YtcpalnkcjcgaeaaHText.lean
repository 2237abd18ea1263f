/-
  What DiffText writes, in the reference and in the program; how many letters a list of changes has.
-/
import Derived.Test.YtcpalnkcjcgaeaaHLaw
import Derived.Test.YtcpalnkcjcgaeaaHEdit

import Derived.BigQuiet
import Derived.Deep.QuietTactic
namespace Go.Proofs.Ytcpalnkcjcgaeaa
open Go.RowKit

theorem bas (a b c : ByteArray) : a ++ b ++ c = a ++ (b ++ c) := by
  apply Go.WideShapes.bytes_inj
  simp [ByteArray.data_append]
theorem bae (a : ByteArray) : ByteArray.empty ++ a = a := by
  apply Go.WideShapes.bytes_inj
  simp
theorem bae' (a : ByteArray) : a ++ ByteArray.empty = a := by
  apply Go.WideShapes.bytes_inj
  simp
/-- what a change says -/
def saysC (x o n : ByteArray) (p q : Bool) : ByteArray := (if p = true then lineG ⟨#[45]⟩ x o else ByteArray.empty) ++ (if q = true then lineG ⟨#[43]⟩ x n else ByteArray.empty)
def chT (c : Ch) : ByteArray := saysC c.1 c.2.1 c.2.2.1 c.2.2.2.1 c.2.2.2.2
def difT : List Ch → ByteArray
  | [] => ByteArray.empty
  | c :: r => chT c ++ difT r
theorem difT_append (a b : List Ch) : difT (a ++ b) = difT a ++ difT b := by
  induction a with
  | nil => rw [List.nil_append, difT, bae]
  | cons p r ih => rw [List.cons_append, difT, difT, ih, bas]
theorem difT_succ {l : List Ch} {k : Nat} (h : k < l.length) : difT (l.take (k + 1)) = difT (l.take k) ++ chT l[k] := by
  rw [List.take_succ_eq_append_getElem h, difT_append, difT, difT, bae']
/-- letters -/
def tot : List Ch → Nat
  | [] => 0
  | c :: r => c.1.size + c.2.1.size + c.2.2.1.size + tot r
theorem tot_append (a b : List Ch) : tot (a ++ b) = tot a + tot b := by
  induction a with
  | nil => simp [tot]
  | cons p r ih => rw [List.cons_append, tot, tot, ih]; omega
theorem tot_succ {l : List Ch} {k : Nat} (h : k < l.length) : tot (l.take (k + 1)) = tot (l.take k) + (l[k].1.size + l[k].2.1.size + l[k].2.2.1.size) := by
  rw [List.take_succ_eq_append_getElem h, tot_append, tot, tot]
  omega
theorem tot_take (l : List Ch) (k : Nat) : tot (l.take k) ≤ tot l := by
  have : tot l = tot (l.take k) + tot (l.drop k) := by rw [← tot_append, List.take_append_drop]
  omega
theorem lineG_size (g x y : ByteArray) : (lineG g x y).size = g.size + x.size + 1 + y.size + 1 := by
  unfold lineG
  simp only [ByteArray.size_append]
  rfl
theorem chT_size (c : Ch) : (chT c).size ≤ 2 * c.1.size + c.2.1.size + c.2.2.1.size + 6 := by
  unfold chT saysC
  rw [ByteArray.size_append]
  have e1 : (ByteArray.mk #[45]).size = 1 := rfl
  have e2 : (ByteArray.mk #[43]).size = 1 := rfl
  have e3 : ByteArray.empty.size = 0 := rfl
  have h1 := lineG_size ⟨#[45]⟩ c.1 c.2.1
  have h2 := lineG_size ⟨#[43]⟩ c.1 c.2.2.1
  split <;> split <;> omega
theorem difT_size (l : List Ch) : (difT l).size ≤ 2 * tot l + 6 * l.length := by
  induction l with
  | nil => simp [difT, tot]
  | cons c r ih =>
    rw [difT, ByteArray.size_append, tot, List.length_cons]
    have := chT_size c
    omega
def diffTextS (l : List Ch) : ByteArray := if l.length ≤ 100 then difT l else ByteArray.empty

/-- .. how many letters -/
def SzTot (n t : Nat) (left : Int) (w : World) (e : Ending) (w' : World) : Prop := (e = .returned (.int .i64 (-1)) ∨ ∃ r : Int, 0 ≤ r ∧ r + n + t ≤ left ∧ e = .returned (.int .i64 r)) ∧ Below w.heap.size w w'

set_option maxHeartbeats 1000000 in
theorem szChange_sum (a b c : ByteArray) (p q : Bool) (left : Int) (w : World) (ha : a.size ≤ maxLen) (hb : b.size ≤ maxLen) (hc : c.size ≤ maxLen) (h0 : 0 ≤ left) (h1 : left ≤ 1048576) :
    Calls Try.prog 70 #[.agg #[.string a, .string b, .string c, .bool p, .bool q], .int .i64 left] w (SzTot 0 (a.size + b.size + c.size) left w) := by
  unfold maxLen at ha hb hc
  by_cases c1 : left - a.size < 0
  · go_enter Try.func70, Try.ntmps70
    go_wp2
    go_ret
    exact ⟨.inl rfl, (Below.refl _ _).alloc (Nat.le_refl _) _⟩
  · by_cases c2 : left - a.size - b.size < 0
    · go_enter Try.func70, Try.ntmps70
      go_wp2
      go_ret
      exact ⟨.inl rfl, (Below.refl _ _).alloc (Nat.le_refl _) _⟩
    · by_cases c3 : left - a.size - b.size - c.size < 0
      · go_enter Try.func70, Try.ntmps70
        go_wp2
        go_ret
        exact ⟨.inl rfl, (Below.refl _ _).alloc (Nat.le_refl _) _⟩
      · go_enter Try.func70, Try.ntmps70
        go_wp2
        go_ret
        exact ⟨.inr ⟨left - a.size - b.size - c.size, by omega, by omega, rfl⟩, (Below.refl _ _).alloc (Nat.le_refl _) _⟩

set_option maxRecDepth 100000 in
set_option maxHeartbeats 1000000 in
theorem szChangeS_sum (A : Option Addr) (l : List Ch) (cap : Nat) (left : Int) (w : World) (hl : l.length ≤ maxLen) (hin : HIn w w.heap.size A l) (h0 : 0 ≤ left) (h1 : left ≤ 1048576) :
    Calls Try.prog 38 #[.slice A l.length cap, .int .i64 left] w (SzTot l.length (tot l) left w) := by
  unfold maxLen at hl
  generalize hn : l.length = n at *
  have HN := hide hn
  clear hn
  by_cases c1 : left - n < 0
  · go_enter Try.func38, Try.ntmps38
    go_wp2
    go_ret
    exact ⟨.inl rfl, Below.refl _ _⟩
  · go_enter Try.func38, Try.ntmps38
    go_wp2
    go_loopw [1, 5] (fun r i wr => ∃ (k : Nat) (q : Int), k ≤ n ∧ i = .int .i64 k ∧ r = .int .i64 q ∧ 0 ≤ q ∧ q ≤ left ∧ Hid (q + n + tot (l.take k) ≤ left) ∧ Hid (Below w.heap.size w wr)) (fun _ i _ => n - (intOf i).toNat)
    case atStart => exact ⟨0, left - n, Nat.zero_le _, rfl, rfl, by omega, by omega, hide (by simp [tot]), Below.refl _ w⟩
    case round =>
      obtain ⟨k, q, hk, rfl, rfl, hq0, hq2, hq1, Q⟩ := hrel
      by_cases hlt : k < n
      · have hin2 := hin.below Q.out
        obtain ⟨b, off, rfl, hbB, hc⟩ := hin2.2 (by rw [HN.out]; omega)
        have hkl : k < l.length := by rw [HN.out]; omega
        obtain ⟨c1, c2, c3, c4, c5⟩ := hc k hkl
        obtain ⟨s1, s2, s3⟩ := hin2.1 k hkl
        have TS := hide (tot_succ hkl)
        generalize (l[k]'hkl).1 = x1 at *
        generalize (l[k]'hkl).2.1 = x2 at *
        generalize (l[k]'hkl).2.2.1 = x3 at *
        generalize (l[k]'hkl).2.2.2.1 = x4 at *
        generalize (l[k]'hkl).2.2.2.2 = x5 at *
        clear hin hin2 hc
        go_wp2_with fail
        refine (szChange_sum x1 x2 x3 x4 x5 q _ s1 s2 s3 hq0 (by omega)).mono ?_
        rintro e w' ⟨hr, hb⟩
        rcases hr with rfl | ⟨r, hr0, hr1, rfl⟩
        · go_wp2
          go_ret
          exact ⟨.inl rfl, Q.out.trans (hb.mono Q.out.size)⟩
        · have HR : Hid (r + n + tot (l.take (k + 1)) ≤ left) := hide (by have h7 := hq1.out; rw [TS.out]; omega)
          have hr2 : r ≤ left := by omega
          clear hr1
          go_wp2
          go_roundw
          case rel => exact ⟨k + 1, r, by omega, by go_num, rfl, hr0, hr2, HR, Q.out.trans (hb.mono Q.out.size)⟩
          case measure => simp [intOf]; omega
      · have F : Hid (q + n + tot l ≤ left) := hide (by have h7 := hq1.out; rw [List.take_of_length_le (by rw [HN.out]; omega)] at h7; exact h7)
        go_wp2
        go_ret
        exact ⟨.inr ⟨q, hq0, F.out, rfl⟩, Q.out⟩

set_option maxRecDepth 100000 in
set_option maxHeartbeats 2000000 in
theorem specDiffText_any (A : Option Addr) (l : List Ch) (cap : Nat) (w : World) (B : Nat) (hl : l.length ≤ maxLen) (hin : HIn w B A l) (ht : tot l ≤ 1048576) :
    Calls Try.prog 19 #[.slice A l.length cap] w fun e w' => e = .returned (.string (diffTextS l)) ∧ Quiet w w' := by
  unfold maxLen at hl
  by_cases h100 : l.length ≤ 100
  · have Z0 : Hid (diffTextS l = difT l) := hide (by unfold diffTextS; rw [if_pos h100])
    generalize hn : l.length = n at hl h100 ⊢
    have HN := hide hn
    have d100 : decide ((n : Int) ≤ 100) = true := decide_eq_true (by omega)
    clear hn
    go_enter Try.func19, Try.ntmps19
    go_wp2
    go_loopw [3, 4] (fun t i wr => ∃ (k : Nat) (s : ByteArray), k ≤ n ∧ i = .int .i64 k ∧ t = .string s ∧ Hid (s = difT (l.take k)) ∧ Hid (Quiet w wr)) (fun _ i _ => n - (intOf i).toNat)
    case atStart => exact ⟨0, ByteArray.empty, Nat.zero_le _, rfl, rfl, by simp [Hid, difT], Quiet.refl w⟩
    case round =>
      obtain ⟨k, s, hk, rfl, rfl, H, Q⟩ := hrel
      by_cases hlt : k < n
      · have hin2 := hin.quiet Q.out
        have hkl : k < l.length := by rw [HN.out]; omega
        have hki : (k : Int) < (n : Int) := by omega
        obtain ⟨b, off, rfl, hbB, hc⟩ := hin2.2 (by omega)
        obtain ⟨c1, c2, c3, c4, c5⟩ := hc k hkl
        have s0 : s.size ≤ 2 * 1048576 + 600 := by
          have h7 := difT_size (l.take k)
          have h8 := tot_take l k
          rw [← H.out, List.length_take] at h7
          omega
        have st : (l[k]'hkl).1.size + (l[k]'hkl).2.1.size + (l[k]'hkl).2.2.1.size ≤ 1048576 := by
          have h7 := tot_succ hkl
          have h8 := tot_take l (k + 1)
          omega
        have Z1 : Hid (s ++ saysC (l[k]'hkl).1 (l[k]'hkl).2.1 (l[k]'hkl).2.2.1 (l[k]'hkl).2.2.2.1 (l[k]'hkl).2.2.2.2 = difT (l.take (k + 1))) := hide (by rw [difT_succ hkl, H.out]; rfl)
        generalize (l[k]'hkl).1 = x at *
        generalize (l[k]'hkl).2.1 = o at *
        generalize (l[k]'hkl).2.2.1 = n' at *
        generalize (l[k]'hkl).2.2.2.1 = p at *
        generalize (l[k]'hkl).2.2.2.2 = q at *
        clear hin hin2 hc
        cases p
        · cases q
          · have Z : Hid (s = difT (l.take (k + 1))) := hide (by rw [← Z1.out]; unfold saysC lineG; simp)
            clear Z1
            go_wp2
            go_roundw
            case rel => exact ⟨k + 1, _, by omega, by go_num, rfl, Z, Q.out⟩
            case measure => simp [intOf]; omega
          · have Z : Hid (s ++ ByteArray.mk #[43] ++ x ++ ByteArray.mk #[61] ++ n' ++ ByteArray.mk #[10] = difT (l.take (k + 1))) := hide (by rw [← Z1.out]; unfold saysC lineG; simp [← bas])
            have zb0 : (s ++ ByteArray.mk #[43]).size = s.size + 1 := by simp only [ByteArray.size_append]; rfl
            have zb1 : (s ++ ByteArray.mk #[43] ++ x).size = s.size + 1 + x.size := by simp only [ByteArray.size_append]; rfl
            have zb2 : (s ++ ByteArray.mk #[43] ++ x ++ ByteArray.mk #[61]).size = s.size + 1 + x.size + 1 := by simp only [ByteArray.size_append]; rfl
            have zb3 : (s ++ ByteArray.mk #[43] ++ x ++ ByteArray.mk #[61] ++ n').size = s.size + 1 + x.size + 1 + n'.size := by simp only [ByteArray.size_append]; rfl
            have zb4 : (s ++ ByteArray.mk #[43] ++ x ++ ByteArray.mk #[61] ++ n' ++ ByteArray.mk #[10]).size = s.size + 1 + x.size + 1 + n'.size + 1 := by simp only [ByteArray.size_append]; rfl
            clear Z1
            go_wp2
            go_quiet (fail)
            go_wp2
            go_roundw
            case rel => exact ⟨k + 1, _, by omega, by go_num, rfl, Z, Q.out.drewN _⟩
            case measure => simp [intOf]; omega
        · cases q
          · have Z : Hid (s ++ ByteArray.mk #[45] ++ x ++ ByteArray.mk #[61] ++ o ++ ByteArray.mk #[10] = difT (l.take (k + 1))) := hide (by rw [← Z1.out]; unfold saysC lineG; simp [← bas])
            have za0 : (s ++ ByteArray.mk #[45]).size = s.size + 1 := by simp only [ByteArray.size_append]; rfl
            have za1 : (s ++ ByteArray.mk #[45] ++ x).size = s.size + 1 + x.size := by simp only [ByteArray.size_append]; rfl
            have za2 : (s ++ ByteArray.mk #[45] ++ x ++ ByteArray.mk #[61]).size = s.size + 1 + x.size + 1 := by simp only [ByteArray.size_append]; rfl
            have za3 : (s ++ ByteArray.mk #[45] ++ x ++ ByteArray.mk #[61] ++ o).size = s.size + 1 + x.size + 1 + o.size := by simp only [ByteArray.size_append]; rfl
            have za4 : (s ++ ByteArray.mk #[45] ++ x ++ ByteArray.mk #[61] ++ o ++ ByteArray.mk #[10]).size = s.size + 1 + x.size + 1 + o.size + 1 := by simp only [ByteArray.size_append]; rfl
            clear Z1
            go_wp2
            go_quiet (fail)
            go_wp2
            go_roundw
            case rel => exact ⟨k + 1, _, by omega, by go_num, rfl, Z, Q.out.drewN _⟩
            case measure => simp [intOf]; omega
          · have Z : Hid (s ++ ByteArray.mk #[45] ++ x ++ ByteArray.mk #[61] ++ o ++ ByteArray.mk #[10] ++ ByteArray.mk #[43] ++ x ++ ByteArray.mk #[61] ++ n' ++ ByteArray.mk #[10] = difT (l.take (k + 1))) := hide (by rw [← Z1.out]; unfold saysC lineG; simp [← bas])
            have za0 : (s ++ ByteArray.mk #[45]).size = s.size + 1 := by simp only [ByteArray.size_append]; rfl
            have za1 : (s ++ ByteArray.mk #[45] ++ x).size = s.size + 1 + x.size := by simp only [ByteArray.size_append]; rfl
            have za2 : (s ++ ByteArray.mk #[45] ++ x ++ ByteArray.mk #[61]).size = s.size + 1 + x.size + 1 := by simp only [ByteArray.size_append]; rfl
            have za3 : (s ++ ByteArray.mk #[45] ++ x ++ ByteArray.mk #[61] ++ o).size = s.size + 1 + x.size + 1 + o.size := by simp only [ByteArray.size_append]; rfl
            have za4 : (s ++ ByteArray.mk #[45] ++ x ++ ByteArray.mk #[61] ++ o ++ ByteArray.mk #[10]).size = s.size + 1 + x.size + 1 + o.size + 1 := by simp only [ByteArray.size_append]; rfl
            have zb0 : (s ++ ByteArray.mk #[45] ++ x ++ ByteArray.mk #[61] ++ o ++ ByteArray.mk #[10] ++ ByteArray.mk #[43]).size = s.size + 1 + x.size + 1 + o.size + 1 + 1 := by simp only [ByteArray.size_append]; rfl
            have zb1 : (s ++ ByteArray.mk #[45] ++ x ++ ByteArray.mk #[61] ++ o ++ ByteArray.mk #[10] ++ ByteArray.mk #[43] ++ x).size = s.size + 1 + x.size + 1 + o.size + 1 + 1 + x.size := by simp only [ByteArray.size_append]; rfl
            have zb2 : (s ++ ByteArray.mk #[45] ++ x ++ ByteArray.mk #[61] ++ o ++ ByteArray.mk #[10] ++ ByteArray.mk #[43] ++ x ++ ByteArray.mk #[61]).size = s.size + 1 + x.size + 1 + o.size + 1 + 1 + x.size + 1 := by simp only [ByteArray.size_append]; rfl
            have zb3 : (s ++ ByteArray.mk #[45] ++ x ++ ByteArray.mk #[61] ++ o ++ ByteArray.mk #[10] ++ ByteArray.mk #[43] ++ x ++ ByteArray.mk #[61] ++ n').size = s.size + 1 + x.size + 1 + o.size + 1 + 1 + x.size + 1 + n'.size := by simp only [ByteArray.size_append]; rfl
            have zb4 : (s ++ ByteArray.mk #[45] ++ x ++ ByteArray.mk #[61] ++ o ++ ByteArray.mk #[10] ++ ByteArray.mk #[43] ++ x ++ ByteArray.mk #[61] ++ n' ++ ByteArray.mk #[10]).size = s.size + 1 + x.size + 1 + o.size + 1 + 1 + x.size + 1 + n'.size + 1 := by simp only [ByteArray.size_append]; rfl
            clear Z1
            go_wp2
            go_quiet (fail)
            go_wp2
            go_quiet (fail)
            go_wp2
            go_roundw
            case rel => exact ⟨k + 1, _, by omega, by go_num, rfl, Z, Q.out.drewN _⟩
            case measure => simp [intOf]; omega
      · have Z : Hid (s = diffTextS l) := hide (by rw [Z0.out, H.out, List.take_of_length_le (by rw [HN.out]; omega)])
        go_wp2
        go_ret
        exact ⟨ret_str Z.out, Q.out⟩
  · have Z0 : Hid (diffTextS l = ByteArray.empty) := hide (by unfold diffTextS; rw [if_neg h100])
    have d100 : decide ((l.length : Int) ≤ 100) = false := decide_eq_false (by omega)
    have d0 : (0 : Int) < (l.length : Int) := by omega
    go_enter Try.func19, Try.ntmps19
    go_wp2
    refine wp_loop_rounds 1 ?_
    rw [rounds_succ]
    go_wp2
    go_ret
    exact ⟨ret_str Z0.out.symm, Quiet.refl w⟩
end Go.Proofs.Ytcpalnkcjcgaeaa
