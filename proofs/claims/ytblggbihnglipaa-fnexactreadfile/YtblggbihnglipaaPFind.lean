/-
  Where a key stands: strings.Compare, the closure that compares, slices.BinarySearchFunc at pairs, place; spec.l1At.
-/
import Derived.Test.YtblggbihnglipaaPRises
import Derived.Test.YtblggbihnglipaaPOrd
import Derived.Lib.Bytealg
import Derived.Deep.LoopGhost
namespace Go.Proofs.Ytblggbihnglipaa
open Go.RowKit

set_option maxHeartbeats 1000000 in
set_option maxRecDepth 100000 in
theorem compareString_any (a b : ByteArray) (w : World) :
    Calls Try.prog 99 #[.string a, .string b] w fun e w' => e = .returned (.int .i64 (cmpS a b)) ∧ w = w' := by
  go_enter Try.func99, Try.ntmps99
  go_wp2
  rw [run_callFunc_extern Try.func103 (by kernel_rfl) (by kernel_rfl) (by kernel_rfl) (e := Extern.BytealgCompare.compare) (by kernel_rfl), Lib.run_compareString]
  simp only [Result.andThen]
  rw [Oper.upon_value]
  go_wp2
  go_ret
  exact ⟨rfl, rfl⟩

theorem compare_any (a b : ByteArray) (w : World) :
    Calls Try.prog 94 #[.string a, .string b] w fun e w' => e = .returned (.int .i64 (cmpS a b)) ∧ w = w' := by
  go_enter Try.func94, Try.ntmps94
  go_wp2_with (go_at_call 99; refine (compareString_any a b _).mono ?_; rintro e w' ⟨rfl, rfl⟩)
  go_ret
  exact ⟨rfl, rfl⟩

theorem placeCmp_any (a v k : ByteArray) (w : World) :
    Calls Try.prog 93 #[.agg #[.string a, .string v], .string k] w fun e w' => e = .returned (.int .i64 (cmpS a k)) ∧ Below w.heap.size w w' := by
  have hme := method_sortKey
  go_enter Try.func93, Try.ntmps93
  go_wp2_with (first | (go_at_call 137; refine (sortKey_any a v _).mono ?_; rintro e w' ⟨rfl, rfl⟩) | (go_at_call 94; refine (compare_any a k _).mono ?_; rintro e w' ⟨rfl, rfl⟩))
  go_ret
  exact ⟨rfl, ((Below.refl _ _).alloc (Nat.le_refl _) _).alloc (by simp) _⟩

/-- what a search has left open: all ahead of lo are less, none from hi on is -/
def Open (l : List Pr) (k : ByteArray) (lo hi : Nat) : Prop := (∀ t (h : t < l.length), t < lo → ltB l[t].1 k = true) ∧ ∀ t (h : t < l.length), hi ≤ t → ltB l[t].1 k = false
theorem Open.low {l : List Pr} {k : ByteArray} {lo hi m : Nat} (h : Open l k lo hi) (hr : risesTo l l.length) (hm : m < l.length) (hc : cmpS l[m].1 k < 0) : Open l k (m + 1) hi := by
  refine ⟨fun t ht hlt => ?_, h.2⟩
  have hc := cmpS_lt.1 hc
  rcases Nat.lt_or_ge t m with g | g
  · exact ltB_trans (rises_lt hr m hm t g) hc
  · obtain rfl : t = m := by omega
    exact hc
theorem Open.high {l : List Pr} {k : ByteArray} {lo hi m : Nat} (h : Open l k lo hi) (hr : risesTo l l.length) (hm : m < l.length) (hc : ¬ cmpS l[m].1 k < 0) : Open l k lo m := by
  refine ⟨h.1, fun t ht hlt => ?_⟩
  have hc : ltB l[m].1 k = false := by
    cases e : ltB l[m].1 k
    · rfl
    · exact absurd (cmpS_lt.2 e) hc
  cases e : ltB l[t].1 k
  · rfl
  · rcases Nat.lt_or_ge m t with g | g
    · rw [ltB_trans (rises_lt hr t ht m g) e] at hc
      cases hc
    · obtain rfl : t = m := by omega
      rw [e] at hc
      cases hc
theorem Open.at_ {l : List Pr} {k : ByteArray} {n : Nat} (h : Open l k n n) (hn : n ≤ l.length) : atN l k = n := atN_eq hn h.1 (fun h' => h.2 n h' (Nat.le_refl _))

set_option maxRecDepth 100000 in
set_option maxHeartbeats 2000000 in
theorem search_any (A : Option Addr) (l : List Pr) (cap : Nat) (key : ByteArray) (w : World) (hl : l.length ≤ 65536) (hin : PIn w w.heap.size A l) (hr : risesTo l l.length) :
    Calls Try.prog 92 #[.slice A l.length cap, .string key, .func (.func 93) #[] #[]] w fun e w' => e = .returned (.tuple #[.int .i64 (atN l key : Nat), .bool (hasB l key)]) ∧ Below w.heap.size w w' := by
  have HR := hide hr
  clear hr
  generalize hn : l.length = n at hl ⊢
  have HN := hide hn
  clear hn
  go_enter Try.func92, Try.ntmps92
  go_wp2
  go_loopw [9, 10] (fun i j wr => ∃ lo hi : Nat, lo ≤ hi ∧ hi ≤ n ∧ i = .int .i64 lo ∧ j = .int .i64 hi ∧ Hid (Open l key lo hi) ∧ Hid (Below w.heap.size w wr)) (fun i j _ => (intOf j - intOf i).toNat)
  case atStart => exact ⟨0, n, Nat.zero_le _, Nat.le_refl _, rfl, rfl, hide ⟨fun t _ h => absurd h (by omega), fun t h h' => absurd h (by rw [HN.out]; omega)⟩, Below.refl _ w⟩
  case round =>
    obtain ⟨lo, hi, hlh, hhn, rfl, rfl, O, Q⟩ := hrel
    by_cases hlt : lo < hi
    · have hin2 := hin.below Q.out
      have hml : (lo + hi) / 2 < l.length := by rw [HN.out]; omega
      obtain ⟨b, off, rfl, hbB, hc⟩ := hin2.2 (by omega)
      obtain ⟨c1, c2⟩ := hc ((lo + hi) / 2) hml
      by_cases hcm : cmpS (l[(lo + hi) / 2]'hml).1 key < 0
      · have Z := hide (O.out.low HR.out hml hcm)
        generalize (l[(lo + hi) / 2]'hml).1 = s at *
        generalize (l[(lo + hi) / 2]'hml).2 = v at *
        clear hin hin2 hc
        go_wp2_with (go_at_call 93; refine (placeCmp_any s v key _).mono ?_; rintro e w' ⟨rfl, hb⟩)
        go_roundw
        case rel => exact ⟨(lo + hi) / 2 + 1, hi, by omega, hhn, by go_num, rfl, Z, Q.out.trans (hb.mono Q.out.size)⟩
        case measure => simp [intOf]; omega
      · have Z := hide (O.out.high HR.out hml hcm)
        generalize (l[(lo + hi) / 2]'hml).1 = s at *
        generalize (l[(lo + hi) / 2]'hml).2 = v at *
        clear hin hin2 hc
        go_wp2_with (go_at_call 93; refine (placeCmp_any s v key _).mono ?_; rintro e w' ⟨rfl, hb⟩)
        go_roundw
        case rel => exact ⟨lo, (lo + hi) / 2, by omega, by omega, rfl, by go_num, Z, Q.out.trans (hb.mono Q.out.size)⟩
        case measure => simp [intOf]; omega
    · obtain rfl : hi = lo := by omega
      have E := hide (O.out.at_ (by rw [HN.out]; exact hhn))
      by_cases hlast : hi < n
      · have hin2 := hin.below Q.out
        have hml : hi < l.length := by rw [HN.out]; omega
        obtain ⟨b, off, rfl, hbB, hc⟩ := hin2.2 (by omega)
        obtain ⟨c1, c2⟩ := hc hi hml
        by_cases hcm : (l[hi]'hml).1 = key
        · have Z : Hid (hasB l key = true) := hide (hasB_iff.2 ⟨by rw [E.out]; exact hml, by simp only [E.out]; exact hcm⟩)
          have z0 : (cmpS (l[hi]'hml).1 key == 0) = true := by rw [beq_iff_eq]; exact cmpS_eq.2 hcm
          generalize (l[hi]'hml).1 = s at *
          generalize (l[hi]'hml).2 = v at *
          clear hin hin2 hc hcm
          go_wp2_with (go_at_call 93; refine (placeCmp_any s v key _).mono ?_; rintro e w' ⟨rfl, hb⟩)
          go_ret2
          exact ⟨ret_ib (by rw [E.out]) Z.out.symm, Q.out.trans (hb.mono Q.out.size)⟩
        · have Z : Hid (hasB l key = false) := hide (hasB_no (by rw [E.out]; exact hml) (by simp only [E.out]; exact hcm))
          have z0 : (cmpS (l[hi]'hml).1 key == 0) = false := by rw [beq_eq_false_iff_ne]; exact fun h => hcm (cmpS_eq.1 h)
          generalize (l[hi]'hml).1 = s at *
          generalize (l[hi]'hml).2 = v at *
          clear hin hin2 hc hcm
          go_wp2_with (go_at_call 93; refine (placeCmp_any s v key _).mono ?_; rintro e w' ⟨rfl, hb⟩)
          go_ret2
          exact ⟨ret_ib (by rw [E.out]) Z.out.symm, Q.out.trans (hb.mono Q.out.size)⟩
      · have Z : Hid (hasB l key = false) := hide (hasB_end (by rw [E.out, HN.out]; omega))
        go_wp2
        go_ret2
        exact ⟨ret_ib (by rw [E.out]) Z.out.symm, Q.out⟩

theorem place_any (A : Option Addr) (l : List Pr) (cap : Nat) (key : ByteArray) (w : World) (hl : l.length ≤ 65536) (hin : PIn w w.heap.size A l) (hr : risesTo l l.length) :
    Calls Try.prog 84 #[.slice A l.length cap, .string key] w fun e w' => e = .returned (.tuple #[.int .i64 (atN l key : Nat), .bool (hasB l key)]) ∧ Below w.heap.size w w' := by
  have R := hide (search_any A l cap key w hl hin hr)
  clear hin hr
  go_enter Try.func84, Try.ntmps84
  go_wp2_with (go_at_call 92; refine R.out.mono ?_; rintro e w' ⟨rfl, hb⟩)
  go_ret2
  exact ⟨rfl, hb⟩

end Go.Proofs.Ytblggbihnglipaa
