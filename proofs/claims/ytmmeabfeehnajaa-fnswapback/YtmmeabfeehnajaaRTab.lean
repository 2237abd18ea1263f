/-
  Tables of refs: impl.RefsOk, the ref of a name, impl.RefOf.
-/
import Derived.Test.YtmmeabfeehnajaaRRefsI
import Derived.Test.YtmmeabfeehnajaaRFind
import Derived.Test.YtmmeabfeehnajaaRSpec2
namespace Go.Proofs.Ytmmeabfeehnajaa
open Go.RowKit

set_option maxRecDepth 100000 in
set_option maxHeartbeats 1000000 in
theorem implRefsOk_any (A : Option Addr) (l : List Pr) (cap : Nat) (w : World) (hl : l.length ≤ maxLen) (hin : PIn w w.heap.size A l) :
    Calls Try.prog 18 #[.slice A l.length cap] w fun e w' => e = .returned (.bool (refB l)) ∧ Below w.heap.size w w' := by
  have R := hide (refsOf_any A l cap w hl hin)
  go_enter Try.func18, Try.ntmps18
  go_wp2_with fail
  refine R.out.mono ?_
  rintro e w1 ⟨b1, ⟨h, rfl⟩ | ⟨h, A2, cap2, bs, rfl, p1⟩⟩
  · have Z := hide h
    go_wp2
    go_ret
    exact ⟨ret_bool Z.out.symm, b1.alloc b1.size _⟩
  · have Z := hide h
    go_wp2
    go_ret
    exact ⟨ret_bool Z.out.symm, b1.alloc b1.size _⟩

def NamedRet (l : List Pr) (bs : List Nat) (k : ByteArray) (w : World) (e : Ending) (w' : World) : Prop :=
  Below w.heap.size w w' ∧ ((hasB l k = false ∧ e = .returned (.pointer none)) ∨ (hasB l k = true ∧ ∃ h : atN l k < bs.length, e = .returned (.pointer (some ⟨bs[atN l k], 0, none⟩))))
set_option maxRecDepth 100000 in
set_option maxHeartbeats 1000000 in
theorem named_any (A : Option Addr) (l : List Pr) (cap : Nat) (bs : List Nat) (k : ByteArray) (w : World) (lo : Nat) (hl : l.length ≤ 65536) (hp : PRefs w lo A cap bs l) (hr : risesTo l l.length) :
    Calls Try.prog 42 #[.agg #[.slice A l.length cap], .string k] w (NamedRet l bs k w) := by
  have P := hide hp
  have HR := hide hr
  have bx : Hid (Below w.heap.size w (w.alloc (.cells #[.slice A l.length cap] 55))) := hide ((Below.refl _ _).alloc (Nat.le_refl _) _)
  have T := hide (TB.new w A l.length cap rfl)
  have hz : w.heap.size < (w.alloc (.cells #[.slice A l.length cap] 55)).heap.size := by simp
  have r1 := T.out.c
  clear hp hr
  go_enter Try.func42, Try.ntmps42
  go_wp2_with fail
  refine (placeR_any A l cap k _ hl (P.out.below bx.out).rin HR.out).mono ?_
  rintro e w1 ⟨rfl, b1⟩
  have B1 := hide (bx.out.trans (b1.mono bx.out.size))
  have r2 := (T.out.below b1 hz).c
  have P1 := hide ((P.out.below bx.out).below b1)
  clear b1 r1
  cases hh : hasB l k
  · have Z := hide hh
    go_wp2
    go_ret
    exact ⟨B1.out, .inl ⟨Z.out, rfl⟩⟩
  · obtain ⟨hlt, _⟩ := hasB_iff.1 hh
    have Z := hide hh
    have hlb : atN l k < bs.length := by rw [P1.out.2.1]; exact hlt
    obtain ⟨b, off, rfl, hbB, hc⟩ := P1.out.1.qin (by omega)
    have c1 := hc (atN l k) hlb
    simp only [pv] at c1
    have hli : (atN l k : Int) < (l.length : Int) := by omega
    clear hc
    generalize hg : bs[atN l k]'hlb = g at *
    have G := hide hg
    generalize ha : atN l k = m at *
    have HA := hide ha
    clear hg ha
    go_wp2
    go_ret
    exact ⟨B1.out, .inr ⟨Z.out, by rw [HA.out]; exact hlb, by simp only [HA.out, G.out]; rfl⟩⟩

set_option maxRecDepth 100000 in
set_option maxHeartbeats 1000000 in
theorem implRefOf_any (A : Option Addr) (l : List Pr) (cap : Nat) (k : ByteArray) (w : World) (hl : l.length ≤ maxLen) (hin : PIn w w.heap.size A l) :
    Calls Try.prog 14 #[.slice A l.length cap, .string k] w fun e w' => e = .returned (.tuple #[.string (gotV l k), .bool (gotB l k)]) ∧ Below w.heap.size w w' := by
  have R := hide (refsOf_any A l cap w hl hin)
  go_enter Try.func14, Try.ntmps14
  go_wp2_with fail
  refine R.out.mono ?_
  rintro e w1 ⟨b1, ⟨h, rfl⟩ | ⟨h, A2, cap2, bs, rfl, p1⟩⟩
  · have Z := hide (ret_sb (gotV_no (k := k) h) (gotB_no (k := k) h))
    go_wp2
    go_ret2
    exact ⟨Z.out.symm, b1.alloc b1.size _⟩
  · have h20 := (refB_iff.1 h).1
    have HR := hide (refB_iff.1 h).2.2
    have ZB := hide (gotB_yes (k := k) h)
    have ZV := hide (gotV_yes (k := k) h)
    have T := hide (TB.new w1 A2 l.length cap2 rfl)
    have bx : Hid (Below w1.heap.size w1 (w1.alloc (.cells #[.slice A2 l.length cap2] 55))) := hide ((Below.refl _ _).alloc (Nat.le_refl _) _)
    have P := hide (p1.below bx.out)
    have B1 := hide (b1.trans (bx.out.mono b1.size))
    have r1 := T.out.c
    clear p1 b1 h
    go_wp2_with fail
    refine (named_any A2 l cap2 bs k _ w.heap.size (by omega) P.out HR.out).mono ?_
    rintro e w2 ⟨b2, ⟨hh, rfl⟩ | ⟨hh, hlb, rfl⟩⟩
    · have Z := hide (ret_sb (ZV.out.trans (valOf_no hh)) (ZB.out.trans hh))
      go_wp2
      go_ret2
      exact ⟨Z.out.symm, B1.out.trans (b2.mono B1.out.size)⟩
    · obtain ⟨hlt, he⟩ := hasB_iff.1 hh
      have Z := hide (ret_sb (ZV.out.trans (valOf_yes hlt he)) (ZB.out.trans hh))
      obtain ⟨_, _, ra⟩ := (P.out.below b2).2.2.2.2 (atN l k) hlb hlt
      have c2 := ra.c2
      have B2 := hide (B1.out.trans (b2.mono B1.out.size))
      clear ra b2
      generalize bs[atN l k]'hlb = g at *
      generalize (l[atN l k]'hlt).2 = v at *
      go_wp2
      go_ret2
      exact ⟨Z.out.symm, B2.out⟩
end Go.Proofs.Ytmmeabfeehnajaa
