/-
  Refs behind pointers: their names; whether they rise; where a name stands.
-/
import Derived.Test.YtmmeabfeehnajaaRMem
import Derived.Test.YtmmeabfeehnajaaPOrd
import Derived.Test.YtmmeabfeehnajaaPCls
import Derived.Test.YtmmeabfeehnajaaPQuiet
import Derived.Lib.Bytealg
import Derived.Deep.LoopGhost
import Derived.BigQuiet
import Derived.IntWalk
namespace Go.Proofs.Ytmmeabfeehnajaa
open Go.RowKit

theorem rsortKey_any (g : Nat) (x : ByteArray) (w : World) (h : w.cell? ⟨g, 0, none⟩ = some (.string x)) :
    Calls Try.prog 98 #[pv g] w fun e w' => e = .returned (.string x) ∧ w = w' := by
  unfold pv
  go_enter Try.func98, Try.ntmps98
  go_wp2
  go_ret
  exact ⟨rfl, rfl⟩
theorem method_rsortKey (v : Option Addr) (w : World) : (method 217 63 (.pointer v) "loop.example/g00652/impl.sortKey").run Try.prog w = .ok (98, .pointer v) w := by kernel_rfl
theorem same_below {P : Program} {f : FuncId} {args : Array Value} {w : World} {v : Value} (h : Calls P f args w fun e w' => e = .returned v ∧ w = w') : Calls P f args w fun e w' => e = .returned v ∧ Below w.heap.size w w' :=
  h.mono fun _ _ ⟨he, hw⟩ => ⟨he, hw ▸ Below.refl _ _⟩

set_option maxRecDepth 100000 in
set_option maxHeartbeats 2000000 in
theorem risesR_any (A : Option Addr) (l : List Pr) (cap : Nat) (w : World) (hl : l.length ≤ maxLen) (hin : RIn w w.heap.size A l) :
    Calls Try.prog 56 #[.slice A l.length cap] w fun e w' => e = .returned (.bool (risesB l)) ∧ Below w.heap.size w w' := by
  unfold maxLen at hl
  generalize hn : l.length = n at *
  have HN := hide hn
  have IN := hide hin
  clear hn hin
  have hme := method_rsortKey
  go_enter Try.func56, Try.ntmps56
  go_wp2
  go_loopw [3] (fun i wr => ∃ k : Nat, (k ≤ n ∨ k = 1) ∧ 1 ≤ k ∧ i = .int .i64 k ∧ Hid (risesTo l k) ∧ Hid (Below w.heap.size w wr)) (fun i _ => n - (intOf i).toNat)
  case atStart => exact ⟨1, .inr rfl, by omega, rfl, risesTo_one _, Below.refl _ w⟩
  case round =>
    obtain ⟨k, hk, h1, rfl, H, Q⟩ := hrel
    have hqs := Q.out.size
    by_cases hlt : k < n
    · have hkl : k < l.length := by rw [HN.out]; omega
      obtain ⟨b, off, rfl, hbB, hc⟩ := (IN.out.below Q.out) (by omega)
      obtain ⟨g, hg, c1, c2, c3⟩ := hc k hkl
      obtain ⟨g0, hg0, d1, d2, d3⟩ := hc (k - 1) (by omega)
      have hbw : b < wr.heap.size := by omega
      have hgw : g < wr.heap.size := by omega
      have hg0w : g0 < wr.heap.size := by omega
      have q1 : IntKind.i64.wrap ((k : Int) - 1) = (k : Int) - 1 := IntWalk.i64_in _ (by omega)
      have q2 : (0 : Int) ≤ (k : Int) - 1 := by omega
      have q3 : (1 : Int) ≤ (k : Int) := by omega
      have q4 : ((k : Int) - 1).toNat = k - 1 := by omega
      have q5 : (k : Int) - 1 < (n : Int) := by omega
      have y1 := cls_cell (B := wr.heap.size) hbw c1
      have y2 := cls_cell (B := wr.heap.size) hgw c2
      have u1 := cls_cell (B := wr.heap.size) hbw d1
      have u2 := cls_cell (B := wr.heap.size) hg0w d2
      clear c1 c2 c3 d1 d2 d3 hc
      simp only [pv] at y1 u1
      cases hrise : ltB (l[k - 1]'(by omega)).1 (l[k]'hkl).1
      · have Z := hide (risesB_no (l := l) (k := k - 1) (by omega) (by simpa [show k - 1 + 1 = k by omega] using hrise))
        have hrise2 : Op.bytesLess (l[k - 1]'(by omega)).1.toList (l[k]'hkl).1.toList = false := hrise
        generalize (l[k]'hkl).1 = s at *
        generalize (l[k - 1]'(by omega)).1 = s0 at *
        clear hrise hkl
        go_wp2
        refine wp_region_cls (by kernel_rfl) (by kernel_rfl) wr.heap.size ?_
        repeat (go_big_quiet_step ((first | (go_at_call 98; exact cls_call (Nat.le_refl _) (same_below (rsortKey_any g s _ (y2 _)))) | (go_at_call 98; exact cls_call (Nat.le_refl _) (same_below (rsortKey_any g0 s0 _ (u2 _)))))))
        refine wpQuiet_nil ?_
        intro _ hw'
        obtain ⟨u, hw''⟩ := hw'
        subst hw''
        clear q1 q4
        go_wp2
        go_ret
        exact ⟨ret_bool Z.out.symm, Q.out.trans (u.below.mono hqs)⟩
      · have Z := hide (risesTo_succ (l := l) (k := k - 1) (by omega) (by simpa [show k - 1 + 1 = k by omega] using H.out) (by simpa [show k - 1 + 1 = k by omega] using hrise))
        have hrise2 : Op.bytesLess (l[k - 1]'(by omega)).1.toList (l[k]'hkl).1.toList = true := hrise
        generalize (l[k]'hkl).1 = s at *
        generalize (l[k - 1]'(by omega)).1 = s0 at *
        clear hrise hkl
        go_wp2
        refine wp_region_cls (by kernel_rfl) (by kernel_rfl) wr.heap.size ?_
        repeat (go_big_quiet_step ((first | (go_at_call 98; exact cls_call (Nat.le_refl _) (same_below (rsortKey_any g s _ (y2 _)))) | (go_at_call 98; exact cls_call (Nat.le_refl _) (same_below (rsortKey_any g0 s0 _ (u2 _)))))))
        refine wpQuiet_nil ?_
        intro _ hw'
        obtain ⟨u, hw''⟩ := hw'
        subst hw''
        clear q1 q4
        go_wp2
        exact ⟨⟨k + 1, by omega, by omega, by go_num, by rw [show k + 1 = k - 1 + 2 by omega]; exact Z, hide (Q.out.trans (u.below.mono hqs))⟩, by simp [intOf]; omega⟩
    · have Z : Hid (risesB l = true) := hide (risesB_yes (by
        intro i hi hik
        exact H.out i hi (by rw [HN.out] at hi; omega)))
      go_wp2
      go_ret
      exact ⟨ret_bool Z.out.symm, Q.out⟩
end Go.Proofs.Ytmmeabfeehnajaa
