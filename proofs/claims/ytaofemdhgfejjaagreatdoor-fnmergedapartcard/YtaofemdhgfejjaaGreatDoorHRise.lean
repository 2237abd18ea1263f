/-
  What impl's sorted list of changes answers when asked whether it rises.
-/
import Derived.Test.YtaofemdhgfejjaaGreatDoorHApp
import Derived.Test.YtaofemdhgfejjaaGreatDoorPCls
import Derived.BigQuiet
import Derived.IntWalk
namespace Go.Proofs.YtaofemdhgfejjaaGreatDoor
open Go.RowKit

theorem csortKey_any (x o n : ByteArray) (p q : Bool) (w : World) :
    Calls Tryz.prog 123 #[.agg #[.string x, .string o, .string n, .bool p, .bool q]] w fun e w' => e = .returned (.string x) ∧ Below w.heap.size w w' := by
  go_enter Tryz.func123, Tryz.ntmps123
  go_wp2
  go_ret
  exact ⟨rfl, (Below.refl _ _).alloc (Nat.le_refl _) _⟩

theorem method_csortKey (x1 x2 x3 x4 x5 : Value) (w : World) : (method 314 45 (.agg #[x1, x2, x3, x4, x5]) "loop.example/g00652/impl.sortKey").run Tryz.prog w = .ok (123, .agg #[x1, x2, x3, x4, x5]) w := by kernel_rfl

set_option maxRecDepth 100000 in
set_option maxHeartbeats 2000000 in
theorem risesC_any (A : Option Addr) (l : List Ch) (cap : Nat) (w : World) (hl : l.length ≤ maxLen) (hin : HIn w w.heap.size A l) :
    Calls Tryz.prog 40 #[.slice A l.length cap] w fun e w' => e = .returned (.bool (risesB (cp l))) ∧ Below w.heap.size w w' := by
  unfold maxLen at hl
  have HL := hide (cp_len l)
  generalize hn : l.length = n at *
  have HN := hide hn
  clear hn
  have hme := method_csortKey
  go_enter Tryz.func40, Tryz.ntmps40
  go_wp2
  go_loopw [3] (fun i wr => ∃ k : Nat, (k ≤ n ∨ k = 1) ∧ 1 ≤ k ∧ i = .int .i64 k ∧ Hid (risesTo (cp l) k) ∧ Hid (Below w.heap.size w wr)) (fun i _ => n - (intOf i).toNat)
  case atStart => exact ⟨1, .inr rfl, by omega, rfl, risesTo_one _, Below.refl _ w⟩
  case round =>
    obtain ⟨k, hk, h1, rfl, H, Q⟩ := hrel
    have hqs := Q.out.size
    by_cases hlt : k < n
    · have hin2 := hin.below Q.out
      obtain ⟨b, off, rfl, hbB, hc⟩ := hin2.2 (by rw [HN.out]; omega)
      have hkl : k < l.length := by rw [HN.out]; omega
      have hkp : k < (cp l).length := by rw [HL.out]; omega
      obtain ⟨c1, c2, c3, c4, c5⟩ := hc k hkl
      obtain ⟨d1, d2, d3, d4, d5⟩ := hc (k - 1) (by omega)
      have g1 := hide (cp_get l k hkp)
      have g2 := hide (cp_get l (k - 1) (by omega))
      have hbw : b < wr.heap.size := by omega
      have q1 : IntKind.i64.wrap ((k : Int) - 1) = (k : Int) - 1 := IntWalk.i64_in _ (by omega)
      have q2 : (0 : Int) ≤ (k : Int) - 1 := by omega
      have q3 : (1 : Int) ≤ (k : Int) := by omega
      have q4 : ((k : Int) - 1).toNat = k - 1 := by omega
      have q5 : (k : Int) - 1 < (n : Int) := by omega
      cases hrise : ltB (l[k - 1]'(by omega)).1 (l[k]'hkl).1
      · have Z := hide (risesB_no (l := cp l) (k := k - 1) (by omega) (by rw [g2.out]; simp only [show k - 1 + 1 = k by omega]; rw [g1.out]; exact hrise))
        have hrise2 : Op.bytesLess (l[k - 1]'(by omega)).1.toList (l[k]'hkl).1.toList = false := hrise
        generalize (l[k]'hkl) = e at *
        generalize (l[k - 1]'(by omega)) = e0 at *
        obtain ⟨x, o, m, p, q⟩ := e
        obtain ⟨x0, o0, m0, p0, r0⟩ := e0
        clear hin hin2 hc hrise hkl hkp g1 g2
        have y1 := cls_cell (B := wr.heap.size) hbw c1
        have y2 := cls_cell (B := wr.heap.size) hbw c2
        have y3 := cls_cell (B := wr.heap.size) hbw c3
        have y4 := cls_cell (B := wr.heap.size) hbw c4
        have y5 := cls_cell (B := wr.heap.size) hbw c5
        have u1 := cls_cell (B := wr.heap.size) hbw d1
        have u2 := cls_cell (B := wr.heap.size) hbw d2
        have u3 := cls_cell (B := wr.heap.size) hbw d3
        have u4 := cls_cell (B := wr.heap.size) hbw d4
        have u5 := cls_cell (B := wr.heap.size) hbw d5
        clear c1 c2 c3 c4 c5 d1 d2 d3 d4 d5
        go_wp2
        refine wp_region_cls (by kernel_rfl) (by kernel_rfl) wr.heap.size ?_
        repeat (go_big_quiet_step ((go_at_call 123; exact cls_call (Nat.le_refl _) (csortKey_any _ _ _ _ _ _))))
        refine wpQuiet_nil ?_
        intro _ hw'
        obtain ⟨u, hw''⟩ := hw'
        subst hw''
        clear q1 q4
        go_wp2
        go_ret
        exact ⟨ret_bool Z.out.symm, Q.out.trans (u.below.mono hqs)⟩
      · have Z := hide (risesTo_succ (l := cp l) (k := k - 1) (by omega) (by simpa [show k - 1 + 1 = k by omega] using H.out) (by rw [g2.out]; simp only [show k - 1 + 1 = k by omega]; rw [g1.out]; exact hrise))
        have hrise2 : Op.bytesLess (l[k - 1]'(by omega)).1.toList (l[k]'hkl).1.toList = true := hrise
        generalize (l[k]'hkl) = e at *
        generalize (l[k - 1]'(by omega)) = e0 at *
        obtain ⟨x, o, m, p, q⟩ := e
        obtain ⟨x0, o0, m0, p0, r0⟩ := e0
        clear hin hin2 hc hrise hkl hkp g1 g2
        have y1 := cls_cell (B := wr.heap.size) hbw c1
        have y2 := cls_cell (B := wr.heap.size) hbw c2
        have y3 := cls_cell (B := wr.heap.size) hbw c3
        have y4 := cls_cell (B := wr.heap.size) hbw c4
        have y5 := cls_cell (B := wr.heap.size) hbw c5
        have u1 := cls_cell (B := wr.heap.size) hbw d1
        have u2 := cls_cell (B := wr.heap.size) hbw d2
        have u3 := cls_cell (B := wr.heap.size) hbw d3
        have u4 := cls_cell (B := wr.heap.size) hbw d4
        have u5 := cls_cell (B := wr.heap.size) hbw d5
        clear c1 c2 c3 c4 c5 d1 d2 d3 d4 d5
        go_wp2
        refine wp_region_cls (by kernel_rfl) (by kernel_rfl) wr.heap.size ?_
        repeat (go_big_quiet_step ((go_at_call 123; exact cls_call (Nat.le_refl _) (csortKey_any _ _ _ _ _ _))))
        refine wpQuiet_nil ?_
        intro _ hw'
        obtain ⟨u, hw''⟩ := hw'
        subst hw''
        clear q1 q4
        go_wp2
        exact ⟨⟨k + 1, by omega, by omega, by go_num, by rw [show k + 1 = k - 1 + 2 by omega]; exact Z, hide (Q.out.trans (u.below.mono hqs))⟩, by simp [intOf]; omega⟩
    · have Z : Hid (risesB (cp l) = true) := hide (risesB_yes (by
        intro i hi hik
        exact H.out i hi (by rw [HL.out] at hi; omega)))
      go_wp2
      go_ret
      exact ⟨ret_bool Z.out.symm, Q.out⟩

end Go.Proofs.YtaofemdhgfejjaaGreatDoor
