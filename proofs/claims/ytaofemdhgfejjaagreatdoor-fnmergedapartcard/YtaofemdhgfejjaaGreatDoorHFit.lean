/-
  impl.fits: is a change right where it is done; impl.edited: a map with one change done.
-/
import Derived.Test.YtaofemdhgfejjaaGreatDoorHRise
import Derived.Test.YtaofemdhgfejjaaGreatDoorHFitL
import Derived.Test.YtaofemdhgfejjaaGreatDoorHDiffI
namespace Go.Proofs.YtaofemdhgfejjaaGreatDoor
open Go.RowKit


theorem editOf_true_true (x o n : ByteArray) (w : World) : Calls Tryz.prog 44 #[.agg #[.string x, .string o, .string n, .bool true, .bool true]] w fun e w' => e = .returned (.iface 121 (.agg #[.string x, .string o, .string x, .string n])) ∧ Below w.heap.size w w' := editOf_any x o n true true w
theorem editOf_true_false (x o n : ByteArray) (w : World) : Calls Tryz.prog 44 #[.agg #[.string x, .string o, .string n, .bool true, .bool false]] w fun e w' => e = .returned (.iface 117 (.agg #[.string x, .string o])) ∧ Below w.heap.size w w' := editOf_any x o n true false w
theorem editOf_false_true (x o n : ByteArray) (w : World) : Calls Tryz.prog 44 #[.agg #[.string x, .string o, .string n, .bool false, .bool true]] w fun e w' => e = .returned (.iface 119 (.agg #[.string x, .string n])) ∧ Below w.heap.size w w' := editOf_any x o n false true w
theorem editOf_false_false (x o n : ByteArray) (w : World) : Calls Tryz.prog 44 #[.agg #[.string x, .string o, .string n, .bool false, .bool false]] w fun e w' => e = .returned (.iface 123 (.agg #[.string x])) ∧ Below w.heap.size w w' := editOf_any x o n false false w
set_option maxRecDepth 100000 in
set_option maxHeartbeats 16000000 in
theorem fits_any (A : Option Addr) (m : List Pr) (cap : Nat) (x o n : ByteArray) (p q : Bool) (w : World) (hl : m.length ≤ 65536) (hin : PIn w w.heap.size A m) (hr : risesTo m m.length) (hx : x.size ≤ maxLen) (hn : n.size ≤ maxLen) :
    Calls Tryz.prog 42 #[.slice A m.length cap, .agg #[.string x, .string o, .string n, .bool p, .bool q]] w fun e w' => e = .returned (.bool (fitB m (x, o, n, p, q))) ∧ Below w.heap.size w w' := by
  have HR := hide hr
  have IN := hide hin
  have hme1 := method_gain
  have hme2 := method_loss
  have hme3 := method_turn
  have hme4 := method_idle
  have hle := atN_le m x
  clear hr hin
  cases hK : keyB x
  · have Z : Hid (fitB m (x, o, n, p, q) = false) := hide (fit_no_key hK)
    go_enter Tryz.func42, Tryz.ntmps42
    go_wp2
    have bx : Hid (Below w.heap.size w (w.alloc (.cells #[.string x, .string o, .string n, .bool p, .bool q] 45))) := hide ((Below.refl _ _).alloc (Nat.le_refl _) _)
    have hbw : w.heap.size < (w.alloc (.cells #[.string x, .string o, .string n, .bool p, .bool q] 45)).heap.size := by simp
    have c1 : (w.alloc (.cells #[.string x, .string o, .string n, .bool p, .bool q] 45)).cell? ⟨w.heap.size, 0, none⟩ = some (.string x) := by simp [go_sem]
    have c2 : (w.alloc (.cells #[.string x, .string o, .string n, .bool p, .bool q] 45)).cell? ⟨w.heap.size, 1, none⟩ = some (.string o) := by simp [go_sem]
    have c3 : (w.alloc (.cells #[.string x, .string o, .string n, .bool p, .bool q] 45)).cell? ⟨w.heap.size, 2, none⟩ = some (.string n) := by simp [go_sem]
    have c4 : (w.alloc (.cells #[.string x, .string o, .string n, .bool p, .bool q] 45)).cell? ⟨w.heap.size, 3, none⟩ = some (.bool p) := by simp [go_sem]
    have c5 : (w.alloc (.cells #[.string x, .string o, .string n, .bool p, .bool q] 45)).cell? ⟨w.heap.size, 4, none⟩ = some (.bool q) := by simp [go_sem]
    generalize w.alloc (.cells #[.string x, .string o, .string n, .bool p, .bool q] 45) = W1 at *
    have y1 := cls_cell (B := W1.heap.size) hbw c1
    have y2 := cls_cell (B := W1.heap.size) hbw c2
    have y3 := cls_cell (B := W1.heap.size) hbw c3
    have y4 := cls_cell (B := W1.heap.size) hbw c4
    have y5 := cls_cell (B := W1.heap.size) hbw c5
    refine wp_region_cls (by kernel_rfl) (by kernel_rfl) W1.heap.size ?_
    repeat (go_big_quiet_step ((first | (go_at_call 31; exact cls_call (Nat.le_refl _) (same_below (keyOk_any x _ hx))) | (go_at_call 32; exact cls_call (Nat.le_refl _) (same_below (valOk_any n _ hn))) | (go_at_call 44; exact cls_call (Nat.le_refl _) (editOf_any x o n p q _)) | (go_at_call 133; exact cls_call (Nat.le_refl _) (turnChange_any x o x n _)) | (go_at_call 131; exact cls_call (Nat.le_refl _) (lossChange_any x o _)) | (go_at_call 132; exact cls_call (Nat.le_refl _) (gainChange_any x n _)) | (go_at_call 134; exact cls_call (Nat.le_refl _) (idleChange_any x _)))))
    refine wpQuiet_nil ?_
    intro _ hw'
    obtain ⟨u, hw''⟩ := hw'
    subst hw''
    have BU := hide (bx.out.trans (u.below.mono bx.out.size))
    go_wp2
    go_ret
    exact ⟨ret_bool Z.out.symm, BU.out⟩
  cases hV : valB n
  · have Z : Hid (fitB m (x, o, n, p, q) = false) := hide (fit_no (fun z => by rw [show valB n = false from hV] at z; exact absurd z.2.1 (by simp)))
    go_enter Tryz.func42, Tryz.ntmps42
    go_wp2
    have bx : Hid (Below w.heap.size w (w.alloc (.cells #[.string x, .string o, .string n, .bool p, .bool q] 45))) := hide ((Below.refl _ _).alloc (Nat.le_refl _) _)
    have hbw : w.heap.size < (w.alloc (.cells #[.string x, .string o, .string n, .bool p, .bool q] 45)).heap.size := by simp
    have c1 : (w.alloc (.cells #[.string x, .string o, .string n, .bool p, .bool q] 45)).cell? ⟨w.heap.size, 0, none⟩ = some (.string x) := by simp [go_sem]
    have c2 : (w.alloc (.cells #[.string x, .string o, .string n, .bool p, .bool q] 45)).cell? ⟨w.heap.size, 1, none⟩ = some (.string o) := by simp [go_sem]
    have c3 : (w.alloc (.cells #[.string x, .string o, .string n, .bool p, .bool q] 45)).cell? ⟨w.heap.size, 2, none⟩ = some (.string n) := by simp [go_sem]
    have c4 : (w.alloc (.cells #[.string x, .string o, .string n, .bool p, .bool q] 45)).cell? ⟨w.heap.size, 3, none⟩ = some (.bool p) := by simp [go_sem]
    have c5 : (w.alloc (.cells #[.string x, .string o, .string n, .bool p, .bool q] 45)).cell? ⟨w.heap.size, 4, none⟩ = some (.bool q) := by simp [go_sem]
    generalize w.alloc (.cells #[.string x, .string o, .string n, .bool p, .bool q] 45) = W1 at *
    have y1 := cls_cell (B := W1.heap.size) hbw c1
    have y2 := cls_cell (B := W1.heap.size) hbw c2
    have y3 := cls_cell (B := W1.heap.size) hbw c3
    have y4 := cls_cell (B := W1.heap.size) hbw c4
    have y5 := cls_cell (B := W1.heap.size) hbw c5
    refine wp_region_cls (by kernel_rfl) (by kernel_rfl) W1.heap.size ?_
    repeat (go_big_quiet_step ((first | (go_at_call 31; exact cls_call (Nat.le_refl _) (same_below (keyOk_any x _ hx))) | (go_at_call 32; exact cls_call (Nat.le_refl _) (same_below (valOk_any n _ hn))) | (go_at_call 44; exact cls_call (Nat.le_refl _) (editOf_any x o n p q _)) | (go_at_call 133; exact cls_call (Nat.le_refl _) (turnChange_any x o x n _)) | (go_at_call 131; exact cls_call (Nat.le_refl _) (lossChange_any x o _)) | (go_at_call 132; exact cls_call (Nat.le_refl _) (gainChange_any x n _)) | (go_at_call 134; exact cls_call (Nat.le_refl _) (idleChange_any x _)))))
    refine wpQuiet_nil ?_
    intro _ hw'
    obtain ⟨u, hw''⟩ := hw'
    subst hw''
    have BU := hide (bx.out.trans (u.below.mono bx.out.size))
    go_wp2
    go_ret
    exact ⟨ret_bool Z.out.symm, BU.out⟩
  rcases p with _ | _ <;> rcases q with _ | _
  · by_cases ho : o = ByteArray.empty
    · have HO := hide ho
      by_cases hnn : n = ByteArray.empty
      · have HN := hide hnn
        obtain ⟨m1, m2, m3, m4, m5⟩ := emp_eq ho; clear ho
        obtain ⟨p1, p2, p3, p4, p5⟩ := emp_eq hnn; clear hnn
        go_enter Tryz.func42, Tryz.ntmps42
        go_wp2
        have bx : Hid (Below w.heap.size w (w.alloc (.cells #[.string x, .string o, .string n, .bool false, .bool false] 45))) := hide ((Below.refl _ _).alloc (Nat.le_refl _) _)
        have hbw : w.heap.size < (w.alloc (.cells #[.string x, .string o, .string n, .bool false, .bool false] 45)).heap.size := by simp
        have c1 : (w.alloc (.cells #[.string x, .string o, .string n, .bool false, .bool false] 45)).cell? ⟨w.heap.size, 0, none⟩ = some (.string x) := by simp [go_sem]
        have c2 : (w.alloc (.cells #[.string x, .string o, .string n, .bool false, .bool false] 45)).cell? ⟨w.heap.size, 1, none⟩ = some (.string o) := by simp [go_sem]
        have c3 : (w.alloc (.cells #[.string x, .string o, .string n, .bool false, .bool false] 45)).cell? ⟨w.heap.size, 2, none⟩ = some (.string n) := by simp [go_sem]
        have c4 : (w.alloc (.cells #[.string x, .string o, .string n, .bool false, .bool false] 45)).cell? ⟨w.heap.size, 3, none⟩ = some (.bool false) := by simp [go_sem]
        have c5 : (w.alloc (.cells #[.string x, .string o, .string n, .bool false, .bool false] 45)).cell? ⟨w.heap.size, 4, none⟩ = some (.bool false) := by simp [go_sem]
        generalize w.alloc (.cells #[.string x, .string o, .string n, .bool false, .bool false] 45) = W1 at *
        have y1 := cls_cell (B := W1.heap.size) hbw c1
        have y2 := cls_cell (B := W1.heap.size) hbw c2
        have y3 := cls_cell (B := W1.heap.size) hbw c3
        have y4 := cls_cell (B := W1.heap.size) hbw c4
        have y5 := cls_cell (B := W1.heap.size) hbw c5
        refine wp_region_cls (by kernel_rfl) (by kernel_rfl) W1.heap.size ?_
        repeat (go_big_quiet_step ((first | (go_at_call 31; exact cls_call (Nat.le_refl _) (same_below (keyOk_any x _ hx))) | (go_at_call 32; exact cls_call (Nat.le_refl _) (same_below (valOk_any n _ hn))) | (go_at_call 44; exact cls_call (Nat.le_refl _) (editOf_false_false x o n _)) | (go_at_call 133; exact cls_call (Nat.le_refl _) (turnChange_any x o x n _)) | (go_at_call 131; exact cls_call (Nat.le_refl _) (lossChange_any x o _)) | (go_at_call 132; exact cls_call (Nat.le_refl _) (gainChange_any x n _)) | (go_at_call 134; exact cls_call (Nat.le_refl _) (idleChange_any x _)))))
        refine wpQuiet_nil ?_
        intro _ hw'
        obtain ⟨u, hw''⟩ := hw'
        subst hw''
        have BU := hide (bx.out.trans (u.below.mono bx.out.size))
        rcases hasB_cases m x with hh | hh
        · have Z : Hid (fitB m (x, o, n, false, false) = true) := hide (fitB_iff.2 ⟨hK, hV, hh, by rw [valOf_no hh]; exact HO.out.symm, .inr HN.out⟩)
          have k1 : u.wo.cell? ⟨w.heap.size, 0, none⟩ = some (.string x) := cellB u.below hbw c1
          go_wp2_with fail
          refine (place_any A m cap x _ hl ((IN.out.below BU.out).more BU.out.size) HR.out).mono ?_
          rintro e w2 ⟨rfl, b2⟩
          have hbu : w.heap.size < u.wo.heap.size := by have := u.below.size; omega
          have e1 : w2.cell? ⟨w.heap.size, 1, none⟩ = some (.string o) := cellB b2 hbu (cellB u.below hbw c2)
          have e3 : w2.cell? ⟨w.heap.size, 3, none⟩ = some (.bool false) := cellB b2 hbu (cellB u.below hbw c4)
          have B2 := hide (BU.out.trans (b2.mono BU.out.size))
          rw [hh]
          clear b2 BU k1 y1 y2 y3 y4 y5 c1 c2 c3 c4 c5
          go_wp2
          go_quiet (fail)
          go_wp2
          go_ret
          exact ⟨ret_bool Z.out.symm, belowN B2.out _⟩
        · have Z : Hid (fitB m (x, o, n, false, false) = false) := hide (fit_no (fun z => by rw [show hasB m x = true from hh] at z; exact absurd z.2.2.1 (by simp)))
          have k1 : u.wo.cell? ⟨w.heap.size, 0, none⟩ = some (.string x) := cellB u.below hbw c1
          go_wp2_with fail
          refine (place_any A m cap x _ hl ((IN.out.below BU.out).more BU.out.size) HR.out).mono ?_
          rintro e w2 ⟨rfl, b2⟩
          have hbu : w.heap.size < u.wo.heap.size := by have := u.below.size; omega
          have e1 : w2.cell? ⟨w.heap.size, 1, none⟩ = some (.string o) := cellB b2 hbu (cellB u.below hbw c2)
          have e3 : w2.cell? ⟨w.heap.size, 3, none⟩ = some (.bool false) := cellB b2 hbu (cellB u.below hbw c4)
          have B2 := hide (BU.out.trans (b2.mono BU.out.size))
          rw [hh]
          clear b2 BU k1 y1 y2 y3 y4 y5 c1 c2 c3 c4 c5
          go_wp2
          go_quiet (fail)
          go_wp2
          go_ret
          exact ⟨ret_bool Z.out.symm, belowN B2.out _⟩
      · have Z : Hid (fitB m (x, o, n, false, false) = false) := hide (fit_no (fun z => z.2.2.2.2.elim (fun g => by cases g) hnn))
        obtain ⟨m1, m2, m3, m4, m5⟩ := emp_ne hnn
        obtain ⟨p1, p2, p3, p4, p5⟩ := emp_eq ho; clear ho
        go_enter Tryz.func42, Tryz.ntmps42
        go_wp2
        have bx : Hid (Below w.heap.size w (w.alloc (.cells #[.string x, .string o, .string n, .bool false, .bool false] 45))) := hide ((Below.refl _ _).alloc (Nat.le_refl _) _)
        have hbw : w.heap.size < (w.alloc (.cells #[.string x, .string o, .string n, .bool false, .bool false] 45)).heap.size := by simp
        have c1 : (w.alloc (.cells #[.string x, .string o, .string n, .bool false, .bool false] 45)).cell? ⟨w.heap.size, 0, none⟩ = some (.string x) := by simp [go_sem]
        have c2 : (w.alloc (.cells #[.string x, .string o, .string n, .bool false, .bool false] 45)).cell? ⟨w.heap.size, 1, none⟩ = some (.string o) := by simp [go_sem]
        have c3 : (w.alloc (.cells #[.string x, .string o, .string n, .bool false, .bool false] 45)).cell? ⟨w.heap.size, 2, none⟩ = some (.string n) := by simp [go_sem]
        have c4 : (w.alloc (.cells #[.string x, .string o, .string n, .bool false, .bool false] 45)).cell? ⟨w.heap.size, 3, none⟩ = some (.bool false) := by simp [go_sem]
        have c5 : (w.alloc (.cells #[.string x, .string o, .string n, .bool false, .bool false] 45)).cell? ⟨w.heap.size, 4, none⟩ = some (.bool false) := by simp [go_sem]
        generalize w.alloc (.cells #[.string x, .string o, .string n, .bool false, .bool false] 45) = W1 at *
        have y1 := cls_cell (B := W1.heap.size) hbw c1
        have y2 := cls_cell (B := W1.heap.size) hbw c2
        have y3 := cls_cell (B := W1.heap.size) hbw c3
        have y4 := cls_cell (B := W1.heap.size) hbw c4
        have y5 := cls_cell (B := W1.heap.size) hbw c5
        refine wp_region_cls (by kernel_rfl) (by kernel_rfl) W1.heap.size ?_
        repeat (go_big_quiet_step ((first | (go_at_call 31; exact cls_call (Nat.le_refl _) (same_below (keyOk_any x _ hx))) | (go_at_call 32; exact cls_call (Nat.le_refl _) (same_below (valOk_any n _ hn))) | (go_at_call 44; exact cls_call (Nat.le_refl _) (editOf_false_false x o n _)) | (go_at_call 133; exact cls_call (Nat.le_refl _) (turnChange_any x o x n _)) | (go_at_call 131; exact cls_call (Nat.le_refl _) (lossChange_any x o _)) | (go_at_call 132; exact cls_call (Nat.le_refl _) (gainChange_any x n _)) | (go_at_call 134; exact cls_call (Nat.le_refl _) (idleChange_any x _)))))
        refine wpQuiet_nil ?_
        intro _ hw'
        obtain ⟨u, hw''⟩ := hw'
        subst hw''
        have BU := hide (bx.out.trans (u.below.mono bx.out.size))
        go_wp2
        go_ret
        exact ⟨ret_bool Z.out.symm, BU.out⟩
    · have Z : Hid (fitB m (x, o, n, false, false) = false) := hide (fit_old rfl ho)
      obtain ⟨m1, m2, m3, m4, m5⟩ := emp_ne ho
      go_enter Tryz.func42, Tryz.ntmps42
      go_wp2
      have bx : Hid (Below w.heap.size w (w.alloc (.cells #[.string x, .string o, .string n, .bool false, .bool false] 45))) := hide ((Below.refl _ _).alloc (Nat.le_refl _) _)
      have hbw : w.heap.size < (w.alloc (.cells #[.string x, .string o, .string n, .bool false, .bool false] 45)).heap.size := by simp
      have c1 : (w.alloc (.cells #[.string x, .string o, .string n, .bool false, .bool false] 45)).cell? ⟨w.heap.size, 0, none⟩ = some (.string x) := by simp [go_sem]
      have c2 : (w.alloc (.cells #[.string x, .string o, .string n, .bool false, .bool false] 45)).cell? ⟨w.heap.size, 1, none⟩ = some (.string o) := by simp [go_sem]
      have c3 : (w.alloc (.cells #[.string x, .string o, .string n, .bool false, .bool false] 45)).cell? ⟨w.heap.size, 2, none⟩ = some (.string n) := by simp [go_sem]
      have c4 : (w.alloc (.cells #[.string x, .string o, .string n, .bool false, .bool false] 45)).cell? ⟨w.heap.size, 3, none⟩ = some (.bool false) := by simp [go_sem]
      have c5 : (w.alloc (.cells #[.string x, .string o, .string n, .bool false, .bool false] 45)).cell? ⟨w.heap.size, 4, none⟩ = some (.bool false) := by simp [go_sem]
      generalize w.alloc (.cells #[.string x, .string o, .string n, .bool false, .bool false] 45) = W1 at *
      have y1 := cls_cell (B := W1.heap.size) hbw c1
      have y2 := cls_cell (B := W1.heap.size) hbw c2
      have y3 := cls_cell (B := W1.heap.size) hbw c3
      have y4 := cls_cell (B := W1.heap.size) hbw c4
      have y5 := cls_cell (B := W1.heap.size) hbw c5
      refine wp_region_cls (by kernel_rfl) (by kernel_rfl) W1.heap.size ?_
      repeat (go_big_quiet_step ((first | (go_at_call 31; exact cls_call (Nat.le_refl _) (same_below (keyOk_any x _ hx))) | (go_at_call 32; exact cls_call (Nat.le_refl _) (same_below (valOk_any n _ hn))) | (go_at_call 44; exact cls_call (Nat.le_refl _) (editOf_false_false x o n _)) | (go_at_call 133; exact cls_call (Nat.le_refl _) (turnChange_any x o x n _)) | (go_at_call 131; exact cls_call (Nat.le_refl _) (lossChange_any x o _)) | (go_at_call 132; exact cls_call (Nat.le_refl _) (gainChange_any x n _)) | (go_at_call 134; exact cls_call (Nat.le_refl _) (idleChange_any x _)))))
      refine wpQuiet_nil ?_
      intro _ hw'
      obtain ⟨u, hw''⟩ := hw'
      subst hw''
      have BU := hide (bx.out.trans (u.below.mono bx.out.size))
      go_wp2
      go_ret
      exact ⟨ret_bool Z.out.symm, BU.out⟩
  · by_cases ho : o = ByteArray.empty
    · have HO := hide ho
      obtain ⟨m1, m2, m3, m4, m5⟩ := emp_eq ho; clear ho
      go_enter Tryz.func42, Tryz.ntmps42
      go_wp2
      have bx : Hid (Below w.heap.size w (w.alloc (.cells #[.string x, .string o, .string n, .bool false, .bool true] 45))) := hide ((Below.refl _ _).alloc (Nat.le_refl _) _)
      have hbw : w.heap.size < (w.alloc (.cells #[.string x, .string o, .string n, .bool false, .bool true] 45)).heap.size := by simp
      have c1 : (w.alloc (.cells #[.string x, .string o, .string n, .bool false, .bool true] 45)).cell? ⟨w.heap.size, 0, none⟩ = some (.string x) := by simp [go_sem]
      have c2 : (w.alloc (.cells #[.string x, .string o, .string n, .bool false, .bool true] 45)).cell? ⟨w.heap.size, 1, none⟩ = some (.string o) := by simp [go_sem]
      have c3 : (w.alloc (.cells #[.string x, .string o, .string n, .bool false, .bool true] 45)).cell? ⟨w.heap.size, 2, none⟩ = some (.string n) := by simp [go_sem]
      have c4 : (w.alloc (.cells #[.string x, .string o, .string n, .bool false, .bool true] 45)).cell? ⟨w.heap.size, 3, none⟩ = some (.bool false) := by simp [go_sem]
      have c5 : (w.alloc (.cells #[.string x, .string o, .string n, .bool false, .bool true] 45)).cell? ⟨w.heap.size, 4, none⟩ = some (.bool true) := by simp [go_sem]
      generalize w.alloc (.cells #[.string x, .string o, .string n, .bool false, .bool true] 45) = W1 at *
      have y1 := cls_cell (B := W1.heap.size) hbw c1
      have y2 := cls_cell (B := W1.heap.size) hbw c2
      have y3 := cls_cell (B := W1.heap.size) hbw c3
      have y4 := cls_cell (B := W1.heap.size) hbw c4
      have y5 := cls_cell (B := W1.heap.size) hbw c5
      refine wp_region_cls (by kernel_rfl) (by kernel_rfl) W1.heap.size ?_
      repeat (go_big_quiet_step ((first | (go_at_call 31; exact cls_call (Nat.le_refl _) (same_below (keyOk_any x _ hx))) | (go_at_call 32; exact cls_call (Nat.le_refl _) (same_below (valOk_any n _ hn))) | (go_at_call 44; exact cls_call (Nat.le_refl _) (editOf_false_true x o n _)) | (go_at_call 133; exact cls_call (Nat.le_refl _) (turnChange_any x o x n _)) | (go_at_call 131; exact cls_call (Nat.le_refl _) (lossChange_any x o _)) | (go_at_call 132; exact cls_call (Nat.le_refl _) (gainChange_any x n _)) | (go_at_call 134; exact cls_call (Nat.le_refl _) (idleChange_any x _)))))
      refine wpQuiet_nil ?_
      intro _ hw'
      obtain ⟨u, hw''⟩ := hw'
      subst hw''
      have BU := hide (bx.out.trans (u.below.mono bx.out.size))
      rcases hasB_cases m x with hh | hh
      · have Z : Hid (fitB m (x, o, n, false, true) = true) := hide (fitB_iff.2 ⟨hK, hV, hh, by rw [valOf_no hh]; exact HO.out.symm, .inl rfl⟩)
        have k1 : u.wo.cell? ⟨w.heap.size, 0, none⟩ = some (.string x) := cellB u.below hbw c1
        go_wp2_with fail
        refine (place_any A m cap x _ hl ((IN.out.below BU.out).more BU.out.size) HR.out).mono ?_
        rintro e w2 ⟨rfl, b2⟩
        have hbu : w.heap.size < u.wo.heap.size := by have := u.below.size; omega
        have e1 : w2.cell? ⟨w.heap.size, 1, none⟩ = some (.string o) := cellB b2 hbu (cellB u.below hbw c2)
        have e3 : w2.cell? ⟨w.heap.size, 3, none⟩ = some (.bool false) := cellB b2 hbu (cellB u.below hbw c4)
        have B2 := hide (BU.out.trans (b2.mono BU.out.size))
        rw [hh]
        clear b2 BU k1 y1 y2 y3 y4 y5 c1 c2 c3 c4 c5
        go_wp2
        go_quiet (fail)
        go_wp2
        go_ret
        exact ⟨ret_bool Z.out.symm, belowN B2.out _⟩
      · have Z : Hid (fitB m (x, o, n, false, true) = false) := hide (fit_no (fun z => by rw [show hasB m x = true from hh] at z; exact absurd z.2.2.1 (by simp)))
        have k1 : u.wo.cell? ⟨w.heap.size, 0, none⟩ = some (.string x) := cellB u.below hbw c1
        go_wp2_with fail
        refine (place_any A m cap x _ hl ((IN.out.below BU.out).more BU.out.size) HR.out).mono ?_
        rintro e w2 ⟨rfl, b2⟩
        have hbu : w.heap.size < u.wo.heap.size := by have := u.below.size; omega
        have e1 : w2.cell? ⟨w.heap.size, 1, none⟩ = some (.string o) := cellB b2 hbu (cellB u.below hbw c2)
        have e3 : w2.cell? ⟨w.heap.size, 3, none⟩ = some (.bool false) := cellB b2 hbu (cellB u.below hbw c4)
        have B2 := hide (BU.out.trans (b2.mono BU.out.size))
        rw [hh]
        clear b2 BU k1 y1 y2 y3 y4 y5 c1 c2 c3 c4 c5
        go_wp2
        go_quiet (fail)
        go_wp2
        go_ret
        exact ⟨ret_bool Z.out.symm, belowN B2.out _⟩
    · have Z : Hid (fitB m (x, o, n, false, true) = false) := hide (fit_old rfl ho)
      obtain ⟨m1, m2, m3, m4, m5⟩ := emp_ne ho
      go_enter Tryz.func42, Tryz.ntmps42
      go_wp2
      have bx : Hid (Below w.heap.size w (w.alloc (.cells #[.string x, .string o, .string n, .bool false, .bool true] 45))) := hide ((Below.refl _ _).alloc (Nat.le_refl _) _)
      have hbw : w.heap.size < (w.alloc (.cells #[.string x, .string o, .string n, .bool false, .bool true] 45)).heap.size := by simp
      have c1 : (w.alloc (.cells #[.string x, .string o, .string n, .bool false, .bool true] 45)).cell? ⟨w.heap.size, 0, none⟩ = some (.string x) := by simp [go_sem]
      have c2 : (w.alloc (.cells #[.string x, .string o, .string n, .bool false, .bool true] 45)).cell? ⟨w.heap.size, 1, none⟩ = some (.string o) := by simp [go_sem]
      have c3 : (w.alloc (.cells #[.string x, .string o, .string n, .bool false, .bool true] 45)).cell? ⟨w.heap.size, 2, none⟩ = some (.string n) := by simp [go_sem]
      have c4 : (w.alloc (.cells #[.string x, .string o, .string n, .bool false, .bool true] 45)).cell? ⟨w.heap.size, 3, none⟩ = some (.bool false) := by simp [go_sem]
      have c5 : (w.alloc (.cells #[.string x, .string o, .string n, .bool false, .bool true] 45)).cell? ⟨w.heap.size, 4, none⟩ = some (.bool true) := by simp [go_sem]
      generalize w.alloc (.cells #[.string x, .string o, .string n, .bool false, .bool true] 45) = W1 at *
      have y1 := cls_cell (B := W1.heap.size) hbw c1
      have y2 := cls_cell (B := W1.heap.size) hbw c2
      have y3 := cls_cell (B := W1.heap.size) hbw c3
      have y4 := cls_cell (B := W1.heap.size) hbw c4
      have y5 := cls_cell (B := W1.heap.size) hbw c5
      refine wp_region_cls (by kernel_rfl) (by kernel_rfl) W1.heap.size ?_
      repeat (go_big_quiet_step ((first | (go_at_call 31; exact cls_call (Nat.le_refl _) (same_below (keyOk_any x _ hx))) | (go_at_call 32; exact cls_call (Nat.le_refl _) (same_below (valOk_any n _ hn))) | (go_at_call 44; exact cls_call (Nat.le_refl _) (editOf_false_true x o n _)) | (go_at_call 133; exact cls_call (Nat.le_refl _) (turnChange_any x o x n _)) | (go_at_call 131; exact cls_call (Nat.le_refl _) (lossChange_any x o _)) | (go_at_call 132; exact cls_call (Nat.le_refl _) (gainChange_any x n _)) | (go_at_call 134; exact cls_call (Nat.le_refl _) (idleChange_any x _)))))
      refine wpQuiet_nil ?_
      intro _ hw'
      obtain ⟨u, hw''⟩ := hw'
      subst hw''
      have BU := hide (bx.out.trans (u.below.mono bx.out.size))
      go_wp2
      go_ret
      exact ⟨ret_bool Z.out.symm, BU.out⟩
  · by_cases hnn : n = ByteArray.empty
    · have HN := hide hnn
      obtain ⟨m1, m2, m3, m4, m5⟩ := emp_eq hnn; clear hnn
      go_enter Tryz.func42, Tryz.ntmps42
      go_wp2
      have bx : Hid (Below w.heap.size w (w.alloc (.cells #[.string x, .string o, .string n, .bool true, .bool false] 45))) := hide ((Below.refl _ _).alloc (Nat.le_refl _) _)
      have hbw : w.heap.size < (w.alloc (.cells #[.string x, .string o, .string n, .bool true, .bool false] 45)).heap.size := by simp
      have c1 : (w.alloc (.cells #[.string x, .string o, .string n, .bool true, .bool false] 45)).cell? ⟨w.heap.size, 0, none⟩ = some (.string x) := by simp [go_sem]
      have c2 : (w.alloc (.cells #[.string x, .string o, .string n, .bool true, .bool false] 45)).cell? ⟨w.heap.size, 1, none⟩ = some (.string o) := by simp [go_sem]
      have c3 : (w.alloc (.cells #[.string x, .string o, .string n, .bool true, .bool false] 45)).cell? ⟨w.heap.size, 2, none⟩ = some (.string n) := by simp [go_sem]
      have c4 : (w.alloc (.cells #[.string x, .string o, .string n, .bool true, .bool false] 45)).cell? ⟨w.heap.size, 3, none⟩ = some (.bool true) := by simp [go_sem]
      have c5 : (w.alloc (.cells #[.string x, .string o, .string n, .bool true, .bool false] 45)).cell? ⟨w.heap.size, 4, none⟩ = some (.bool false) := by simp [go_sem]
      generalize w.alloc (.cells #[.string x, .string o, .string n, .bool true, .bool false] 45) = W1 at *
      have y1 := cls_cell (B := W1.heap.size) hbw c1
      have y2 := cls_cell (B := W1.heap.size) hbw c2
      have y3 := cls_cell (B := W1.heap.size) hbw c3
      have y4 := cls_cell (B := W1.heap.size) hbw c4
      have y5 := cls_cell (B := W1.heap.size) hbw c5
      refine wp_region_cls (by kernel_rfl) (by kernel_rfl) W1.heap.size ?_
      repeat (go_big_quiet_step ((first | (go_at_call 31; exact cls_call (Nat.le_refl _) (same_below (keyOk_any x _ hx))) | (go_at_call 32; exact cls_call (Nat.le_refl _) (same_below (valOk_any n _ hn))) | (go_at_call 44; exact cls_call (Nat.le_refl _) (editOf_true_false x o n _)) | (go_at_call 133; exact cls_call (Nat.le_refl _) (turnChange_any x o x n _)) | (go_at_call 131; exact cls_call (Nat.le_refl _) (lossChange_any x o _)) | (go_at_call 132; exact cls_call (Nat.le_refl _) (gainChange_any x n _)) | (go_at_call 134; exact cls_call (Nat.le_refl _) (idleChange_any x _)))))
      refine wpQuiet_nil ?_
      intro _ hw'
      obtain ⟨u, hw''⟩ := hw'
      subst hw''
      have BU := hide (bx.out.trans (u.below.mono bx.out.size))
      rcases hasB_cases m x with hh | hh
      · have Z : Hid (fitB m (x, o, n, true, false) = false) := hide (fit_no (fun z => by rw [show hasB m x = false from hh] at z; exact absurd z.2.2.1 (by simp)))
        have k1 : u.wo.cell? ⟨w.heap.size, 0, none⟩ = some (.string x) := cellB u.below hbw c1
        go_wp2_with fail
        refine (place_any A m cap x _ hl ((IN.out.below BU.out).more BU.out.size) HR.out).mono ?_
        rintro e w2 ⟨rfl, b2⟩
        have hbu : w.heap.size < u.wo.heap.size := by have := u.below.size; omega
        have e1 : w2.cell? ⟨w.heap.size, 1, none⟩ = some (.string o) := cellB b2 hbu (cellB u.below hbw c2)
        have e3 : w2.cell? ⟨w.heap.size, 3, none⟩ = some (.bool true) := cellB b2 hbu (cellB u.below hbw c4)
        have B2 := hide (BU.out.trans (b2.mono BU.out.size))
        rw [hh]
        clear b2 BU k1 y1 y2 y3 y4 y5 c1 c2 c3 c4 c5
        go_wp2
        go_quiet (fail)
        go_wp2
        go_ret
        exact ⟨ret_bool Z.out.symm, belowN B2.out _⟩
      · obtain ⟨hlt, he⟩ := hasB_iff.1 hh
        have HV := hide (valOf_yes hlt he)
        have hla : (atN m x : Int) < (m.length : Int) := by omega
        by_cases ho : (m[atN m x]'hlt).2 = o
        · have Z : Hid (fitB m (x, o, n, true, false) = true) := hide (fitB_iff.2 ⟨hK, hV, hh, by rw [HV.out]; exact ho, .inr HN.out⟩)
          have d0 := eqS_yes ho
          have k1 : u.wo.cell? ⟨w.heap.size, 0, none⟩ = some (.string x) := cellB u.below hbw c1
          go_wp2_with fail
          refine (place_any A m cap x _ hl ((IN.out.below BU.out).more BU.out.size) HR.out).mono ?_
          rintro e w2 ⟨rfl, b2⟩
          have hbu : w.heap.size < u.wo.heap.size := by have := u.below.size; omega
          have e1 : w2.cell? ⟨w.heap.size, 1, none⟩ = some (.string o) := cellB b2 hbu (cellB u.below hbw c2)
          have e3 : w2.cell? ⟨w.heap.size, 3, none⟩ = some (.bool true) := cellB b2 hbu (cellB u.below hbw c4)
          have B2 := hide (BU.out.trans (b2.mono BU.out.size))
          rw [hh]
          have in2 := (IN.out.below B2.out)
          obtain ⟨b, off, rfl, hbB, hc⟩ := in2.2 (by omega)
          obtain ⟨f1, f2⟩ := hc (atN m x) hlt
          generalize (m[atN m x]'hlt).2 = v at *
          generalize atN m x = at0 at *
          clear hc in2 b2 BU k1 y1 y2 y3 y4 y5 c1 c2 c3 c4 c5
          go_wp2
          go_quiet (fail)
          go_wp2
          go_ret
          exact ⟨ret_bool Z.out.symm, belowN B2.out _⟩
        · have Z : Hid (fitB m (x, o, n, true, false) = false) := hide (fit_no (fun z => ho (by rw [← HV.out]; exact z.2.2.2.1)))
          have d0 := eqS_no ho
          have k1 : u.wo.cell? ⟨w.heap.size, 0, none⟩ = some (.string x) := cellB u.below hbw c1
          go_wp2_with fail
          refine (place_any A m cap x _ hl ((IN.out.below BU.out).more BU.out.size) HR.out).mono ?_
          rintro e w2 ⟨rfl, b2⟩
          have hbu : w.heap.size < u.wo.heap.size := by have := u.below.size; omega
          have e1 : w2.cell? ⟨w.heap.size, 1, none⟩ = some (.string o) := cellB b2 hbu (cellB u.below hbw c2)
          have e3 : w2.cell? ⟨w.heap.size, 3, none⟩ = some (.bool true) := cellB b2 hbu (cellB u.below hbw c4)
          have B2 := hide (BU.out.trans (b2.mono BU.out.size))
          rw [hh]
          have in2 := (IN.out.below B2.out)
          obtain ⟨b, off, rfl, hbB, hc⟩ := in2.2 (by omega)
          obtain ⟨f1, f2⟩ := hc (atN m x) hlt
          generalize (m[atN m x]'hlt).2 = v at *
          generalize atN m x = at0 at *
          clear hc in2 b2 BU k1 y1 y2 y3 y4 y5 c1 c2 c3 c4 c5
          go_wp2
          go_quiet (fail)
          go_wp2
          go_ret
          exact ⟨ret_bool Z.out.symm, belowN B2.out _⟩
    · have Z : Hid (fitB m (x, o, n, true, false) = false) := hide (fit_no (fun z => z.2.2.2.2.elim (fun g => by cases g) hnn))
      obtain ⟨m1, m2, m3, m4, m5⟩ := emp_ne hnn
      go_enter Tryz.func42, Tryz.ntmps42
      go_wp2
      have bx : Hid (Below w.heap.size w (w.alloc (.cells #[.string x, .string o, .string n, .bool true, .bool false] 45))) := hide ((Below.refl _ _).alloc (Nat.le_refl _) _)
      have hbw : w.heap.size < (w.alloc (.cells #[.string x, .string o, .string n, .bool true, .bool false] 45)).heap.size := by simp
      have c1 : (w.alloc (.cells #[.string x, .string o, .string n, .bool true, .bool false] 45)).cell? ⟨w.heap.size, 0, none⟩ = some (.string x) := by simp [go_sem]
      have c2 : (w.alloc (.cells #[.string x, .string o, .string n, .bool true, .bool false] 45)).cell? ⟨w.heap.size, 1, none⟩ = some (.string o) := by simp [go_sem]
      have c3 : (w.alloc (.cells #[.string x, .string o, .string n, .bool true, .bool false] 45)).cell? ⟨w.heap.size, 2, none⟩ = some (.string n) := by simp [go_sem]
      have c4 : (w.alloc (.cells #[.string x, .string o, .string n, .bool true, .bool false] 45)).cell? ⟨w.heap.size, 3, none⟩ = some (.bool true) := by simp [go_sem]
      have c5 : (w.alloc (.cells #[.string x, .string o, .string n, .bool true, .bool false] 45)).cell? ⟨w.heap.size, 4, none⟩ = some (.bool false) := by simp [go_sem]
      generalize w.alloc (.cells #[.string x, .string o, .string n, .bool true, .bool false] 45) = W1 at *
      have y1 := cls_cell (B := W1.heap.size) hbw c1
      have y2 := cls_cell (B := W1.heap.size) hbw c2
      have y3 := cls_cell (B := W1.heap.size) hbw c3
      have y4 := cls_cell (B := W1.heap.size) hbw c4
      have y5 := cls_cell (B := W1.heap.size) hbw c5
      refine wp_region_cls (by kernel_rfl) (by kernel_rfl) W1.heap.size ?_
      repeat (go_big_quiet_step ((first | (go_at_call 31; exact cls_call (Nat.le_refl _) (same_below (keyOk_any x _ hx))) | (go_at_call 32; exact cls_call (Nat.le_refl _) (same_below (valOk_any n _ hn))) | (go_at_call 44; exact cls_call (Nat.le_refl _) (editOf_true_false x o n _)) | (go_at_call 133; exact cls_call (Nat.le_refl _) (turnChange_any x o x n _)) | (go_at_call 131; exact cls_call (Nat.le_refl _) (lossChange_any x o _)) | (go_at_call 132; exact cls_call (Nat.le_refl _) (gainChange_any x n _)) | (go_at_call 134; exact cls_call (Nat.le_refl _) (idleChange_any x _)))))
      refine wpQuiet_nil ?_
      intro _ hw'
      obtain ⟨u, hw''⟩ := hw'
      subst hw''
      have BU := hide (bx.out.trans (u.below.mono bx.out.size))
      go_wp2
      go_ret
      exact ⟨ret_bool Z.out.symm, BU.out⟩
  · skip
    go_enter Tryz.func42, Tryz.ntmps42
    go_wp2
    have bx : Hid (Below w.heap.size w (w.alloc (.cells #[.string x, .string o, .string n, .bool true, .bool true] 45))) := hide ((Below.refl _ _).alloc (Nat.le_refl _) _)
    have hbw : w.heap.size < (w.alloc (.cells #[.string x, .string o, .string n, .bool true, .bool true] 45)).heap.size := by simp
    have c1 : (w.alloc (.cells #[.string x, .string o, .string n, .bool true, .bool true] 45)).cell? ⟨w.heap.size, 0, none⟩ = some (.string x) := by simp [go_sem]
    have c2 : (w.alloc (.cells #[.string x, .string o, .string n, .bool true, .bool true] 45)).cell? ⟨w.heap.size, 1, none⟩ = some (.string o) := by simp [go_sem]
    have c3 : (w.alloc (.cells #[.string x, .string o, .string n, .bool true, .bool true] 45)).cell? ⟨w.heap.size, 2, none⟩ = some (.string n) := by simp [go_sem]
    have c4 : (w.alloc (.cells #[.string x, .string o, .string n, .bool true, .bool true] 45)).cell? ⟨w.heap.size, 3, none⟩ = some (.bool true) := by simp [go_sem]
    have c5 : (w.alloc (.cells #[.string x, .string o, .string n, .bool true, .bool true] 45)).cell? ⟨w.heap.size, 4, none⟩ = some (.bool true) := by simp [go_sem]
    generalize w.alloc (.cells #[.string x, .string o, .string n, .bool true, .bool true] 45) = W1 at *
    have y1 := cls_cell (B := W1.heap.size) hbw c1
    have y2 := cls_cell (B := W1.heap.size) hbw c2
    have y3 := cls_cell (B := W1.heap.size) hbw c3
    have y4 := cls_cell (B := W1.heap.size) hbw c4
    have y5 := cls_cell (B := W1.heap.size) hbw c5
    refine wp_region_cls (by kernel_rfl) (by kernel_rfl) W1.heap.size ?_
    repeat (go_big_quiet_step ((first | (go_at_call 31; exact cls_call (Nat.le_refl _) (same_below (keyOk_any x _ hx))) | (go_at_call 32; exact cls_call (Nat.le_refl _) (same_below (valOk_any n _ hn))) | (go_at_call 44; exact cls_call (Nat.le_refl _) (editOf_true_true x o n _)) | (go_at_call 133; exact cls_call (Nat.le_refl _) (turnChange_any x o x n _)) | (go_at_call 131; exact cls_call (Nat.le_refl _) (lossChange_any x o _)) | (go_at_call 132; exact cls_call (Nat.le_refl _) (gainChange_any x n _)) | (go_at_call 134; exact cls_call (Nat.le_refl _) (idleChange_any x _)))))
    refine wpQuiet_nil ?_
    intro _ hw'
    obtain ⟨u, hw''⟩ := hw'
    subst hw''
    have BU := hide (bx.out.trans (u.below.mono bx.out.size))
    rcases hasB_cases m x with hh | hh
    · have Z : Hid (fitB m (x, o, n, true, true) = false) := hide (fit_no (fun z => by rw [show hasB m x = false from hh] at z; exact absurd z.2.2.1 (by simp)))
      have k1 : u.wo.cell? ⟨w.heap.size, 0, none⟩ = some (.string x) := cellB u.below hbw c1
      go_wp2_with fail
      refine (place_any A m cap x _ hl ((IN.out.below BU.out).more BU.out.size) HR.out).mono ?_
      rintro e w2 ⟨rfl, b2⟩
      have hbu : w.heap.size < u.wo.heap.size := by have := u.below.size; omega
      have e1 : w2.cell? ⟨w.heap.size, 1, none⟩ = some (.string o) := cellB b2 hbu (cellB u.below hbw c2)
      have e3 : w2.cell? ⟨w.heap.size, 3, none⟩ = some (.bool true) := cellB b2 hbu (cellB u.below hbw c4)
      have B2 := hide (BU.out.trans (b2.mono BU.out.size))
      rw [hh]
      clear b2 BU k1 y1 y2 y3 y4 y5 c1 c2 c3 c4 c5
      go_wp2
      go_quiet (fail)
      go_wp2
      go_ret
      exact ⟨ret_bool Z.out.symm, belowN B2.out _⟩
    · obtain ⟨hlt, he⟩ := hasB_iff.1 hh
      have HV := hide (valOf_yes hlt he)
      have hla : (atN m x : Int) < (m.length : Int) := by omega
      by_cases ho : (m[atN m x]'hlt).2 = o
      · have Z : Hid (fitB m (x, o, n, true, true) = true) := hide (fitB_iff.2 ⟨hK, hV, hh, by rw [HV.out]; exact ho, .inl rfl⟩)
        have d0 := eqS_yes ho
        have k1 : u.wo.cell? ⟨w.heap.size, 0, none⟩ = some (.string x) := cellB u.below hbw c1
        go_wp2_with fail
        refine (place_any A m cap x _ hl ((IN.out.below BU.out).more BU.out.size) HR.out).mono ?_
        rintro e w2 ⟨rfl, b2⟩
        have hbu : w.heap.size < u.wo.heap.size := by have := u.below.size; omega
        have e1 : w2.cell? ⟨w.heap.size, 1, none⟩ = some (.string o) := cellB b2 hbu (cellB u.below hbw c2)
        have e3 : w2.cell? ⟨w.heap.size, 3, none⟩ = some (.bool true) := cellB b2 hbu (cellB u.below hbw c4)
        have B2 := hide (BU.out.trans (b2.mono BU.out.size))
        rw [hh]
        have in2 := (IN.out.below B2.out)
        obtain ⟨b, off, rfl, hbB, hc⟩ := in2.2 (by omega)
        obtain ⟨f1, f2⟩ := hc (atN m x) hlt
        generalize (m[atN m x]'hlt).2 = v at *
        generalize atN m x = at0 at *
        clear hc in2 b2 BU k1 y1 y2 y3 y4 y5 c1 c2 c3 c4 c5
        go_wp2
        go_quiet (fail)
        go_wp2
        go_ret
        exact ⟨ret_bool Z.out.symm, belowN B2.out _⟩
      · have Z : Hid (fitB m (x, o, n, true, true) = false) := hide (fit_no (fun z => ho (by rw [← HV.out]; exact z.2.2.2.1)))
        have d0 := eqS_no ho
        have k1 : u.wo.cell? ⟨w.heap.size, 0, none⟩ = some (.string x) := cellB u.below hbw c1
        go_wp2_with fail
        refine (place_any A m cap x _ hl ((IN.out.below BU.out).more BU.out.size) HR.out).mono ?_
        rintro e w2 ⟨rfl, b2⟩
        have hbu : w.heap.size < u.wo.heap.size := by have := u.below.size; omega
        have e1 : w2.cell? ⟨w.heap.size, 1, none⟩ = some (.string o) := cellB b2 hbu (cellB u.below hbw c2)
        have e3 : w2.cell? ⟨w.heap.size, 3, none⟩ = some (.bool true) := cellB b2 hbu (cellB u.below hbw c4)
        have B2 := hide (BU.out.trans (b2.mono BU.out.size))
        rw [hh]
        have in2 := (IN.out.below B2.out)
        obtain ⟨b, off, rfl, hbB, hc⟩ := in2.2 (by omega)
        obtain ⟨f1, f2⟩ := hc (atN m x) hlt
        generalize (m[atN m x]'hlt).2 = v at *
        generalize atN m x = at0 at *
        clear hc in2 b2 BU k1 y1 y2 y3 y4 y5 c1 c2 c3 c4 c5
        go_wp2
        go_quiet (fail)
        go_wp2
        go_ret
        exact ⟨ret_bool Z.out.symm, belowN B2.out _⟩
end Go.Proofs.YtaofemdhgfejjaaGreatDoor
