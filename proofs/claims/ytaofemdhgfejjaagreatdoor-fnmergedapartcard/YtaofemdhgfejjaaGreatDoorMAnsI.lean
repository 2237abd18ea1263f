/-
  What impl.clashing and impl.Merged answer.
-/
import Derived.Test.YtaofemdhgfejjaaGreatDoorMMgr
import Derived.Test.YtaofemdhgfejjaaGreatDoorMAs
import Derived.Test.YtaofemdhgfejjaaGreatDoorMAnsS
namespace Go.Proofs.YtaofemdhgfejjaaGreatDoor
open Go.RowKit

theorem clashing_nil (w : World) : Calls Tryz.prog 27 #[.nilIface] w fun e w' => e = .returned (.slice none 0 0) ∧ Below w.heap.size w w' := by
  go_enter Tryz.func27, Tryz.ntmps27
  go_wp2_with (go_at_call 54; refine (as_nil _ _).mono ?_; rintro e w' ⟨rfl, rfl⟩)
  go_ret
  exact ⟨rfl, (Below.refl _ _).alloc (Nat.le_refl _) _⟩

set_option maxRecDepth 100000 in
set_option maxHeartbeats 2000000 in
theorem clashing_hit (p : Nat) (v : Value) (a : Addr) (w : World) (hE : Errs w a) (hp : p < w.heap.size) (h : w.cell? ⟨p, 0, none⟩ = some v) :
    Calls Tryz.prog 27 #[.iface 95 (.pointer (some ⟨p, 0, none⟩))] w fun e w' => e = .returned v ∧ Below w.heap.size w w' := by
  have B0 := hide ((Below.refl w.heap.size w).alloc (Nat.le_refl _) (.cells #[.pointer none] 95))
  have E0 := hE.below B0.out
  have HIT := hide (as_hit ⟨p, 0, none⟩ ⟨w.heap.size, 0, none⟩ (.pointer none) (w.alloc (.cells #[.pointer none] 95)) E0.2.1 E0.2.2.2 (by rw [cell_alloc_at]; rfl) (by simp))
  have z1 : (w.alloc (.cells #[.pointer none] 95)).heap.size = w.heap.size + 1 := by simp
  have hb : (w.alloc (.cells #[.pointer none] 95)).heap[w.heap.size]? = some (.cells #[.pointer none] 95 (0, 0)) := heap_alloc_new w _
  have c1 := cellB B0.out hp h
  have LATER : ∀ w2, (∃ x : World, Below (w.heap.size + 1) (w.alloc (.cells #[.pointer none] 95)) x ∧ w2 = x.setCell ⟨w.heap.size, 0, none⟩ (.pointer (some ⟨p, 0, none⟩))) → w2.cell? ⟨w.heap.size, 0, none⟩ = some (.pointer (some ⟨p, 0, none⟩)) ∧ w2.cell? ⟨p, 0, none⟩ = some v ∧ Below w.heap.size w w2 := by
    rintro w2 ⟨x, bx, rfl⟩
    have hx : x.heap[w.heap.size]? = some (.cells #[.pointer none] 95 (0, 0)) := (bx.block _ (by omega)).trans hb
    have b2 : Below w.heap.size w (x.setCell ⟨w.heap.size, 0, none⟩ (.pointer (some ⟨p, 0, none⟩))) := (B0.out.trans (bx.mono (Nat.le_succ _))).setCell (p := ⟨w.heap.size, 0, none⟩) (Nat.le_refl _) _
    refine ⟨?_, cellB b2 hp h, b2⟩
    have := heap_setCell_same x w.heap.size 0 _ _ (.pointer (some ⟨p, 0, none⟩)) hx
    exact (cell_of_row _ _ 0 _ _ _ this).trans rfl
  have LT := hide LATER
  have E1 := E0.2.2.1
  clear LATER hb c1 E0 hE h
  go_enter Tryz.func27, Tryz.ntmps27
  go_wp2_with fail
  refine HIT.out.mono ?_
  rintro e w2 ⟨rfl, e2⟩
  obtain ⟨y1, y2, y3⟩ := LT.out w2 ⟨_, ((((((Below.refl (w.heap.size + 1) (w.alloc (.cells #[.pointer none] 95))).alloc (by simp) _).alloc (by simp) _).alloc (by simp) _).alloc (by simp) _)), e2⟩
  have Y3 := hide y3
  clear e2 y3 LT HIT B0
  go_wp2
  go_ret
  exact ⟨rfl, Y3.out⟩

set_option maxRecDepth 100000 in
set_option maxHeartbeats 2000000 in
theorem implMerged_any (A0 A1 A2 : Option Addr) (l0 l1 l2 : List Pr) (c0 c1 c2 : Nat) (a : Addr) (w : World) (h0 : l0.length ≤ maxLen) (h1 : l1.length ≤ maxLen) (h2 : l2.length ≤ maxLen) (i0 : PIn w w.heap.size A0 l0) (i1 : PIn w w.heap.size A1 l1) (i2 : PIn w w.heap.size A2 l2) (hE : Errs w a) :
    Calls Tryz.prog 9 #[.slice A0 l0.length c0, .slice A1 l1.length c1, .slice A2 l2.length c2] w (RetMg w.heap.size (mgL l0 l1 l2) (mgK l0 l1 l2) (mgB l0 l1 l2) w) := by
  have M := hide (mergerOf_any A0 A1 A2 l0 l1 l2 c0 c1 c2 a w h0 h1 h2 i0 i1 i2 hE)
  have HE := hide hE
  clear i0 i1 i2 hE
  go_enter Tryz.func9, Tryz.ntmps9
  go_wp2_with fail
  refine M.out.mono ?_
  rintro e w1 ⟨b1, ⟨hg, p, rfl, hc⟩ | ⟨hg, A, cap, Ab, cb, hcap, ow, zw, ap, hcase⟩⟩
  · have E1 := HE.out.below b1
    have x1 := E1.1
    have F := hide (retMg_no (mgL_no hg) (mgK_no hg) hg b1)
    clear M b1 hg
    go_wp2_with (go_at_call 26; refine (is_refusal p 0 a _ hc).mono ?_; rintro e w' ⟨rfl, rfl⟩)
    go_ret3
    exact F.out
  · have E1 := HE.out.below b1
    have x1 := E1.1
    have F : Hid (∀ w2 A3 cap3, Own w2 w.heap.size A cap (merM l0 l1 l2 l0) → ZOwn w2 w.heap.size A3 cap3 (badM l0 l1 l2) → Below w.heap.size w w2 → (∀ g, rowOf A = some g → rowOf A3 ≠ some g) → RetMg w.heap.size (mgL l0 l1 l2) (mgK l0 l1 l2) (mgB l0 l1 l2) w (.returned (.tuple #[.slice A (merM l0 l1 l2 l0).length cap, .slice A3 (badM l0 l1 l2).length cap3, .bool true])) w2) := hide (fun w2 A3 cap3 o z b ap => by
      rw [mgL_yes hg, mgK_yes hg, hg]
      exact ⟨A, cap, A3, cap3, hcap, rfl, o, z, b, ap⟩)
    have OW := hide ow
    have ZW := hide zw
    have AP := hide ap
    have B1 := hide b1
    have EE := hide E1
    clear M b1 hg ow zw ap E1
    rcases hcase with ⟨hb, rfl⟩ | ⟨hb, p, hp, rfl, hc⟩
    · have e0 : (badM l0 l1 l2).length = 0 := by rw [hb]; rfl
      rw [e0] at F
      generalize (merM l0 l1 l2 l0).length = nn at *
      go_wp2_with (first
        | (go_at_call 26; refine (is_nil a _).mono ?_; rintro e w' ⟨rfl, rfl⟩)
        | (go_at_call 27; refine (clashing_nil _).mono ?_; rintro e w2 ⟨rfl, b2⟩; have G := hide (F.out w2 none 0 (OW.out.below b2) (by rw [hb]; exact ZOwn.nil _ _) (B1.out.trans (b2.mono B1.out.size)) (fun g _ x => by cases x)); clear b2 F OW ZW AP B1 hb e0))
      go_ret3
      exact G.out
    · generalize (merM l0 l1 l2 l0).length = nn at *
      generalize (badM l0 l1 l2).length = mm at *
      go_wp2_with (first
        | (go_at_call 26; refine (is_clash _ a _).mono ?_; rintro e w' ⟨rfl, rfl⟩)
        | (go_at_call 27; refine (clashing_hit p _ a _ EE.out hp hc).mono ?_; rintro e w2 ⟨rfl, b2⟩; have G := hide (F.out w2 Ab cb (OW.out.below b2) (ZW.out.below b2) (B1.out.trans (b2.mono B1.out.size)) AP.out); clear b2 F OW ZW AP B1 hb))
      go_ret3
      exact G.out
end Go.Proofs.YtaofemdhgfejjaaGreatDoor
