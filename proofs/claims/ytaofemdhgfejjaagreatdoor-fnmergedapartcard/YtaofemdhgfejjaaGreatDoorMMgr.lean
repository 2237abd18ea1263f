/-
  What impl.mergerOf answers.
-/
import Derived.Test.YtaofemdhgfejjaaGreatDoorMKeys
import Derived.Test.YtaofemdhgfejjaaGreatDoorMHold
import Derived.Test.YtaofemdhgfejjaaGreatDoorMErr
import Derived.Test.YtaofemdhgfejjaaGreatDoorPGet
import Derived.RegionTactic
namespace Go.Proofs.YtaofemdhgfejjaaGreatDoor
open Go.RowKit

theorem grown_cell {w w' : World} {row : Option Nat} (h : w.grownBy w' row) {b o : Nat} (hb : b < w.heap.size) (hne : row ≠ some b) : w'.cell? ⟨b, o, none⟩ = w.cell? ⟨b, o, none⟩ := by
  have := h.block b hb (fun e => hne e.symm)
  simp only [World.cell?, this]
theorem row_ne {w : World} {B : Nat} {A : Option Addr} {cap : Nat} {l : List ByteArray} (h : ZOwn w B A cap l) {b : Nat} (hb : w.heap.size ≤ b) : rowOf A ≠ some b := fun e => by have := (h.row b e).2; omega
theorem ch_pick (l0 l1 l2 : List Pr) (k : ByteArray) : chV (valOf l0 k) (valOf l1 k) (valOf l2 k) (hasB l0 k) (hasB l1 k) (hasB l2 k) = ((pickM l0 l1 l2 l0 k).getD ByteArray.empty, (pickM l0 l1 l2 l0 k).isSome, (oneM (lk l0 k) (lk l1 k) (lk l2 k)).isSome) := by
  have e1 : (valOf l1 k = valOf l0 k ∧ hasB l1 k = hasB l0 k) ↔ lk l1 k = lk l0 k := by rw [lk_eq, and_comm]
  have e2 : (valOf l2 k = valOf l0 k ∧ hasB l2 k = hasB l0 k) ↔ lk l2 k = lk l0 k := by rw [lk_eq, and_comm]
  have e3 : (valOf l1 k = valOf l2 k ∧ hasB l1 k = hasB l2 k) ↔ lk l1 k = lk l2 k := by rw [lk_eq, and_comm]
  unfold chV pickM oneM
  simp only [e1, e2, e3]
  split
  · rw [Option.getD_some, ← lk_val, ← lk_has]; rfl
  · split
    · rw [Option.getD_some, ← lk_val, ← lk_has]; rfl
    · rw [Option.getD_none, ← lk_val, ← lk_has]; rfl

/-- what mergerOf answers: a refusal of the sentinel; or the pairs, and nil or a clash of the keys that are told -/
def MgrRet (l0 l1 l2 : List Pr) (a : Addr) (w : World) (e : Ending) (w' : World) : Prop :=
  Below w.heap.size w w' ∧ ((mgB l0 l1 l2 = false ∧ ∃ p, e = .returned (.tuple #[.slice none 0 0, .iface 86 (.pointer (some ⟨p, 0, none⟩))]) ∧ w'.cell? ⟨p, 0 + 1, none⟩ = some (.iface 181 (.pointer (some a)))) ∨
    (mgB l0 l1 l2 = true ∧ ∃ A cap Ab cb, (merM l0 l1 l2 l0).length ≤ cap ∧ Own w' w.heap.size A cap (merM l0 l1 l2 l0) ∧ ZOwn w' w.heap.size Ab cb (badM l0 l1 l2) ∧ (∀ g, rowOf A = some g → rowOf Ab ≠ some g) ∧
      ((badM l0 l1 l2 = [] ∧ e = .returned (.tuple #[.slice A (merM l0 l1 l2 l0).length cap, .nilIface])) ∨
        (badM l0 l1 l2 ≠ [] ∧ ∃ p, p < w'.heap.size ∧ e = .returned (.tuple #[.slice A (merM l0 l1 l2 l0).length cap, .iface 95 (.pointer (some ⟨p, 0, none⟩))]) ∧ w'.cell? ⟨p, 0, none⟩ = some (.slice Ab (badM l0 l1 l2).length cb)))))
theorem cell_alloc_at (w : World) (cs : Array Value) (t : TypeId) (i : Nat) : (w.alloc (.cells cs t)).cell? ⟨w.heap.size, i, none⟩ = cs[i]? := cell_of_row _ w.heap.size i cs t (0, 0) (heap_alloc_new w (.cells cs t))

set_option maxRecDepth 100000 in
set_option maxHeartbeats 4000000 in
theorem mergerOf_bad (A0 A1 A2 : Option Addr) (l0 l1 l2 : List Pr) (c0 c1 c2 : Nat) (a : Addr) (w : World) (h0 : l0.length ≤ maxLen) (h1 : l1.length ≤ maxLen) (h2 : l2.length ≤ maxLen) (i0 : PIn w w.heap.size A0 l0) (i1 : PIn w w.heap.size A1 l1) (i2 : PIn w w.heap.size A2 l2) (hE : Errs w a)
    (hb : ¬ (mapB l0 = true ∧ mapB l1 = true ∧ mapB l2 = true)) :
    Calls Tryz.prog 25 #[.slice A0 l0.length c0, .slice A1 l1.length c1, .slice A2 l2.length c2] w (MgrRet l0 l1 l2 a w) := by
  have HG : Hid (mgB l0 l1 l2 = false) := hide (mgB_not (fun h => hb ⟨h.1, h.2.1, h.2.2.1⟩))
  have FIN : Hid (∀ (w1 : World) (x : ByteArray), Below w.heap.size w w1 → MgrRet l0 l1 l2 a w (.returned (.tuple #[.slice none 0 0, .iface 86 (.pointer (some ⟨w1.heap.size, 0, none⟩))])) (w1.alloc (.cells #[.string x, .iface 181 (.pointer (some a))] 88)).drew ∧ MgrRet l0 l1 l2 a w (.returned (.tuple #[.slice none 0 0, .iface 86 (.pointer (some ⟨w1.heap.size, 0, none⟩))])) (w1.drew.alloc (.cells #[.string x, .iface 181 (.pointer (some a))] 88))) := hide (fun w1 x b =>
    ⟨⟨(b.alloc b.size _).drew, .inl ⟨HG.out, w1.heap.size, rfl, cell_alloc_at w1 _ _ 1⟩⟩, ⟨b.drew.alloc b.drew.size _, .inl ⟨HG.out, w1.heap.size, rfl, cell_alloc_at w1.drew _ _ 1⟩⟩⟩)
  have I0 := hide i0
  have I1 := hide i1
  have I2 := hide i2
  have HE := hide hE
  have z0 := hE.2.2.1
  have x0 := hE.1
  have HB := hide hb
  clear i0 i1 i2 hE hb
  go_enter Tryz.func25, Tryz.ntmps25
  go_wp2_with fail
  refine (implMapOk_any A0 l0 c0 _ h0 I0.out).mono ?_
  rintro e w1 ⟨rfl, b1⟩
  have B1 := hide b1
  have x1 := cellB b1 z0 x0
  clear b1
  cases hm0 : mapB l0
  · clear HB
    go_wp2
    go_region
    all_goals
      go_wp2
      go_ret2
    all_goals
      first | exact (FIN.out _ _ B1.out).1 | exact (FIN.out _ _ B1.out).2
  go_wp2_with fail
  refine (implMapOk_any A1 l1 c1 _ h1 ((I1.out.below B1.out).more B1.out.size)).mono ?_
  rintro e w2 ⟨rfl, b2⟩
  have B2 := hide (B1.out.trans (b2.mono B1.out.size))
  have x2 := cellB B2.out z0 x0
  clear b2 B1 x1
  cases hm1 : mapB l1
  · clear HB hm0
    go_wp2
    go_region
    all_goals
      go_wp2
      go_ret2
    all_goals
      first | exact (FIN.out _ _ B2.out).1 | exact (FIN.out _ _ B2.out).2
  go_wp2_with fail
  refine (implMapOk_any A2 l2 c2 _ h2 ((I2.out.below B2.out).more B2.out.size)).mono ?_
  rintro e w3 ⟨rfl, b3⟩
  have B3 := hide (B2.out.trans (b3.mono B2.out.size))
  have x3 := cellB B3.out z0 x0
  clear b3 B2 x2
  cases hm2 : mapB l2
  · clear HB hm0 hm1
    go_wp2
    go_region
    all_goals
      go_wp2
      go_ret2
    all_goals
      first | exact (FIN.out _ _ B3.out).1 | exact (FIN.out _ _ B3.out).2
  · exact absurd ⟨hm0, hm1, hm2⟩ HB.out

theorem catK3 (A0 A1 A2 : Option Addr) (l0 l1 l2 : List Pr) (c0 c1 c2 : Nat) (x : ByteArray) : x ∈ merK l0 l1 l2 ↔ x ∈ catK [(A0, l0, c0), (A1, l1, c1), (A2, l2, c2)] := by
  unfold merK catK
  rw [mem_keys, List.mem_map]
  simp [List.flatMap_cons]
theorem pick_max (l0 l1 l2 : List Pr) (k : ByteArray) (h : (valOf l0 k).size ≤ maxLen ∧ (valOf l1 k).size ≤ maxLen ∧ (valOf l2 k).size ≤ maxLen) : ∀ v, pickM l0 l1 l2 l0 k = some v → v.size ≤ maxLen := by
  have hx : ∀ (l : List Pr), (valOf l k).size ≤ maxLen → ∀ v, lk l k = some v → v.size ≤ maxLen := fun l h v hv => by
    rcases lk_shape l k with ⟨_, e⟩ | ⟨_, e⟩
    · rw [e] at hv; injection hv with hv; rw [← hv]; exact h
    · rw [e] at hv; cases hv
  intro v hv
  unfold pickM at hv
  rcases one_shape l0 l1 l2 k with e | e | e
  · rw [e] at hv; exact hx l0 h.1 v hv
  · rw [e] at hv; exact hx l1 h.2.1 v hv
  · rw [e] at hv; exact hx l2 h.2.2 v hv
theorem isSome_of_none {r : Option (Option ByteArray)} (h : r = none) : r.isSome = false := by rw [h]; rfl

set_option maxRecDepth 100000 in
set_option maxHeartbeats 4000000 in
theorem mergerOf_good (A0 A1 A2 : Option Addr) (l0 l1 l2 : List Pr) (c0 c1 c2 : Nat) (a : Addr) (w : World) (i0 : PIn w w.heap.size A0 l0) (i1 : PIn w w.heap.size A1 l1) (i2 : PIn w w.heap.size A2 l2) (hE : Errs w a)
    (hm0 : mapB l0 = true) (hm1 : mapB l1 = true) (hm2 : mapB l2 = true) :
    Calls Tryz.prog 25 #[.slice A0 l0.length c0, .slice A1 l1.length c1, .slice A2 l2.length c2] w (MgrRet l0 l1 l2 a w) := by
  have n0 := (mapB_iff.1 hm0).1
  have n1 := (mapB_iff.1 hm1).1
  have n2 := (mapB_iff.1 hm2).1
  have R0 := hide (mapB_iff.1 hm0).2.2
  have R1 := hide (mapB_iff.1 hm1).2.2
  have R2 := hide (mapB_iff.1 hm2).2.2
  have hk := merK_len l0 l1 l2
  have KM : Hid (∀ x ∈ merK l0 l1 l2, x.size ≤ maxLen) := hide (fun x h => merK_max i0.1 i1.1 i2.1 h)
  have VM : Hid (∀ k, (valOf l0 k).size ≤ maxLen ∧ (valOf l1 k).size ≤ maxLen ∧ (valOf l2 k).size ≤ maxLen) := hide (fun k => ⟨valOf_max i0.1 k, valOf_max i1.1 k, valOf_max i2.1 k⟩)
  have I0 := hide i0
  have I1 := hide i1
  have I2 := hide i2
  have z0 := hE.2.2.1
  have x0 := hE.1
  have MX : (40 : Nat) ≤ maxLen := by unfold maxLen; omega
  have KEYS := hide (fun (W : World) (g : Nat) hc hg hin => keysOf_any g [(A0, l0, c0), (A1, l1, c1), (A2, l2, c2)] W hc hg hin (by simp; omega) (by simp) (merK l0 l1 l2) (risK_keys _) (catK3 A0 A1 A2 l0 l1 l2 c0 c1 c2))
  have M0 := hide (implMapOk_any A0 l0 c0 w (by omega) I0.out)
  have M1 := hide (fun W (b : Below w.heap.size w W) => implMapOk_any A1 l1 c1 W (by omega) ((I1.out.below b).more b.size))
  have M2 := hide (fun W (b : Below w.heap.size w W) => implMapOk_any A2 l2 c2 W (by omega) ((I2.out.below b).more b.size))
  rw [hm0] at M0
  rw [hm1] at M1
  rw [hm2] at M2
  clear i0 i1 i2 hE
  have FIN : Hid (∀ (w1 : World) (A : Option Addr) (cap : Nat) (Ab : Option Addr) (cb : Nat) (AK : Option Addr) (cK : Nat), Rows3 w1 w.heap.size A cap (merM l0 l1 l2 l0) Ab cb (badM l0 l1 l2) AK cK (merK l0 l1 l2) → Below w.heap.size w w1 →
      (mapB (merM l0 l1 l2 l0) = false → ∀ x : ByteArray, MgrRet l0 l1 l2 a w (.returned (.tuple #[.slice none 0 0, .iface 86 (.pointer (some ⟨w1.heap.size, 0, none⟩))])) (w1.alloc (.cells #[.string x, .iface 181 (.pointer (some a))] 88)).drew ∧ MgrRet l0 l1 l2 a w (.returned (.tuple #[.slice none 0 0, .iface 86 (.pointer (some ⟨w1.heap.size, 0, none⟩))])) (w1.drew.alloc (.cells #[.string x, .iface 181 (.pointer (some a))] 88))) ∧
      (mapB (merM l0 l1 l2 l0) = true → badM l0 l1 l2 = [] → MgrRet l0 l1 l2 a w (.returned (.tuple #[.slice A (merM l0 l1 l2 l0).length cap, .nilIface])) w1) ∧
      (mapB (merM l0 l1 l2 l0) = true → badM l0 l1 l2 ≠ [] → MgrRet l0 l1 l2 a w (.returned (.tuple #[.slice A (merM l0 l1 l2 l0).length cap, .iface 95 (.pointer (some ⟨w1.heap.size, 0, none⟩))])) (w1.alloc (.cells #[.slice Ab (badM l0 l1 l2).length cb] 97)))) := hide (fun w1 A cap Ab cb AK cK T b =>
    ⟨fun hm x => have hg := mgB_not (fun h => by rw [hm] at h; cases h.2.2.2); ⟨⟨(b.alloc b.size _).drew, .inl ⟨hg, w1.heap.size, rfl, cell_alloc_at w1 _ _ 1⟩⟩, ⟨b.drew.alloc b.drew.size _, .inl ⟨hg, w1.heap.size, rfl, cell_alloc_at w1.drew _ _ 1⟩⟩⟩,
     fun hm hb => ⟨b, .inr ⟨mgB_iff.2 ⟨hm0, hm1, hm2, hm⟩, A, cap, Ab, cb, T.o.cap_le, T.o, T.b, T.ob, .inl ⟨hb, rfl⟩⟩⟩,
     fun hm hb => ⟨b.alloc b.size _, .inr ⟨mgB_iff.2 ⟨hm0, hm1, hm2, hm⟩, A, cap, Ab, cb, T.o.cap_le, (T.alloc _).o, (T.alloc _).b, T.ob, .inr ⟨hb, w1.heap.size, by simp, rfl, cell_alloc_at w1 _ _ 0⟩⟩⟩⟩)
  clear hm0 hm1 hm2
  go_enter Tryz.func25, Tryz.ntmps25
  go_wp2_with fail
  refine M0.out.mono ?_
  rintro e w1 ⟨rfl, b1⟩
  have B1 := hide b1
  clear b1 M0
  go_wp2_with fail
  refine (M1.out _ B1.out).mono ?_
  rintro e w2 ⟨rfl, b2⟩
  have B2 := hide (B1.out.trans (b2.mono B1.out.size))
  clear b2 B1 M1
  go_wp2_with fail
  refine (M2.out _ B2.out).mono ?_
  rintro e w3 ⟨rfl, b3⟩
  have B3 := hide (B2.out.trans (b3.mono B2.out.size))
  clear b3 B2 M2
  have B4 := hide (B3.out.alloc B3.out.size (.cells #[.slice A0 l0.length c0, .slice A1 l1.length c1, .slice A2 l2.length c2] 24))
  have KC : Hid (∀ i (h : i < [(A0, l0, c0), (A1, l1, c1), (A2, l2, c2)].length), (w3.alloc (.cells #[.slice A0 l0.length c0, .slice A1 l1.length c1, .slice A2 l2.length c2] 24)).cell? ⟨w3.heap.size, i, none⟩ = some (triV ([(A0, l0, c0), (A1, l1, c1), (A2, l2, c2)][i]'h))) := hide (fun i h => by
    rw [cell_alloc_at]
    match i, h with
    | 0, _ => rfl
    | 1, _ => rfl
    | 2, _ => rfl)
  go_wp2_with fail
  refine (KEYS.out _ w3.heap.size KC.out (by simp) (by
    intro t ht
    simp only [List.mem_cons, List.not_mem_nil, or_false] at ht
    rcases ht with rfl | rfl | rfl
    · exact (I0.out.below B4.out).more B4.out.size
    · exact (I1.out.below B4.out).more B4.out.size
    · exact (I2.out.below B4.out).more B4.out.size)).mono ?_
  rintro e w4 ⟨AK, capK, rfl, zk, bk⟩
  have B5 := hide (B4.out.trans (bk.mono B4.out.size))
  have T0 : Hid (Rows3 w4 w.heap.size none 0 (merT l0 l1 l2 l0 0) none 0 (badT l0 l1 l2 0) AK capK (merK l0 l1 l2)) := hide ⟨Own.nil _ _, ZOwn.nil _ _, zk.more B4.out.size, fun g h => (by cases h), fun g h x => (by cases x), fun g h x => (by cases x)⟩
  clear zk bk B3 B4 KC KEYS
  generalize hn : (merK l0 l1 l2).length = n at hk ⊢
  have HN := hide hn
  clear hn
  go_wp2
  go_loopw [8, 9, 37] (fun o b i wr => ∃ (k : Nat) (Ao : Option Addr) (co : Nat) (Ab : Option Addr) (cb : Nat), k ≤ n ∧ i = .int .i64 k ∧ o = .slice Ao (merT l0 l1 l2 l0 k).length co ∧ b = .slice Ab (badT l0 l1 l2 k).length cb ∧ Hid (Rows3 wr w.heap.size Ao co (merT l0 l1 l2 l0 k) Ab cb (badT l0 l1 l2 k) AK capK (merK l0 l1 l2)) ∧ Hid (Below w.heap.size w wr)) (fun _ _ i _ => n - (intOf i).toNat)
  case atStart => exact ⟨0, none, 0, none, 0, Nat.zero_le _, rfl, rfl, rfl, T0, B5⟩
  case round =>
    clear T0 B5
    obtain ⟨k, Ao, co, Ab, cb, hkn, rfl, rfl, rfl, T, Q⟩ := hrel
    have L1 : Hid ((merT l0 l1 l2 l0 k).length ≤ n) := hide (by have := merT_len l0 l1 l2 l0 k; rw [HN.out] at this; exact this)
    have L2 : Hid ((badT l0 l1 l2 k).length ≤ n) := hide (by have := badT_len l0 l1 l2 k; rw [HN.out] at this; exact this)
    by_cases hlt : k < n
    · have hkl : k < (merK l0 l1 l2).length := by rw [HN.out]; exact hlt
      obtain ⟨gk, off, rfl, hbB, hc⟩ := T.out.k.zin (by omega)
      have cK := hc k hkl
      have KS := hide (KM.out _ (List.getElem_mem hkl))
      have MY : Hid (∀ v, pickM l0 l1 l2 l0 ((merK l0 l1 l2)[k]'hkl) = some v → merT l0 l1 l2 l0 (k + 1) = merT l0 l1 l2 l0 k ++ [((merK l0 l1 l2)[k]'hkl, v)]) := hide (fun v hv => merT_yes hkl hv)
      have MN : Hid (pickM l0 l1 l2 l0 ((merK l0 l1 l2)[k]'hkl) = none → merT l0 l1 l2 l0 (k + 1) = merT l0 l1 l2 l0 k) := hide (fun hv => merT_no hkl hv)
      have NY : Hid (oneM (lk l0 ((merK l0 l1 l2)[k]'hkl)) (lk l1 ((merK l0 l1 l2)[k]'hkl)) (lk l2 ((merK l0 l1 l2)[k]'hkl)) = none → badT l0 l1 l2 (k + 1) = badT l0 l1 l2 k ++ [(merK l0 l1 l2)[k]'hkl]) := hide (fun hv => badT_yes hkl hv)
      have NN : Hid (∀ r, oneM (lk l0 ((merK l0 l1 l2)[k]'hkl)) (lk l1 ((merK l0 l1 l2)[k]'hkl)) (lk l2 ((merK l0 l1 l2)[k]'hkl)) = some r → badT l0 l1 l2 (k + 1) = badT l0 l1 l2 k) := hide (fun r hv => badT_no hkl hv)
      have PK := hide (ch_pick l0 l1 l2 ((merK l0 l1 l2)[k]'hkl))
      have PV := hide (pick_max l0 l1 l2 ((merK l0 l1 l2)[k]'hkl) (VM.out _))
      clear hc
      generalize (merK l0 l1 l2)[k]'hkl = key at *
      have H0 := hide (fun W (b : Below w.heap.size w W) => holdingOf_any A0 l0 c0 key W (by omega) ((I0.out.below b).more b.size) R0.out)
      have H1 := hide (fun W (b : Below w.heap.size w W) => holdingOf_any A1 l1 c1 key W (by omega) ((I1.out.below b).more b.size) R1.out)
      have H2 := hide (fun W (b : Below w.heap.size w W) => holdingOf_any A2 l2 c2 key W (by omega) ((I2.out.below b).more b.size) R2.out)
      have CH := hide (fun W => chosen_any (valOf l0 key) (valOf l1 key) (valOf l2 key) (hasB l0 key) (hasB l1 key) (hasB l2 key) W)
      rw [PK.out] at CH
      clear PK
      generalize valOf l0 key = v0 at *
      generalize valOf l1 key = v1 at *
      generalize valOf l2 key = v2 at *
      generalize hasB l0 key = g0 at *
      generalize hasB l1 key = g1 at *
      generalize hasB l2 key = g2 at *
      go_wp2_with fail
      refine (H0.out _ Q.out).mono ?_
      rintro e w5 ⟨rfl, b5⟩
      have Q5 := hide (Q.out.trans (b5.mono Q.out.size))
      have T5 := hide (T.out.below b5)
      clear b5 Q T H0 cK
      go_wp2_with fail
      refine (H1.out _ Q5.out).mono ?_
      rintro e w6 ⟨rfl, b6⟩
      have Q6 := hide (Q5.out.trans (b6.mono Q5.out.size))
      have T6 := hide (T5.out.below b6)
      clear b6 Q5 T5 H1
      go_wp2_with fail
      refine (H2.out _ Q6.out).mono ?_
      rintro e w7 ⟨rfl, b7⟩
      have Q7 := hide (Q6.out.trans (b7.mono Q6.out.size))
      have T7 := hide (T6.out.below b7)
      clear b7 Q6 T6 H2
      go_wp2_with fail
      refine (CH.out _).mono ?_
      rintro e w8 ⟨rfl, b8⟩
      have Q8 := hide (Q7.out.trans (b8.mono Q7.out.size))
      have T8 := hide (T7.out.below b8)
      clear b8 Q7 T7 CH
      generalize hr : oneM (lk l0 key) (lk l1 key) (lk l2 key) = r at *
      generalize hp : pickM l0 l1 l2 l0 key = pk at *
      clear hr hp
      have NEW := hide (Nat.le_refl w8.heap.size)
      cases pk with
      | some v =>
        have NM := hide (MY.out v rfl)
        have vs := PV.out v rfl
        clear MY MN PV
        have QA := hide (Q8.out.alloc Q8.out.size (.cells #[.string v, .bool true] 91))
        have TA := hide (T8.out.alloc (.cells #[.string v, .bool true] 91))
        cases r with
        | none =>
          have NB := hide (NY.out rfl)
          clear NY NN
          have QB := hide (QA.out.alloc QA.out.size (.cells #[.string key] 9))
          have TB := hide (TA.out.alloc (.cells #[.string key] 9))
          have zb : (w8.alloc (.cells #[.string v, .bool true] 91)).heap.size = w8.heap.size + 1 := by simp
          have rn : rowOf Ab ≠ some w8.heap.size := row_ne T8.out.b (Nat.le_refl _)
          have y0 : ((w8.alloc (.cells #[.string v, .bool true] 91)).alloc (.cells #[.string key] 9)).cell? ⟨w8.heap.size, 0, none⟩ = some (.string v) := by rw [World.cell?_alloc_lt _ _ ⟨w8.heap.size, 0, none⟩ (by simp), cell_alloc_at]; rfl
          have y1 : ((w8.alloc (.cells #[.string v, .bool true] 91)).alloc (.cells #[.string key] 9)).cell? ⟨w8.heap.size, 1, none⟩ = some (.bool true) := by rw [World.cell?_alloc_lt _ _ ⟨w8.heap.size, 1, none⟩ (by simp), cell_alloc_at]; rfl
          have Y0 := hide y0
          have Y1 := hide y1
          have RN := hide rn
          clear y0 y1 rn
          go_wp2_with (at_builtin; refine wpList_appZ (l' := [key]) 27 Tryz.underlying27 rfl (.tmp 56) (.tmp 58) rfl rfl rfl rfl rfl TB.out.b (ZIn.one key _ zb) QB.out.size (by have := L2.out; simp; omega) ?_; intro A9 cap9 w9 own9 gr9 r9; have b9 := TB.out.b.grownBelow gr9 QB.out.size; have T9 := hide (TB.out.appB own9 gr9 r9); have Q9 := hide (QB.out.trans b9); have u0 := (grown_cell (o := 0) gr9 (b := w8.heap.size) (by simp; omega) RN.out).trans Y0.out; have u1 := (grown_cell (o := 1) gr9 (b := w8.heap.size) (by simp; omega) RN.out).trans Y1.out; clear own9 gr9 r9 b9 TB QB Y0 Y1 RN zb; go_wp2_with (at_builtin; refine wpList_app (l' := [(key, v)]) 24 Tryz.underlying24 rfl (.tmp 62) (.tmp 67) rfl rfl rfl rfl rfl (T9.out.alloc _).o (PIn.one w9 key v KS.out vs _) (Nat.le_trans Q9.out.size (by simp)) (by have := L1.out; simp; omega) ?_; intro A10 cap10 w10 own10 gr10 r10; have b10 := (T9.out.alloc (.cells #[.string key, .string v] 60)).o.grownBelow (by rw [rowOf_own]; exact gr10) (Nat.le_trans Q9.out.size (by simp)); have T10 := hide ((T9.out.alloc (.cells #[.string key, .string v] 60)).appO own10 gr10 r10); have Q10 := hide ((Q9.out.alloc Q9.out.size (.cells #[.string key, .string v] 60)).trans b10); clear own10 gr10 r10 b10))
          rw [← NM.out, ← NB.out] at T10
          go_roundw
          case rel => exact ⟨k + 1, A10, cap10, A9, cap9, by omega, by go_num, by rw [NM.out]; simp, by rw [NB.out]; simp, T10, Q10⟩
          case measure => simp [intOf]; omega
        | some r =>
          have NB := hide (NN.out r rfl)
          clear NY NN
          have P1 : Hid (PIn ((w8.alloc (.cells #[.string v, .bool true] 91)).alloc (.cells #[.string key, .string v] 60)) (w8.heap.size + 1 + 1) (some ⟨w8.heap.size + 1, 0, none⟩) [(key, v)]) := hide (by have := PIn.one (w8.alloc (.cells #[.string v, .bool true] 91)) key v KS.out vs 60; simpa using this)
          go_wp2_with (at_builtin; refine wpList_app (l' := [(key, v)]) 24 Tryz.underlying24 rfl (.tmp 62) (.tmp 67) rfl rfl rfl rfl rfl (TA.out.alloc _).o P1.out (Nat.le_trans QA.out.size (by simp)) (by have := L1.out; simp; omega) ?_; intro A10 cap10 w10 own10 gr10 r10; have b10 := (TA.out.alloc (.cells #[.string key, .string v] 60)).o.grownBelow (by rw [rowOf_own]; exact gr10) (Nat.le_trans QA.out.size (by simp)); have T10 := hide ((TA.out.alloc (.cells #[.string key, .string v] 60)).appO own10 gr10 r10); have Q10 := hide ((QA.out.alloc QA.out.size (.cells #[.string key, .string v] 60)).trans b10); clear own10 gr10 r10 b10)
          rw [← NM.out, ← NB.out] at T10
          go_roundw
          case rel => exact ⟨k + 1, A10, cap10, Ab, cb, by omega, by go_num, by rw [NM.out]; simp, by rw [NB.out], T10, Q10⟩
          case measure => simp [intOf]; omega
      | none =>
        have NM := hide (MN.out rfl)
        clear MY MN PV
        have QA := hide (Q8.out.alloc Q8.out.size (.cells #[.string ⟨#[]⟩, .bool false] 91))
        have TA := hide (T8.out.alloc (.cells #[.string ⟨#[]⟩, .bool false] 91))
        cases r with
        | none =>
          have NB := hide (NY.out rfl)
          clear NY NN
          have QB := hide (QA.out.alloc QA.out.size (.cells #[.string key] 9))
          have TB := hide (TA.out.alloc (.cells #[.string key] 9))
          have zb : (w8.alloc (.cells #[.string ⟨#[]⟩, .bool false] 91)).heap.size = w8.heap.size + 1 := by simp
          have rn : rowOf Ab ≠ some w8.heap.size := row_ne T8.out.b (Nat.le_refl _)
          have y1 : ((w8.alloc (.cells #[.string ⟨#[]⟩, .bool false] 91)).alloc (.cells #[.string key] 9)).cell? ⟨w8.heap.size, 1, none⟩ = some (.bool false) := by rw [World.cell?_alloc_lt _ _ ⟨w8.heap.size, 1, none⟩ (by simp), cell_alloc_at]; rfl
          have Y1 := hide y1
          have RN := hide rn
          clear y1 rn
          go_wp2_with (at_builtin; refine wpList_appZ (l' := [key]) 27 Tryz.underlying27 rfl (.tmp 56) (.tmp 58) rfl rfl rfl rfl rfl TB.out.b (ZIn.one key _ zb) QB.out.size (by have := L2.out; simp; omega) ?_; intro A9 cap9 w9 own9 gr9 r9; have b9 := TB.out.b.grownBelow gr9 QB.out.size; have T9 := hide (TB.out.appB own9 gr9 r9); have Q9 := hide (QB.out.trans b9); have u1 := (grown_cell (o := 1) gr9 (b := w8.heap.size) (by simp; omega) RN.out).trans Y1.out; clear own9 gr9 r9 b9 TB QB Y1 RN zb)
          rw [← NM.out, ← NB.out] at T9
          go_roundw
          case rel => exact ⟨k + 1, Ao, co, A9, cap9, by omega, by go_num, by rw [NM.out], by rw [NB.out]; simp, T9, Q9⟩
          case measure => simp [intOf]; omega
        | some r =>
          have NB := hide (NN.out r rfl)
          clear NY NN
          rw [← NM.out, ← NB.out] at TA
          go_wp2
          go_roundw
          case rel => exact ⟨k + 1, Ao, co, Ab, cb, by omega, by go_num, by rw [NM.out], by rw [NB.out], TA, QA⟩
          case measure => simp [intOf]; omega
    · obtain rfl : k = n := by omega
      have E1 := hide (merT_all l0 l1 l2 l0 (k := k) (by rw [HN.out]; exact Nat.le_refl _))
      have E2 := hide (badT_all l0 l1 l2 (k := k) (by rw [HN.out]; exact Nat.le_refl _))
      rw [E1.out, E2.out] at T
      have hlm : (merM l0 l1 l2 l0).length ≤ maxLen := by have := merM_len l0 l1 l2 l0; unfold maxLen; omega
      have x4 := cellB Q.out z0 x0
      rw [E1.out, E2.out]
      go_wp2_with fail
      refine (implMapOk_any Ao (merM l0 l1 l2 l0) co _ hlm T.out.o.pin).mono ?_
      rintro e w5 ⟨rfl, b5⟩
      have Q5 := hide (Q.out.trans (b5.mono Q.out.size))
      have T5 := hide (T.out.below b5)
      have x5 := cellB Q5.out z0 x0
      have F := hide (FIN.out w5 Ao co Ab cb AK capK T5.out Q5.out)
      clear b5 Q T x4 FIN L1 L2
      cases hm : mapB (merM l0 l1 l2 l0)
      · have G := hide (F.out.1 hm)
        generalize (merM l0 l1 l2 l0).length = nn at *
        clear F hm
        go_wp2
        go_region
        all_goals
          go_wp2
          go_ret2
        all_goals
          first | exact (G.out _).1 | exact (G.out _).2
      · by_cases hb : badM l0 l1 l2 = []
        · have G := hide (F.out.2.1 hm hb)
          have e0 : (badM l0 l1 l2).length = 0 := by rw [hb]; rfl
          rw [e0]
          clear F hm hb e0
          go_wp2
          go_ret2
          exact G.out
        · have G := hide (F.out.2.2 hm hb)
          have e0 : (0 : Int) < ((badM l0 l1 l2).length : Int) := by
            have : 0 < (badM l0 l1 l2).length := List.length_pos_iff.2 hb
            omega
          have d0 : decide ((0 : Int) < ((badM l0 l1 l2).length : Int)) = true := decide_eq_true e0
          clear F hm hb
          go_wp2
          go_ret2
          exact G.out

theorem mergerOf_any (A0 A1 A2 : Option Addr) (l0 l1 l2 : List Pr) (c0 c1 c2 : Nat) (a : Addr) (w : World) (h0 : l0.length ≤ maxLen) (h1 : l1.length ≤ maxLen) (h2 : l2.length ≤ maxLen) (i0 : PIn w w.heap.size A0 l0) (i1 : PIn w w.heap.size A1 l1) (i2 : PIn w w.heap.size A2 l2) (hE : Errs w a) :
    Calls Tryz.prog 25 #[.slice A0 l0.length c0, .slice A1 l1.length c1, .slice A2 l2.length c2] w (MgrRet l0 l1 l2 a w) := by
  by_cases hb : mapB l0 = true ∧ mapB l1 = true ∧ mapB l2 = true
  · exact mergerOf_good A0 A1 A2 l0 l1 l2 c0 c1 c2 a w i0 i1 i2 hE hb.1 hb.2.1 hb.2.2
  · exact mergerOf_bad A0 A1 A2 l0 l1 l2 c0 c1 c2 a w h0 h1 h2 i0 i1 i2 hE hb
end Go.Proofs.YtaofemdhgfejjaaGreatDoor
