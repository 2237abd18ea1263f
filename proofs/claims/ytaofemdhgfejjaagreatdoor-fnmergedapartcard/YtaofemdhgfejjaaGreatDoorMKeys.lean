/-
  What impl.keysOf answers.
-/
import Derived.Test.YtaofemdhgfejjaaGreatDoorMSort
import Derived.Test.YtaofemdhgfejjaaGreatDoorMRow
namespace Go.Proofs.YtaofemdhgfejjaaGreatDoor
open Go.RowKit Go.Lib

abbrev Tri := Option Addr × List Pr × Nat
def triV (t : Tri) : Value := .slice t.1 t.2.1.length t.2.2
def catK (Ls : List Tri) : List ByteArray := (Ls.flatMap fun t => t.2.1).map (·.1)
theorem catK_succ (Ls : List Tri) (k : Nat) (h : k < Ls.length) : catK (Ls.take (k + 1)) = catK (Ls.take k) ++ (Ls[k].2.1).map (·.1) := by
  unfold catK
  rw [List.take_succ_eq_append_getElem h, List.flatMap_append, List.map_append]
  simp
theorem keys_succ (l : List Pr) (k : Nat) (h : k < l.length) : (l.take (k + 1)).map (·.1) = (l.take k).map (·.1) ++ [l[k].1] := by
  rw [List.take_succ_eq_append_getElem h, List.map_append]
  rfl
theorem catK_len (Ls : List Tri) (h : ∀ t ∈ Ls, t.2.1.length ≤ 200) : ∀ k, k ≤ Ls.length → (catK (Ls.take k)).length ≤ 200 * k
  | 0, _ => by simp [catK]
  | k + 1, hk => by
    have ih := catK_len Ls h k (by omega)
    rw [catK_succ Ls k (by omega), List.length_append, List.length_map]
    have := h _ (List.getElem_mem (show k < Ls.length by omega))
    omega

set_option maxRecDepth 100000 in
set_option maxHeartbeats 2000000 in
theorem keysOf_any (g : Nat) (Ls : List Tri) (w : World) (hc : ∀ i (h : i < Ls.length), w.cell? ⟨g, i, none⟩ = some (triV Ls[i])) (hg : g < w.heap.size) (hin : ∀ t ∈ Ls, PIn w w.heap.size t.1 t.2.1) (hlen : ∀ t ∈ Ls, t.2.1.length ≤ 200) (hn : Ls.length ≤ 3) (ks : List ByteArray) (hk : RisK ks) (hm : ∀ x, x ∈ ks ↔ x ∈ catK Ls) :
    Calls Tryz.prog 49 #[.slice (some ⟨g, 0, none⟩) Ls.length Ls.length] w (RetZ w.heap.size ks w) := by
  have HC := hide hc
  have HI := hide hin
  have HL := hide hlen
  have UQ := hide (fun (w' : World) (A : Option Addr) (cap : Nat) => uniq_own (w := w') (B := w.heap.size) (A := A) (cap := cap) hk hm)
  clear hc hin hlen hk hm
  generalize hnn : Ls.length = n at hn ⊢
  have HN := hide hnn
  clear hnn
  go_enter Tryz.func49, Tryz.ntmps49
  go_wp2
  go_loopw [3, 10] (fun o i wr => ∃ (k : Nat) (A : Option Addr) (cap : Nat), k ≤ n ∧ i = .int .i64 k ∧ o = .slice A (catK (Ls.take k)).length cap ∧ Hid (ZOwn wr w.heap.size A cap (catK (Ls.take k))) ∧ Hid (Below w.heap.size w wr)) (fun _ i _ => n - (intOf i).toNat)
  case atStart => exact ⟨0, none, 0, Nat.zero_le _, rfl, rfl, ZOwn.nil _ _, Below.refl _ _⟩
  case round =>
    obtain ⟨k, A, cap, hk, rfl, rfl, Z, Q⟩ := hrel
    have KL : Hid ((catK (Ls.take k)).length ≤ 600) := hide (by have := catK_len Ls HL.out k (by rw [HN.out]; exact hk); omega)
    by_cases hlt : k < n
    · have hkl : k < Ls.length := by rw [HN.out]; exact hlt
      have c0 := cellB Q.out hg (HC.out k hkl)
      have IN := hide (HI.out _ (List.getElem_mem hkl))
      have L2 := HL.out _ (List.getElem_mem hkl)
      have CS := hide (catK_succ Ls k hkl)
      unfold triV at c0
      generalize (Ls[k]'hkl).1 = A1 at *
      generalize (Ls[k]'hkl).2.1 = l1 at *
      generalize (Ls[k]'hkl).2.2 = cap1 at *
      generalize hm1 : l1.length = m at *
      have HM := hide hm1
      clear hm1
      generalize catK (Ls.take k) = cs at *
      go_wp2
      go_loopw [3, 16] (fun o i w2 => ∃ (j : Nat) (A2 : Option Addr) (cap2 : Nat), j ≤ m ∧ i = .int .i64 j ∧ o = .slice A2 (cs ++ (l1.take j).map (·.1)).length cap2 ∧ Hid (ZOwn w2 w.heap.size A2 cap2 (cs ++ (l1.take j).map (·.1))) ∧ Hid (Below w.heap.size w w2)) (fun _ i _ => m - (intOf i).toNat)
      case atStart => exact ⟨0, A, cap, Nat.zero_le _, rfl, by simp, by simpa using Z, Q⟩
      case round =>
        clear Z Q c0
        obtain ⟨j, A2, cap2, hj, rfl, rfl, Z, Q⟩ := hrel
        by_cases hjt : j < m
        · have hjl : j < l1.length := by rw [HM.out]; exact hjt
          obtain ⟨b, off, rfl, hbB, hcc⟩ := (IN.out.below Q.out).2 (by omega)
          obtain ⟨c1, c2⟩ := hcc j hjl
          have KS : Hid (cs ++ (l1.take (j + 1)).map (·.1) = (cs ++ (l1.take j).map (·.1)) ++ [(l1[j]'hjl).1]) := hide (by rw [keys_succ l1 j hjl, List.append_assoc])
          have LL : Hid ((cs ++ (l1.take j).map (·.1)).length ≤ 800) := hide (by have := KL.out; simp; omega)
          clear hcc
          generalize (l1[j]'hjl).1 = key at *
          generalize (l1[j]'hjl).2 = vv at *
          generalize cs ++ (l1.take j).map (·.1) = xs at *
          have BA := hide ((Q.out.alloc Q.out.size (.cells #[.string key, .string vv] 60)).alloc (Nat.le_trans Q.out.size (by simp)) (.cells #[.string key] 9))
          have ZA := hide ((Z.out.alloc (.cells #[.string key, .string vv] 60)).alloc (.cells #[.string key] 9))
          have z1 : Hid (wr.heap.size + 1 = (wr.alloc (.cells #[.string key, .string vv] 60)).heap.size) := hide (by simp)
          go_wp2_with (at_builtin; refine wpList_appZ (l' := [key]) 27 Tryz.underlying27 rfl (.tmp 20) (.tmp 23) rfl rfl rfl rfl rfl ZA.out (ZIn.one (w := wr.alloc (.cells #[.string key, .string vv] 60)) key _ z1.out.symm) BA.out.size (by have := LL.out; simp; omega) ?_; intro A5 cap5 w5 own5 g5 r5; have b5 := ZA.out.grownBelow g5 BA.out.size; have Q5 := hide (BA.out.trans b5); have Z5 := hide own5; clear own5 g5 r5 b5 ZA BA)
          rw [← KS.out] at Z5
          go_roundw
          case rel => exact ⟨j + 1, A5, cap5, by omega, by go_num, by rw [KS.out]; simp, Z5, Q5⟩
          case measure => simp [intOf]; omega
        · obtain rfl : j = m := by omega
          have E : Hid (cs ++ (l1.take j).map (·.1) = catK (Ls.take (k + 1))) := hide (by rw [CS.out, List.take_of_length_le (by rw [HM.out]; exact Nat.le_refl _)])
          rw [E.out] at Z
          rw [E.out]
          go_wp2
          go_roundw
          case rel => exact ⟨k + 1, A2, cap2, by omega, by go_num, rfl, Z, Q⟩
          case measure => simp [intOf]; omega
    · obtain rfl : k = n := by omega
      have E : Hid (catK (Ls.take k) = catK Ls) := hide (by rw [List.take_of_length_le (by rw [HN.out]; exact Nat.le_refl _)])
      rw [E.out] at Z KL
      rw [E.out]
      have ZL := hide Z.out.toL
      have e1 := toLs_len (catK Ls)
      have e2 := sortL_len (toLs (catK Ls))
      have SO := hide (sort_any A (toLs (catK Ls)) cap wr w.heap.size ZL.out (by have := KL.out; omega))
      have CO := hide (fun W (h : LOwn W w.heap.size A cap (sortL (toLs (catK Ls)))) => compact_any A (sortL (toLs (catK Ls))) cap W w.heap.size h (by have := KL.out; omega))
      rw [e1] at SO
      rw [e2, e1] at CO
      have RW := hide Z.out.row
      clear e1 e2 ZL
      go_wp2_with fail
      refine SO.out.mono ?_
      rintro e w2 ⟨rfl, o2, g2⟩
      have Q2 := hide (Q.out.trans (Z.out.grownBelow g2 Q.out.size))
      have O2 := hide o2
      clear o2 g2 SO
      go_wp2_with fail
      refine (CO.out _ O2.out).mono ?_
      rintro e w3 ⟨rfl, o3, g3⟩
      have Q3 := hide (Q2.out.trans ((Below.refl w.heap.size w2).grown g3 Q2.out.size (fun x hx => (RW.out x hx).1)))
      obtain ⟨z3, e3⟩ := UQ.out w3 A cap o3
      have Z3 := hide z3
      rw [e3]
      clear z3 e3 o3 g3 CO
      go_wp2
      go_ret
      exact ⟨A, cap, rfl, Z3.out, Q3.out⟩
end Go.Proofs.YtaofemdhgfejjaaGreatDoor
