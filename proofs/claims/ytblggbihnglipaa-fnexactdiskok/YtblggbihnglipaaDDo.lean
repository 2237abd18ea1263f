/-
  What spec.l11Do answers: what an op makes of files.
-/
import Derived.Test.YtblggbihnglipaaDActM
import Derived.Test.YtblggbihnglipaaDFrm
namespace Go.Proofs.Ytblggbihnglipaa
open Go.RowKit

theorem atF_no : ∀ (l : List Pr) (k : ByteArray) (i : Nat), (∀ p ∈ l, p.1 ≠ k) → atF l k i = -1
  | [], _, _, _ => rfl
  | p :: r, k, i, h => by
    unfold atF
    rw [eqS_no (h p (List.mem_cons_self ..))]
    simp only [Bool.false_eq_true, if_false]
    exact atF_no r k (i + 1) (fun q hq => h q (List.mem_cons_of_mem _ hq))
theorem atF_at : ∀ (l : List Pr) (k : ByteArray) (i n : Nat) (h : n < l.length), l[n].1 = k → (∀ j (h : j < l.length), j < n → l[j].1 ≠ k) → atF l k i = ((i + n : Nat) : Int)
  | [], _, _, _, h, _, _ => absurd h (by simp)
  | p :: r, k, i, 0, h, e, _ => by
    unfold atF
    rw [eqS_yes (show p.1 = k from e)]
    simp
  | p :: r, k, i, n + 1, h, e, hb => by
    unfold atF
    rw [eqS_no (show ¬ p.1 = k from hb 0 (by simp) (by omega))]
    simp only [Bool.false_eq_true, if_false]
    have := atF_at r k (i + 1) n (by simpa using h) (by simpa using e) (fun j hj hjn => by have := hb (j + 1) (by simpa using hj) (by omega); simpa using this)
    rw [show i + (n + 1) = i + 1 + n by omega]
    exact this
theorem at_none {l : List Pr} (hr : Ris l) {k : ByteArray} (h : hasB l k = false) : atF l k 0 = -1 := atF_no l k 0 fun p hp e => by
  have := (has_iff hr k).2 ⟨p.2, by rw [← e]; exact hp⟩
  rw [h] at this
  cases this
theorem at_has {l : List Pr} (_ : Ris l) {k : ByteArray} (h : hasB l k = true) : ∃ hj : atN l k < l.length, atF l k 0 = (atN l k : Int) ∧ l[atN l k].2 = valOf l k := by
  obtain ⟨h1, h2⟩ := hasB_iff.1 h
  refine ⟨h1, ?_, (valOf_yes h1 h2).symm⟩
  have := atF_at l k 0 (atN l k) h1 h2 (fun j hj hjn => ne_of_lt (atN_lt l k j hjn hj))
  rw [Nat.zero_add] at this
  exact this
def RetFB (l : List Pr) (b : Bool) (w : World) (e : Ending) (w' : World) : Prop := ∃ A cap, e = .returned (.tuple #[.slice A l.length cap, .bool b]) ∧ Own w' w.heap.size A cap l ∧ Below w.heap.size w w'
theorem app_size (a b : ByteArray) : (a ++ b).size = a.size + b.size := ByteArray.size_append
set_option maxRecDepth 100000 in
set_option maxHeartbeats 2000000 in
theorem l11Do_any (A : Option Addr) (l : List Pr) (cap : Nat) (k : Int) (nm to dt : ByteArray) (w : World) (hr : Ris l) (hl : l.length ≤ 1000000) (hn : nm.size ≤ maxLen) (ht : to.size ≤ maxLen) (hs : (valOf l nm).size + dt.size ≤ maxLen) (hin : PIn w w.heap.size A l) :
    Calls Try.prog 42 #[.slice A l.length cap, .agg #[.int .i64 k, .string nm, .string to, .string dt]] w (RetFB (doF l (k, nm, to, dt)) (doB l (k, nm, to, dt)) w) := by
  have hlm : l.length ≤ maxLen := by unfold maxLen; omega
  obtain ⟨x0, x1, x2, x3⟩ := box4 w (.int .i64 k) (.string nm) (.string to) (.string dt) 45
  have B0 : Hid (Below w.heap.size w (w.alloc (.cells #[.int .i64 k, .string nm, .string to, .string dt] 45))) := hide ((Below.refl _ w).alloc (Nat.le_refl _) _)
  have AT := hide (fun W (h : Below w.heap.size w W) => l11At_any A l cap nm W w.heap.size hlm (hin.below h))
  have IN := hide hin
  have PU : Hid (∀ W (_ : Below w.heap.size w W) v, v.size ≤ maxLen → Calls Try.prog 77 #[.slice A l.length cap, .string nm, .string v] W (RetF (setL l nm v) W)) := hide (fun W h v hv => by
    have := l11Put_any A l cap nm v W (by omega) hn hv ((hin.below h).more h.size)
    rw [put_set hr] at this
    exact this)
  have CU : Hid (∀ W (_ : Below w.heap.size w W), Calls Try.prog 78 #[.slice A l.length cap, .string nm] W (RetF (cutF1 l nm) W)) := hide (fun W h => l11Cut_any A l cap nm W (by omega) ((hin.below h).more h.size))
  have DF : Hid (doF l (k, nm, to, dt) = _) := hide (by unfold doF; rfl)
  have DB : Hid (doB l (k, nm, to, dt) = _) := hide (by unfold doB; rfl)
  simp only at DF DB
  by_cases hk : k = 1
  · subst hk
    rw [if_pos rfl] at DF
    have DB1 : Hid (doB l (1, nm, to, dt) = true) := hide (by rw [DB.out]; rfl)
    rw [DF.out, DB1.out]
    clear DF DB DB1 CU
    cases hb : hasB l nm
    · have AE := hide (at_none hr hb)
      have VE : Hid (valOf l nm ++ dt = dt) := hide (by rw [valOf_no hb]; simp)
      rw [VE.out]
      rw [AE.out] at AT
      have hdt : dt.size ≤ maxLen := by omega
      have PP := hide (fun W h => PU.out W h dt hdt)
      clear hin hs PU VE AE IN hb hdt
      generalize setL l nm dt = m at *
      generalize l.length = n at *
      go_enter Try.func42, Try.ntmps42
      go_wp2_with fail
      refine (AT.out _ B0.out).mono ?_
      rintro e w1 ⟨rfl, rfl⟩
      go_wp2_with fail
      refine (PP.out _ B0.out).mono ?_
      rintro e w2 ⟨A2, cap2, rfl, o2, b2⟩
      have F : Hid (RetFB m true w (.returned (.tuple #[.slice A2 m.length cap2, .bool true])) w2) := hide ⟨A2, cap2, rfl, o2.more B0.out.size, B0.out.trans (b2.mono B0.out.size)⟩
      clear o2 b2 AT PP x0 x1 x2 x3
      generalize m.length = mn at *
      go_wp2
      go_ret2
      exact F.out
    · obtain ⟨hj, ae, ve⟩ := at_has hr hb
      have AE := hide ae
      rw [AE.out] at AT
      obtain ⟨b, off, rfl, hbB, hc⟩ := IN.out.2 (by omega)
      have c3 := (hc _ hj).2
      rw [ve] at c3
      have d3 := (B0.out.cell (p := ⟨b, off + atN l nm * 2 + 1, none⟩) hbB).trans c3
      have hsz : (valOf l nm ++ dt).size ≤ maxLen := by rw [app_size]; exact hs
      have PP := hide (fun W h => PU.out W h _ hsz)
      have hs2 : ¬ (9223372036854775807 < (valOf l nm).size + dt.size) := by unfold maxLen at hs; omega
      clear hin hs PU AE IN hb hc c3 ve ae hsz
      generalize setL l nm (valOf l nm ++ dt) = m at *
      generalize valOf l nm = v at *
      generalize l.length = n at *
      generalize atN l nm = j at *
      go_enter Try.func42, Try.ntmps42
      go_wp2_with fail
      refine (AT.out _ B0.out).mono ?_
      rintro e w1 ⟨rfl, rfl⟩
      go_wp2_with fail
      refine (PP.out _ B0.out).mono ?_
      rintro e w2 ⟨A2, cap2, rfl, o2, b2⟩
      have F : Hid (RetFB m true w (.returned (.tuple #[.slice A2 m.length cap2, .bool true])) w2) := hide ⟨A2, cap2, rfl, o2.more B0.out.size, B0.out.trans (b2.mono B0.out.size)⟩
      clear o2 b2 AT PP x0 x1 x2 x3
      generalize m.length = mn at *
      go_wp2
      go_ret2
      exact F.out
  · rw [if_neg hk] at DF
    have k1 : (k == 1) = false := beq_eq_false_iff_ne.2 hk
    have DB1 : Hid (doB l (k, nm, to, dt) = hasB l nm) := hide (by rw [DB.out, decide_eq_false hk]; rfl)
    rw [DF.out, DB1.out]
    clear DF DB DB1 PU
    cases hb : hasB l nm
    · have AE := hide (at_none hr hb)
      simp only [Bool.false_eq_true, if_false]
      rw [AE.out] at AT
      have LE : Hid (([] : List Pr) ++ l = l) := hide (List.nil_append l)
      have OB : Hid (Own ((w.alloc (.cells #[.int .i64 k, .string nm, .string to, .string dt] 45)).alloc (.cells #[] 86)) w.heap.size (some ⟨w.heap.size + 1, 0, none⟩) 0 []) := hide (by
        have h := Own.built (w.alloc (.cells #[.int .i64 k, .string nm, .string to, .string dt] 45)) w.heap.size B0.out.size
        rw [World.size_alloc] at h
        exact h)
      have hl2 : l.length ≤ 1000000 := hl
      clear hs CU AE hb
      generalize hln : l.length = n at *
      have HN := hide hln
      clear hln
      go_enter Try.func42, Try.ntmps42
      go_wp2_with fail
      refine (AT.out _ B0.out).mono ?_
      rintro e w1 ⟨rfl, rfl⟩
      clear x0 x1 x2 x3 AT k1
      go_wp2_with (at_builtin; refine wpList_app (l := []) (l' := l) 28 Try.underlying28 rfl (.tmp 34) (.tmp 35) rfl rfl rfl rfl HN.out.symm OB.out ((IN.out.below B0.out).below ((Below.refl _ _).alloc B0.out.size _)) (Nat.le_trans B0.out.size (by simp)) (by have := HN.out; simp only [List.length_nil, Nat.zero_add]; omega) ?_; intro A3 cap3 w3 own3 g3 r3; rw [LE.out] at own3; have B3 := hide (B0.out.trans (((Below.refl _ _).alloc B0.out.size (.cells #[] 86)).trans (OB.out.grownBelow (by rw [rowOf_own]; exact g3) (Nat.le_trans B0.out.size (by simp))))); have O3 := hide own3; clear own3 g3 r3)
      go_ret2
      exact ⟨A3, cap3, by first | rfl | (rw [HN.out]; rfl) | (simp [HN.out]), O3.out, B3.out⟩
    · obtain ⟨hj, ae, ve⟩ := at_has hr hb
      have AE := hide ae
      rw [AE.out] at AT
      rw [if_pos rfl]
      obtain ⟨b, off, rfl, hbB, hc⟩ := IN.out.2 (by omega)
      have c3 := (hc _ hj).2
      rw [ve] at c3
      have CC : Hid (∀ W, Below w.heap.size w W → W.cell? ⟨b, off + atN l nm * 2 + 1, none⟩ = some (.string (valOf l nm))) := hide (fun W h => (h.cell (p := ⟨b, off + atN l nm * 2 + 1, none⟩) hbB).trans c3)
      have hv : (valOf l nm).size ≤ maxLen := by omega
      have P2 : Hid (∀ W A' c', Own W w.heap.size A' c' (cutF1 l nm) → Calls Try.prog 77 #[.slice A' (cutF1 l nm).length c', .string to, .string (valOf l nm)] W (RetF (setL (cutF1 l nm) to (valOf l nm)) W)) := hide (fun W A' c' h => by
        have := l11Put_any A' (cutF1 l nm) c' to (valOf l nm) W (by have := cut_len l nm; omega) ht hv h.pin
        rw [put_set (ris_cut hr nm)] at this
        exact this)
      clear hin hs AE IN hb hc c3 ve ae hv
      by_cases hk2 : k = 2
      · subst hk2
        rw [if_pos rfl]
        clear hk
        generalize setL (cutF1 l nm) to (valOf l nm) = m at *
        generalize valOf l nm = v at *
        generalize cutF1 l nm = m1 at *
        generalize l.length = n at *
        generalize atN l nm = j at *
        go_enter Try.func42, Try.ntmps42
        go_wp2_with fail
        refine (AT.out _ B0.out).mono ?_
        rintro e w1 ⟨rfl, rfl⟩
        go_wp2_with fail
        refine (CU.out _ B0.out).mono ?_
        rintro e w2 ⟨A2, cap2, rfl, o2, b2⟩
        have O2 := hide (o2.more B0.out.size)
        have B2 := hide (B0.out.trans (b2.mono B0.out.size))
        have P3 := hide (P2.out w2 A2 cap2 O2.out)
        have P4 := hide (P2.out w2.drew A2 cap2 O2.out.drew)
        have B4 : Hid (Below w.heap.size w w2.drew) := hide B2.out.drew
        have d3 := CC.out _ B2.out
        have y0 := cellB b2 (by simp) x0
        have y2 := cellB b2 (by simp) x2
        clear o2 b2 AT CU P2 x0 x1 x2 x3
        generalize m1.length = mn1 at *
        go_wp2_with fail
        go_region_with (go_at_call 77; refine P4.out.mono ?_; rintro e w3 ⟨A3, cap3, rfl, o3, b3⟩; have F : Hid (RetFB m true w (.returned (.tuple #[.slice A3 m.length cap3, .bool true])) w3) := hide ⟨A3, cap3, rfl, o3.more B4.out.size, B4.out.trans (b3.mono B4.out.size)⟩; clear o3 b3 P3 P4; generalize m.length = mn at *)
        all_goals
          go_wp2
          go_ret2
          exact F.out
      · rw [if_neg hk2]
        have k2 : (k == 2) = false := beq_eq_false_iff_ne.2 hk2
        clear P2
        generalize cutF1 l nm = m at *
        generalize l.length = n at *
        generalize atN l nm = j at *
        go_enter Try.func42, Try.ntmps42
        go_wp2_with fail
        refine (AT.out _ B0.out).mono ?_
        rintro e w1 ⟨rfl, rfl⟩
        go_wp2_with fail
        refine (CU.out _ B0.out).mono ?_
        rintro e w2 ⟨A2, cap2, rfl, o2, b2⟩
        have F : Hid (RetFB m true w (.returned (.tuple #[.slice A2 m.length cap2, .bool true])) w2) := hide ⟨A2, cap2, rfl, o2.more B0.out.size, B0.out.trans (b2.mono B0.out.size)⟩
        have y0 := cellB b2 (by simp) x0
        clear o2 b2 AT CU x0 x1 x2 x3 CC
        generalize m.length = mn at *
        go_wp2
        go_ret2
        exact F.out
end Go.Proofs.Ytblggbihnglipaa
