/-
  What impl.files' fit answers.
-/
import Derived.Test.YtblggbihnglipaaDDoI
import Derived.WalkKit
import Derived.WalkLawsBesides
import Derived.ProofKit
namespace Go.Proofs.Ytblggbihnglipaa
open Go.RowKit Go.Maps

/-- the step of a range over a map of files -/
theorem wpList_next_files {w : World} {ops : Array Oper} {rest : List Oper} {o : Oper} {a : Act} {Q : Exit → Act → World → Prop} (hg : o.guard = none) (it : Operand) (hop : o.op = Op.next it false) (b r n : Nat) (D : DataW Value) (l : List Pr) (rA : ByteArray → Option Addr) (rC : ByteArray → Nat) (left : Lit → Bool) (cnt : Nat)
    (hit : a.eval it = .pointer (some ⟨r, 0, none⟩)) (h : w.ranges Try.prog 9 hldF b r n D left cnt)
    (hD : ∀ k, has D (kyF k) = hasB l k ∧ (hasB l k = true → ∀ z, D.atKey (kyF k) z = .held (.slice (rA k) (valOf l k).size (rC k))))
    (hDone : cnt = 0 → (∀ kl, left kl = false) → wpList Try.prog ops Q rest (a.put o.dst (.tuple #[.bool false])) w)
    (hMore : ∀ (x : ByteArray) (w' : World) (cnt' : Nat), hasB l x = true → left (kyF x) = true → w'.ranges Try.prog 9 hldF b r n D (fun z => left z && !z.sameKey (kyF x)) cnt' → cnt' < cnt → w.grownBy w' (some r) → w'.heap.size = w.heap.size →
      (Instr.entry (.pointer (some ⟨r, 0, none⟩))).run Try.prog w' = .ok (.tuple #[.string x, .slice (rA x) (valOf l x).size (rC x)]) w' → wpList Try.prog ops Q rest (a.put o.dst (.tuple #[.bool true, .string x, .slice (rA x) (valOf l x).size (rC x)])) w') :
    wpList Try.prog ops Q (o :: rest) a w := by
  refine wpList_next_ranges w hg it hop 9 lawF hldF Value.string (fun v => v) (fun key kl hk => by obtain ⟨x', h, _⟩ := Maps.keyOf_str Try.underlying9 hk; exact ⟨⟨x'.toArray⟩, h⟩) (fun v _ _ => ⟨v, rfl⟩) b r n D left cnt hit h hDone ?_
  intro x c kl y w' cnt' hkey hlk hv hat hrg hlt hgr hsz hen
  obtain ⟨x', ex, rfl, hlen⟩ := Maps.keyOf_str Try.underlying9 hkey
  have ex' : x = ⟨x'.toArray⟩ := Value.string.inj ex
  subst ex'
  have ek : (.string x' : Lit) = kyF ⟨x'.toArray⟩ := rfl
  rw [ek] at hlk hat hrg
  injection hv with hv
  subst hv
  obtain ⟨q1, q2⟩ := hD ⟨x'.toArray⟩
  have hb : hasB l ⟨x'.toArray⟩ = true := q1.symm.trans (Maps.has_true_of_atKey hat)
  have h2 := q2 hb (.held c)
  rw [hat] at h2
  injection h2 with h2
  subst h2
  exact hMore _ w' cnt' hb hlk hrg hlt hgr hsz hen
/-- the bytes of the files that are still to come -/
def restF (l : List Pr) (f : Lit → Bool) : Nat := sumF (l.filter fun p => f (kyF p.1))
theorem restF_all {l : List Pr} {f : Lit → Bool} (h : ∀ p ∈ l, f (kyF p.1) = true) : restF l f = sumF l := by
  unfold restF
  rw [List.filter_eq_self.2 h]
theorem restF_none {l : List Pr} {f : Lit → Bool} (h : ∀ k, f k = false) : restF l f = 0 := by
  unfold restF
  rw [List.filter_eq_nil_iff.2 (fun p _ => by rw [h]; simp)]
  rfl
theorem restF_other {l : List Pr} {f : Lit → Bool} {x : ByteArray} (h : ∀ p ∈ l, p.1 ≠ x) : restF l (fun z => f z && !z.sameKey (kyF x)) = restF l f := by
  unfold restF
  congr 1
  refine List.filter_congr fun p hp => ?_
  have hn : (kyF p.1).sameKey (kyF x) = false := sameKey_ne (fun e => h p hp (kyF_inj e))
  show (f (kyF p.1) && !(kyF p.1).sameKey (kyF x)) = f (kyF p.1)
  rw [hn]
  simp
theorem restF_cons (p : Pr) (l : List Pr) (f : Lit → Bool) : restF (p :: l) f = (if f (kyF p.1) = true then p.2.size else 0) + restF l f := by
  unfold restF
  rw [List.filter_cons]
  split
  · rw [sumF_cons]
  · rw [Nat.zero_add]
theorem sameKey_self (x : ByteArray) : (kyF x).sameKey (kyF x) = true := by simp [kyF, Lit.sameKey]
theorem restF_step : ∀ {l : List Pr}, l.Pairwise (fun a b => a.1 ≠ b.1) → ∀ {f : Lit → Bool} {x v : ByteArray}, (x, v) ∈ l → f (kyF x) = true → restF l f = restF l (fun z => f z && !z.sameKey (kyF x)) + v.size
  | [], _, _, _, _, h, _ => absurd h (by simp)
  | p :: l, hp, f, x, v, hm, hf => by
    obtain ⟨h1, h2⟩ := List.pairwise_cons.1 hp
    rw [restF_cons, restF_cons]
    rcases List.mem_cons.1 hm with e | e
    · subst e
      dsimp only
      rw [restF_other (fun q hq => fun e => h1 q hq e.symm), if_pos hf, sameKey_self, if_neg (by simp)]
      omega
    · have hne : p.1 ≠ x := h1 _ e
      have hn : (kyF p.1).sameKey (kyF x) = false := sameKey_ne (fun e => hne (kyF_inj e))
      rw [restF_step h2 e hf, hn]
      simp only [Bool.not_false, Bool.and_true]
      omega
theorem ris_apart {l : List Pr} (h : Ris l) : l.Pairwise (fun a b => a.1 ≠ b.1) := h.imp fun {p q} hlt e => by rw [e, ltB_irrefl] at hlt; cases hlt
theorem restF_at {l : List Pr} (hr : Ris l) {f : Lit → Bool} {x : ByteArray} (hb : hasB l x = true) (hf : f (kyF x) = true) : restF l f = restF l (fun z => f z && !z.sameKey (kyF x)) + (valOf l x).size := by
  obtain ⟨h1, h2⟩ := hasB_iff.1 hb
  refine restF_step (ris_apart hr) ?_ hf
  rw [valOf_yes h1 h2]
  have := List.getElem_mem h1
  conv at this => rhs; rw [show l[atN l x] = (l[atN l x].1, l[atN l x].2) from rfl, h2]
  exact this
/-- files that are few enough and of few enough bytes -/
def fitB (l : List Pr) : Bool := decide (l.length ≤ 60) && decide (sumF l ≤ 200000)
set_option maxRecDepth 100000 in
set_option maxHeartbeats 2000000 in
theorem fit_any {w : World} {B gm n : Nat} {l : List Pr} {rA : ByteArray → Option Addr} {rC : ByteArray → Nat} (h : FMap w B gm n l rA rC) (hs : sumF l ≤ 1099511627776) :
    Calls Try.prog 51 #[.map (some gm)] w fun e w' => e = .returned (.bool (fitB l)) ∧ Below w.heap.size w w' := by
  obtain ⟨D, o1, o2⟩ := h.own
  have H := hide h
  have O2 := hide o2
  have hgm := h.lt
  have ST : Hid (restF l (has D) = sumF l) := hide (restF_all (fun p hp => (o2 p.1).1.trans ((has_iff h.ris p.1).2 ⟨p.2, hp⟩)))
  clear h o2
  go_enter Try.func51, Try.ntmps51
  go_wp2_with (at_range; refine wpList_range_own _ rfl _ 75 rfl 9 57 lawF Try.underlying75 hldF gm n D rfl o1 ?_; intro w4 hrg4 hg4 hs4)
  try go_frame
  have BR : Hid (Below w.heap.size w w4) := hide ⟨hg4.os, hg4.tape, hg4.output, hg4.size, fun i hi => hg4.block i hi (by simp)⟩
  have RG := hide hrg4
  clear hrg4 hg4 hs4
  go_loopw [3] (fun iv wr => ∃ left cnt s, iv = .int .i64 (s : Nat) ∧ s + restF l left = sumF l ∧ Hid (wr.ranges Try.prog 9 hldF gm w.heap.size n D left cnt) ∧ Hid (Below w.heap.size w wr)) (fun _ wr => wr.rangeLeft gm w.heap.size)
  case atStart => exact ⟨_, _, 0, rfl, by rw [ST.out]; omega, RG, BR⟩
  case round =>
    clear RG BR ST
    obtain ⟨left, cnt, s, rfl, hsum, RG, P⟩ := hrel
    have hgm2 : gm < wr.heap.size := Nat.lt_of_lt_of_le hgm P.out.size
    go_wp2_with (at_next; refine wpList_next_files rfl _ rfl gm w.heap.size n D l rA rC left cnt rfl RG.out O2.out ?_ ?_)
    · intro hc0 hl0
      rw [restF_none hl0] at hsum
      have es : s = sumF l := hsum
      subst es
      have LN := fun ty => (H.out.below P.out).len ty
      have PB := hide P.out
      clear P RG hsum
      by_cases h1 : l.length ≤ 60
      · have d1 : decide ((l.length : Int) ≤ 60) = true := decide_eq_true (by omega)
        have d1' : decide (l.length ≤ 60) = true := decide_eq_true h1
        have d2 : decide ((sumF l : Int) ≤ 200000) = decide (sumF l ≤ 200000) := by
          by_cases h2 : sumF l ≤ 200000
          · rw [decide_eq_true h2]; exact decide_eq_true (by omega)
          · rw [decide_eq_false h2]; exact decide_eq_false (by omega)
        have E : Hid (fitB l = decide (sumF l ≤ 200000)) := hide (by unfold fitB; rw [d1', Bool.true_and])
        go_wp2
        go_ret
        exact ⟨ret_bool E.out.symm, PB.out⟩
      · have d1 : decide ((l.length : Int) ≤ 60) = false := decide_eq_false (by omega)
        have d1' : decide (l.length ≤ 60) = false := decide_eq_false h1
        have E : Hid (fitB l = false) := hide (by unfold fitB; rw [d1', Bool.false_and])
        go_wp2
        go_ret
        exact ⟨ret_bool E.out.symm, PB.out⟩
    · intro x w5 cnt5 hb hlk hrg5 hlt5 hgr5 hsz5 hen
      have ST := hide (restF_at H.out.ris hb hlk)
      have hst := ST.out
      have RG5 := hide hrg5
      have P5 := hide (P.out.grown hgr5 P.out.size (fun k e => by injection e with e; omega))
      have lt5 : Hid (w5.rangeLeft gm w.heap.size < wr.rangeLeft gm w.heap.size) := hide (by rw [hrg5.left_eq, RG.out.left_eq]; exact hlt5)
      clear hrg5 hgr5 hlt5 RG P hlk hb hsz5
      generalize (valOf l x).size = z at *
      go_wp2
      go_roundw
      case rel => exact ⟨_, cnt5, s + z, by go_num, by omega, RG5, P5⟩
      case measure => exact lt5.out
end Go.Proofs.Ytblggbihnglipaa
