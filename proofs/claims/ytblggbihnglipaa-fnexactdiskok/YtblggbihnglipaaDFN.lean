/-
  A map of files in memory: what a look-up, a store, a deletion make of it.
-/
import Derived.Test.YtblggbihnglipaaDFM
import Derived.Sort.KeysCollected
namespace Go.Proofs.Ytblggbihnglipaa
open Go.RowKit Go.Maps

theorem lawF : Keyed Try.prog 9 := string_keyed Try.underlying9
def kyF (s : ByteArray) : Lit := .string s.data.toList
theorem kyF_inj {a b : ByteArray} (h : kyF a = kyF b) : a = b := by
  unfold kyF at h
  injection h with h
  exact Go.WideShapes.bytes_inj h
theorem kyF_key (s : ByteArray) : WideAt.IsKeyLit (kyF s) := trivial
/-- an element is held as it is -/
def hldF (v : Value) : Option (DataW Value × List MemPlace) := some (.held v, [])
/-- the map at block gm tells the rising list l; each value's bytes lie in a row of their own, from block B on -/
structure FMap (w : World) (B gm n : Nat) (l : List Pr) (rA : ByteArray → Option Addr) (rC : ByteArray → Nat) : Prop where
  own : ∃ D : DataW Value, w.ownsMap Try.prog 9 hldF gm n D ∧ ∀ k, has D (kyF k) = hasB l k ∧ (hasB l k = true → ∀ z, D.atKey (kyF k) z = .held (.slice (rA k) (valOf l k).size (rC k)))
  ris : Ris l
  row : ∀ k, hasB l k = true → BRow w B (rA k) (rC k) (valOf l k)
  sep : ∀ k k', hasB l k = true → hasB l k' = true → k ≠ k' → ∀ g, rowOf (rA k) = some g → rowOf (rA k') ≠ some g
  low : gm < B
theorem FMap.lt {w : World} {B gm n : Nat} {l : List Pr} {rA : ByteArray → Option Addr} {rC : ByteArray → Nat} (h : FMap w B gm n l rA rC) : gm < w.heap.size := by
  obtain ⟨D, h1, _⟩ := h.own
  exact h1.lt
theorem FMap.kept {w w' : World} {B gm n : Nat} {l : List Pr} {rA : ByteArray → Option Addr} {rC : ByteArray → Nat} {row : Option Nat} (h : FMap w B gm n l rA rC) (hg : w.grownBy w' row) (h1 : some gm ≠ row) (h2 : ∀ k, hasB l k = true → ∀ g, rowOf (rA k) = some g → row ≠ some g) : FMap w' B gm n l rA rC := by
  obtain ⟨D, o1, o2⟩ := h.own
  exact ⟨⟨D, o1.kept hg h1, o2⟩, h.ris, fun k hk => (h.row k hk).kept hg (h2 k hk), h.sep, h.low⟩
theorem FMap.below {w w' : World} {B gm n : Nat} {l : List Pr} {rA : ByteArray → Option Addr} {rC : ByteArray → Nat} (h : FMap w B gm n l rA rC) (hb : Below w.heap.size w w') : FMap w' B gm n l rA rC := h.kept (Below.toGrown hb none) (by simp) (fun _ _ _ _ e => by cases e)
theorem FMap.more {w : World} {B gm n n' : Nat} {l : List Pr} {rA : ByteArray → Option Addr} {rC : ByteArray → Nat} (h : FMap w B gm n l rA rC) (hn : n ≤ n') : FMap w B gm n' l rA rC := by
  obtain ⟨D, o1, o2⟩ := h.own
  exact ⟨⟨D, o1.mono hn, o2⟩, h.ris, h.row, h.sep, h.low⟩
theorem has_nil (k : ByteArray) : hasB [] k = false := by
  cases e : hasB [] k
  · rfl
  · obtain ⟨h, _⟩ := hasB_iff.1 e
    exact absurd h (by simp)
theorem FMap.made (w : World) (rA : ByteArray → Option Addr) (rC : ByteArray → Nat) : FMap (w.alloc (.map #[] 0)) (w.heap.size + 1) w.heap.size 0 [] rA rC :=
  ⟨⟨.map [], World.ownsMap_made w _ _ _, fun k => ⟨by rw [has_nil]; rfl, fun h => (by rw [has_nil] at h; cases h)⟩⟩, ris_nil, fun k h => (by rw [has_nil] at h; cases h), fun k _ h => (by rw [has_nil] at h; cases h), Nat.lt_succ_self _⟩
theorem zeroF (w : World) : (zeroValue 57).run Try.prog w = .ok (.slice none 0 0) w := by kernel_rfl
set_option maxRecDepth 100000 in
theorem FMap.look {w : World} {B gm n : Nat} {l : List Pr} {rA : ByteArray → Option Addr} {rC : ByteArray → Nat} (h : FMap w B gm n l rA rC) {k : ByteArray} (hk : k.size ≤ maxLen) :
    ∃ A c, (Instr.lookup 75 (.map (some gm)) (.string k) true).run Try.prog w = .ok (.tuple #[.slice A (valOf l k).size c, .bool (hasB l k)]) w ∧ BRow w B A c (valOf l k) ∧ (hasB l k = true → A = rA k ∧ c = rC k) ∧ (hasB l k = false → A = none ∧ c = 0) := by
  obtain ⟨D, o1, o2⟩ := h.own
  obtain ⟨v, ps, hrun, hv⟩ := World.ownsMap.look_ok o1 lawF Try.underlying75 (zeroF w) (zd := .held (.slice none 0 0)) (zp := []) rfl (Go.WideMaps.keyOf_string_mk Try.underlying9 hk)
  injection hv with hv
  injection hv with hv _
  obtain ⟨q1, q2⟩ := o2 k
  have q1' : Maps.has D (.string k.data.toList) = hasB l k := q1
  rw [q1'] at hrun
  cases hb : hasB l k
  · rw [hb] at q1 hrun
    have e : D.atKey (.string k.data.toList) (.held (.slice none 0 0)) = .held (.slice none 0 0) := atKey_of_not_has q1 _
    rw [e] at hv
    injection hv with hv
    subst hv
    rw [valOf_no hb]
    exact ⟨none, 0, hrun, BRow.nil _ _, fun e => (by cases e), fun _ => ⟨rfl, rfl⟩⟩
  · have e : D.atKey (.string k.data.toList) (.held (.slice none 0 0)) = .held (.slice (rA k) (valOf l k).size (rC k)) := q2 hb _
    rw [e] at hv
    injection hv with hv
    subst hv
    rw [hb] at hrun
    exact ⟨rA k, rC k, hrun, h.row k hb, fun _ => ⟨rfl, rfl⟩, fun e => (by cases e)⟩
open Classical in
/-- one place of a function turned -/
noncomputable def updF {α : Type} (f : ByteArray → α) (k : ByteArray) (v : α) : ByteArray → α := fun x => if x = k then v else f x
theorem updF_same {α : Type} (f : ByteArray → α) (k : ByteArray) (v : α) : updF f k v k = v := by unfold updF; rw [if_pos rfl]
theorem updF_ne {α : Type} (f : ByteArray → α) {k x : ByteArray} (v : α) (h : x ≠ k) : updF f k v x = f x := by unfold updF; rw [if_neg h]
set_option maxRecDepth 100000 in
theorem FMap.storeX {w0 w : World} {B gm n : Nat} {l : List Pr} {rA : ByteArray → Option Addr} {rC : ByteArray → Nat} {row0 : Option Nat} (h : FMap w0 B gm n l rA rC) (hg0 : w0.grownBy w row0) (hgm : some gm ≠ row0) (hn : n < maxLen) {k v : ByteArray} (hk : k.size ≤ maxLen)
    (ho : ∀ k', hasB l k' = true → k' ≠ k → ∀ g, rowOf (rA k') = some g → row0 ≠ some g) {A : Option Addr} {c : Nat} (hr : BRow w B A c v) (hs : ∀ k', hasB l k' = true → k' ≠ k → ∀ g, rowOf A = some g → rowOf (rA k') ≠ some g) :
    ∃ w', (Instr.mapUpdate 75 (.map (some gm)) (.string k) (.slice A v.size c)).run Try.prog w = .ok () w' ∧ FMap w' B gm (n + 1) (setL l k v) (updF rA k A) (updF rC k c) ∧ w.grownBy w' (some gm) := by
  obtain ⟨D, o0, o2⟩ := h.own
  have o1 := o0.kept hg0 hgm
  have hrow : ∀ k', hasB l k' = true → k' ≠ k → BRow w B (rA k') (rC k') (valOf l k') := fun k' h1 h2 => (h.row k' h1).kept hg0 (ho k' h1 h2)
  obtain ⟨w', hrun, h1, h2⟩ := World.ownsMap.update o1 lawF Try.underlying75 hn (Go.WideMaps.keyOf_string_mk Try.underlying9 hk) (d := .held (.slice A v.size c)) (ps := []) rfl
  have hlow := h.low
  have kp : ∀ {A' : Option Addr} {c' : Nat} {s : ByteArray}, BRow w B A' c' s → BRow w' B A' c' s := fun hb => hb.kept h2 (fun g hg e => by injection e with e; have := (hb.row g hg).1; omega)
  refine ⟨w', hrun, ⟨⟨_, h1, fun k' => ?_⟩, ris_set h.ris k v, fun k' hk' => ?_, fun a b ha hb hne g hg => ?_, hlow⟩, h2⟩
  · by_cases e : k' = k
    · subst e
      have a1 : has (D.put (kyF k') (.held (.slice A v.size c))) (kyF k') = true := has_put_same (World.ownsMap.isMap o1) (kyF_key _) _
      refine ⟨a1.trans ((has_set h.ris k' v k').2 (.inl rfl)).symm, fun _ z => ?_⟩
      rw [updF_same, updF_same, val_set h.ris]
      exact atKey_put_same (World.ownsMap.isMap o1) (kyF_key _) _ _
    · have hne : kyF k' ≠ kyF k := fun x => e (kyF_inj x)
      obtain ⟨q1, q2⟩ := o2 k'
      have hh : hasB (setL l k v) k' = hasB l k' := by
        cases e1 : hasB l k' <;> cases e2 : hasB (setL l k v) k'
        · rfl
        · rcases (has_set h.ris k v k').1 e2 with g | g
          · exact absurd g e
          · rw [e1] at g; cases g
        · rw [(has_set h.ris k v k').2 (.inr e1)] at e2; cases e2
        · rfl
      refine ⟨(has_put_other hne _).trans (q1.trans hh.symm), fun hb z => ?_⟩
      rw [updF_ne rA A e, updF_ne rC c e, val_set_ne h.ris v e]
      exact (atKey_put_other hne _ z).trans (q2 (by rw [← hh]; exact hb) z)
  · by_cases e : k' = k
    · subst e
      rw [updF_same, updF_same, val_set h.ris]
      exact kp hr
    · rw [updF_ne rA A e, updF_ne rC c e, val_set_ne h.ris v e]
      rcases (has_set h.ris k v k').1 hk' with g | g
      · exact absurd g e
      · exact kp (hrow k' g e)
  · have hin : ∀ x, hasB (setL l k v) x = true → x ≠ k → hasB l x = true := fun x hx hxk => by
      rcases (has_set h.ris k v x).1 hx with g | g
      · exact absurd g hxk
      · exact g
    by_cases ea : a = k
    · subst ea
      rw [updF_same] at hg
      rw [updF_ne rA A (fun e => hne e.symm)]
      exact hs b (hin b hb (fun e => hne e.symm)) (fun e => hne e.symm) g hg
    · rw [updF_ne rA A ea] at hg
      by_cases eb : b = k
      · subst eb
        rw [updF_same]
        exact fun x => hs a (hin a ha ea) ea g x hg
      · rw [updF_ne rA A eb]
        exact h.sep a b (hin a ha ea) (hin b hb eb) hne g hg
theorem FMap.store {w : World} {B gm n : Nat} {l : List Pr} {rA : ByteArray → Option Addr} {rC : ByteArray → Nat} (h : FMap w B gm n l rA rC) (hn : n < maxLen) {k v : ByteArray} (hk : k.size ≤ maxLen) {A : Option Addr} {c : Nat} (hr : BRow w B A c v) (hs : ∀ k', hasB l k' = true → k' ≠ k → ∀ g, rowOf A = some g → rowOf (rA k') ≠ some g) :
    ∃ w', (Instr.mapUpdate 75 (.map (some gm)) (.string k) (.slice A v.size c)).run Try.prog w = .ok () w' ∧ FMap w' B gm (n + 1) (setL l k v) (updF rA k A) (updF rC k c) ∧ w.grownBy w' (some gm) :=
  h.storeX (World.grownBy.refl w none) (by simp) hn hk (fun _ _ _ _ _ e => by cases e) hr hs
set_option maxRecDepth 100000 in
theorem FMap.drop {w : World} {B gm n : Nat} {l : List Pr} {rA : ByteArray → Option Addr} {rC : ByteArray → Nat} (h : FMap w B gm n l rA rC) {k : ByteArray} (hk : k.size ≤ maxLen) (ty : TypeId) :
    ∃ w', (Builtin.delete_ #[75, 9] ty #[.map (some gm), .string k]).run Try.prog w = .ok (.tuple #[]) w' ∧ FMap w' B gm n (cutF1 l k) rA rC ∧ w.grownBy w' (some gm) := by
  obtain ⟨D, o1, o2⟩ := h.own
  obtain ⟨w', hrun, h1, h2⟩ := World.ownsMap.drop o1 lawF Try.underlying75 (Go.WideMaps.keyOf_string_mk Try.underlying9 hk) ty
  have hg := h2.grown
  have hlow := h.low
  have kp : ∀ {A' : Option Addr} {c' : Nat} {s : ByteArray}, BRow w B A' c' s → BRow w' B A' c' s := fun hb => hb.kept hg (fun g hg' e => by injection e with e; have := (hb.row g hg').1; omega)
  have hin : ∀ x, hasB (cutF1 l k) x = true → x ≠ k ∧ hasB l x = true := fun x hx => (has_cut h.ris k x).1 hx
  refine ⟨w', hrun, ⟨⟨_, h1, fun k' => ?_⟩, ris_cut h.ris k, fun k' hk' => ?_, fun a b ha hb hne g hg' => h.sep a b (hin a ha).2 (hin b hb).2 hne g hg', hlow⟩, hg⟩
  · by_cases e : k' = k
    · subst e
      have a1 : has (D.del (kyF k')) (kyF k') = false := has_del_same
      refine ⟨a1.trans (has_cut_same h.ris k').symm, fun hb => ?_⟩
      rw [has_cut_same h.ris] at hb
      cases hb
    · have hne : kyF k' ≠ kyF k := fun x => e (kyF_inj x)
      obtain ⟨q1, q2⟩ := o2 k'
      refine ⟨(has_del_other hne).trans (q1.trans (has_cut_ne h.ris e).symm), fun hb z => ?_⟩
      rw [val_cut_ne h.ris e]
      exact (atKey_del_other hne z).trans (q2 (by rw [← has_cut_ne h.ris e]; exact hb) z)
  · obtain ⟨a1, a2⟩ := hin k' hk'
    rw [val_cut_ne h.ris a1]
    exact kp (h.row k' a2)
theorem FMap.keys {w : World} {gm n : Nat} {l : List Pr} {D : DataW Value} (h : w.ownsMap Try.prog 9 hldF gm n D) (hr : Ris l) (r : ∀ k, has D (kyF k) = hasB l k) : (l.map fun p => p.1.data.toList).Perm (strKeys D) := by
  refine Collected.perm (left := fun _ => false) ⟨?_, fun x => ?_⟩ h lawF Try.underlying9 (fun _ => rfl)
  · refine List.pairwise_map.2 (hr.imp fun {p q} hlt e => ?_)
    have : p.1 = q.1 := Go.WideShapes.bytes_inj e
    rw [this, ltB_irrefl] at hlt
    cases hlt
  · have hk := r ⟨x.toArray⟩
    have hx : kyF ⟨x.toArray⟩ = .string x := rfl
    rw [hx] at hk
    rw [hk, has_iff hr, List.mem_map]
    constructor
    · rintro ⟨p, hp, rfl⟩
      exact ⟨⟨p.2, by simpa using hp⟩, rfl⟩
    · rintro ⟨⟨v, hv⟩, _⟩
      exact ⟨_, hv, rfl⟩
theorem FMap.len {w : World} {B gm n : Nat} {l : List Pr} {rA : ByteArray → Option Addr} {rC : ByteArray → Nat} (h : FMap w B gm n l rA rC) (ty : TypeId) : (Builtin.len_ #[75] ty #[.map (some gm)]).run Try.prog w = .ok (.int .i64 (l.length : Nat)) w := by
  obtain ⟨D, o1, o2⟩ := h.own
  have hp := (FMap.keys o1 h.ris (fun k => (o2 k).1)).length_eq
  rw [List.length_map] at hp
  have e : Maps.size D = l.length := by
    obtain ⟨es, rfl⟩ := World.ownsMap.isMap o1
    rw [size_eq, hp]
    show es.length = (es.map _).length
    rw [List.length_map]
  rw [World.ownsMap.len o1 Try.underlying75 ty, e]
end Go.Proofs.Ytblggbihnglipaa
