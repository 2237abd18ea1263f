/-
  Texts that this proof leans on, joined: JR.
-/
import Derived.Test.YtdahpnjamlfakaaGreatDoorJM
import Derived.Test.YtdahpnjamlfakaaGreatDoorJC
import Derived.Maps.RangeWalk
import Derived.Sort.KeysCollected
/-
  What impl.readTree and spec.l4Map answer.
-/
namespace Go.Proofs.YtdahpnjamlfakaaGreatDoor
open Go.RowKit

def mapW : ByteArray := ⟨#[109, 97, 112, 10]⟩
open Classical in
noncomputable def treeB (s : ByteArray) : Bool := decide (mapW.data.toList <+: s.data.toList) && M.okR (s.extract 4 s.size)
noncomputable def treeL (s : ByteArray) : List Pr := if treeB s = true then M.readL (s.extract 4 s.size) else []
theorem treeB_no {s : ByteArray} (h : ¬ mapW.data.toList <+: s.data.toList) : treeB s = false := by unfold treeB; rw [decide_eq_false h]; rfl
theorem treeB_yes {s : ByteArray} (h : mapW.data.toList <+: s.data.toList) : treeB s = M.okR (s.extract 4 s.size) := by unfold treeB; rw [decide_eq_true h]; rfl
theorem treeL_no {s : ByteArray} (h : treeB s = false) : treeL s = [] := by unfold treeL; rw [h]; rfl
theorem treeL_yes {s : ByteArray} (h : mapW.data.toList <+: s.data.toList) : treeL s = M.readL (s.extract 4 s.size) := by
  cases e : treeB s
  · rw [treeL_no e]
    rw [treeB_yes h] at e
    rw [M.readL_no e]
  · unfold treeL
    rw [e]
    rfl
theorem treeL_len (s : ByteArray) : (treeL s).length ≤ 40 := by
  cases e : treeB s
  · rw [treeL_no e]; simp
  · have hp : mapW.data.toList <+: s.data.toList := by
      apply Classical.byContradiction
      intro h
      rw [treeB_no h] at e
      cases e
    rw [treeL_yes hp]
    rw [treeB_yes hp] at e
    rw [M.readL_yes e]
    unfold M.okR at e
    simp only [Bool.and_eq_true] at e
    exact (mapB_iff.1 e.2).1
theorem map_parts {s : ByteArray} (h : mapW.data.toList <+: s.data.toList) : 4 ≤ s.size ∧ s.extract 0 4 = mapW := by
  obtain ⟨t, ht⟩ := h
  obtain ⟨h1, h2, _⟩ := ext_front (r := s) (want := mapW) (r' := ⟨⟨t⟩⟩) (by rw [← ht])
  exact ⟨h1, h2⟩
theorem map_whole {s : ByteArray} (_h1 : 4 ≤ s.size) (h2 : s.extract 0 4 = mapW) : mapW.data.toList <+: s.data.toList := by
  have e1 : mapW.data.toList = s.data.toList.take 4 := by
    rw [← h2, ByteArray.data_extract, Array.toList_extract]
    simp
  rw [e1]
  exact List.take_prefix _ _

theorem mapW_list : mapW.toList = [109, 97, 112, 10] := by rw [Go.ByteArray.toList_eq]; rfl
set_option maxRecDepth 100000 in
set_option maxHeartbeats 1000000 in
theorem cutPrefix_yes (s want : ByteArray) (w : World) (h1 : want.size ≤ s.size) (h2 : s.extract 0 want.size = want) :
    Calls Tryz.prog 138 #[.string s, .string want] w fun e w' => e = .returned (.tuple #[.string (s.extract want.size s.size), .bool true]) ∧ w = w' := by
  have d1 : decide ((want.size : Int) ≤ (s.size : Int)) = true := decide_eq_true (by omega)
  have d2 : (want.toList == want.toList) = true := by simp
  have hle : (want.size : Int) ≤ (s.size : Int) := by omega
  go_enter Tryz.func138, Tryz.ntmps138
  go_wp2
  go_ret2
  exact ⟨rfl, rfl⟩
set_option maxRecDepth 100000 in
set_option maxHeartbeats 1000000 in
theorem cutPrefix_no (s want : ByteArray) (w : World) (h : want.size ≤ s.size → ¬ s.extract 0 want.size = want) :
    Calls Tryz.prog 138 #[.string s, .string want] w fun e w' => e = .returned (.tuple #[.string s, .bool false]) ∧ w = w' := by
  by_cases hl : want.size ≤ s.size
  · have d1 : decide ((want.size : Int) ≤ (s.size : Int)) = true := decide_eq_true (by omega)
    have hle : (want.size : Int) ≤ (s.size : Int) := by omega
    have d2 : ((s.extract 0 want.size).toList == want.toList) = false := eqS_no (h hl)
    clear h
    go_enter Tryz.func138, Tryz.ntmps138
    go_wp2
    go_ret2
    exact ⟨rfl, rfl⟩
  · have d1 : decide ((want.size : Int) ≤ (s.size : Int)) = false := decide_eq_false (by omega)
    have hle : ¬ (want.size : Int) ≤ (s.size : Int) := by omega
    clear h
    go_enter Tryz.func138, Tryz.ntmps138
    go_wp2
    go_ret2
    exact ⟨rfl, rfl⟩
set_option maxRecDepth 100000 in
set_option maxHeartbeats 1000000 in
theorem implReadTree_any (s : ByteArray) (w : World) (hs : s.size ≤ 1048576) :
    Calls Tryz.prog 105 #[.string s] w (M.RetOwnB w.heap.size (treeL s) (treeB s) w) := by
  by_cases hp : mapW.data.toList <+: s.data.toList
  · obtain ⟨h1, h2⟩ := map_parts hp
    have HL := hide (treeL_yes hp)
    have HB := hide (treeB_yes hp)
    have C := hide (cutPrefix_yes s mapW w h1 h2)
    have MR := hide (M.implReadMap_any (s.extract 4 s.size) w (by simp; omega))
    clear hp h2 h1
    go_enter Tryz.func105, Tryz.ntmps105
    go_wp2_with fail
    refine C.out.mono ?_
    rintro e w0 ⟨rfl, rfl⟩
    clear C
    go_wp2_with fail
    refine MR.out.mono ?_
    rintro e w1 ⟨A1, cap1, hc1, rfl, own1, b1⟩
    have R : Hid (M.RetOwnB w.heap.size (treeL s) (treeB s) w (.returned (.tuple #[.slice A1 (M.readL (s.extract 4 s.size)).length cap1, .bool (M.okR (s.extract 4 s.size))])) w1) := hide (by rw [HL.out, HB.out]; exact ⟨A1, cap1, hc1, rfl, own1, b1⟩)
    clear own1 b1 MR HL HB hc1
    generalize (M.readL (s.extract 4 s.size)).length = n1 at *
    generalize M.okR (s.extract 4 s.size) = ok at *
    go_wp2
    go_ret2
    exact R.out
  · have HB := hide (treeB_no hp)
    have HL := hide (treeL_no HB.out)
    have R : Hid (M.RetOwnB w.heap.size (treeL s) (treeB s) w (.returned (.tuple #[.slice none 0 0, .bool false])) w) := hide (M.retOwnB_no HL.out HB.out (Below.refl _ _))
    have C := hide (cutPrefix_no s mapW w (fun h4 e => hp (map_whole h4 e)))
    clear hp
    go_enter Tryz.func105, Tryz.ntmps105
    go_wp2_with fail
    refine C.out.mono ?_
    rintro e w0 ⟨rfl, rfl⟩
    go_wp2
    go_ret2
    exact R.out

set_option maxRecDepth 100000 in
set_option maxHeartbeats 1000000 in
theorem l4Map_any (s : ByteArray) (w : World) (hs : s.size ≤ 1048576) :
    Calls Tryz.prog 97 #[.string s] w (M.RetOwnB w.heap.size (treeL s) (treeB s) w) := by
  by_cases hp : mapW.data.toList <+: s.data.toList
  · obtain ⟨h1, h2⟩ := map_parts hp
    have HL := hide (treeL_yes hp)
    have HB := hide (treeB_yes hp)
    have d1 : decide ((s.size : Int) < (4 : Int)) = false := decide_eq_false (by omega)
    have d2 : ((s.extract 0 4).toList == [109, 97, 112, 10]) = true := by rw [h2, mapW_list]; rfl
    have hle : ¬ (s.size : Int) < (4 : Int) := by omega
    have MR := hide (M.specReadMap_any (s.extract 4 s.size) w (by simp; omega))
    clear hp h2
    go_enter Tryz.func97, Tryz.ntmps97
    go_wp2_with fail
    refine MR.out.mono ?_
    rintro e w1 ⟨A1, cap1, hc1, rfl, own1, b1⟩
    have R : Hid (M.RetOwnB w.heap.size (treeL s) (treeB s) w (.returned (.tuple #[.slice A1 (M.readL (s.extract 4 s.size)).length cap1, .bool (M.okR (s.extract 4 s.size))])) w1) := hide (by rw [HL.out, HB.out]; exact ⟨A1, cap1, hc1, rfl, own1, b1⟩)
    clear own1 b1 MR HL HB hc1
    generalize (M.readL (s.extract 4 s.size)).length = n1 at *
    generalize M.okR (s.extract 4 s.size) = ok at *
    go_wp2
    go_ret2
    exact R.out
  · have HB := hide (treeB_no hp)
    have HL := hide (treeL_no HB.out)
    have R : Hid (M.RetOwnB w.heap.size (treeL s) (treeB s) w (.returned (.tuple #[.slice none 0 0, .bool false])) w) := hide (M.retOwnB_no HL.out HB.out (Below.refl _ _))
    by_cases h4 : 4 ≤ s.size
    · have d1 : decide ((s.size : Int) < (4 : Int)) = false := decide_eq_false (by omega)
      have hle : ¬ (s.size : Int) < (4 : Int) := by omega
      have d2 : ((s.extract 0 4).toList == [109, 97, 112, 10]) = false := by rw [← mapW_list]; exact eqS_no (fun e => hp (map_whole h4 e))
      clear hp
      go_enter Tryz.func97, Tryz.ntmps97
      go_wp2
      go_ret2
      exact R.out
    · have d1 : decide ((s.size : Int) < (4 : Int)) = true := decide_eq_true (by omega)
      have hle : (s.size : Int) < (4 : Int) := by omega
      clear hp
      go_enter Tryz.func97, Tryz.ntmps97
      go_wp2
      go_ret2
      exact R.out
end Go.Proofs.YtdahpnjamlfakaaGreatDoor
/-
  What impl.MapAt and spec.MapAt answer.
-/
namespace Go.Proofs.YtdahpnjamlfakaaGreatDoor
open Go.RowKit

theorem tree_empty : treeB ByteArray.empty = false := treeB_no fun h => by
  obtain ⟨a, ha⟩ := h
  simp [mapW] at ha
/-- a commit in a box of its own -/
theorem boxC (w : World) (t m : ByteArray) (A : Option Addr) (n cap : Nat) :
    (w.alloc (.cells #[.string t, .slice A n cap, .string m] 30)).heap[w.heap.size]? = some (C3 t A n cap m) := heap_alloc_new w _
theorem boxC_below (w : World) (x y z : Value) : Below w.heap.size w (w.alloc (.cells #[x, y, z] 30)) := (Below.refl w.heap.size w).alloc (Nat.le_refl _) _
noncomputable def matB (l : List Pr) (key : ByteArray) : Bool := rdOk (findV l key) && treeB (findV l (rdC (findV l key)).1)
noncomputable def matL (l : List Pr) (key : ByteArray) : List Pr := if rdOk (findV l key) = true then treeL (findV l (rdC (findV l key)).1) else []
theorem matB_yes {l : List Pr} {key : ByteArray} (h : rdOk (findV l key) = true) : matL l key = treeL (findV l (rdC (findV l key)).1) ∧ matB l key = treeB (findV l (rdC (findV l key)).1) := by
  unfold matL matB
  rw [if_pos h, h]
  exact ⟨rfl, rfl⟩
theorem matB_no {l : List Pr} {key : ByteArray} (h : rdOk (findV l key) = false ∨ treeB (findV l (rdC (findV l key)).1) = false) : matL l key = [] ∧ matB l key = false := by
  cases e : rdOk (findV l key)
  · unfold matL matB
    rw [e]
    exact ⟨rfl, rfl⟩
  · rw [(matB_yes e).1, (matB_yes e).2]
    rcases h with h | h
    · rw [h] at e; cases e
    · exact ⟨treeL_no h, h⟩
theorem matL_len (l : List Pr) (key : ByteArray) : (matL l key).length ≤ 40 := by
  unfold matL
  split
  · exact treeL_len _
  · simp
theorem rd_tree (s : ByteArray) : (rdC s).1.size ≤ maxLen := by
  by_cases h : ∃ c, isCom s c
  · obtain ⟨c, hc⟩ := h
    rw [(rd_yes hc).2, (com_parts hc.1).1]
    unfold maxLen
    omega
  · rw [(rd_no h).2]
    simp

set_option maxRecDepth 100000 in
set_option maxHeartbeats 1000000 in
theorem specMapAt_any (A : Option Addr) (l : List Pr) (cap : Nat) (key : ByteArray) (w : World) (hl : l.length ≤ maxLen) (hin : PIn w w.heap.size A l) :
    Calls Tryz.prog 75 #[.slice A l.length cap, .string key] w (M.RetOwnB w.heap.size (matL l key) (matB l key) w) := by
  have C := hide (specCommitAt_any A l cap key w hl hin)
  have FN : Hid (∀ k W, k.size ≤ maxLen → Below w.heap.size w W → Calls Tryz.prog 121 #[.slice A l.length cap, .string k] W fun e w' => e = .returned (.tuple #[.string (findV l k), .bool (findB l k)]) ∧ Below W.heap.size W w') := hide (fun k W hk hb => specFind_any A l cap k W hl ((hin.below hb).more hb.size))
  clear hin
  have NO := hide (fun h => matB_no (l := l) (key := key) h)
  have YES := hide (fun h => matB_yes (l := l) (key := key) h)
  have T16 := hide (rd_tree (findV l key))
  generalize l.length = n at *
  go_enter Tryz.func75, Tryz.ntmps75
  go_wp2_with fail
  refine C.out.mono ?_
  rintro e w1 ⟨A1, cap1, rfl, own1, b1⟩
  have BX : Hid (∀ x y z, Below w.heap.size w (w1.alloc (.cells #[x, y, z] 30))) := hide (fun x y z => b1.trans ((boxC_below w1 x y z).mono b1.size))
  clear own1 b1 C
  cases hok : rdOk (findV l key)
  · have Z := hide (NO.out (.inl hok))
    generalize (rdC (findV l key)).1 = c1 at *
    generalize (rdC (findV l key)).2.2 = c3 at *
    generalize (rdC (findV l key)).2.1.length = c2 at *
    go_wp2
    go_ret2
    exact M.retOwnB_no Z.out.1 Z.out.2 (BX.out _ _ _)
  · have Y := hide (YES.out hok)
    have N := hide (fun h => NO.out (.inr h))
    clear YES NO
    generalize (rdC (findV l key)).1 = c1 at *
    generalize (rdC (findV l key)).2.2 = c3 at *
    generalize (rdC (findV l key)).2.1.length = c2 at *
    have g0 := cell_of_row _ _ 0 _ _ _ (boxC w1 c1 c3 A1 c2 cap1)
    go_wp2_with fail
    refine (FN.out c1 _ T16.out (BX.out _ _ _)).mono ?_
    rintro e w2 ⟨rfl, b2⟩
    have B2 := hide ((BX.out _ _ _).trans (b2.mono (BX.out _ _ _).size))
    have hz := find_size l c1
    clear b2 BX FN
    cases hb : findB l c1
    · have Z := hide (N.out (by rw [find_zero hb]; exact tree_empty))
      generalize findV l c1 = t at *
      go_wp2
      go_ret2
      exact M.retOwnB_no Z.out.1 Z.out.2 B2.out
    · generalize findV l c1 = t at *
      go_wp2_with fail
      refine (l4Map_any t w2 (by omega)).mono ?_
      rintro e w3 ⟨A3, cap3, hc3, rfl, own3, b3⟩
      have R : Hid (M.RetOwnB w.heap.size (matL l key) (matB l key) w (.returned (.tuple #[.slice A3 (treeL t).length cap3, .bool (treeB t)])) w3) := hide (by
        rw [Y.out.1, Y.out.2]
        exact ⟨A3, cap3, hc3, rfl, own3.more B2.out.size, B2.out.trans (b3.mono B2.out.size)⟩)
      clear own3 b3 hc3 Y N
      generalize (treeL t).length = n3 at *
      generalize treeB t = ok at *
      go_wp2
      go_ret2
      exact R.out
end Go.Proofs.YtdahpnjamlfakaaGreatDoor
/-
  What a repository is: each object is a tree or a commit, each commit's tree and parents are there; and maps that hold values as they are.
-/
namespace Go.Proofs.YtdahpnjamlfakaaGreatDoor
open Go.RowKit Go.Maps

theorem tree_com {s : ByteArray} (h : treeB s = true) : rdOk s = false := by
  have hp : mapW.data.toList <+: s.data.toList := by
    apply Classical.byContradiction
    intro h'
    rw [treeB_no h'] at h
    cases h
  refine (rd_no (no_start fun hc => ?_)).1
  obtain ⟨a, ha⟩ := hp
  obtain ⟨b, hb⟩ := hc
  rw [← hb] at ha
  simp [mapW, comW] at ha
theorem rdOk_empty : rdOk ByteArray.empty = false := (rd_no com_empty).1
/-- an object is a tree or a commit; a commit's tree and parents are there, and it is no parent of its own -/
def fine (l : List Pr) (p : Pr) : Prop := (treeB p.2 = true ∨ rdOk p.2 = true) ∧ (rdOk p.2 = true → treeB (valOf l (rdC p.2).1) = true ∧ ∀ q ∈ (rdC p.2).2.1, rdOk (valOf l q) = true ∧ q ≠ p.1)
def fineTo (l : List Pr) (k : Nat) : Prop := ∀ i (h : i < l.length), i < k → fine l l[i]
theorem fineTo_zero (l : List Pr) : fineTo l 0 := fun _ _ h => absurd h (by omega)
theorem fineTo_succ {l : List Pr} {k : Nat} (hk : k < l.length) (h : fineTo l k) (h1 : fine l l[k]) : fineTo l (k + 1) := by
  intro i hi hik
  by_cases e : i = k
  · subst e; exact h1
  · exact h i hi (by omega)
open Classical in
noncomputable def repoB (l : List Pr) : Bool := decide (objsB l = true ∧ fineTo l l.length)
open Classical in
theorem repoB_iff {l : List Pr} : repoB l = true ↔ objsB l = true ∧ fineTo l l.length := by unfold repoB; exact decide_eq_true_iff
theorem repoB_f {l : List Pr} (h : ¬ (objsB l = true ∧ fineTo l l.length)) : repoB l = false := by
  cases e : repoB l
  · rfl
  · exact absurd (repoB_iff.1 e) h
theorem repoB_objs {l : List Pr} (h : objsB l = false) : repoB l = false := repoB_f fun x => by rw [h] at x; cases x.1
theorem repoB_at {l : List Pr} {k : Nat} (hk : k < l.length) (h : ¬ fine l l[k]) : repoB l = false := repoB_f fun x => h (x.2 k hk hk)
theorem valOf_size {l : List Pr} (ho : objsB l = true) (k : ByteArray) : (valOf l k).size ≤ 2000 := by
  have := find_size l k
  rw [findV_yes ho] at this
  exact this

/-! maps that hold values as they are -/
/-- an element is held as it is -/
def heldE (v : Value) : Option (DataW Value × List MemPlace) := some (.held v, [])
/-- the map that entries fill, one behind the other -/
def hD (L : List (ByteArray × Value)) : DataW Value := L.foldl (fun D x => D.put (keyL x.1) (.held x.2)) (.map [])
theorem hD_nil : hD [] = .map [] := rfl
theorem hD_snoc (L : List (ByteArray × Value)) (k : ByteArray) (v : Value) : hD (L ++ [(k, v)]) = (hD L).put (keyL k) (.held v) := by unfold hD; rw [List.foldl_append]; rfl
theorem hF_isMap : ∀ (L : List (ByteArray × Value)) (D : DataW Value), IsMap D → IsMap (L.foldl (fun D x => D.put (keyL x.1) (.held x.2)) D)
  | [], _, h => h
  | _ :: r, _, h => hF_isMap r _ (h.put _ _)
theorem hD_isMap (L : List (ByteArray × Value)) : IsMap (hD L) := hF_isMap L _ isMap_empty
theorem hF_miss (k : ByteArray) : ∀ (L : List (ByteArray × Value)) (D : DataW Value), (∀ x ∈ L, x.1 ≠ k) → (has (L.foldl (fun D x => D.put (keyL x.1) (.held x.2)) D) (keyL k) = has D (keyL k)) ∧ ∀ z, (L.foldl (fun D x => D.put (keyL x.1) (.held x.2)) D).atKey (keyL k) z = D.atKey (keyL k) z
  | [], _, _ => ⟨rfl, fun _ => rfl⟩
  | x :: r, D, h => by
    have ih := hF_miss k r (D.put (keyL x.1) (.held x.2)) (fun q hq => h q (List.mem_cons_of_mem _ hq))
    have hne : keyL k ≠ keyL x.1 := fun e => h x (List.mem_cons_self ..) (keyL_inj e).symm
    refine ⟨ih.1.trans (has_put_other hne _), fun z => (ih.2 z).trans (atKey_put_other hne _ z)⟩
theorem hD_miss {L : List (ByteArray × Value)} {k : ByteArray} (h : ∀ x ∈ L, x.1 ≠ k) : has (hD L) (keyL k) = false ∧ ∀ z, (hD L).atKey (keyL k) z = z := by
  obtain ⟨a, b⟩ := hF_miss k L (.map []) h
  exact ⟨a, b⟩
/-- what the map tells of a key that is there once -/
theorem hD_hit {L : List (ByteArray × Value)} (hp : L.Pairwise (fun x y => x.1 ≠ y.1)) {k : ByteArray} {v : Value} (h : (k, v) ∈ L) : has (hD L) (keyL k) = true ∧ ∀ z, (hD L).atKey (keyL k) z = .held v := by
  obtain ⟨a, b, rfl⟩ := List.append_of_mem h
  have hm : ∀ x ∈ b, x.1 ≠ k := by
    intro x hx e
    have := (List.pairwise_append.1 hp).2.1
    rw [List.pairwise_cons] at this
    exact this.1 x hx e.symm
  have hD1 : hD (a ++ (k, v) :: b) = b.foldl (fun D x => D.put (keyL x.1) (.held x.2)) ((hD a).put (keyL k) (.held v)) := by
    unfold hD
    rw [List.foldl_append]
    rfl
  obtain ⟨m1, m2⟩ := hF_miss k b ((hD a).put (keyL k) (.held v)) hm
  rw [hD1]
  refine ⟨m1.trans (has_put_same (hD_isMap a) (keyL_key k) _), fun z => (m2 z).trans (atKey_put_same (hD_isMap a) (keyL_key k) _ _)⟩
/-- a key that the map has stands in the list -/
theorem hD_has {L : List (ByteArray × Value)} {k : ByteArray} (h : has (hD L) (keyL k) = true) : ∃ v, (k, v) ∈ L := by
  apply Classical.byContradiction
  intro hn
  have := (hD_miss (L := L) (k := k) (fun x hx e => hn ⟨x.2, by rw [← e]; exact hx⟩)).1
  rw [this] at h
  cases h
/-- the block bm is the map of these entries -/
def HMap (w : World) (bm n : Nat) (L : List (ByteArray × Value)) : Prop := w.ownsMap Tryz.prog 9 heldE bm n (hD L)

/-- the entries of a repository's maps: values as they were made, object by object -/
noncomputable def treesE (l : List Pr) (vs : List Value) : List (ByteArray × Value) := ((l.zip vs).filter fun x => treeB x.1.2).map fun x => (x.1.1, x.2)
noncomputable def comsE (l : List Pr) (vs : List Value) : List (ByteArray × Value) := ((l.zip vs).filter fun x => rdOk x.1.2).map fun x => (x.1.1, x.2)
theorem zip_snoc : ∀ {l : List Pr} {vs : List Value} (h : vs.length < l.length) (v : Value), l.zip (vs ++ [v]) = l.zip vs ++ [(l[vs.length], v)]
  | [], _, h, _ => absurd h (by simp)
  | _ :: _, [], _, _ => by simp
  | p :: r, u :: vs, h, v => by
    have ih := zip_snoc (l := r) (vs := vs) (by simpa using h) v
    simp [ih]
theorem treesE_yes {l : List Pr} {vs : List Value} (h : vs.length < l.length) (v : Value) (ht : treeB l[vs.length].2 = true) : treesE l (vs ++ [v]) = treesE l vs ++ [(l[vs.length].1, v)] := by
  unfold treesE; rw [zip_snoc h, List.filter_append, List.map_append]; simp [ht]
theorem treesE_no {l : List Pr} {vs : List Value} (h : vs.length < l.length) (v : Value) (ht : treeB l[vs.length].2 = false) : treesE l (vs ++ [v]) = treesE l vs := by
  unfold treesE; rw [zip_snoc h, List.filter_append, List.map_append]; simp [ht]
theorem comsE_yes {l : List Pr} {vs : List Value} (h : vs.length < l.length) (v : Value) (ht : rdOk l[vs.length].2 = true) : comsE l (vs ++ [v]) = comsE l vs ++ [(l[vs.length].1, v)] := by
  unfold comsE; rw [zip_snoc h, List.filter_append, List.map_append]; simp [ht]
theorem comsE_no {l : List Pr} {vs : List Value} (h : vs.length < l.length) (v : Value) (ht : rdOk l[vs.length].2 = false) : comsE l (vs ++ [v]) = comsE l vs := by
  unfold comsE; rw [zip_snoc h, List.filter_append, List.map_append]; simp [ht]
theorem mem_treesE {l : List Pr} {vs : List Value} {k : ByteArray} {v : Value} : (k, v) ∈ treesE l vs ↔ ∃ i, ∃ h : i < l.length, ∃ h' : i < vs.length, l[i].1 = k ∧ vs[i] = v ∧ treeB l[i].2 = true := by
  unfold treesE
  constructor
  · intro h
    obtain ⟨x, hx, he⟩ := List.mem_map.1 h
    obtain ⟨hx1, hx2⟩ := List.mem_filter.1 hx
    obtain ⟨i, hi, rfl⟩ := List.getElem_of_mem hx1
    have hi' := hi
    rw [List.length_zip] at hi'
    simp only [List.getElem_zip, Prod.mk.injEq] at he hx2
    exact ⟨i, by omega, by omega, he.1, he.2, hx2⟩
  · rintro ⟨i, h, h', rfl, rfl, ht⟩
    refine List.mem_map.2 ⟨(l[i], vs[i]), List.mem_filter.2 ⟨?_, ht⟩, rfl⟩
    have hz : i < (l.zip vs).length := by rw [List.length_zip]; omega
    have := List.getElem_mem hz
    rw [List.getElem_zip] at this
    exact this
theorem mem_comsE {l : List Pr} {vs : List Value} {k : ByteArray} {v : Value} : (k, v) ∈ comsE l vs ↔ ∃ i, ∃ h : i < l.length, ∃ h' : i < vs.length, l[i].1 = k ∧ vs[i] = v ∧ rdOk l[i].2 = true := by
  unfold comsE
  constructor
  · intro h
    obtain ⟨x, hx, he⟩ := List.mem_map.1 h
    obtain ⟨hx1, hx2⟩ := List.mem_filter.1 hx
    obtain ⟨i, hi, rfl⟩ := List.getElem_of_mem hx1
    have hi' := hi
    rw [List.length_zip] at hi'
    simp only [List.getElem_zip, Prod.mk.injEq] at he hx2
    exact ⟨i, by omega, by omega, he.1, he.2, hx2⟩
  · rintro ⟨i, h, h', rfl, rfl, ht⟩
    refine List.mem_map.2 ⟨(l[i], vs[i]), List.mem_filter.2 ⟨?_, ht⟩, rfl⟩
    have hz : i < (l.zip vs).length := by rw [List.length_zip]; omega
    have := List.getElem_mem hz
    rw [List.getElem_zip] at this
    exact this
theorem zip_apart {l : List Pr} (hr : risesTo l l.length) (vs : List Value) : (l.zip vs).Pairwise fun x y => x.1.1 ≠ y.1.1 := by
  rw [List.pairwise_iff_getElem]
  intro i j hi hj hij e
  rw [List.length_zip] at hi hj
  simp only [List.getElem_zip] at e
  have := rises_lt hr j (by omega) i hij
  rw [e, ltB_irrefl] at this
  cases this
theorem treesE_apart {l : List Pr} (hr : risesTo l l.length) (vs : List Value) : (treesE l vs).Pairwise fun x y => x.1 ≠ y.1 := by
  unfold treesE
  rw [List.pairwise_map]
  exact (zip_apart hr vs).filter _
theorem comsE_apart {l : List Pr} (hr : risesTo l l.length) (vs : List Value) : (comsE l vs).Pairwise fun x y => x.1 ≠ y.1 := by
  unfold comsE
  rw [List.pairwise_map]
  exact (zip_apart hr vs).filter _
/-- where an object is by its id -/
theorem valOf_at {l : List Pr} (hr : risesTo l l.length) {i : Nat} (h : i < l.length) : hasB l l[i].1 = true ∧ valOf l l[i].1 = l[i].2 := by
  have hat : atN l l[i].1 = i := atN_eq (by omega) (fun j hj hji => rises_lt hr i h j hji) (fun _ => ltB_irrefl _)
  refine ⟨hasB_iff.2 ⟨by rw [hat]; exact h, by simp only [hat]⟩, ?_⟩
  rw [valOf_yes (by rw [hat]; exact h) (by simp only [hat])]
  simp only [hat]
theorem has_at {l : List Pr} {k : ByteArray} (h : hasB l k = true) : ∃ i, ∃ hi : i < l.length, l[i].1 = k := by
  obtain ⟨h1, h2⟩ := hasB_iff.1 h
  exact ⟨_, h1, h2⟩
theorem has_trees {l : List Pr} {vs : List Value} (hr : risesTo l l.length) (hv : vs.length = l.length) (k : ByteArray) : has (hD (treesE l vs)) (keyL k) = treeB (valOf l k) := by
  cases hb : hasB l k
  · rw [valOf_no hb, tree_empty]
    refine (hD_miss ?_).1
    rintro ⟨k', v⟩ hx rfl
    obtain ⟨i, h, _, e, _, _⟩ := mem_treesE.1 hx
    have := (valOf_at hr h).1
    rw [e, hb] at this
    cases this
  · obtain ⟨i, h, rfl⟩ := has_at hb
    rw [(valOf_at hr h).2]
    cases ht : treeB l[i].2
    · refine (hD_miss ?_).1
      rintro ⟨k', v⟩ hx e0
      obtain ⟨j, hj, _, e, _, ht'⟩ := mem_treesE.1 hx
      have e2 : l[j].1 = l[i].1 := e.trans e0
      have := (valOf_at hr hj).2
      rw [e2, (valOf_at hr h).2] at this
      rw [← this, ht] at ht'
      cases ht'
    · exact (hD_hit (treesE_apart hr vs) (mem_treesE.2 ⟨i, h, by omega, rfl, rfl, ht⟩)).1
theorem has_coms {l : List Pr} {vs : List Value} (hr : risesTo l l.length) (hv : vs.length = l.length) (k : ByteArray) : has (hD (comsE l vs)) (keyL k) = rdOk (valOf l k) := by
  cases hb : hasB l k
  · rw [valOf_no hb, rdOk_empty]
    refine (hD_miss ?_).1
    rintro ⟨k', v⟩ hx rfl
    obtain ⟨i, h, _, e, _, _⟩ := mem_comsE.1 hx
    have := (valOf_at hr h).1
    rw [e, hb] at this
    cases this
  · obtain ⟨i, h, rfl⟩ := has_at hb
    rw [(valOf_at hr h).2]
    cases ht : rdOk l[i].2
    · refine (hD_miss ?_).1
      rintro ⟨k', v⟩ hx e0
      obtain ⟨j, hj, _, e, _, ht'⟩ := mem_comsE.1 hx
      have e2 : l[j].1 = l[i].1 := e.trans e0
      have := (valOf_at hr hj).2
      rw [e2, (valOf_at hr h).2] at this
      rw [← this, ht] at ht'
      cases ht'
    · exact (hD_hit (comsE_apart hr vs) (mem_comsE.2 ⟨i, h, by omega, rfl, rfl, ht⟩)).1
end Go.Proofs.YtdahpnjamlfakaaGreatDoor
/-
  What spec.RepoOk answers.
-/
namespace Go.Proofs.YtdahpnjamlfakaaGreatDoor
open Go.RowKit

theorem rd_size {s : ByteArray} (h : rdOk s = true) : (rdC s).1.size = 16 ∧ (rdC s).2.1.length ≤ 2 ∧ ∀ p ∈ (rdC s).2.1, p.size = 16 := by
  by_cases hc : ∃ c, isCom s c
  · obtain ⟨c, hc⟩ := hc
    rw [(rd_yes hc).2]
    exact com_parts hc.1
  · rw [(rd_no hc).1] at h
    cases h
theorem com_tree {s : ByteArray} (h : rdOk s = true) : treeB s = false := by
  cases e : treeB s
  · rfl
  · rw [tree_com e] at h; cases h
/-- the first j parents are there, and none is the commit's own -/
def linkTo (l : List Pr) (s : ByteArray) (ps : List ByteArray) (j : Nat) : Prop := ∀ i (h : i < ps.length), i < j → rdOk (valOf l ps[i]) = true ∧ ps[i] ≠ s
theorem linkTo_zero (l : List Pr) (s : ByteArray) (ps : List ByteArray) : linkTo l s ps 0 := fun _ _ h => absurd h (by omega)
theorem linkTo_succ {l : List Pr} {s : ByteArray} {ps : List ByteArray} {j : Nat} (hj : j < ps.length) (h : linkTo l s ps j) (h1 : rdOk (valOf l ps[j]) = true) (h2 : ps[j] ≠ s) : linkTo l s ps (j + 1) := by
  intro i hi hik
  by_cases e : i = j
  · subst e; exact ⟨h1, h2⟩
  · exact h i hi (by omega)
theorem linkTo_all {l : List Pr} {s : ByteArray} {ps : List ByteArray} (h : linkTo l s ps ps.length) : ∀ q ∈ ps, rdOk (valOf l q) = true ∧ q ≠ s := by
  intro q hq
  obtain ⟨i, hi, rfl⟩ := List.getElem_of_mem hq
  exact h i hi hi

set_option maxRecDepth 100000 in
set_option maxHeartbeats 2000000 in
theorem specRepoOk_any (A : Option Addr) (l : List Pr) (cap : Nat) (w : World) (hl : l.length ≤ maxLen) (hin : PIn w w.heap.size A l) :
    Calls Tryz.prog 52 #[.slice A l.length cap] w fun e w' => e = .returned (.bool (repoB l)) ∧ Below w.heap.size w w' := by
  have R := hide (specObjsOk_any A l cap w hl hin)
  have IN := hide hin
  have HL := hide hl
  clear hin
  unfold maxLen at hl
  go_enter Tryz.func52, Tryz.ntmps52
  go_wp2_with fail
  refine R.out.mono ?_
  rintro e w1 ⟨rfl, b1⟩
  have B1 := hide b1
  clear b1 R
  cases hm : objsB l
  · have Z := hide (repoB_objs hm)
    clear hm
    go_wp2
    go_ret
    exact ⟨ret_bool Z.out.symm, B1.out⟩
  · have HO := hide hm
    clear hm
    have FN : Hid (∀ k W, Below w.heap.size w W → Calls Tryz.prog 98 #[.slice A l.length cap, .string k] W fun e w' => e = .returned (.tuple #[.string (valOf l k), .bool (hasB l k)]) ∧ W = w') := hide (fun k W hb => l3Find_any A l cap k W w.heap.size HL.out (IN.out.below hb))
    generalize hn : l.length = n at hl FN ⊢
    have HN := hide hn
    clear hn
    go_wp2_with fail
    go_loopw [3] (fun iv wr => ∃ k : Nat, k ≤ n ∧ iv = .int .i64 k ∧ Hid (fineTo l k) ∧ Hid (Below w.heap.size w wr)) (fun i _ => n - (intOf i).toNat)
    case atStart => exact ⟨0, Nat.zero_le _, rfl, fineTo_zero l, B1⟩
    case round =>
      obtain ⟨k, hk, rfl, H, Q⟩ := hrel
      clear B1
      by_cases hlt : k < n
      · have hkl : k < l.length := by rw [HN.out]; omega
        have hin2 := IN.out.below Q.out
        obtain ⟨b, off, rfl, hbB, hc⟩ := hin2.2 (by omega)
        obtain ⟨c1, c2⟩ := hc k hkl
        have htx := ((objsB_iff.1 HO.out).2.1 k hkl hkl).1
        have hqs := Q.out.size
        have hbw : b < wr.heap.size := by omega
        have FI := hide (fun h => repoB_at (l := l) hkl h)
        have OK := hide (fun h => fineTo_succ hkl H.out h)
        clear hin2 hc
        generalize hp : l[k]'hkl = p at *
        obtain ⟨s, t⟩ := p
        dsimp only at c1 c2 htx
        clear hp
        go_wp2_with fail
        refine (l4Map_any t wr (by omega)).mono ?_
        rintro e w2 ⟨A2, cap2, _, rfl, _, b2⟩
        have e1 := cellB b2 hbw c1
        have e2 := cellB b2 hbw c2
        have B2 := hide (Q.out.trans (b2.mono hqs))
        have hb2 : b < w2.heap.size := Nat.lt_of_lt_of_le hbw b2.size
        clear b2 c1 c2
        generalize (treeL t).length = n2 at *
        go_wp2_with fail
        refine (specReadCommit_any t w2 (by omega)).mono ?_
        rintro e w3 ⟨A3, cap3, rfl, own3, b3⟩
        have c1 := cellB b3 hb2 e1
        have c2 := cellB b3 hb2 e2
        have B3 := hide (B2.out.trans (b3.mono B2.out.size))
        have hb3 : b < w3.heap.size := Nat.lt_of_lt_of_le hb2 b3.size
        clear b3 e1 e2
        have X4 := hide (boxC w3 (rdC t).1 (rdC t).2.2 A3 (rdC t).2.1.length cap3)
        have B4 := hide (B3.out.trans ((boxC_below w3 (.string (rdC t).1) (.slice A3 (rdC t).2.1.length cap3) (.string (rdC t).2.2)).mono B3.out.size))
        cases hr : rdOk t
        · cases ht : treeB t
          · have Z := hide (FI.out (fun h => by rcases h.1 with h | h <;> simp_all))
            clear own3 FI OK
            generalize (rdC t).1 = t1 at *
            generalize (rdC t).2.2 = t3 at *
            generalize (rdC t).2.1.length = t2 at *
            go_wp2_with fail
            go_ret
            exact ⟨ret_bool Z.out.symm, B4.out⟩
          · have Z := hide (OK.out ⟨.inl ht, fun h => by rw [hr] at h; cases h⟩)
            clear own3 FI OK
            generalize (rdC t).1 = t1 at *
            generalize (rdC t).2.2 = t3 at *
            generalize (rdC t).2.1.length = t2 at *
            go_wp2_with fail
            go_roundw
            case rel => exact ⟨k + 1, by omega, by go_num, Z, B4⟩
            case measure => simp [intOf]; omega
        · have ht := com_tree hr
          obtain ⟨z1, z2, z3⟩ := rd_size hr
          have OK2 : Hid (treeB (valOf l (rdC t).1) = true → linkTo l s (rdC t).2.1 (rdC t).2.1.length → fineTo l (k + 1)) := hide (fun h1 h2 => OK.out ⟨.inr hr, fun _ => ⟨h1, linkTo_all h2⟩⟩)
          have FI2 : Hid (treeB (valOf l (rdC t).1) = false → repoB l = false) := hide (fun h1 => FI.out (fun h => by have := (h.2 hr).1; simp only at this; rw [h1] at this; cases this))
          have FI3 : Hid (∀ j (hj : j < (rdC t).2.1.length), rdOk (valOf l ((rdC t).2.1)[j]) = false ∨ ((rdC t).2.1)[j] = s → repoB l = false) := hide (fun j hj h1 => FI.out (fun h => by
            have := (h.2 hr).2 _ (List.getElem_mem hj)
            rcases h1 with h1 | h1
            · rw [h1] at this; cases this.1
            · exact this.2 h1))
          have O3 := hide own3
          clear own3 FI OK
          generalize (rdC t).1 = t1 at *
          generalize (rdC t).2.2 = t3 at *
          generalize (rdC t).2.1 = ps at *
          have g0 := cell_of_row _ _ 0 _ _ _ X4.out
          go_wp2_with fail
          refine (FN.out t1 _ B4.out).mono ?_
          rintro e w4 ⟨rfl, hw4⟩
          have X5 : Hid (w4.heap[w3.heap.size]? = some (C3 t1 A3 ps.length cap3 t3)) := hide (by rw [← hw4]; exact X4.out)
          have B5 : Hid (Below w.heap.size w w4) := hide (by rw [← hw4]; exact B4.out)
          have d1 : w4.cell? ⟨b, off + k * 2, none⟩ = some (.string s) := by
            rw [← hw4]
            exact ((boxC_below w3 (.string t1) (.slice A3 ps.length cap3) (.string t3)).cell (p := ⟨b, off + k * 2, none⟩) hb3).trans c1
          have h54 : w.heap.size ≤ w4.heap.size := B5.out.size
          have hsz4 : w3.heap.size < w4.heap.size := by
            have := (Array.getElem?_eq_some_iff.1 X5.out).1
            exact this
          have O5 : Hid (ZIn w4 w4.heap.size A3 ps) := hide (by
            have h1 : Below w3.heap.size w3 w4 := by rw [← hw4]; exact boxC_below w3 (.string t1) (.slice A3 ps.length cap3) (.string t3)
            exact (O3.out.zin.below h1).more h1.size)
          clear g0 hw4 X4 B4 c1 c2 O3 B3 B2
          have hv1 := valOf_size HO.out t1
          go_wp2_with fail
          refine (l4Map_any (valOf l t1) w4 (by omega)).mono ?_
          rintro e w5 ⟨A5, cap5, _, rfl, _, b5⟩
          have d2 := cellB b5 (Nat.lt_trans hb3 hsz4) d1
          have X6 := hide ((b5.block w3.heap.size hsz4).trans X5.out)
          have B6 := hide (B5.out.trans (b5.mono B5.out.size))
          have O6 := hide (O5.out.below b5)
          have hsz5 : w4.heap.size ≤ w5.heap.size := b5.size
          clear b5 X5 B5 O5 d1
          generalize (treeL (valOf l t1)).length = n5 at *
          cases htt : treeB (valOf l t1)
          · have Z := hide (FI2.out htt)
            go_wp2_with fail
            go_ret
            exact ⟨ret_bool Z.out.symm, B6.out⟩
          · have OK3 := hide (OK2.out htt)
            clear OK2 FI2 htt
            generalize hpn : ps.length = pn at z2 X6 OK3 ⊢
            have PN := hide hpn
            clear hpn
            go_wp2_with fail
            go_loopw [12] (fun jv wq => ∃ j : Nat, j ≤ pn ∧ jv = .int .i64 j ∧ Hid (linkTo l s ps j) ∧ Hid (Below w4.heap.size w5 wq)) (fun i _ => pn - (intOf i).toNat)
            case atStart => exact ⟨0, Nat.zero_le _, rfl, linkTo_zero l s ps, hide (Below.refl _ _)⟩
            case round =>
              obtain ⟨j, hj, rfl, J, P⟩ := hrel
              have B7 := hide (B6.out.trans (P.out.mono h54))
              by_cases hjl : j < pn
              · have hjp : j < ps.length := by rw [PN.out]; exact hjl
                obtain ⟨b3, off3, e3, hb3', hc3⟩ := O6.out (by omega)
                subst e3
                have Z3 := hide (FI3.out j hjp)
                have LS := hide (fun h1 h2 => linkTo_succ hjp J.out h1 h2)
                have d3 := hc3 j hjp
                clear hc3 O6 FI3 OK3 J
                generalize ps[j]'hjp = q at *
                have f1 := (P.out.cell (p := ⟨b, off + k * 2, none⟩) (Nat.lt_trans hb3 hsz4)).trans d2
                have f2 := (P.out.cell (p := ⟨b3, off3 + j, none⟩) hb3').trans d3
                have X7 := hide ((P.out.block w3.heap.size hsz4).trans X6.out)
                have g1 := cell_of_row _ _ 1 _ _ _ X7.out
                have hsq : w4.heap.size ≤ wr.heap.size := Nat.le_trans hsz5 P.out.size
                clear X6 d2 d3
                have hvq := valOf_size HO.out q
                go_wp2_with fail
                refine (FN.out q _ B7.out).mono ?_
                rintro e w7 ⟨rfl, rfl⟩
                go_wp2_with fail
                refine (specReadCommit_any (valOf l q) _ (by omega)).mono ?_
                rintro e w8 ⟨A8, cap8, rfl, _, b8⟩
                have bx := boxC_below w8 (.string (rdC (valOf l q)).1) (.slice A8 (rdC (valOf l q)).2.1.length cap8) (.string (rdC (valOf l q)).2.2)
                have y1 := (bx.cell (p := ⟨w3.heap.size, 1, none⟩) (Nat.lt_of_lt_of_le hsz4 (Nat.le_trans hsq b8.size))).trans (cellB b8 (Nat.lt_of_lt_of_le hsz4 hsq) g1)
                have y2 := (bx.cell (p := ⟨b3, off3 + j, none⟩) (Nat.lt_of_lt_of_le hb3' (Nat.le_trans hsq b8.size))).trans (cellB b8 (Nat.lt_of_lt_of_le hb3' hsq) f2)
                have y3 := (bx.cell (p := ⟨b, off + k * 2, none⟩) (Nat.lt_of_lt_of_le (Nat.lt_trans hb3 hsz4) (Nat.le_trans hsq b8.size))).trans (cellB b8 (Nat.lt_of_lt_of_le (Nat.lt_trans hb3 hsz4) hsq) f1)
                have P9 := hide (P.out.trans ((b8.trans (bx.mono b8.size)).mono hsq))
                have B9 := hide (B6.out.trans (P9.out.mono h54))
                clear b8 bx g1 f1 f2 X7 B7 P
                generalize (rdC (valOf l q)).1 = q1 at *
                generalize (rdC (valOf l q)).2.2 = q3 at *
                generalize (rdC (valOf l q)).2.1.length = q2 at *
                cases hrq : rdOk (valOf l q)
                · have Z := hide (Z3.out (.inl hrq))
                  clear hrq Z3 LS
                  go_wp2_with fail
                  go_quiet (fail)
                  go_wp2_with fail
                  go_ret
                  exact ⟨ret_bool Z.out.symm, B9.out.trans ((Quiet.refl _).drewN _ |>.below _)⟩
                · by_cases hqs' : q = s
                  · have Z := hide (Z3.out (.inr hqs'))
                    have d := eqS_yes hqs'
                    clear hrq Z3 LS hqs'
                    go_wp2_with fail
                    go_quiet (fail)
                    go_wp2_with fail
                    go_ret
                    exact ⟨ret_bool Z.out.symm, B9.out.trans ((Quiet.refl _).drewN _ |>.below _)⟩
                  · have Z := hide (LS.out hrq hqs')
                    have d := eqS_no hqs'
                    clear hrq Z3 LS hqs'
                    go_wp2_with fail
                    go_quiet (fail)
                    go_wp2_with fail
                    go_roundw
                    case rel => exact ⟨j + 1, by omega, by go_num, Z, hide (P9.out.trans ((Quiet.refl _).drewN _ |>.below _))⟩
                    case measure => simp [intOf]; omega
              · have Z := hide (OK3.out (by rw [← show j = pn by omega]; exact J.out))
                have X7 := hide ((P.out.block w3.heap.size hsz4).trans X6.out)
                have g1 := cell_of_row _ _ 1 _ _ _ X7.out
                have hgt : ¬ ((j : Int) < (pn : Int)) := by omega
                clear hjl
                go_wp2_with fail
                go_roundw
                case rel => exact ⟨k + 1, by omega, by go_num, Z, B7⟩
                case measure => simp [intOf]; omega
      · have ek : Hid (k = n) := hide (by omega)
        have Z : Hid (repoB l = true) := hide (repoB_iff.2 ⟨HO.out, by rw [HN.out, ← ek.out]; exact H.out⟩)
        have hgt : ¬ ((k : Int) < (n : Int)) := by omega
        clear hlt
        go_wp2_with fail
        go_ret
        exact ⟨ret_bool Z.out.symm, Q.out⟩
end Go.Proofs.YtdahpnjamlfakaaGreatDoor
/-
  A repository's maps in memory; what impl.repo's take, hasCommits, linked answer.
-/
namespace Go.Proofs.YtdahpnjamlfakaaGreatDoor
open Go.RowKit Go.Maps

theorem HMap.lt {w : World} {bm n : Nat} {L : List (ByteArray × Value)} (h : HMap w bm n L) : bm < w.heap.size := World.ownsMap.lt h
theorem HMap.kept {w w' : World} {bm n : Nat} {L : List (ByteArray × Value)} {row : Option Nat} (h : HMap w bm n L) (hg : w.grownBy w' row) (hne : some bm ≠ row) : HMap w' bm n L := World.ownsMap.kept h hg hne
theorem HMap.below {w w' : World} {bm n : Nat} {L : List (ByteArray × Value)} (h : HMap w bm n L) (hb : Below w.heap.size w w') : HMap w' bm n L := h.kept (Below.toGrown hb none) (by simp)
theorem HMap.belowB {B : Nat} {w w' : World} {bm n : Nat} {L : List (ByteArray × Value)} (h : HMap w bm n L) (hb : Below B w w') (hB : bm < B) : HMap w' bm n L := by
  obtain ⟨es, clock, hbk, F, hs, hD⟩ := h
  exact ⟨es, clock, (hb.block bm hB).trans hbk, F, hs, hD⟩
theorem HMap.more {w : World} {bm n n' : Nat} {L : List (ByteArray × Value)} (h : HMap w bm n L) (hn : n ≤ n') : HMap w bm n' L := World.ownsMap.mono h hn
theorem hmap_made (w : World) : HMap (w.alloc (.map #[] 0)) w.heap.size 0 [] := World.ownsMap_made w _ _ _
theorem zeroT (w : World) : (zeroValue 36).run Tryz.prog w = .ok (.slice none 0 0) w := by kernel_rfl
theorem zeroC (w : World) : (zeroValue 30).run Tryz.prog w = .ok (.agg #[.string ByteArray.empty, .slice none 0 0, .string ByteArray.empty]) w := by kernel_rfl
set_option maxRecDepth 100000 in
theorem HMap.look {t e : TypeId} (ht : Tryz.prog.underlying t = some (.map 9 e)) {z : Value} {w : World} (hz : (zeroValue e).run Tryz.prog w = .ok z w) {bm n : Nat} {L : List (ByteArray × Value)} (h : HMap w bm n L) {key : ByteArray} (hk : key.size ≤ maxLen) :
    ∃ v, (Instr.lookup t (.map (some bm)) (.string key) true).run Tryz.prog w = .ok (.tuple #[v, .bool (has (hD L) (keyL key))]) w ∧ (hD L).atKey (keyL key) (.held z) = .held v := by
  obtain ⟨v, ps, hrun, hv⟩ := World.ownsMap.look_ok h lawS ht hz (zd := .held z) (zp := []) rfl (Go.WideMaps.keyOf_string_mk Tryz.underlying9 hk)
  injection hv with hv
  injection hv with hv _
  exact ⟨v, hrun, hv.symm⟩
set_option maxRecDepth 100000 in
theorem HMap.get {t e : TypeId} (ht : Tryz.prog.underlying t = some (.map 9 e)) {z : Value} {w : World} (hz : (zeroValue e).run Tryz.prog w = .ok z w) {bm n : Nat} {L : List (ByteArray × Value)} (h : HMap w bm n L) {key : ByteArray} (hk : key.size ≤ maxLen) :
    ∃ v, (Instr.lookup t (.map (some bm)) (.string key) false).run Tryz.prog w = .ok v w ∧ (hD L).atKey (keyL key) (.held z) = .held v := by
  obtain ⟨v, ps, hrun, hv⟩ := World.ownsMap.lookup h lawS ht hz (zd := .held z) (zp := []) rfl (Go.WideMaps.keyOf_string_mk Tryz.underlying9 hk)
  injection hv with hv
  injection hv with hv _
  exact ⟨v, hrun, hv.symm⟩
theorem HMap.store {t e : TypeId} (ht : Tryz.prog.underlying t = some (.map 9 e)) {w : World} {bm n : Nat} {L : List (ByteArray × Value)} (h : HMap w bm n L) (hn : n < maxLen) {key : ByteArray} (hk : key.size ≤ maxLen) (v : Value) :
    ∃ w', (Instr.mapUpdate t (.map (some bm)) (.string key) v).run Tryz.prog w = .ok () w' ∧ HMap w' bm (n + 1) (L ++ [(key, v)]) ∧ w.grownBy w' (some bm) := by
  obtain ⟨w', hrun, h1, h2⟩ := World.ownsMap.update h lawS ht hn (Go.WideMaps.keyOf_string_mk Tryz.underlying9 hk) (d := .held v) (ps := []) rfl
  refine ⟨w', hrun, ?_, h2⟩
  unfold HMap
  rw [hD_snoc]
  exact h1

/-- what stands for an object: its map, or its commit, in rows of the call's own -/
def holdsV (w : World) (B : Nat) (s : ByteArray) (v : Value) : Prop :=
  (treeB s = true → ∃ A cap, (treeL s).length ≤ cap ∧ v = .slice A (treeL s).length cap ∧ M.Own w B A cap (treeL s)) ∧
  (rdOk s = true → ∃ A cap, v = .agg #[.string (rdC s).1, .slice A (rdC s).2.1.length cap, .string (rdC s).2.2] ∧ ZOwn w B A cap (rdC s).2.1)
theorem mown_low {w w' : World} {B r : Nat} {A : Option Addr} {cap : Nat} {l : List Pr} (h : M.Own w B A cap l) (hg : w.grownBy w' (some r)) (hr : r < B) : M.Own w' B A cap l := by
  refine ⟨h.1, h.2.kept hg ?_⟩
  rw [rowOf_own]
  cases e : rowOf A with
  | none => exact .inl rfl
  | some g => exact .inr (fun x => by have := (h.row g e).1; injection x with x; omega)
theorem holdsV.below {w w' : World} {B : Nat} {s : ByteArray} {v : Value} (h : holdsV w B s v) (hb : Below w.heap.size w w') : holdsV w' B s v :=
  ⟨fun ht => by obtain ⟨A, cap, hc, e, o⟩ := h.1 ht; exact ⟨A, cap, hc, e, o.below hb⟩, fun hr => by obtain ⟨A, cap, e, o⟩ := h.2 hr; exact ⟨A, cap, e, o.below hb⟩⟩
theorem holdsV.low {w w' : World} {B r : Nat} {s : ByteArray} {v : Value} (h : holdsV w B s v) (hg : w.grownBy w' (some r)) (hr : r < B) : holdsV w' B s v :=
  ⟨fun ht => by obtain ⟨A, cap, hc, e, o⟩ := h.1 ht; exact ⟨A, cap, hc, e, mown_low o hg hr⟩, fun h' => by obtain ⟨A, cap, e, o⟩ := h.2 h'; exact ⟨A, cap, e, o.kept hg (fun x => by have := (o.row _ x).1; omega)⟩⟩
/-- so for the first objects -/
def Vals (w : World) (B : Nat) (l : List Pr) (vs : List Value) : Prop := ∀ i (h : i < l.length) (h' : i < vs.length), holdsV w B l[i].2 vs[i]
theorem Vals.below {w w' : World} {B : Nat} {l : List Pr} {vs : List Value} (h : Vals w B l vs) (hb : Below w.heap.size w w') : Vals w' B l vs := fun i hi hi' => (h i hi hi').below hb
theorem Vals.low {w w' : World} {B r : Nat} {l : List Pr} {vs : List Value} (h : Vals w B l vs) (hg : w.grownBy w' (some r)) (hr : r < B) : Vals w' B l vs := fun i hi hi' => (h i hi hi').low hg hr
theorem Vals.nil (w : World) (B : Nat) (l : List Pr) : Vals w B l [] := fun _ _ h => absurd h (by simp)
theorem Vals.snoc {w : World} {B : Nat} {l : List Pr} {vs : List Value} {v : Value} (h : Vals w B l vs) (hk : vs.length < l.length) (hv : holdsV w B l[vs.length].2 v) : Vals w B l (vs ++ [v]) := by
  intro i hi hi'
  rw [List.length_append, List.length_singleton] at hi'
  by_cases e : i = vs.length
  · subst e
    rw [List.getElem_append_right (Nat.le_refl _)]
    simpa using hv
  · rw [List.getElem_append_left (by omega)]
    exact h i hi (by omega)

/-- what take answers -/
def RetTake (bm bc k : Nat) (l : List Pr) (vs : List Value) (B : Nat) (w : World) (t : ByteArray) (e : Ending) (w' : World) : Prop :=
  (treeB t = false ∧ rdOk t = false ∧ e = .returned (.bool false) ∧ Below w.heap.size w w') ∨
  ((treeB t = true ∨ rdOk t = true) ∧ e = .returned (.bool true) ∧ ∃ v x, (x = bm ∨ x = bc) ∧ w.grownBy w' (some x) ∧ HMap w' bm (k + 1) (treesE l (vs ++ [v])) ∧ HMap w' bc (k + 1) (comsE l (vs ++ [v])) ∧ Vals w' B l (vs ++ [v]))

set_option maxRecDepth 100000 in
set_option maxHeartbeats 2000000 in
theorem take_any (bt bm bc k B : Nat) (l : List Pr) (vs : List Value) (a : Addr) (w : World) (s t : ByteArray) (hk : vs.length < l.length) (hkk : vs.length = k) (hp : l[vs.length] = (s, t)) (h60 : k ≤ 60) (ht : t.size ≤ 2000) (hs : s.size ≤ maxLen)
    (hbm : bm < B) (hbc : bc < B) (hB : B ≤ w.heap.size) (hne : bm ≠ bc) (hM : HMap w bm k (treesE l vs)) (hC : HMap w bc k (comsE l vs)) (hV : Vals w B l vs) (hE : ErrC w a) :
    Calls Tryz.prog 62 #[.agg #[.map (some bt), .map (some bm), .map (some bc)], .agg #[.string s, .string t]] w (RetTake bm bc k l vs B w t) := by
  have b0 := ((Below.refl w.heap.size w).alloc (Nat.le_refl _) (.cells #[.map (some bt), .map (some bm), .map (some bc)] 47)).alloc (Nat.le_of_lt (by simp)) (.cells #[.string s, .string t] 83)
  have X0 : Hid (((w.alloc (.cells #[.map (some bt), .map (some bm), .map (some bc)] 47)).alloc (.cells #[.string s, .string t] 83)).heap[w.heap.size]? = some (.cells #[.map (some bt), .map (some bm), .map (some bc)] 47)) := hide ((Below.heap_alloc _ _ _ (by simp)).trans (heap_alloc_new w _))
  have X1 : Hid (((w.alloc (.cells #[.map (some bt), .map (some bm), .map (some bc)] 47)).alloc (.cells #[.string s, .string t] 83)).heap[w.heap.size + 1]? = some (.cells #[.string s, .string t] 83)) := hide (by
    have := heap_alloc_new (w.alloc (.cells #[.map (some bt), .map (some bm), .map (some bc)] 47)) (.cells #[.string s, .string t] 83)
    rw [World.size_alloc] at this
    exact this)
  have S0 : Hid (((w.alloc (.cells #[.map (some bt), .map (some bm), .map (some bc)] 47)).alloc (.cells #[.string s, .string t] 83)).heap.size = w.heap.size + 2) := hide (by simp)
  have M0 := hide (hM.below b0)
  have C0 := hide (hC.below b0)
  have V0 := hide (hV.below b0)
  have E0 := hide (hE.below b0)
  have B0 := hide b0
  have HT : Hid (treeB t = true → ∀ v, treesE l (vs ++ [v]) = treesE l vs ++ [(s, v)]) := hide (fun h v => by have := treesE_yes hk v (by rw [hp]; exact h); rw [hp] at this; exact this)
  have HTn : Hid (treeB t = false → ∀ v, treesE l (vs ++ [v]) = treesE l vs) := hide (fun h v => treesE_no hk v (by rw [hp]; exact h))
  have HC : Hid (rdOk t = true → ∀ v, comsE l (vs ++ [v]) = comsE l vs ++ [(s, v)]) := hide (fun h v => by have := comsE_yes hk v (by rw [hp]; exact h); rw [hp] at this; exact this)
  have HCn : Hid (rdOk t = false → ∀ v, comsE l (vs ++ [v]) = comsE l vs) := hide (fun h v => comsE_no hk v (by rw [hp]; exact h))
  have SN : Hid (∀ W v, Vals W B l vs → holdsV W B t v → Vals W B l (vs ++ [v])) := hide (fun W v h h1 => h.snoc hk (by rw [hp]; exact h1))
  have KM := hide hkk
  clear b0 hM hC hV hE hp hkk
  go_enter Tryz.func62, Tryz.ntmps62
  go_wp2_with fail
  refine (implReadTree_any t _ (by omega)).mono ?_
  rintro e w1 ⟨A1, cap1, hc1, rfl, own1, b1⟩
  have hs1 : w.heap.size + 2 ≤ w1.heap.size := by have := b1.size; rw [S0.out] at this; exact this
  have X2 := hide ((b1.block w.heap.size (by rw [S0.out]; omega)).trans X0.out)
  have X3 := hide ((b1.block (w.heap.size + 1) (by rw [S0.out]; omega)).trans X1.out)
  have M1 := hide (M0.out.below b1)
  have C1 := hide (C0.out.below b1)
  have V1 := hide (V0.out.below b1)
  have E1 := hide (E0.out.below b1)
  have B1 := hide (B0.out.trans (b1.mono B0.out.size))
  have O1 := hide (own1.more (show B ≤ _ by rw [S0.out]; omega))
  clear own1 b1 X0 X1 M0 C0 V0 E0 B0 S0
  have g1 := cell_of_row _ _ 1 _ _ _ X2.out
  have g2 := cell_of_row _ _ 2 _ _ _ X2.out
  have s0 := cell_of_row _ _ 0 _ _ _ X3.out
  have s1 := cell_of_row _ _ 1 _ _ _ X3.out
  cases htr : treeB t
  · have HH := hide htr
    generalize (treeL t).length = n1 at *
    go_wp2_with fail
    refine (implReadCommit_any t a w1 (by unfold maxLen; omega) E1.out).mono ?_
    rintro e w2 ⟨A2, cap2, rfl, own2, b2⟩
    have X4 := hide (boxC w2 (rdC t).1 (rdC t).2.2 A2 (rdC t).2.1.length cap2)
    have bx := boxC_below w2 (.string (rdC t).1) (.slice A2 (rdC t).2.1.length cap2) (.string (rdC t).2.2)
    have B3 := hide ((b2.trans (bx.mono b2.size)))
    have g2' := (bx.cell (p := ⟨w.heap.size, 2, none⟩) (by have := b2.size; show w.heap.size < _; omega)).trans (cellB b2 (by omega) g2)
    have s0' := (bx.cell (p := ⟨w.heap.size + 1, 0, none⟩) (by have := b2.size; show w.heap.size + 1 < _; omega)).trans (cellB b2 (by omega) s0)
    clear g1 g2 s0 s1 X2 X3
    cases hr : rdOk t
    · have RR : Hid (∀ w', Below w.heap.size w w' → RetTake bm bc k l vs B w t (.returned (.bool false)) w') := hide (fun w' hb => .inl ⟨HH.out, hr, rfl, hb⟩)
      have B4 := hide (B1.out.trans (B3.out.mono B1.out.size))
      clear own2 b2 bx hr HC HCn HT HTn SN
      generalize (rdC t).1 = c1 at *
      generalize (rdC t).2.2 = c3 at *
      generalize (rdC t).2.1.length = c2 at *
      go_wp2_with fail
      go_ret
      exact RR.out _ B4.out
    · have HR := hide hr
      have V3 := hide (V1.out.below B3.out)
      have M3 := hide (M1.out.below B3.out)
      have C3' := hide (C1.out.below B3.out)
      have O3 := hide ((own2.more (show B ≤ w1.heap.size by omega)).below bx)
      have G3 : Hid (∀ W, Below w1.heap.size w1 W → w.grownBy W (some bc)) := hide (fun W hW => Below.toGrown (B1.out.trans (hW.mono B1.out.size)) _)
      have HR1 := hide (HC.out hr)
      have HR2 := hide (HTn.out HH.out)
      obtain ⟨w5, hst, m5, gr5⟩ := C3'.out.store Tryz.underlying45 (by unfold maxLen; omega) hs (.agg #[.string (rdC t).1, .slice A2 (rdC t).2.1.length cap2, .string (rdC t).2.2])
      have R5 : Hid (RetTake bm bc k l vs B w t (.returned (.bool true)) w5) := hide (by
        refine .inr ⟨.inr HR.out, rfl, .agg #[.string (rdC t).1, .slice A2 (rdC t).2.1.length cap2, .string (rdC t).2.2], bc, .inr rfl, (G3.out _ B3.out).trans gr5, ?_, ?_, ?_⟩
        · rw [HR2.out]
          exact (M3.out.kept gr5 (by simpa using hne)).more (Nat.le_succ _)
        · rw [HR1.out]
          exact m5
        · refine SN.out _ _ (V3.out.low gr5 hbc) (holdsV.low (r := bc) ⟨fun h => ?_, fun _ => ⟨A2, cap2, rfl, O3.out⟩⟩ gr5 hbc)
          rw [HH.out] at h
          cases h)
      have k0 := cell_of_row _ _ 0 _ _ _ X4.out
      have k1 := cell_of_row _ _ 1 _ _ _ X4.out
      have k2 := cell_of_row _ _ 2 _ _ _ X4.out
      clear own2 b2 bx hr HC HCn HT HTn SN V3 M3 C3' O3 G3 m5 gr5 HR1 HR2
      generalize (rdC t).1 = c1 at *
      generalize (rdC t).2.2 = c3 at *
      generalize (rdC t).2.1.length = c2 at *
      go_wp2_with fail
      go_ret
      exact R5.out
  · have HH := hide htr
    have hrf := hide (tree_com htr)
    obtain ⟨w5, hst, m5, gr5⟩ := M1.out.store Tryz.underlying44 (by unfold maxLen; omega) hs (.slice A1 (treeL t).length cap1)
    have R5 : Hid (RetTake bm bc k l vs B w t (.returned (.bool true)) w5) := hide (by
      refine .inr ⟨.inl HH.out, rfl, .slice A1 (treeL t).length cap1, bm, .inl rfl, (Below.toGrown B1.out _).trans gr5, ?_, ?_, ?_⟩
      · rw [HT.out HH.out]
        exact m5
      · rw [HCn.out hrf.out]
        exact (C1.out.kept gr5 (by simpa using hne.symm)).more (Nat.le_succ _)
      · refine SN.out _ _ (V1.out.low gr5 hbm) (holdsV.low (r := bm) ⟨fun _ => ⟨A1, cap1, hc1, rfl, O1.out⟩, fun h => ?_⟩ gr5 hbm)
        rw [hrf.out] at h
        cases h)
    clear m5 gr5 HC HCn HT HTn SN hrf htr
    generalize (treeL t).length = n1 at *
    go_wp2_with fail
    go_ret
    exact R5.out
end Go.Proofs.YtdahpnjamlfakaaGreatDoor
/-
  What slices.Contains, impl.repo's hasCommits and linked answer.
-/
namespace Go.Proofs.YtdahpnjamlfakaaGreatDoor
open Go.RowKit Go.Maps

open Classical in
/-- is the text one of these? -/
noncomputable def memK (l : List ByteArray) (s : ByteArray) : Bool := decide (s ∈ l)
open Classical in
theorem memK_iff {l : List ByteArray} {s : ByteArray} : memK l s = true ↔ s ∈ l := by unfold memK; exact decide_eq_true_iff
theorem memK_no {l : List ByteArray} {s : ByteArray} (h : ¬ s ∈ l) : memK l s = false := by
  cases e : memK l s
  · rfl
  · exact absurd (memK_iff.1 e) h
open Classical in
/-- is each of these a commit that is there? -/
noncomputable def comsAll (l : List Pr) (ps : List ByteArray) : Bool := decide (∀ q ∈ ps, rdOk (valOf l q) = true)
open Classical in
theorem comsAll_iff {l : List Pr} {ps : List ByteArray} : comsAll l ps = true ↔ ∀ q ∈ ps, rdOk (valOf l q) = true := by unfold comsAll; exact decide_eq_true_iff
theorem comsAll_no {l : List Pr} {ps : List ByteArray} (h : ¬ ∀ q ∈ ps, rdOk (valOf l q) = true) : comsAll l ps = false := by
  cases e : comsAll l ps
  · rfl
  · exact absurd (comsAll_iff.1 e) h

set_option maxRecDepth 100000 in
set_option maxHeartbeats 1000000 in
theorem contains_any (A : Option Addr) (l : List ByteArray) (cap : Nat) (s : ByteArray) (w : World) (B : Nat) (hl : l.length ≤ maxLen) (hin : ZIn w B A l) :
    Calls Tryz.prog 106 #[.slice A l.length cap, .string s] w fun e w' => e = .returned (.bool (memK l s)) ∧ w = w' := by
  have I : Hid (Calls Tryz.prog 140 #[.slice A l.length cap, .string s] w fun e w' => ∃ x : Int, e = .returned (.int .i64 x) ∧ memK l s = decide (0 ≤ x) ∧ w = w') := hide (by
    unfold maxLen at hl
    have IN := hide hin
    clear hin
    generalize hn : l.length = n at *
    have HN := hide hn
    clear hn
    go_enter Tryz.func140, Tryz.ntmps140
    go_wp2
    go_loop [8] (fun iv => ∃ k : Nat, k ≤ n ∧ iv = .int .i64 k ∧ Hid (∀ i (h : i < l.length), i < k → ¬ s = l[i])) (fun i => n - (intOf i).toNat)
    case atStart => exact ⟨0, Nat.zero_le _, rfl, hide (fun _ _ h => absurd h (by omega))⟩
    case round =>
      obtain ⟨k, hk, rfl, H⟩ := hrel
      by_cases hlt : k < n
      · have hkl : k < l.length := by rw [HN.out]; omega
        obtain ⟨b, off, rfl, _, hc⟩ := IN.out (by omega)
        have c1 := hc k hkl
        by_cases he : s = l[k]'hkl
        · have Z : Hid (memK l s = true) := hide (memK_iff.2 (he ▸ List.getElem_mem hkl))
          have d1 := eqS_yes he
          generalize l[k]'hkl = x at *
          clear hc he H
          go_wp2
          go_ret
          exact ⟨k, rfl, by rw [Z.out]; exact (decide_eq_true (by omega)).symm, rfl⟩
        · have d1 := eqS_no he
          have H2 : Hid (∀ i (h : i < l.length), i < k + 1 → ¬ s = l[i]) := hide (fun i hi hik => by
            rcases Nat.lt_or_ge i k with g | g
            · exact H.out i hi g
            · obtain rfl : i = k := by omega
              exact he)
          generalize l[k]'hkl = x at *
          clear hc he H
          go_wp2
          go_round
          case rel => exact ⟨k + 1, by omega, by go_num, H2⟩
          case measure => simp [intOf]; omega
      · have Z : Hid (memK l s = false) := hide (memK_no (fun hm => by
          obtain ⟨i, hi, hx⟩ := List.mem_iff_getElem.1 hm
          exact absurd hx.symm (H.out i hi (by rw [HN.out] at hi; omega))))
        have hgt : ¬ ((k : Int) < (n : Int)) := by omega
        clear hlt
        go_wp2
        go_ret
        exact ⟨-1, rfl, by rw [Z.out]; rfl, rfl⟩)
  clear hin
  generalize l.length = n at *
  go_enter Tryz.func106, Tryz.ntmps106
  go_wp2_with fail
  refine I.out.mono ?_
  rintro e w1 ⟨x, rfl, hx, rfl⟩
  have Z := hide hx
  clear hx I
  by_cases h0 : 0 ≤ x
  · have d : decide (0 ≤ x) = true := decide_eq_true h0
    rw [d] at Z
    go_wp2
    go_ret
    exact ⟨ret_bool Z.out.symm, rfl⟩
  · have d : decide (0 ≤ x) = false := decide_eq_false h0
    rw [d] at Z
    go_wp2
    go_ret
    exact ⟨ret_bool Z.out.symm, rfl⟩

/-- a repository in memory: its trees' and its commits' maps -/
structure RepoM (w : World) (B bm bc n : Nat) (l : List Pr) (vs : List Value) : Prop where
  obj : objsB l = true
  len : vs.length = l.length
  tr : HMap w bm n (treesE l vs)
  co : HMap w bc n (comsE l vs)
  va : Vals w B l vs
  lm : bm < B
  lc : bc < B
  ne : bm ≠ bc
theorem RepoM.ris {w : World} {B bm bc n : Nat} {l : List Pr} {vs : List Value} (h : RepoM w B bm bc n l vs) : risesTo l l.length := (objsB_iff.1 h.obj).2.2
theorem RepoM.below {w w' : World} {B bm bc n : Nat} {l : List Pr} {vs : List Value} (h : RepoM w B bm bc n l vs) (hb : Below w.heap.size w w') : RepoM w' B bm bc n l vs :=
  ⟨h.obj, h.len, h.tr.below hb, h.co.below hb, h.va.below hb, h.lm, h.lc, h.ne⟩
theorem RepoM.low {w w' : World} {B bm bc n r : Nat} {l : List Pr} {vs : List Value} (h : RepoM w B bm bc n l vs) (hg : w.grownBy w' (some r)) (hr : r < B) (h1 : bm ≠ r) (h2 : bc ≠ r) : RepoM w' B bm bc n l vs :=
  ⟨h.obj, h.len, h.tr.kept hg (by simpa using h1), h.co.kept hg (by simpa using h2), h.va.low hg hr, h.lm, h.lc, h.ne⟩
/-- the commit at a key -/
theorem RepoM.com {w : World} {B bm bc n : Nat} {l : List Pr} {vs : List Value} (h : RepoM w B bm bc n l vs) (k : ByteArray) {v : Value} (hv : (hD (comsE l vs)).atKey (keyL k) (.held (.agg #[.string ByteArray.empty, .slice none 0 0, .string ByteArray.empty])) = .held v) :
    ∃ A cap, v = .agg #[.string (if rdOk (valOf l k) = true then (rdC (valOf l k)).1 else ByteArray.empty), .slice A (if rdOk (valOf l k) = true then (rdC (valOf l k)).2.1 else []).length cap, .string (if rdOk (valOf l k) = true then (rdC (valOf l k)).2.2 else ByteArray.empty)] ∧ ZOwn w B A cap (if rdOk (valOf l k) = true then (rdC (valOf l k)).2.1 else []) := by
  have hh := has_coms (vs := vs) h.ris h.len k
  cases e : rdOk (valOf l k)
  · rw [e] at hh
    rw [atKey_of_not_has hh] at hv
    injection hv with hv
    subst hv
    exact ⟨none, 0, rfl, ZOwn.nil _ _⟩
  · rw [e] at hh
    obtain ⟨v', hm⟩ := hD_has hh
    have h2 := (hD_hit (comsE_apart h.ris vs) hm).2 (.held (.agg #[.string ByteArray.empty, .slice none 0 0, .string ByteArray.empty]))
    rw [h2] at hv
    injection hv with hv
    subst hv
    obtain ⟨i, hi, hi', e1, e2, e3⟩ := mem_comsE.1 hm
    obtain ⟨A, cap, e4, o⟩ := (h.va i hi hi').2 e3
    have e5 := (valOf_at h.ris hi).2
    rw [e1] at e5
    rw [if_pos rfl, if_pos rfl, if_pos rfl, e5]
    exact ⟨A, cap, by rw [← e2, e4], o⟩
/-- the map at a key -/
theorem RepoM.tree {w : World} {B bm bc n : Nat} {l : List Pr} {vs : List Value} (h : RepoM w B bm bc n l vs) (k : ByteArray) {v : Value} (hv : (hD (treesE l vs)).atKey (keyL k) (.held (.slice none 0 0)) = .held v) :
    ∃ A cap, (treeL (valOf l k)).length ≤ cap ∧ v = .slice A (treeL (valOf l k)).length cap ∧ M.Own w B A cap (treeL (valOf l k)) := by
  have hh := has_trees (vs := vs) h.ris h.len k
  cases e : treeB (valOf l k)
  · rw [e] at hh
    rw [atKey_of_not_has hh] at hv
    injection hv with hv
    subst hv
    rw [treeL_no e]
    exact ⟨none, 0, by simp, rfl, M.Own.nil _ _⟩
  · rw [e] at hh
    obtain ⟨v', hm⟩ := hD_has hh
    have h2 := (hD_hit (treesE_apart h.ris vs) hm).2 (.held (.slice none 0 0))
    rw [h2] at hv
    injection hv with hv
    subst hv
    obtain ⟨i, hi, hi', e1, e2, e3⟩ := mem_treesE.1 hm
    obtain ⟨A, cap, hc, e4, o⟩ := (h.va i hi hi').1 e3
    have e5 := (valOf_at h.ris hi).2
    rw [e1] at e5
    rw [e5]
    exact ⟨A, cap, hc, by rw [← e2, e4], o⟩
/-- commits[key], with ok -/
theorem RepoM.lookC {w : World} {B bm bc n : Nat} {l : List Pr} {vs : List Value} (h : RepoM w B bm bc n l vs) {k : ByteArray} (hk : k.size ≤ maxLen) :
    ∃ A cap, (Instr.lookup 45 (.map (some bc)) (.string k) true).run Tryz.prog w = .ok (.tuple #[.agg #[.string (if rdOk (valOf l k) = true then (rdC (valOf l k)).1 else ByteArray.empty), .slice A (if rdOk (valOf l k) = true then (rdC (valOf l k)).2.1 else []).length cap, .string (if rdOk (valOf l k) = true then (rdC (valOf l k)).2.2 else ByteArray.empty)], .bool (rdOk (valOf l k))]) w ∧ ZOwn w B A cap (if rdOk (valOf l k) = true then (rdC (valOf l k)).2.1 else []) := by
  obtain ⟨v, h1, h2⟩ := h.co.look Tryz.underlying45 (zeroC w) hk
  obtain ⟨A, cap, rfl, o⟩ := h.com k h2
  rw [has_coms h.ris h.len k] at h1
  exact ⟨A, cap, h1, o⟩
/-- trees[key], with ok -/
theorem RepoM.lookT {w : World} {B bm bc n : Nat} {l : List Pr} {vs : List Value} (h : RepoM w B bm bc n l vs) {k : ByteArray} (hk : k.size ≤ maxLen) :
    ∃ A cap, (treeL (valOf l k)).length ≤ cap ∧ (Instr.lookup 44 (.map (some bm)) (.string k) true).run Tryz.prog w = .ok (.tuple #[.slice A (treeL (valOf l k)).length cap, .bool (treeB (valOf l k))]) w ∧ M.Own w B A cap (treeL (valOf l k)) := by
  obtain ⟨v, h1, h2⟩ := h.tr.look Tryz.underlying44 (zeroT w) hk
  obtain ⟨A, cap, hc, rfl, o⟩ := h.tree k h2
  rw [has_trees h.ris h.len k] at h1
  exact ⟨A, cap, hc, h1, o⟩

set_option maxRecDepth 100000 in
set_option maxHeartbeats 1000000 in
theorem hasCommits_any (bt bm bc B n : Nat) (l : List Pr) (vs : List Value) (A : Option Addr) (ps : List ByteArray) (cap : Nat) (w : World) (hl : ps.length ≤ maxLen) (hs : ∀ p ∈ ps, p.size ≤ maxLen) (hin : ZIn w w.heap.size A ps) (hR : RepoM w B bm bc n l vs) :
    Calls Tryz.prog 45 #[.agg #[.map (some bt), .map (some bm), .map (some bc)], .slice A ps.length cap] w fun e w' => e = .returned (.bool (comsAll l ps)) ∧ Below w.heap.size w w' := by
  have b0 := (Below.refl w.heap.size w).alloc (Nat.le_refl _) (.cells #[.map (some bt), .map (some bm), .map (some bc)] 47)
  have B0 := hide b0
  have X0 := hide (heap_alloc_new w (.cells #[.map (some bt), .map (some bm), .map (some bc)] 47))
  have S0 : Hid ((w.alloc (.cells #[.map (some bt), .map (some bm), .map (some bc)] 47)).heap.size = w.heap.size + 1) := hide (by simp)
  have R0 := hide (hR.below b0)
  have I0 := hide ((hin.below b0).more b0.size)
  have SS := hide hs
  unfold maxLen at hl
  clear b0 hin hR hs
  generalize hn : ps.length = m at *
  have HN := hide hn
  clear hn
  go_enter Tryz.func45, Tryz.ntmps45
  go_wp2
  go_loopw [11] (fun iv wr => ∃ k : Nat, k ≤ m ∧ iv = .int .i64 k ∧ Hid (∀ i (h : i < ps.length), i < k → rdOk (valOf l ps[i]) = true) ∧ Hid (Below (w.heap.size + 1) (w.alloc (.cells #[.map (some bt), .map (some bm), .map (some bc)] 47)) wr)) (fun i _ => m - (intOf i).toNat)
  case atStart => exact ⟨0, Nat.zero_le _, rfl, hide (fun _ _ h => absurd h (by omega)), hide (Below.refl _ _)⟩
  case round =>
    obtain ⟨k, hk, rfl, H, Q⟩ := hrel
    have Q' := hide (Q.out.mono (Nat.le_succ _) : Below w.heap.size _ wr)
    have R1 := hide (R0.out.below (Q.out.mono (by rw [S0.out]; exact Nat.le_refl _)))
    have BB := hide (B0.out.trans Q'.out)
    by_cases hlt : k < m
    · have hkl : k < ps.length := by rw [HN.out]; omega
      obtain ⟨b, off, rfl, hb, hc⟩ := I0.out (by omega)
      have c1 := (Q.out.cell (p := ⟨b, off + k, none⟩) (by rw [S0.out] at hb; exact hb)).trans (hc k hkl)
      have g2 := cell_of_row _ _ 2 _ _ _ ((Q.out.block w.heap.size (Nat.lt_succ_self _)).trans X0.out)
      have hz := SS.out _ (List.getElem_mem hkl)
      have Z : Hid (rdOk (valOf l (ps[k]'hkl)) = false → comsAll l ps = false) := hide (fun h => comsAll_no (fun h' => by have := h' _ (List.getElem_mem hkl); rw [h] at this; cases this))
      have H2 : Hid (rdOk (valOf l (ps[k]'hkl)) = true → ∀ i (h : i < ps.length), i < k + 1 → rdOk (valOf l ps[i]) = true) := hide (fun h i hi hik => by
        rcases Nat.lt_or_ge i k with g | g
        · exact H.out i hi g
        · obtain rfl : i = k := by omega
          exact h)
      clear hc H
      generalize ps[k]'hkl = q at *
      obtain ⟨A2, cap2, hlk, _⟩ := R1.out.lookC hz
      generalize (if rdOk (valOf l q) = true then (rdC (valOf l q)).1 else ByteArray.empty) = q1 at *
      generalize (if rdOk (valOf l q) = true then (rdC (valOf l q)).2.1 else []).length = q2 at *
      generalize (if rdOk (valOf l q) = true then (rdC (valOf l q)).2.2 else ByteArray.empty) = q3 at *
      have bx := boxC_below wr (.string q1) (.slice A2 q2 cap2) (.string q3)
      have Q2 := hide (Q.out.trans (bx.mono (by have := Q.out.size; rw [S0.out] at this; exact this)))
      have BB2 := hide (B0.out.trans (Q2.out.mono (Nat.le_succ _)))
      cases hr : rdOk (valOf l q)
      · have Z2 := hide (Z.out hr)
        rw [hr] at hlk
        clear bx hr Z H2 R1
        go_wp2
        go_ret
        exact ⟨ret_bool Z2.out.symm, BB2.out⟩
      · have Z2 := hide (H2.out hr)
        rw [hr] at hlk
        clear bx hr Z H2 R1
        go_wp2
        go_roundw
        case rel => exact ⟨k + 1, by omega, by go_num, Z2, Q2⟩
        case measure => simp [intOf]; omega
    · have Z : Hid (comsAll l ps = true) := hide (comsAll_iff.2 (fun q hq => by
        obtain ⟨i, hi, rfl⟩ := List.getElem_of_mem hq
        exact H.out i hi (by rw [HN.out] at hi; omega)))
      have hgt : ¬ ((k : Int) < (m : Int)) := by omega
      clear hlt
      go_wp2
      go_ret
      exact ⟨ret_bool Z.out.symm, BB.out⟩

/-- is a commit's tree there, are its parents, and is it none of them? -/
noncomputable def linkB (l : List Pr) (id tr : ByteArray) (ps : List ByteArray) : Bool := treeB (valOf l tr) && (comsAll l ps && !memK ps id)

set_option maxRecDepth 100000 in
set_option maxHeartbeats 1000000 in
theorem linked_any (bt bm bc B n : Nat) (l : List Pr) (vs : List Value) (id tr nt : ByteArray) (A : Option Addr) (ps : List ByteArray) (cap : Nat) (w : World) (hl : ps.length ≤ maxLen) (hs : ∀ p ∈ ps, p.size ≤ maxLen) (ht : tr.size ≤ maxLen) (hin : ZIn w w.heap.size A ps) (hR : RepoM w B bm bc n l vs) :
    Calls Tryz.prog 63 #[.agg #[.map (some bt), .map (some bm), .map (some bc)], .string id, .agg #[.string tr, .slice A ps.length cap, .string nt]] w fun e w' => e = .returned (.bool (linkB l id tr ps)) ∧ Below w.heap.size w w' := by
  have b0 := ((Below.refl w.heap.size w).alloc (Nat.le_refl _) (.cells #[.map (some bt), .map (some bm), .map (some bc)] 47)).alloc (Nat.le_of_lt (by simp)) (.cells #[.string tr, .slice A ps.length cap, .string nt] 30)
  have X0 : Hid (((w.alloc (.cells #[.map (some bt), .map (some bm), .map (some bc)] 47)).alloc (.cells #[.string tr, .slice A ps.length cap, .string nt] 30)).heap[w.heap.size]? = some (.cells #[.map (some bt), .map (some bm), .map (some bc)] 47)) := hide ((Below.heap_alloc _ _ _ (by simp)).trans (heap_alloc_new w _))
  have X1 : Hid (((w.alloc (.cells #[.map (some bt), .map (some bm), .map (some bc)] 47)).alloc (.cells #[.string tr, .slice A ps.length cap, .string nt] 30)).heap[w.heap.size + 1]? = some (.cells #[.string tr, .slice A ps.length cap, .string nt] 30)) := hide (by
    have := heap_alloc_new (w.alloc (.cells #[.map (some bt), .map (some bm), .map (some bc)] 47)) (.cells #[.string tr, .slice A ps.length cap, .string nt] 30)
    rw [World.size_alloc] at this
    exact this)
  have S0 : Hid (((w.alloc (.cells #[.map (some bt), .map (some bm), .map (some bc)] 47)).alloc (.cells #[.string tr, .slice A ps.length cap, .string nt] 30)).heap.size = w.heap.size + 2) := hide (by simp)
  have B0 := hide b0
  have R0 := hide (hR.below b0)
  have I0 := hide ((hin.below b0).more b0.size)
  obtain ⟨A2, cap2, _, hlk, _⟩ := R0.out.lookT ht
  have HC := hide (hasCommits_any bt bm bc B n l vs A ps cap _ hl hs I0.out R0.out)
  have CT : Hid (∀ W, Below w.heap.size w W → Calls Tryz.prog 106 #[.slice A ps.length cap, .string id] W fun e w' => e = .returned (.bool (memK ps id)) ∧ W = w') := hide (fun W hb => contains_any A ps cap id W w.heap.size hl (hin.below hb))
  have Z : Hid (linkB l id tr ps = (treeB (valOf l tr) && (comsAll l ps && !memK ps id))) := hide rfl
  clear b0 hin hR hs R0 I0
  generalize linkB l id tr ps = lb at *
  generalize ps.length = m at *
  generalize comsAll l ps = ca at *
  generalize memK ps id = mk at *
  generalize (treeL (valOf l tr)).length = tn at *
  have x0 := cell_of_row _ _ 0 _ _ _ X0.out
  have x1 := cell_of_row _ _ 1 _ _ _ X0.out
  have x2 := cell_of_row _ _ 2 _ _ _ X0.out
  have y0 := cell_of_row _ _ 0 _ _ _ X1.out
  have y1 := cell_of_row _ _ 1 _ _ _ X1.out
  cases htb : treeB (valOf l tr)
  · rw [htb] at hlk Z
    have ZZ := hide (show lb = false from Z.out)
    clear Z
    go_enter Tryz.func63, Tryz.ntmps63
    go_wp2_with fail
    go_ret
    exact ⟨ret_bool ZZ.out.symm, B0.out⟩
  · rw [htb] at hlk Z
    go_enter Tryz.func63, Tryz.ntmps63
    go_wp2_with fail
    refine HC.out.mono ?_
    rintro e w2 ⟨rfl, b2⟩
    have B2 := hide (B0.out.trans (b2.mono B0.out.size))
    have y1' := cellB b2 (by rw [S0.out]; omega) y1
    clear HC x0 x1 x2 y0 y1 b2
    cases ca
    · have ZZ := hide (show lb = false from Z.out)
      clear Z
      go_wp2_with fail
      go_ret
      exact ⟨ret_bool ZZ.out.symm, B2.out⟩
    · have ZZ := hide (show lb = !mk from Z.out)
      clear Z
      go_wp2_with fail
      refine (CT.out _ B2.out).mono ?_
      rintro e w3 ⟨rfl, rfl⟩
      cases mk
      · go_wp2_with fail
        go_ret
        exact ⟨ret_bool ZZ.out.symm, B2.out⟩
      · go_wp2_with fail
        go_ret
        exact ⟨ret_bool ZZ.out.symm, B2.out⟩
end Go.Proofs.YtdahpnjamlfakaaGreatDoor
/-
  What impl.repoOf and impl.RepoOk answer.
-/
namespace Go.Proofs.YtdahpnjamlfakaaGreatDoor
open Go.RowKit Go.Maps

/-- the step of a range over a map of commits -/
theorem wpList_next_coms {w : World} {ops : Array Oper} {rest : List Oper} {o : Oper} {a : Act} {Q : Exit → Act → World → Prop} (hg : o.guard = none) (it : Operand) (hop : o.op = Op.next it false) (b r n : Nat) (L : List (ByteArray × Value)) (hap : L.Pairwise fun x y => x.1 ≠ y.1) (left : Lit → Bool) (cnt : Nat)
    (hit : a.eval it = .pointer (some ⟨r, 0, none⟩)) (h : w.ranges Tryz.prog 9 heldE b r n (hD L) left cnt)
    (hL : ∀ k v, (k, v) ∈ L → ∃ t A m c s, v = .agg #[.string t, .slice A m c, .string s])
    (hDone : cnt = 0 → (∀ kl, left kl = false) → wpList Tryz.prog ops Q rest (a.put o.dst (.tuple #[.bool false])) w)
    (hMore : ∀ (x t : ByteArray) (A : Option Addr) (m c : Nat) (s : ByteArray) (w' : World) (cnt' : Nat), (x, .agg #[.string t, .slice A m c, .string s]) ∈ L → x.size ≤ maxLen → left (keyL x) = true → w'.ranges Tryz.prog 9 heldE b r n (hD L) (fun z => left z && !z.sameKey (keyL x)) cnt' → cnt' < cnt → w.grownBy w' (some r) → w'.heap.size = w.heap.size →
      (Instr.entry (.pointer (some ⟨r, 0, none⟩))).run Tryz.prog w' = .ok (.tuple #[.string x, .agg #[.string t, .slice A m c, .string s]]) w' → wpList Tryz.prog ops Q rest (a.put o.dst (.tuple #[.bool true, .string x, .agg #[.string t, .slice A m c, .string s]])) w') :
    wpList Tryz.prog ops Q (o :: rest) a w := by
  refine wpList_next_ranges w hg it hop 9 lawS heldE Value.string (fun v => v) (fun key kl hk => by obtain ⟨x', h, _⟩ := Maps.keyOf_str Tryz.underlying9 hk; exact ⟨⟨x'.toArray⟩, h⟩) (fun v _ _ => ⟨v, rfl⟩) b r n (hD L) left cnt hit h hDone ?_
  intro x c kl y w' cnt' hkey hlk hv hat hrg hlt hgr hsz hen
  obtain ⟨x', ex, rfl, hlen⟩ := Maps.keyOf_str Tryz.underlying9 hkey
  have ex' : x = ⟨x'.toArray⟩ := Value.string.inj ex
  subst ex'
  have ek : (.string x' : Lit) = keyL ⟨x'.toArray⟩ := rfl
  have hxs : (⟨x'.toArray⟩ : ByteArray).size ≤ maxLen := by
    show x'.toArray.size ≤ maxLen
    rw [List.size_toArray]
    exact hlen
  rw [ek] at hlk hat hrg
  injection hv with hv
  subst hv
  obtain ⟨v, hm⟩ := hD_has (Maps.has_true_of_atKey hat)
  have h2 := (hD_hit hap hm).2 (.held c)
  rw [hat] at h2
  injection h2 with h2
  subst h2
  obtain ⟨t, A, m, cc, s, rfl⟩ := hL _ _ hm
  exact hMore _ t A m cc s w' cnt' hm hxs hlk hrg hlt hgr hsz hen

/-- the first k objects are trees or commits -/
def sortTo (l : List Pr) (k : Nat) : Prop := ∀ i (h : i < l.length), i < k → treeB l[i].2 = true ∨ rdOk l[i].2 = true
theorem sortTo_zero (l : List Pr) : sortTo l 0 := fun _ _ h => absurd h (by omega)
theorem sortTo_succ {l : List Pr} {k : Nat} (hk : k < l.length) (h : sortTo l k) (h1 : treeB l[k].2 = true ∨ rdOk l[k].2 = true) : sortTo l (k + 1) := by
  intro i hi hik
  by_cases e : i = k
  · subst e; exact h1
  · exact h i hi (by omega)
theorem link_fine {l : List Pr} {p : Pr} (hr : rdOk p.2 = true) : linkB l p.1 (rdC p.2).1 (rdC p.2).2.1 = true ↔ fine l p := by
  unfold linkB fine
  simp only [Bool.and_eq_true, Bool.not_eq_true']
  rw [comsAll_iff]
  constructor
  · rintro ⟨h1, h2, h3⟩
    refine ⟨.inr hr, fun _ => ⟨h1, fun q hq => ⟨h2 q hq, ?_⟩⟩⟩
    rintro rfl
    rw [memK_iff.2 hq] at h3
    cases h3
  · rintro ⟨_, h⟩
    obtain ⟨h1, h2⟩ := h hr
    exact ⟨h1, fun q hq => (h2 q hq).1, memK_no fun hq => (h2 _ hq).2 rfl⟩
/-- the commits that have come are linked -/
def doneLk (l : List Pr) (left : Lit → Bool) : Prop := ∀ i (h : i < l.length), rdOk l[i].2 = true → left (keyL l[i].1) = false → fine l l[i]
theorem doneLk_step {l : List Pr} {left : Lit → Bool} (hr : risesTo l l.length) {x : ByteArray} {i : Nat} (hi : i < l.length) (hx : l[i].1 = x) (h : doneLk l left) (hf : fine l l[i]) : doneLk l (fun z => left z && !z.sameKey (keyL x)) := by
  intro j hj hrj hl
  by_cases e : l[j].1 = x
  · have : l[j] = l[i] := by
      have h1 := (valOf_at hr hj).2
      have h2 := (valOf_at hr hi).2
      rw [e, ← hx, h2] at h1
      exact Prod.ext (e.trans hx.symm) h1.symm
    rw [this]
    exact hf
  · refine h j hj hrj ?_
    have hn : (keyL l[j].1).sameKey (keyL x) = false := sameKey_ne (fun h => e (keyL_inj h))
    simp only [hn, Bool.not_false, Bool.and_true] at hl
    exact hl
theorem doneLk_start {l : List Pr} {vs : List Value} (hr : risesTo l l.length) (hv : vs.length = l.length) : doneLk l (has (hD (comsE l vs))) := by
  intro i hi hri hl
  rw [has_coms hr hv, (valOf_at hr hi).2, hri] at hl
  cases hl
theorem doneLk_end {l : List Pr} {left : Lit → Bool} (ho : objsB l = true) (hs : sortTo l l.length) (h : doneLk l left) (hl : ∀ k, left k = false) : repoB l = true := by
  refine repoB_iff.2 ⟨ho, fun i hi _ => ?_⟩
  cases hr : rdOk l[i].2
  · refine ⟨?_, fun x => by rw [hr] at x; cases x⟩
    rcases hs i hi hi with h1 | h1
    · exact .inl h1
    · rw [hr] at h1; cases h1
  · exact h i hi hr (hl _)

/-- what repoOf answers -/
def RetRepo (l : List Pr) (w : World) (e : Ending) (w' : World) : Prop :=
  Below w.heap.size w w' ∧ ((repoB l = false ∧ e = .returned (.tuple #[.agg #[.map none, .map none, .map none], .bool false])) ∨
    (repoB l = true ∧ ∃ bt bm bc B vs, e = .returned (.tuple #[.agg #[.map (some bt), .map (some bm), .map (some bc)], .bool true]) ∧ w.heap.size ≤ bt ∧ bt < bm ∧ bm < bc ∧ bc < B ∧ B ≤ w'.heap.size ∧ TMap w' bt l.length l ∧ RepoM w' B bm bc 60 l vs))
set_option maxRecDepth 100000 in
set_option maxHeartbeats 2000000 in
theorem repoOf_any (A : Option Addr) (l : List Pr) (cap : Nat) (a : Addr) (w : World) (hl : l.length ≤ maxLen) (hin : PIn w w.heap.size A l) (hT : Tabs w) (hE : ErrC w a) :
    Calls Tryz.prog 25 #[.slice A l.length cap] w (RetRepo l w) := by
  have b0 := (Below.refl w.heap.size w).alloc (Nat.le_refl _) (.cells #[.map none, .map none, .map none] 47)
  have B0 := hide b0
  have X0 := hide (heap_alloc_new w (.cells #[.map none, .map none, .map none] 47))
  have S0 : Hid ((w.alloc (.cells #[.map none, .map none, .map none] 47)).heap.size = w.heap.size + 1) := hide (by simp)
  have I0 := hide ((hin.below b0).more b0.size)
  have T0 := hide (textsOf_any A l cap _ hl I0.out (hT.below b0 hT.1))
  have E0 := hide (hE.below b0)
  have HL := hide hl
  clear b0 hin hT hE
  unfold maxLen at hl
  generalize hn : l.length = n at hl T0 ⊢
  have HN := hide hn
  clear hn
  go_enter Tryz.func25, Tryz.ntmps25
  go_wp2_with fail
  refine T0.out.mono ?_
  rintro e w1 ⟨b1, ⟨hf, rfl⟩ | ⟨hf, bt, rfl, hbt, tm⟩⟩
  · have B1 := hide (B0.out.trans (b1.mono B0.out.size))
    have X1 := hide ((b1.block w.heap.size (by rw [S0.out]; omega)).trans X0.out)
    have Z := hide (repoB_objs hf)
    have k0 := frozen_of_row _ _ 0 _ _ X1.out
    have k1 := frozen_of_row _ _ 1 _ _ X1.out
    have k2 := frozen_of_row _ _ 2 _ _ X1.out
    have g0 := cell_of_row _ _ 0 _ _ _ X1.out
    have g1 := cell_of_row _ _ 1 _ _ _ X1.out
    have g2 := cell_of_row _ _ 2 _ _ _ X1.out
    have N : Hid (RetRepo l w (.returned (.tuple #[.agg #[.map none, .map none, .map none], .bool false])) (((w1.setCell ⟨w.heap.size, 0, none⟩ (.map none)).setCell ⟨w.heap.size, 1, none⟩ (.map none)).setCell ⟨w.heap.size, 2, none⟩ (.map none))) := hide
      ⟨((B1.out.setCell (p := ⟨w.heap.size, 0, none⟩) (Nat.le_refl _) _).setCell (p := ⟨w.heap.size, 1, none⟩) (Nat.le_refl _) _).setCell (p := ⟨w.heap.size, 2, none⟩) (Nat.le_refl _) _, .inl ⟨Z.out, rfl⟩⟩
    clear b1 hf T0 B0 X0 S0 I0 E0
    go_wp2_with fail
    exact bodyPost_ret (v := .tuple #[.agg #[.map none, .map none, .map none], .bool false]) (by simp [results, Tryz.results25, go_sem, g0, g1, g2]) rfl N.out
  · have HO := hide hf
    have B1 := hide (B0.out.trans (b1.mono B0.out.size))
    have X1 := hide ((b1.block w.heap.size (by rw [S0.out]; omega)).trans X0.out)
    have E1 := hide (E0.out.below b1)
    have I1 := hide ((I0.out.below b1).more b1.size)
    have TM := hide tm
    have TL := hide tm.lt
    have hs1 : w.heap.size + 1 ≤ w1.heap.size := by have := b1.size; rw [S0.out] at this; exact this
    have hbt1 : w.heap.size + 1 ≤ bt := by rw [S0.out] at hbt; exact hbt
    clear b1 hf tm hbt T0 B0 X0 S0 I0 E0
    have hmk := @run_makeMap Tryz.prog
    have MM : Hid (HMap (((w1.alloc (.map #[] 0)).alloc (.map #[] 0)).alloc (.cells #[.map (some bt), .map (some w1.heap.size), .map (some (w1.heap.size + 1))] 47)) w1.heap.size 0 (treesE l [])) := hide (by
      rw [show treesE l [] = [] by simp [treesE]]
      exact ((hmap_made w1).kept (World.grownBy_alloc _ _ none) (by simp)).kept (World.grownBy_alloc _ _ none) (by simp))
    have CC : Hid (HMap (((w1.alloc (.map #[] 0)).alloc (.map #[] 0)).alloc (.cells #[.map (some bt), .map (some w1.heap.size), .map (some (w1.heap.size + 1))] 47)) (w1.heap.size + 1) 0 (comsE l [])) := hide (by
      rw [show comsE l [] = [] by simp [comsE]]
      have := hmap_made (w1.alloc (.map #[] 0))
      rw [World.size_alloc] at this
      exact this.kept (World.grownBy_alloc _ _ none) (by simp))
    have XB : Hid ((((w1.alloc (.map #[] 0)).alloc (.map #[] 0)).alloc (.cells #[.map (some bt), .map (some w1.heap.size), .map (some (w1.heap.size + 1))] 47)).heap[w1.heap.size + 2]? = some (.cells #[.map (some bt), .map (some w1.heap.size), .map (some (w1.heap.size + 1))] 47 (0, 0))) := hide (by
      have := heap_alloc_new ((w1.alloc (.map #[] 0)).alloc (.map #[] 0)) (.cells #[.map (some bt), .map (some w1.heap.size), .map (some (w1.heap.size + 1))] 47)
      simp only [World.size_alloc] at this
      exact this)
    have BW : Hid (Below w1.heap.size w1 (((w1.alloc (.map #[] 0)).alloc (.map #[] 0)).alloc (.cells #[.map (some bt), .map (some w1.heap.size), .map (some (w1.heap.size + 1))] 47))) := hide ((((Below.refl _ w1).alloc (Nat.le_refl _) _).alloc (by simp) _).alloc (by simp; omega) _)
    have SW : Hid ((((w1.alloc (.map #[] 0)).alloc (.map #[] 0)).alloc (.cells #[.map (some bt), .map (some w1.heap.size), .map (some (w1.heap.size + 1))] 47)).heap.size = w1.heap.size + 3) := hide (by simp)
    have h60 : n ≤ 60 := by rw [← HN.out]; exact (objsB_iff.1 HO.out).1
    go_wp2_with fail
    go_loopw [25] (fun iv wr => ∃ (k : Nat) (vs : List Value), k ≤ n ∧ iv = .int .i64 k ∧ Hid (vs.length = k) ∧ Hid (sortTo l k) ∧ Hid (HMap wr w1.heap.size k (treesE l vs)) ∧ Hid (HMap wr (w1.heap.size + 1) k (comsE l vs)) ∧ Hid (Vals wr (w1.heap.size + 3) l vs) ∧ Hid (wr.heap[w1.heap.size + 2]? = some (.cells #[.map (some bt), .map (some w1.heap.size), .map (some (w1.heap.size + 1))] 47 (0, 0))) ∧ Hid (Below w1.heap.size w1 wr) ∧ Hid (w1.heap.size + 3 ≤ wr.heap.size)) (fun i _ => n - (intOf i).toNat)
    case atStart => exact ⟨0, [], Nat.zero_le _, rfl, rfl, sortTo_zero l, MM, CC, Vals.nil _ _ _, XB, BW, hide (by rw [SW.out]; exact Nat.le_refl _)⟩
    case round =>
      clear MM CC XB BW SW
      obtain ⟨k, vs, hk, rfl, V, H, MT, MC, VA, XB, Q, SZ⟩ := hrel
      have hsz := SZ.out
      by_cases hlt : k < n
      · have hkl : k < l.length := by rw [HN.out]; omega
        obtain ⟨b, off, rfl, hb, hc⟩ := I1.out.2 (by rw [HN.out]; omega)
        obtain ⟨c1', c2'⟩ := hc k hkl
        obtain ⟨s1, s2⟩ := I1.out.1 k hkl
        have c1 := (Q.out.cell (p := ⟨b, off + k * 2, none⟩) hb).trans c1'
        have c2 := (Q.out.cell (p := ⟨b, off + k * 2 + 1, none⟩) hb).trans c2'
        have htx := ((objsB_iff.1 HO.out).2.1 k hkl hkl).1
        have FI := hide (fun h => repoB_at (l := l) hkl h)
        have OK := hide (fun h => sortTo_succ hkl H.out h)
        have hkv : vs.length < l.length := by rw [V.out]; exact hkl
        have hpv : l[vs.length]'hkv = l[k]'hkl := by simp only [V.out]
        clear c1' c2' hc H
        generalize hp : l[k]'hkl = p at *
        obtain ⟨s, t⟩ := p
        dsimp only at c1 c2 htx s1 s2
        have QA := hide (Q.out.alloc (show w1.heap.size ≤ wr.heap.size by omega) (.cells #[.string s, .string t] 83))
        have XA := hide ((Below.heap_alloc wr (.cells #[.string s, .string t] 83) (w1.heap.size + 2) (by omega)).trans XB.out)
        have x0 := cell_of_row _ _ 0 _ _ _ XA.out
        have x1 := cell_of_row _ _ 1 _ _ _ XA.out
        have x2 := cell_of_row _ _ 2 _ _ _ XA.out
        have SA : Hid (w1.heap.size + 3 ≤ (wr.alloc (.cells #[.string s, .string t] 83)).heap.size) := hide (by simp; omega)
        have TK := hide (take_any bt w1.heap.size (w1.heap.size + 1) k (w1.heap.size + 3) l vs a (wr.alloc (.cells #[.string s, .string t] 83)) s t hkv V.out hpv (by omega) htx s1 (by omega) (by omega) SA.out (by omega) (MT.out.kept (World.grownBy_alloc _ _ none) (by simp)) (MC.out.kept (World.grownBy_alloc _ _ none) (by simp)) (VA.out.below ((Below.refl _ _).alloc (Nat.le_refl _) _)) (E1.out.below QA.out))
        clear hp hpv MT MC VA XB
        go_wp2_with fail
        refine TK.out.mono ?_
        rintro e w3 (⟨t1, t2, rfl, b3⟩ | ⟨hor, rfl, v, x, hx, g3, mt, mc, va⟩)
        · have Z := hide (FI.out (fun h => by rcases h.1 with h | h <;> simp_all))
          have B3 := hide (B1.out.trans ((QA.out.trans (b3.mono (by have := SA.out; omega))).mono B1.out.size))
          have XR := hide ((b3.block w.heap.size (by have := SA.out; omega)).trans ((QA.out.block w.heap.size (by omega)).trans X1.out))
          have k0 := frozen_of_row _ _ 0 _ _ XR.out
          have k1 := frozen_of_row _ _ 1 _ _ XR.out
          have k2 := frozen_of_row _ _ 2 _ _ XR.out
          have r0 := cell_of_row _ _ 0 _ _ _ XR.out
          have r1 := cell_of_row _ _ 1 _ _ _ XR.out
          have r2 := cell_of_row _ _ 2 _ _ _ XR.out
          have N : Hid (RetRepo l w (.returned (.tuple #[.agg #[.map none, .map none, .map none], .bool false])) (((w3.setCell ⟨w.heap.size, 0, none⟩ (.map none)).setCell ⟨w.heap.size, 1, none⟩ (.map none)).setCell ⟨w.heap.size, 2, none⟩ (.map none))) := hide
            ⟨((B3.out.setCell (p := ⟨w.heap.size, 0, none⟩) (Nat.le_refl _) _).setCell (p := ⟨w.heap.size, 1, none⟩) (Nat.le_refl _) _).setCell (p := ⟨w.heap.size, 2, none⟩) (Nat.le_refl _) _, .inl ⟨Z.out, rfl⟩⟩
          clear b3 TK FI OK QA XA SA x0 x1 x2
          go_wp2_with fail
          exact bodyPost_ret (v := .tuple #[.agg #[.map none, .map none, .map none], .bool false]) (by simp [results, Tryz.results25, go_sem, r0, r1, r2]) rfl N.out
        · have SO := hide (OK.out hor)
          have hxx : w1.heap.size ≤ x ∧ x ≠ w1.heap.size + 2 := by rcases hx with rfl | rfl <;> omega
          have Q3 := hide (QA.out.grown g3 QA.out.size (fun j hj => by injection hj with hj; omega))
          have XB3 := hide ((g3.block (w1.heap.size + 2) (by have := SA.out; omega) (by intro e; injection e with e; omega)).trans XA.out)
          have SZ3 := hide (Nat.le_trans SA.out g3.size)
          have V3 : Hid ((vs ++ [v]).length = k + 1) := hide (by rw [List.length_append, V.out]; rfl)
          have MT3 := hide mt
          have MC3 := hide mc
          have VA3 := hide va
          clear g3 mt mc va TK FI OK QA XA SA x0 x1 x2 hor
          go_wp2_with fail
          go_roundw
          case rel => exact ⟨k + 1, vs ++ [v], by omega, by go_num, V3, SO, MT3, MC3, VA3, XB3, Q3, SZ3⟩
          case measure => simp [intOf]; omega
      · have ek : Hid (k = n) := hide (by omega)
        have SO : Hid (sortTo l l.length) := hide (by rw [HN.out, ← ek.out]; exact H.out)
        have RM : Hid (RepoM wr (w1.heap.size + 3) w1.heap.size (w1.heap.size + 1) 60 l vs) := hide ⟨HO.out, by rw [V.out, HN.out]; exact ek.out, MT.out.more (by omega), MC.out.more (by omega), VA.out, by omega, by omega, by omega⟩
        have hgt : ¬ ((k : Int) < (n : Int)) := by omega
        obtain ⟨wq, hwq⟩ : ∃ wq, wq = wr := ⟨wr, rfl⟩
        subst hwq
        have HLc : Hid (∀ k v, (k, v) ∈ comsE l vs → ∃ t A m c s, v = .agg #[.string t, .slice A m c, .string s]) := hide (fun k v hm => by
          obtain ⟨i, hi, hi', e1, e2, e3⟩ := mem_comsE.1 hm
          obtain ⟨A, cap, e4, o⟩ := (RM.out.va i hi hi').2 e3
          exact ⟨_, _, _, _, _, e2.symm.trans e4⟩)
        have B2 := hide (B1.out.trans (Q.out.mono B1.out.size))
        have XR := hide ((Q.out.block w.heap.size (by omega)).trans X1.out)
        have TMq := hide (TM.out.kept (Below.toGrown Q.out none) (by simp))
        have x2 := cell_of_row _ _ 2 _ _ _ XB.out
        clear hlt MT MC VA H Q X1 TM
        go_wp2_with (at_range; refine wpList_range_own _ rfl _ 45 rfl 9 30 lawS Tryz.underlying45 heldE (w1.heap.size + 1) 60 (hD (comsE l vs)) rfl RM.out.co ?_; intro w4 hrg4 hg4 hs4)
        try go_frame
        have BR : Hid (Below wq.heap.size wq w4) := hide ⟨hg4.os, hg4.tape, hg4.output, hg4.size, fun i hi => hg4.block i hi (by simp)⟩
        have RG := hide hrg4
        clear hrg4 hg4 hs4
        go_loopw [9] (fun _ wr => ∃ left cnt, Hid (wr.ranges Tryz.prog 9 heldE (w1.heap.size + 1) wq.heap.size 60 (hD (comsE l vs)) left cnt) ∧ Hid (doneLk l left) ∧ Hid (Below wq.heap.size wq wr)) (fun _ wr => wr.rangeLeft (w1.heap.size + 1) wq.heap.size)
        case atStart => exact ⟨_, _, RG, hide (doneLk_start RM.out.ris RM.out.len), BR⟩
        case round =>
          clear RG BR
          obtain ⟨left, cnt, RG, DL, P⟩ := hrel
          go_wp2_with (at_next; refine wpList_next_coms rfl _ rfl (w1.heap.size + 1) wq.heap.size 60 (comsE l vs) (comsE_apart RM.out.ris vs) left cnt rfl RG.out HLc.out ?_ ?_)
          · intro hc0 hl0
            have Z := hide (doneLk_end HO.out SO.out DL.out hl0)
            have XR2 := hide ((P.out.block w.heap.size (by omega)).trans XR.out)
            have XB2 := hide ((P.out.block (w1.heap.size + 2) (by omega)).trans XB.out)
            have k0 := frozen_of_row _ _ 0 _ _ XR2.out
            have k1 := frozen_of_row _ _ 1 _ _ XR2.out
            have k2 := frozen_of_row _ _ 2 _ _ XR2.out
            have r0 := cell_of_row _ _ 0 _ _ _ XR2.out
            have r1 := cell_of_row _ _ 1 _ _ _ XR2.out
            have r2 := cell_of_row _ _ 2 _ _ _ XR2.out
            have y0 := cell_of_row _ _ 0 _ _ _ XB2.out
            have y1 := cell_of_row _ _ 1 _ _ _ XB2.out
            have y2 := cell_of_row _ _ 2 _ _ _ XB2.out
            have N : Hid (RetRepo l w (.returned (.tuple #[.agg #[.map (some bt), .map (some w1.heap.size), .map (some (w1.heap.size + 1))], .bool true])) (((wr.setCell ⟨w.heap.size, 0, none⟩ (.map (some bt))).setCell ⟨w.heap.size, 1, none⟩ (.map (some w1.heap.size))).setCell ⟨w.heap.size, 2, none⟩ (.map (some (w1.heap.size + 1))))) := hide (by
              have gs : ∀ (W : World) (o : Nat) (v : Value), W.grownBy (W.setCell ⟨w.heap.size, o, none⟩ v) (some w.heap.size) := fun W o v => ⟨rfl, rfl, rfl, by simp [World.setCell], fun k _ hk => Below.heap_setCell W ⟨w.heap.size, o, none⟩ v k (fun e => hk (by rw [e]))⟩
              have g3 := ((gs wr 0 (.map (some bt))).trans (gs _ 1 (.map (some w1.heap.size)))).trans (gs _ 2 (.map (some (w1.heap.size + 1))))
              have B9 := (B2.out.trans (P.out.mono B2.out.size))
              refine ⟨((B9.setCell (p := ⟨w.heap.size, 0, none⟩) (Nat.le_refl _) _).setCell (p := ⟨w.heap.size, 1, none⟩) (Nat.le_refl _) _).setCell (p := ⟨w.heap.size, 2, none⟩) (Nat.le_refl _) _, .inr ⟨Z.out, bt, w1.heap.size, w1.heap.size + 1, w1.heap.size + 3, vs, rfl, by omega, TL.out, by omega, by omega, Nat.le_trans hsz (Nat.le_trans P.out.size g3.size), ?_, ?_⟩⟩
              · rw [HN.out]
                exact (TMq.out.kept (Below.toGrown P.out none) (by simp)).kept g3 (fun e => by injection e with e; omega)
              · exact (RM.out.below P.out).low g3 (by omega) (by omega) (by omega))
            clear Z XR2 XB2
            go_wp2_with fail
            exact bodyPost_ret (v := .tuple #[.agg #[.map (some bt), .map (some w1.heap.size), .map (some (w1.heap.size + 1))], .bool true]) (by simp [results, Tryz.results25, go_sem, r0, r1, r2]) rfl N.out
          · intro x tt A5 m5 c5 s5 w5 cnt5 hmem hxs hlk hrg5 hlt5 hgr5 hsz5 hen
            obtain ⟨i, hi, hi', e1, e2, e3⟩ := mem_comsE.1 hmem
            obtain ⟨A6, c6, e4, o⟩ := (RM.out.va i hi hi').2 e3
            rw [e2] at e4
            simp only [Value.agg.injEq, Array.mk.injEq, List.cons.injEq, Value.string.injEq, Value.slice.injEq, and_true] at e4
            obtain ⟨et, ⟨eA, em, ec⟩, es⟩ := e4
            subst et eA ec es
            have hz := rd_size e3
            have P5 := hide (P.out.grown hgr5 P.out.size (fun j hj => by injection hj with hj; omega))
            have LF := hide (link_fine (l := l) e3)
            have DS := hide (fun h => doneLk_step RM.out.ris hi e1 DL.out h)
            have FI := hide (fun h => repoB_at (l := l) hi h)
            have O5 := hide (o.below P5.out)
            have RG5 := hide hrg5
            have hcnt : Hid (cnt5 < cnt) := hide hlt5
            clear hmem hlk hrg5 hgr5 e2 o hlt5 hsz5
            rw [e1] at LF
            subst em
            generalize (rdC l[i].2).1 = tr at *
            generalize (rdC l[i].2).2.2 = nt at *
            generalize (rdC l[i].2).2.1 = ps at *
            have bx := boxC_below w5 (.string tr) (.slice A5 ps.length c5) (.string nt)
            have P6 := hide (P5.out.trans (bx.mono P5.out.size))
            have XB2 := hide ((P6.out.block (w1.heap.size + 2) (by omega)).trans XB.out)
            have y0 := cell_of_row _ _ 0 _ _ _ XB2.out
            have y1 := cell_of_row _ _ 1 _ _ _ XB2.out
            have y2 := cell_of_row _ _ 2 _ _ _ XB2.out
            have LK := hide (linked_any bt w1.heap.size (w1.heap.size + 1) (w1.heap.size + 3) 60 l vs x tr nt A5 ps c5 _ (by unfold maxLen; omega) (fun p hp => by have := hz.2.2 p hp; unfold maxLen; omega) (by unfold maxLen; omega) ((O5.out.below bx).zin) (RM.out.below P6.out))
            have RG6 := hide (RG5.out.alloc (.cells #[.string tr, .slice A5 ps.length c5, .string nt] 30))
            clear bx RG5 O5 hz
            generalize ps.length = pn at *
            go_wp2_with fail
            refine LK.out.mono ?_
            rintro e w7 ⟨rfl, b7⟩
            have P7 := hide (P6.out.trans (b7.mono P6.out.size))
            have RG7 := hide (RG6.out.kept (Below.toGrown b7 none) (by simp) (by simp))
            clear b7 LK RG6 P6 P5 y0 y1 y2 XB2 hen
            cases hlb : linkB l x tr ps
            · have Z := hide (FI.out (fun h => by rw [LF.out.2 h] at hlb; cases hlb))
              have B7 := hide (B2.out.trans (P7.out.mono B2.out.size))
              have XR0 := hide ((P7.out.block w.heap.size (by omega)).trans XR.out)
              clear XR
              have XR := XR0
              have k0 := frozen_of_row _ _ 0 _ _ XR.out
              have k1 := frozen_of_row _ _ 1 _ _ XR.out
              have k2 := frozen_of_row _ _ 2 _ _ XR.out
              have r0 := cell_of_row _ _ 0 _ _ _ XR.out
              have r1 := cell_of_row _ _ 1 _ _ _ XR.out
              have r2 := cell_of_row _ _ 2 _ _ _ XR.out
              have N : Hid (RetRepo l w (.returned (.tuple #[.agg #[.map none, .map none, .map none], .bool false])) (((w7.setCell ⟨w.heap.size, 0, none⟩ (.map none)).setCell ⟨w.heap.size, 1, none⟩ (.map none)).setCell ⟨w.heap.size, 2, none⟩ (.map none))) := hide
                ⟨((B7.out.setCell (p := ⟨w.heap.size, 0, none⟩) (Nat.le_refl _) _).setCell (p := ⟨w.heap.size, 1, none⟩) (Nat.le_refl _) _).setCell (p := ⟨w.heap.size, 2, none⟩) (Nat.le_refl _) _, .inl ⟨Z.out, rfl⟩⟩
              clear DS FI LF hlb
              go_wp2_with fail
              exact bodyPost_ret (v := .tuple #[.agg #[.map none, .map none, .map none], .bool false]) (by simp [results, Tryz.results25, go_sem, r0, r1, r2]) rfl N.out
            · have D7 := hide (DS.out (LF.out.1 hlb))
              clear DS FI LF hlb
              go_wp2_with fail
              go_roundw
              case rel => exact ⟨_, cnt5, RG7, D7, P7⟩
              case measure => rw [RG7.out.left_eq, RG.out.left_eq]; exact hcnt.out

end Go.Proofs.YtdahpnjamlfakaaGreatDoor
