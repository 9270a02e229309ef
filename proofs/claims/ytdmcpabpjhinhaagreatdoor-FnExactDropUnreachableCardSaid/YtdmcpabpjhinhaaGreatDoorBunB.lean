/-
  Several texts in one: PutM, TargP, Set, Syms, Targ. Conditions: as each says.
-/
import Derived.Test.YtdmcpabpjhinhaaGreatDoorTmB
import Derived.Test.YtdmcpabpjhinhaaGreatDoorShiftP
import Derived.Shelf.SlIterI.Nil
import Derived.Shelf.SortM.Plain
import Derived.Shelf.SortM.SortNone
import Derived.Ground.GgzProg
import Derived.Ground.SlgmProg
import Derived.Maps.Own
import Derived.Maps.OwnOps
import Derived.Maps.OwnSet
import Derived.Test.YtdmcpabpjhinhaaGreatDoorOwn
import Derived.Test.YtdmcpabpjhinhaaGreatDoorTermsK
import Derived.Test.YtdmcpabpjhinhaaGreatDoorAppend
import Derived.Maps.AppendAt
import Derived.Test.YtdmcpabpjhinhaaGreatDoorBunA
import Derived.Deep.RegionWith

/-! Rising lists of numbers: a number put to its place, and the symbols of some terms. No conditions. -/
namespace Go.Proofs.YtdmcpabpjhinhaaGreatDoor

/-- Two rising lists with the same numbers are one. -/
theorem rise_unique : ∀ {l l' : List Int}, l.Pairwise (· < ·) → l'.Pairwise (· < ·) → (∀ x, x ∈ l ↔ x ∈ l') → l = l'
  | [], [], _, _, _ => rfl
  | [], b :: l', _, _, h => absurd ((h b).2 (by simp)) (by simp)
  | a :: l, [], _, _, h => absurd ((h a).1 (by simp)) (by simp)
  | a :: l, b :: l', h1, h2, h => by
    obtain ⟨a1, a2⟩ := List.pairwise_cons.1 h1
    obtain ⟨b1, b2⟩ := List.pairwise_cons.1 h2
    have hab : a = b := by
      rcases List.mem_cons.1 ((h a).1 (by simp)) with e | e
      · exact e
      · rcases List.mem_cons.1 ((h b).2 (by simp)) with e' | e'
        · exact e'.symm
        · have := a1 b e'; have := b1 a e; omega
    subst hab
    rw [rise_unique a2 b2 fun x => ⟨fun hx => ?_, fun hx => ?_⟩]
    · rcases List.mem_cons.1 ((h x).1 (by simp [hx])) with e | e
      · have := a1 x hx; omega
      · exact e
    · rcases List.mem_cons.1 ((h x).2 (by simp [hx])) with e | e
      · have := b1 x hx; omega
      · exact e

/-- What a number makes of the first k of a list: the list so far, and whether the number has been put. -/
def putTo (x : Int) (zs : List Int) : Nat → List Int × Bool
  | 0 => ([], false)
  | k + 1 => if (putTo x zs k).2 = false ∧ x ≤ zs.getD k 0 then ((if x < zs.getD k 0 then (putTo x zs k).1 ++ [x] else (putTo x zs k).1) ++ [zs.getD k 0], true) else ((putTo x zs k).1 ++ [zs.getD k 0], (putTo x zs k).2)
def putR (x : Int) (zs : List Int) : List Int := if (putTo x zs zs.length).2 = true then (putTo x zs zs.length).1 else (putTo x zs zs.length).1 ++ [x]
theorem putTo_stay {x y : Int} {zs o : List Int} {d : Bool} {k : Nat} (hy : zs[k]? = some y) (hp : putTo x zs k = (o, d)) (h : d = true ∨ y < x) : putTo x zs (k + 1) = (o ++ [y], d) := by
  have e : zs.getD k 0 = y := by rw [List.getD_eq_getElem?_getD, hy]; rfl
  rw [putTo, if_neg (by rw [hp, e]; rintro ⟨h1, h2⟩; rcases h with h | h; (simp at h1; rw [h] at h1; cases h1); omega), hp, e]
theorem putTo_same {x : Int} {zs o : List Int} {k : Nat} (hy : zs[k]? = some x) (hp : putTo x zs k = (o, false)) : putTo x zs (k + 1) = (o ++ [x], true) := by
  have e : zs.getD k 0 = x := by rw [List.getD_eq_getElem?_getD, hy]; rfl
  rw [putTo, if_pos (by rw [hp, e]; exact ⟨rfl, by omega⟩), hp, e, if_neg (by omega)]
theorem putTo_new {x y : Int} {zs o : List Int} {k : Nat} (hy : zs[k]? = some y) (hp : putTo x zs k = (o, false)) (h : x < y) : putTo x zs (k + 1) = (o ++ [x] ++ [y], true) := by
  have e : zs.getD k 0 = y := by rw [List.getD_eq_getElem?_getD, hy]; rfl
  rw [putTo, if_pos (by rw [hp, e]; exact ⟨rfl, by omega⟩), hp, e, if_pos h]
theorem putTo_ok {x : Int} {zs : List Int} (hz : zs.Pairwise (· < ·)) : ∀ k, k ≤ zs.length → ((putTo x zs k).1.Pairwise (· < ·)) ∧ (∀ y, y ∈ (putTo x zs k).1 ↔ y ∈ zs.take k ∨ ((putTo x zs k).2 = true ∧ y = x)) ∧
      ((putTo x zs k).2 = false → ∀ y ∈ zs.take k, y < x) ∧ ((putTo x zs k).2 = true → ∃ y ∈ zs.take k, x ≤ y)
  | 0, _ => ⟨by simp [putTo], by simp [putTo], by simp [putTo], by simp [putTo]⟩
  | k + 1, hk => by
    obtain ⟨i1, i2, i3, i4⟩ := putTo_ok (x := x) hz k (by omega)
    obtain ⟨y, hy⟩ : ∃ y, zs[k]? = some y := ⟨_, List.getElem?_eq_getElem (by omega)⟩
    have ht : zs.take (k + 1) = zs.take k ++ [y] := by rw [List.take_add_one, hy]; rfl
    have hlt : ∀ u ∈ zs.take k, u < y := fun u hu => by
      obtain ⟨j, hj, rfl⟩ := List.getElem_of_mem hu
      have hyk : zs[k]'(by omega) = y := by rw [List.getElem?_eq_getElem (by omega)] at hy; exact Option.some.inj hy
      rw [List.length_take] at hj
      have := List.pairwise_iff_getElem.1 hz j k (by omega) (by omega) (by omega)
      rw [List.getElem_take, ← hyk]; exact this
    obtain ⟨⟨o, d⟩, hp⟩ : ∃ p, putTo x zs k = p := ⟨_, rfl⟩
    rw [hp] at i1 i2 i3 i4
    simp only at i1 i2 i3 i4
    cases d with
    | true =>
      rw [putTo_stay hy hp (.inl rfl), ht]
      obtain ⟨u, hu, hxu⟩ := i4 rfl
      have hxy := hlt u hu
      refine ⟨List.pairwise_append.2 ⟨i1, by simp, fun a ha b hb => ?_⟩, fun v => ?_, by simp, fun _ => ⟨u, by simp [hu], hxu⟩⟩
      · simp at hb; subst hb
        rcases (i2 a).1 ha with h | ⟨_, rfl⟩
        · exact hlt a h
        · omega
      · simp only [List.mem_append, List.mem_singleton, i2 v]
        constructor
        · rintro ((h | h) | h)
          · exact .inl (.inl h)
          · exact .inr h
          · exact .inl (.inr h)
        · rintro ((h | h) | h)
          · exact .inl (.inl h)
          · exact .inr h
          · exact .inl (.inr h)
    | false =>
      have o2 : ∀ v, v ∈ o ↔ v ∈ zs.take k := fun v => by rw [i2 v]; simp
      rcases Int.lt_trichotomy x y with hxy | hxy | hxy
      · rw [putTo_new hy hp hxy, ht]
        refine ⟨List.pairwise_append.2 ⟨List.pairwise_append.2 ⟨i1, by simp, fun a ha b hb => ?_⟩, by simp, fun a ha b hb => ?_⟩, fun v => ?_, by simp, fun _ => ⟨y, by simp, by omega⟩⟩
        · simp at hb; subst hb; exact i3 rfl a ((o2 a).1 ha)
        · simp at hb; subst hb
          rcases List.mem_append.1 ha with h | h
          · exact hlt a ((o2 a).1 h)
          · simp at h; omega
        · simp only [List.mem_append, List.mem_singleton, o2 v]
          constructor
          · rintro ((h | h) | h)
            · exact .inl (.inl h)
            · exact .inr (by simp [h])
            · exact .inl (.inr h)
          · rintro ((h | h) | ⟨_, h⟩)
            · exact .inl (.inl h)
            · exact .inr h
            · exact .inl (.inr h)
      · subst hxy
        rw [putTo_same hy hp, ht]
        refine ⟨List.pairwise_append.2 ⟨i1, by simp, fun a ha b hb => ?_⟩, fun v => ?_, by simp, fun _ => ⟨x, by simp, by omega⟩⟩
        · simp at hb; subst hb; exact i3 rfl a ((o2 a).1 ha)
        · simp only [List.mem_append, List.mem_singleton, o2 v]
          constructor
          · rintro (h | h)
            · exact .inl (.inl h)
            · exact .inl (.inr h)
          · rintro ((h | h) | ⟨_, h⟩)
            · exact .inl h
            · exact .inr h
            · exact .inr h
      · rw [putTo_stay hy hp (.inr hxy), ht]
        refine ⟨List.pairwise_append.2 ⟨i1, by simp, fun a ha b hb => ?_⟩, fun v => ?_, fun _ u hu => ?_, by simp⟩
        · simp at hb; subst hb; exact hlt a ((o2 a).1 ha)
        · simp only [List.mem_append, List.mem_singleton, o2 v]
          simp
        · rcases List.mem_append.1 hu with h | h
          · exact i3 rfl u h
          · simp at h; omega
theorem putTo_len {x : Int} {zs : List Int} : ∀ k, (putTo x zs k).1.length ≤ 2 * k
  | 0 => by simp [putTo]
  | k + 1 => by
    have h := putTo_len (x := x) (zs := zs) k
    rw [putTo]
    split
    · split <;> simp <;> omega
    · simp; omega
/-- A number put to its place among rising ones. -/
theorem putR_ok {x : Int} {zs : List Int} (hz : zs.Pairwise (· < ·)) : (putR x zs).Pairwise (· < ·) ∧ ∀ y, y ∈ putR x zs ↔ y ∈ zs ∨ y = x := by
  obtain ⟨i1, i2, i3, _⟩ := putTo_ok (x := x) hz zs.length (Nat.le_refl _)
  rw [List.take_length] at i2 i3
  unfold putR
  cases hd : (putTo x zs zs.length).2 with
  | true =>
    rw [if_pos rfl]
    exact ⟨i1, fun y => by rw [i2 y, hd]; simp⟩
  | false =>
    rw [if_neg (by simp)]
    have o2 : ∀ v, v ∈ (putTo x zs zs.length).1 ↔ v ∈ zs := fun v => by rw [i2 v, hd]; simp
    exact ⟨List.pairwise_append.2 ⟨i1, by simp, fun a ha b hb => by simp at hb; subst hb; exact i3 hd a ((o2 a).1 ha)⟩, fun y => by simp [o2 y]⟩

theorem putTo_le {x : Int} {zs : List Int} : ∀ k, (putTo x zs k).1.length ≤ k + 1 ∧ ((putTo x zs k).2 = false → (putTo x zs k).1.length = k)
  | 0 => ⟨by simp [putTo], by simp [putTo]⟩
  | k + 1 => by
    obtain ⟨h1, h2⟩ := putTo_le (x := x) (zs := zs) k
    rw [putTo]
    split
    · rename_i h
      have h3 := h2 h.1
      constructor
      · split <;> simp <;> omega
      · intro h'; cases h'
    · rename_i h
      constructor
      · simp; omega
      · intro h'
        have h3 := h2 h'
        simp; omega
theorem putR_len (x : Int) (zs : List Int) : (putR x zs).length ≤ zs.length + 1 := by
  obtain ⟨h1, h2⟩ := putTo_le (x := x) (zs := zs) zs.length
  unfold putR
  split
  · exact h1
  · rename_i h
    have := h2 (by simpa using h)
    simp; omega
/-- Whether the first i terms, or the first k coefficients of the next one, have a symbol. -/
def hasS (ts : List (Int × List Int)) (i k : Nat) (s : Nat) : Bool := (ts.take i).any (fun t => t.2.getD s 0 != 0) || (decide (s < k) && (ts.getD i (0, [])).2.getD s 0 != 0)
/-- These symbols. -/
def symTo (ts : List (Int × List Int)) (i k : Nat) : List Int := ((List.range 10).filter (hasS ts i k)).map fun s => ((s : Nat) : Int)
theorem symTo_rise (ts : List (Int × List Int)) (i k : Nat) : (symTo ts i k).Pairwise (· < ·) := by
  refine List.pairwise_map.2 ((List.pairwise_lt_range (n := 10)).filter _ |>.imp fun h => by omega)
theorem symTo_mem (ts : List (Int × List Int)) (i k : Nat) (y : Int) : y ∈ symTo ts i k ↔ ∃ s : Nat, s < 10 ∧ y = s ∧ hasS ts i k s = true := by
  unfold symTo
  rw [List.mem_map]
  constructor
  · rintro ⟨s, hs, rfl⟩
    rw [List.mem_filter, List.mem_range] at hs
    exact ⟨s, hs.1, rfl, hs.2⟩
  · rintro ⟨s, h1, rfl, h2⟩
    exact ⟨s, by rw [List.mem_filter, List.mem_range]; exact ⟨h1, h2⟩, rfl⟩
theorem symTo_len (ts : List (Int × List Int)) (i k : Nat) : (symTo ts i k).length ≤ 10 := by
  unfold symTo
  rw [List.length_map]
  exact Nat.le_trans (List.length_filter_le _ _) (by simp)
theorem symTo_in (ts : List (Int × List Int)) (i k : Nat) : ∀ y ∈ symTo ts i k, 0 ≤ y ∧ y < 10 := fun y hy => by
  obtain ⟨s, h1, rfl, _⟩ := (symTo_mem ts i k y).1 hy
  omega
theorem symTo_zero (ts : List (Int × List Int)) : symTo ts 0 0 = [] := by
  refine List.eq_nil_iff_forall_not_mem.2 fun y hy => ?_
  obtain ⟨s, _, _, h⟩ := (symTo_mem ts 0 0 y).1 hy
  simp [hasS] at h
theorem hasS_skip {ts : List (Int × List Int)} {i k : Nat} {t : Int × List Int} (ht : ts[i]? = some t) (h0 : t.2[k]? = some 0) (s : Nat) : hasS ts i (k + 1) s = hasS ts i k s := by
  have e : ts.getD i (0, []) = t := by rw [List.getD_eq_getElem?_getD, ht]; rfl
  unfold hasS
  rw [e]
  by_cases hs : s = k
  · subst hs
    have e2 : t.2.getD s 0 = 0 := by rw [List.getD_eq_getElem?_getD, h0]; rfl
    rw [e2]; simp
  · have : decide (s < k + 1) = decide (s < k) := by rw [decide_eq_decide]; omega
    rw [this]
theorem symTo_skip {ts : List (Int × List Int)} {i k : Nat} {t : Int × List Int} (ht : ts[i]? = some t) (h0 : t.2[k]? = some 0) : symTo ts i (k + 1) = symTo ts i k := by
  unfold symTo
  rw [List.filter_congr (fun s _ => hasS_skip ht h0 s)]
theorem symTo_more {ts : List (Int × List Int)} {i k : Nat} {t : Int × List Int} {x : Int} (ht : ts[i]? = some t) (hx : t.2[k]? = some x) (h0 : x ≠ 0) (hk : k < 10) (y : Int) : y ∈ symTo ts i (k + 1) ↔ y ∈ symTo ts i k ∨ y = k := by
  have e : ts.getD i (0, []) = t := by rw [List.getD_eq_getElem?_getD, ht]; rfl
  have e2 : t.2.getD k 0 = x := by rw [List.getD_eq_getElem?_getD, hx]; rfl
  have hkk : hasS ts i (k + 1) k = true := by
    unfold hasS; rw [e, e2]; simp [h0]
  have hother : ∀ s, s ≠ k → hasS ts i (k + 1) s = hasS ts i k s := fun s hs => by
    unfold hasS
    have : decide (s < k + 1) = decide (s < k) := by rw [decide_eq_decide]; omega
    rw [this]
  rw [symTo_mem, symTo_mem]
  constructor
  · rintro ⟨s, h1, rfl, h2⟩
    by_cases hs : s = k
    · exact .inr (by rw [hs])
    · exact .inl ⟨s, h1, rfl, by rw [← hother s hs]; exact h2⟩
  · rintro (⟨s, h1, rfl, h2⟩ | rfl)
    · by_cases hs : s = k
      · subst hs; exact ⟨s, h1, rfl, hkk⟩
      · exact ⟨s, h1, rfl, by rw [hother s hs]; exact h2⟩
    · exact ⟨k, hk, rfl, hkk⟩
theorem symTo_put {ts : List (Int × List Int)} {i k : Nat} {t : Int × List Int} {x : Int} (ht : ts[i]? = some t) (hx : t.2[k]? = some x) (h0 : x ≠ 0) (hk : k < 10) : symTo ts i (k + 1) = putR (k : Int) (symTo ts i k) := by
  obtain ⟨h1, h2⟩ := putR_ok (x := (k : Int)) (symTo_rise ts i k)
  exact rise_unique (symTo_rise _ _ _) h1 fun y => by rw [symTo_more ht hx h0 hk, h2 y]
theorem symTo_next {ts : List (Int × List Int)} {i : Nat} {t : Int × List Int} (ht : ts[i]? = some t) : symTo ts i t.2.length = symTo ts (i + 1) 0 := by
  have e : ts.getD i (0, []) = t := by rw [List.getD_eq_getElem?_getD, ht]; rfl
  have et : ts.take (i + 1) = ts.take i ++ [t] := by rw [List.take_add_one, ht]; rfl
  unfold symTo
  rw [List.filter_congr (fun s _ => ?_)]
  unfold hasS
  rw [e, et, List.any_append]
  by_cases hs : s < t.2.length
  · simp [hs]
  · have h2 : t.2[s]?.getD 0 = 0 := by rw [List.getElem?_eq_none (by omega)]; rfl
    simp [h2]
/-- The symbols of some terms. -/
def symL (ts : List (Int × List Int)) : List Int := symTo ts ts.length 0
end Go.Proofs.YtdmcpabpjhinhaaGreatDoor

/-! The places behind an instruction: pure. No conditions. -/
namespace Go.Proofs.YtdmcpabpjhinhaaGreatDoor
set_option linter.unusedVariables false

def tgt1 (op a k : Int) : List Int := if op = 11 then [] else if op = 5 then [a] else if op = 6 then putR a [k + 1] else [k + 1]
theorem tgt1_halt (a k : Int) : tgt1 11 a k = [] := rfl
theorem tgt1_jump (a k : Int) : tgt1 5 a k = [a] := rfl
theorem tgt1_test (a k : Int) : tgt1 6 a k = putR a [k + 1] := rfl
theorem tgt1_else {op a k : Int} (h : op ≠ 11) (h5 : op ≠ 5) (h6 : op ≠ 6) : tgt1 op a k = [k + 1] := by unfold tgt1; rw [if_neg h, if_neg h5, if_neg h6]
theorem putR_one (x y : Int) : putR x [y] = if x < y then [x, y] else if x = y then [y] else [y, x] := by
  unfold putR putTo putTo
  simp only [List.length_cons, List.length_nil, List.getD_cons_zero]
  by_cases h : x < y
  · have h1 : x ≤ y := by omega
    simp [h, h1]
  · by_cases e : x = y
    · subst e; simp
    · have h1 : ¬ x ≤ y := by omega
      simp [h, e, h1]
theorem putR_one_mem (x y z : Int) : z ∈ putR x [y] ↔ z = y ∨ z = x := by
  rw [putR_one]
  split
  · simp [or_comm]
  · split
    · rename_i h e; subst e; simp
    · simp
theorem putR_one_rise (x y : Int) : (putR x [y]).Pairwise (· < ·) := by
  rw [putR_one]
  split
  · rename_i h; simp [h]
  · split
    · simp
    · simp; omega
theorem tgt1_len (op a k : Int) : (tgt1 op a k).length ≤ 2 := by
  unfold tgt1
  split
  · simp
  · split
    · simp
    · split
      · rw [putR_one]; split
        · simp
        · split <;> simp
      · simp
def tgtR (xs : List (Int × Int)) (k : Int) : List Int × Bool := if codeB xs = true ∧ (0 ≤ k ∧ k ≤ (xs.length : Int) - 1) then (tgt1 (xs.getD k.toNat (0, 0)).1 (xs.getD k.toNat (0, 0)).2 k, true) else ([], false)
theorem tgtR_no1 {xs : List (Int × Int)} {k : Int} (h : codeB xs = false) : tgtR xs k = ([], false) := if_neg (by rw [h]; simp)
theorem tgtR_no2 {xs : List (Int × Int)} {k : Int} (h : ¬ (0 ≤ k ∧ k ≤ (xs.length : Int) - 1)) : tgtR xs k = ([], false) := if_neg (fun e => h e.2)
theorem tgtR_yes {xs : List (Int × Int)} {k : Nat} {x : Int × Int} (h : codeB xs = true) (hx : xs[k]? = some x) : tgtR xs (k : Int) = (tgt1 x.1 x.2 k, true) := by
  have hl := (List.getElem?_eq_some_iff.1 hx).1
  unfold tgtR
  rw [if_pos ⟨h, by omega, by omega⟩, Int.toNat_natCast, List.getD_eq_getElem?_getD, hx]
  rfl
theorem tgtR_len (xs : List (Int × Int)) (k : Int) : (tgtR xs k).1.length ≤ 2 := by
  unfold tgtR
  split
  · exact tgt1_len _ _ _
  · simp
end Go.Proofs.YtdmcpabpjhinhaaGreatDoor

/-! A set of numbers that is kept in a map: what its increasing list is. Conditions: at most 100000 numbers. -/
namespace Go.Proofs.YtdmcpabpjhinhaaGreatDoor
open Go.RowKit Go.Maps Go.Sort Go.Shelf

shelf_lay_g SlLaysZI.n7 Ggz 7 at Tryz 163 as Tryz.keysA
shelf_lay_g SlLaysZI.n6 Ggz 6 at Tryz 162 as Tryz.sortedA
shelf_lay_g SlLaysM.n5 Slgm 5 at Tryz 179 as Tryz.sortA

theorem sortsA (m : Nat) : AnyZI.SortsIn Tryz.prog Tryz.sortedA_ren Fence.wide m :=
  ⟨fun blk off cap ss W hH hblk hsz => callsIn_wide.2 (AnyM.slices_Sort_int Tryz.sortA blk off cap ss W hH hblk hsz),
   fun p cap W => callsIn_wide.2 (AnyM.slices_Sort_int_none Tryz.sortA p cap W)⟩
theorem sorted_is {ss L : List Int} (h : ss.Perm L) (hL : L.Pairwise (· < ·)) : ss.mergeSort (fun x y => decide (x ≤ y)) = L := by
  have h1 := mergeSort_of_perm_i h
  refine (show ss.mergeSort leI = L from h1.trans ?_)
  exact List.mergeSort_of_pairwise (hL.imp fun h => by simp only [decide_eq_true_eq]; omega)

set_option maxRecDepth 100000 in
set_option maxHeartbeats 1000000 in
theorem increasing_c (b nn : Nat) (D : DataW Unit) (L : List Int) (w : World) (hown : w.ownsMap Tryz.prog 2 (plainElem Tryz.prog 4) b nn D) (hn : nn ≤ 100000) (hL : L.Pairwise (· < ·)) (hm : ∀ x, x ∈ L ↔ has D (.int .i64 x) = true) :
    Calls Tryz.prog 143 #[.map (some b)] w fun e w' => ∃ v, e = .returned v ∧ w'.ownsRow w.heap.size 2 1 v L.length (L.map ic) ∧ Below w.heap.size w w' := by
  have hmax : Maps.size D ≤ maxLen := by have := hown.size_le; unfold maxLen; omega
  have hbytes : Maps.size D * 8 ≤ 140737488355328 := by have := hown.size_le; omega
  have hperm : L.Perm (intKeys D) := CollectedI.perm (left := fun _ => false) ⟨hL.imp (fun h => by omega), fun x => by rw [hm x]; simp⟩ hown (Maps.int_keyed Tryz.underlying2) Tryz.underlying2 (fun _ => rfl)
  have HP := Lib.hid hperm
  clear hm hperm
  refine (callsIn_wide (n := 6)).1 ?_
  have hbl := hown.lt
  have hseq : SeqGives Fence.wide 2 Tryz.prog 180 #[.pointer (some ⟨w.heap.size, 0, none⟩)] encZ (fun ss => ss.Perm (intKeys D)) (Maps.size D) (w.alloc (.cells #[.map (some b)] 177)) :=
    AnyZI.keys_gives (ρ := Tryz.keysA_ren) { Tryz.keysA with } Fence.wide _ trivial rfl (by omega) w.heap.size b nn D _ (by simp) (by simp) (by
      obtain ⟨es, clock, hb, Ft, hs, hD⟩ := hown
      exact ⟨es, clock, (Below.heap_alloc _ _ b hbl).trans hb, Ft, hs, hD⟩)
  have cK : ∀ mb W, CallsIn Fence.wide 5 Tryz.prog 163 #[.map mb] W fun e w' => e = .returned (.func (.func 180) #[] #[.pointer (some ⟨W.heap.size, 0, none⟩)]) ∧ w' = W.alloc (.cells #[.map mb] 177) := fun mb W => AnyZI.keys_in Tryz.keysA Fence.wide 5 trivial rfl mb W
  have cS := AnyZI.sorted_in Tryz.sortedA Fence.wide 5 trivial trivial trivial trivial rfl (by omega) (sortsA _) (enters_of Tryz.func179 (by kernel_rfl) rfl) 180 #[.pointer (some ⟨w.heap.size, 0, none⟩)] trivial (enters_of Tryz.func180 (by kernel_rfl) rfl) _ _ hmax hbytes _ hseq
  change CallsIn _ _ Tryz.prog 162 _ _ _ at cS
  have hfK : Fence.wide.fn 163 := trivial
  have hfS : Fence.wide.fn 162 := trivial
  have HL := Lib.hid hL
  clear hL hown hbl hseq
  refine callsIn_of_wp Tryz.func143 rfl trivial ?_ rfl
  simp only [Tryz.ntmps143, List.size_toArray, List.length_cons, List.length_nil, Nat.reduceAdd, Nat.reduceSub, Array.replicate_succ, Array.replicate_zero, List.push_toArray, List.append_toArray, List.nil_append, List.cons_append]
  gi_wp2_with (first
    | (gi_at_call 163; refine (cK _ _).mono ?_; rintro e w' ⟨rfl, rfl⟩)
    | (gi_at_call 162; refine cS.mono ?_; rintro e w' ⟨v, ss, rfl, hS, hrow, hnil, hb⟩))
  go_ret
  have hls := sorted_is (hS.trans HP.out.symm) HL.out
  have hll : ss.length = L.length := by rw [← hls, List.length_mergeSort]
  rw [hls, hll] at hrow
  exact ⟨v, rfl, ownsRow_base_a hrow (by simp), ((Below.refl _ w).alloc (Nat.le_refl _) _).trans (hb.mono (by simp))⟩
end Go.Proofs.YtdmcpabpjhinhaaGreatDoor

/-! The symbols of some terms: what the model and the program give. Conditions: at most 2^20 terms and coefficients. -/
namespace Go.Proofs.YtdmcpabpjhinhaaGreatDoor
set_option linter.unusedVariables false
open Go.RowKit

theorem row_snoc {w : World} {base n : Nat} {v : Value} {l : List Int} {y : Int} (h : w.ownsRow base 2 1 v (n + 1) (l.map ic ++ [.int .i64 y])) (hn : l.length = n) : w.ownsRow base 2 1 v (l ++ [y]).length ((l ++ [y]).map ic) := by
  subst hn
  simpa [ic] using h
theorem one_one (y : Int) : ∀ u ∈ [Value.int .i64 y], u.oneCell' = true := by intro u hu; simp at hu; subst hu; rfl
theorem row_new (w : World) : (w.alloc (.cells #[] 2)).ownsRow w.heap.size 2 1 (.slice (some ⟨w.heap.size, 0, none⟩) 0 0) ([] : List Int).length (([] : List Int).map ic) := own_empty w _

set_option maxRecDepth 100000 in
set_option maxHeartbeats 2000000 in
theorem l00Put_c (A : Option Addr) (n c B : Nat) (zs : List Int) (x : Int) (w : World) (h : InL w B A n zs) (hB : B ≤ w.heap.size) (hn : n ≤ 100000) :
    Calls Tryz.prog 116 #[.slice A n c, .int .i64 x] w fun e w' => ∃ v, e = .returned v ∧ w'.ownsRow w.heap.size 2 1 v (putR x zs).length ((putR x zs).map ic) ∧ Below w.heap.size w w' := by
  obtain ⟨i0, hi, hz0, hz1, hz2⟩ := info_parts info64
  have hlen := Lib.hid h.1
  go_enter Tryz.func116, Tryz.ntmps116
  go_wp2_with fail
  go_loopw [5, 6, 7] (fun v d i wr => ∃ (k : Nat) (o : List Int) (b : Bool), k ≤ n ∧ i = .int .i64 k ∧ d = .bool b ∧ Hid (putTo x zs k = (o, b)) ∧ o.length ≤ 2 * k ∧ wr.ownsRow w.heap.size 2 1 v o.length (o.map ic) ∧ Below w.heap.size w wr) (fun _ _ i _ => n - (intOf i).toNat)
  case atStart => exact ⟨0, [], false, Nat.zero_le _, rfl, rfl, rfl, by simp, row_new w, (Below.refl _ _).alloc (Nat.le_refl _) _⟩
  case round =>
    obtain ⟨k, o, b, hk, rfl, rfl, HP, hol, hown, hbel⟩ := hrel
    have hsz := hbel.size
    by_cases hlt : k < n
    · obtain ⟨bb, off, y, rfl, hbb, hy, hc⟩ := (h.next hbel hB).2.int_at (k := k) (by have := hlen.out; omega)
      cases b with
      | true =>
        have HS := Lib.hid (putTo_stay hy HP.out (.inl rfl))
        clear hy HP
        go_wp2_with (at_builtin; refine wpList_append_own _ rfl (.tmp 35) (.tmp 40) 74 rfl w.heap.size 2 i0 (.int .i64 0) 1 8 Tryz.underlying74 hi hz0 hz1 hz2 rfl (by decide) _ _ _ rfl (hown.alloc _) ⟨wr.heap.size, 0, none⟩ 1 1 [.int .i64 y] rfl rfl (cell_one_new _ _ _) (one_one y) (by unfold maxLen; omega) (by omega) (by simp; omega) ?_; intro v1 w1 hown1 hgrow1 _)
        have hb1 : Below w.heap.size w w1 := (hbel.alloc hsz _).grown hgrow1 (by simp; omega) (fun j hj => (hown.lt j hj).1)
        have hr1 := row_snoc hown1 rfl
        clear hown1 hgrow1 hown
        go_wp2_with fail
        go_roundw
        case rel => exact ⟨k + 1, _, true, by omega, by go_num, rfl, HS, by simp; omega, hr1, hb1⟩
        case measure => simp [intOf]; omega
      | false =>
        by_cases hxy : y < x
        · have hge : ¬ x ≤ y := by omega
          have HS := Lib.hid (putTo_stay hy HP.out (.inr hxy))
          clear hy HP
          go_wp2_with (at_builtin; refine wpList_append_own _ rfl (.tmp 35) (.tmp 40) 74 rfl w.heap.size 2 i0 (.int .i64 0) 1 8 Tryz.underlying74 hi hz0 hz1 hz2 rfl (by decide) _ _ _ rfl (hown.alloc _) ⟨wr.heap.size, 0, none⟩ 1 1 [.int .i64 y] rfl rfl (cell_one_new _ _ _) (one_one y) (by unfold maxLen; omega) (by omega) (by simp; omega) ?_; intro v1 w1 hown1 hgrow1 _)
          have hb1 : Below w.heap.size w w1 := (hbel.alloc hsz _).grown hgrow1 (by simp; omega) (fun j hj => (hown.lt j hj).1)
          have hr1 := row_snoc hown1 rfl
          clear hown1 hgrow1 hown
          go_wp2_with fail
          go_roundw
          case rel => exact ⟨k + 1, _, false, by omega, by go_num, rfl, HS, by simp; omega, hr1, hb1⟩
          case measure => simp [intOf]; omega
        · have hge : x ≤ y := by omega
          by_cases hxe : x < y
          · have HS := Lib.hid (putTo_new hy HP.out hxe)
            clear hy HP
            go_wp2_with (at_builtin; refine wpList_append_own _ rfl (.tmp 31) (.tmp 33) 74 rfl w.heap.size 2 i0 (.int .i64 0) 1 8 Tryz.underlying74 hi hz0 hz1 hz2 rfl (by decide) _ _ _ rfl (hown.alloc _) ⟨wr.heap.size, 0, none⟩ 1 1 [.int .i64 x] rfl rfl (cell_one_new _ _ _) ?c2 (by unfold maxLen; omega) (by omega) (by simp; omega) ?_)
            case c2 => rfl
            intro v1 w1 hown1 hgrow1 _
            have hb1 : Below w.heap.size w w1 := (hbel.alloc hsz _).grown hgrow1 (by simp; omega) (fun j hj => (hown.lt j hj).1)
            have hc1 : w1.cell? ⟨bb, off + k, none⟩ = some (.int .i64 y) := by
              have h1 := cell_next hc (bnew wr (.cells #[.int .i64 x] 2))
              exact (World.cell?_of_block (a := ⟨bb, off + k, none⟩) (hgrow1.block bb (Nat.lt_of_lt_of_le (by omega) (bnew wr (.cells #[.int .i64 x] 2)).size) (fun e' => by have := (hown.lt _ e'.symm).1; omega))).trans h1
            have hr1 := row_snoc hown1 rfl
            have hsz1 := hb1.size
            have hol1 : (o ++ [x]).length ≤ 2 * k + 1 := by simp; omega
            clear hown1 hgrow1 hown
            generalize o ++ [x] = o1 at hr1 HS hol1
            go_wp2_with (at_builtin; refine wpList_append_own _ rfl (.tmp 35) (.tmp 40) 74 rfl w.heap.size 2 i0 (.int .i64 0) 1 8 Tryz.underlying74 hi hz0 hz1 hz2 rfl (by decide) _ _ _ rfl (hr1.alloc _) ⟨w1.heap.size, 0, none⟩ 1 1 [.int .i64 y] rfl rfl (cell_one_new _ _ _) (one_one y) (by unfold maxLen; omega) (by omega) (by simp; omega) ?_; intro v2 w2 hown2 hgrow2 _)
            have hb2 : Below w.heap.size w w2 := (hb1.alloc hsz1 _).grown hgrow2 (by simp; omega) (fun j hj => (hr1.lt j hj).1)
            have hr2 := row_snoc hown2 rfl
            clear hown2 hgrow2 hr1
            go_wp2_with fail
            go_roundw
            case rel => exact ⟨k + 1, _, true, by omega, by go_num, rfl, HS, by simp; omega, hr2, hb2⟩
            case measure => simp [intOf]; omega
          · obtain rfl : y = x := by omega
            have HS := Lib.hid (putTo_same hy HP.out)
            clear hy HP
            go_wp2_with (at_builtin; refine wpList_append_own _ rfl (.tmp 35) (.tmp 40) 74 rfl w.heap.size 2 i0 (.int .i64 0) 1 8 Tryz.underlying74 hi hz0 hz1 hz2 rfl (by decide) _ _ _ rfl (hown.alloc _) ⟨wr.heap.size, 0, none⟩ 1 1 [.int .i64 y] rfl rfl (cell_one_new _ _ _) (one_one y) (by unfold maxLen; omega) (by omega) (by simp; omega) ?_; intro v1 w1 hown1 hgrow1 _)
            have hb1 : Below w.heap.size w w1 := (hbel.alloc hsz _).grown hgrow1 (by simp; omega) (fun j hj => (hown.lt j hj).1)
            have hr1 := row_snoc hown1 rfl
            clear hown1 hgrow1 hown
            go_wp2_with fail
            go_roundw
            case rel => exact ⟨k + 1, _, true, by omega, by go_num, rfl, HS, by simp; omega, hr1, hb1⟩
            case measure => simp [intOf]; omega
    · have e : k = n := by omega
      subst e
      cases b with
      | true =>
        have HR : Hid (putR x zs = o) := by show _ = _; unfold putR; rw [hlen.out, HP.out]; rfl
        clear HP
        go_wp2_with fail
        go_ret
        rw [HR.out]
        exact ⟨_, rfl, hown, hbel⟩
      | false =>
        have HR : Hid (putR x zs = o ++ [x]) := by show _ = _; unfold putR; rw [hlen.out, HP.out]; rfl
        clear HP
        go_wp2_with (at_builtin; refine wpList_append_own _ rfl (.tmp 44) (.tmp 46) 74 rfl w.heap.size 2 i0 (.int .i64 0) 1 8 Tryz.underlying74 hi hz0 hz1 hz2 rfl (by decide) _ _ _ rfl (hown.alloc _) ⟨wr.heap.size, 0, none⟩ 1 1 [.int .i64 x] rfl rfl (cell_one_new _ _ _) (one_one x) (by unfold maxLen; omega) (by omega) (by simp; omega) ?_; intro v1 w1 hown1 hgrow1 _)
        have hb1 : Below w.heap.size w w1 := (hbel.alloc hsz _).grown hgrow1 (by simp; omega) (fun j hj => (hown.lt j hj).1)
        have hr1 := row_snoc hown1 rfl
        clear hown1 hgrow1 hown
        go_wp2_with fail
        go_ret
        rw [HR.out]
        exact ⟨_, rfl, hr1, hb1⟩

def symsR (ts : List (Int × List Int)) : List Int × Bool := if allT 14 ts = true then (symL ts, true) else ([], false)
theorem symsR_yes {ts : List (Int × List Int)} (h : allT 14 ts = true) : symsR ts = (symL ts, true) := if_pos h
theorem symsR_no {ts : List (Int × List Int)} (h : allT 14 ts = false) : symsR ts = ([], false) := if_neg (by rw [h]; simp)
theorem symsR_len (ts : List (Int × List Int)) : (symsR ts).1.length ≤ 10 := by
  unfold symsR
  split
  · exact symTo_len _ _ _
  · simp

/-- Block b is a map of at most n keys that has just the numbers of a list. -/
def SetF (w : World) (b n : Nat) (L : List Int) : Prop :=
  ∃ D : DataW Unit, w.ownsMap Tryz.prog 2 (plainElem Tryz.prog 4) b n D ∧ ∀ y, y ∈ L ↔ Maps.has D (.int .i64 y) = true
theorem keyedS : Maps.Keyed Tryz.prog 2 := Maps.int_keyed Tryz.underlying2
theorem setF_made (w : World) : SetF (w.alloc (.map #[] 0)) w.heap.size 0 [] := ⟨.map [], World.ownsMap_made _ _ _ _, fun y => by simp [Maps.has_eq]⟩
theorem SetF.lt {w : World} {b n : Nat} {L : List Int} (h : SetF w b n L) : b < w.heap.size := by obtain ⟨D, h1, _⟩ := h; exact h1.lt
theorem SetF.next {w w' : World} {b n : Nat} {L : List Int} (h : SetF w b n L) {B : Nat} (hb : Below B w w') (hB : b < B) : SetF w' b n L := by
  obtain ⟨D, h1, h2⟩ := h
  refine ⟨D, ?_, h2⟩
  obtain ⟨es, clock, h3, h4⟩ := h1
  exact ⟨es, clock, (hb.block b hB).trans h3, h4⟩
theorem SetF.same {w : World} {b n : Nat} {L L' : List Int} (h : SetF w b n L) (e : ∀ y, y ∈ L' ↔ y ∈ L) : SetF w b n L' := by
  obtain ⟨D, h1, h2⟩ := h
  exact ⟨D, h1, fun y => (e y).trans (h2 y)⟩
theorem SetF.mono {w : World} {b n n' : Nat} {L : List Int} (h : SetF w b n L) (hn : n ≤ n') : SetF w b n' L := by obtain ⟨D, h1, h2⟩ := h; exact ⟨D, h1.mono hn, h2⟩
theorem setF_put {w : World} {D : DataW Unit} {b n : Nat} {L L' : List Int} {x : Int} (h2 : ∀ y, y ∈ L ↔ Maps.has D (.int .i64 y) = true) (hD : Maps.IsMap D) (h3 : w.ownsMap Tryz.prog 2 (plainElem Tryz.prog 4) b n (D.put (.int .i64 x) (.lit (.bool true))))
    (e : ∀ y, y ∈ L' ↔ y ∈ L ∨ y = x) : SetF w b n L' := by
  refine ⟨_, h3, fun y => ?_⟩
  rw [e y]
  by_cases hy : y = x
  · subst hy
    rw [Maps.has_put_same (k := .int .i64 y) hD trivial]; simp
  · rw [Maps.has_put_other (fun h => hy (by injection h)), ← h2 y]; simp [hy]

end Go.Proofs.YtdmcpabpjhinhaaGreatDoor

/-! The places behind an instruction: the model's and the program's. Conditions: at most 2^20 instructions. -/
namespace Go.Proofs.YtdmcpabpjhinhaaGreatDoor
set_option linter.unusedVariables false
open Go.RowKit

theorem own_one (w : World) (x : Int) : (w.alloc (.cells #[.int .i64 x] 2)).ownsRow w.heap.size 2 1 (.slice (some ⟨w.heap.size, 0, none⟩) 1 1) 1 ([x].map ic) :=
  ⟨rfl, .inr ⟨w.heap.size, 1, #[.int .i64 x], rfl, Nat.le_refl _, heap_alloc_new w _, Nat.le_refl _, by unfold maxLen; omega, rfl, rfl⟩⟩
theorem ownL_one (w : World) (x : Int) : OwnL (w.alloc (.cells #[.int .i64 x] 2)) w.heap.size (w.alloc (.cells #[.int .i64 x] 2)).heap.size (some ⟨w.heap.size, 0, none⟩) 1 1 [x] := OwnL.of_own (own_one w x)
theorem ownL_none (w : World) : OwnL (w.alloc (.cells #[] 2)) w.heap.size (w.alloc (.cells #[] 2)).heap.size (some ⟨w.heap.size, 0, none⟩) 0 0 [] := OwnL.of_own (row_new w)
theorem ownL_nil (w : World) : OwnL w w.heap.size w.heap.size none 0 0 [] := ⟨rfl, World.ownsRow_nil _ _ _ _, (fun j hj => by cases hj), Nat.le_refl _⟩

theorem has_put {D : DataW Unit} (hD : Maps.IsMap D) (x y : Int) (d : DataW Unit) : Maps.has (D.put (.int .i64 x) d) (.int .i64 y) = true ↔ Maps.has D (.int .i64 y) = true ∨ y = x := by
  by_cases hy : y = x
  · subst hy
    rw [Maps.has_put_same (k := .int .i64 y) hD trivial]; simp
  · rw [Maps.has_put_other (fun h => hy (by injection h))]; simp [hy]
theorem has_two (u v y : Int) (d d' : DataW Unit) : y ∈ putR v [u] ↔ Maps.has (((.map [] : DataW Unit).put (.int .i64 u) d).put (.int .i64 v) d') (.int .i64 y) = true := by
  rw [putR_one_mem, has_put (Maps.isMap_empty.put _ _), has_put Maps.isMap_empty]
  have e : Maps.has (.map [] : DataW Unit) (.int .i64 y) = false := by simp [Maps.has_eq]
  rw [e]; simp
theorem has_two' (u v y : Int) (d d' : DataW Unit) : y ∈ putR v [u] ↔ Maps.has (((.map [] : DataW Unit).put (.int .i64 v) d).put (.int .i64 u) d') (.int .i64 y) = true := by
  rw [putR_one_mem, has_put (Maps.isMap_empty.put _ _), has_put Maps.isMap_empty]
  have e : Maps.has (.map [] : DataW Unit) (.int .i64 y) = false := by simp [Maps.has_eq]
  rw [e]; simp [or_comm]

set_option maxRecDepth 100000 in
set_option maxHeartbeats 4000000 in
theorem l07Targets_c (A : Option Addr) (n c B : Nat) (xs : List (Int × Int)) (k : Nat) (x : Int × Int) (w : World) (h : InC w B A n xs) (hB : B ≤ w.heap.size) (hx : xs[k]? = some x) (hk : k ≤ 1000) :
    Calls Tryz.prog 74 #[.slice A n c, .int .i64 k] w fun e w' => ∃ A' c', e = .returned (.slice A' (tgt1 x.1 x.2 k).length c') ∧ OwnL w' w.heap.size w'.heap.size A' (tgt1 x.1 x.2 k).length c' (tgt1 x.1 x.2 k) ∧ Below w.heap.size w w' := by
  have hkn : k < n := by have := (List.getElem?_eq_some_iff.1 hx).1; have := h.1; omega
  obtain ⟨b, off, y, rfl, hb, hy, q0, q1⟩ := h.at_ hkn
  obtain rfl : x = y := by rw [hx] at hy; exact Option.some.inj hy
  obtain ⟨op, a⟩ := x
  show Calls _ _ _ _ fun e w' => ∃ A' c', e = .returned (.slice A' (tgt1 op a k).length c') ∧ OwnL w' w.heap.size w'.heap.size A' (tgt1 op a k).length c' (tgt1 op a k) ∧ Below w.heap.size w w'
  have q0' : w.cell? ⟨b, off + k * 2, none⟩ = some (.int .i64 op) := q0
  have q1' : w.cell? ⟨b, off + k * 2 + 1, none⟩ = some (.int .i64 a) := q1
  have hbl : b < w.heap.size := by omega
  clear q0 q1 hx hy h
  by_cases h11 : op = 11
  · subst h11
    rw [tgt1_halt]
    go_enter Tryz.func74, Tryz.ntmps74
    go_wp2_with fail
    go_ret
    exact ⟨_, 0, rfl, ownL_none w, bnew _ _⟩
  · have e11 : (op == 11) = false := by simp [h11]
    by_cases h5 : op = 5
    · subst h5
      rw [tgt1_jump]
      go_enter Tryz.func74, Tryz.ntmps74
      go_wp2_with fail
      go_ret
      exact ⟨_, 1, rfl, ownL_one w a, bnew _ _⟩
    · have e5 : (op == 5) = false := by simp [h5]
      by_cases h6 : op = 6
      · subst h6
        rw [tgt1_test]
        have hb0 := bnew w (.cells #[.int .i64 ((k : Int) + 1)] 2)
        have r1 : (w.alloc (.cells #[.int .i64 ((k : Int) + 1)] 2)).cell? ⟨b, off + k * 2 + 1, none⟩ = some (.int .i64 a) := cell_next q1' hb0
        have HP := Lib.hid (l00Put_c _ 1 1 (w.alloc (.cells #[.int .i64 ((k : Int) + 1)] 2)).heap.size [(k : Int) + 1] a _ (ownL_one w ((k : Int) + 1)).all (Nat.le_refl _) (by omega))
        go_enter Tryz.func74, Tryz.ntmps74
        go_wp2_with fail
        generalize w.alloc (.cells #[.int .i64 ((k : Int) + 1)] 2) = W at hb0 r1 HP ⊢
        refine HP.out.mono ?_
        rintro e w1 ⟨v, rfl, hown, hb1⟩
        obtain ⟨A1, c1, rfl, _⟩ := own_slice hown
        have HO := Lib.hid (OwnL.of_own (own_less hown hb0.size))
        clear hown
        go_wp2_with fail
        go_ret
        exact ⟨A1, c1, rfl, HO.out, bon hb0 hb1⟩
      · have e6 : (op == 6) = false := by simp [h6]
        rw [tgt1_else h11 h5 h6]
        clear h11 h5 h6
        go_enter Tryz.func74, Tryz.ntmps74
        go_wp2_with fail
        go_ret
        exact ⟨_, 1, rfl, ownL_one w _, bnew _ _⟩

set_option maxRecDepth 100000 in
set_option maxHeartbeats 4000000 in
theorem targetsOf_c (A : Option Addr) (n c B : Nat) (xs : List (Int × Int)) (k : Nat) (x : Int × Int) (w : World) (h : InC w B A n xs) (hB : B ≤ w.heap.size) (hx : xs[k]? = some x) (hk : k ≤ 1000) (hv : instrB x.1 x.2 = true) :
    Calls Tryz.prog 124 #[.slice A n c, .int .i64 k] w fun e w' => ∃ A' c', e = .returned (.slice A' (tgt1 x.1 x.2 k).length c') ∧ OwnL w' w.heap.size w'.heap.size A' (tgt1 x.1 x.2 k).length c' (tgt1 x.1 x.2 k) ∧ Below w.heap.size w w' := by
  have hkn : k < n := by have := (List.getElem?_eq_some_iff.1 hx).1; have := h.1; omega
  obtain ⟨b, off, y, rfl, hb, hy, q0, q1⟩ := h.at_ hkn
  obtain rfl : x = y := by rw [hx] at hy; exact Option.some.inj hy
  obtain ⟨op, a⟩ := x
  have ha : -1000000 ≤ a ∧ a ≤ 1000000 := instrB_arg hv
  show Calls _ _ _ _ fun e w' => ∃ A' c', e = .returned (.slice A' (tgt1 op a k).length c') ∧ OwnL w' w.heap.size w'.heap.size A' (tgt1 op a k).length c' (tgt1 op a k) ∧ Below w.heap.size w w'
  have q0' : w.cell? ⟨b, off + k * 2, none⟩ = some (.int .i64 op) := q0
  have q1' : w.cell? ⟨b, off + k * 2 + 1, none⟩ = some (.int .i64 a) := q1
  have hbl : b < w.heap.size := by omega
  have hb0 := bnew w (.cells #[.int .i64 op, .int .i64 a] 65)
  have hX : BlkIs (w.alloc (.cells #[.int .i64 op, .int .i64 a] 65)) w.heap.size 65 #[.int .i64 op, .int .i64 a] := blk_new _ _ _ _ rfl
  clear q0 q1 hx hy h hv
  by_cases h11 : op = 11
  · subst h11
    rw [tgt1_halt]
    go_enter Tryz.func124, Tryz.ntmps124
    go_wp2_with fail
    go_ret
    exact ⟨none, 0, rfl, (ownL_nil _).less hb0.size, hb0⟩
  · have e11 : (op == 11) = false := by simp [h11]
    by_cases h5 : op = 5
    · subst h5
      rw [tgt1_jump]
      have hsz : (w.alloc (.cells #[.int .i64 5, .int .i64 a] 65)).heap.size = w.heap.size + 1 := by simp
      have hone := (ownL_one (w.alloc (.cells #[.int .i64 5, .int .i64 a] 65)) a).less hb0.size
      rw [hsz] at hone
      go_enter Tryz.func124, Tryz.ntmps124
      go_wp2_with fail
      go_ret
      exact ⟨_, 1, rfl, hone, bon hb0 (bnew _ _)⟩
    · have e5 : (op == 5) = false := by simp [h5]
      by_cases h6 : op = 6
      · subst h6
        rw [tgt1_test]
        have hmm := @run_makeMap Tryz.prog
        have x1 : (w.alloc (.cells #[.int .i64 6, .int .i64 a] 65)).cell? ⟨w.heap.size, 1, none⟩ = some (.int .i64 a) := hX.cell 1
        go_enter Tryz.func124, Tryz.ntmps124
        go_wp2_with fail
        generalize w.alloc (.cells #[.int .i64 6, .int .i64 a] 65) = W at hb0 hX x1 ⊢
        have hown0 : ((W.alloc (.map #[] 0)).drew).ownsMap Tryz.prog 2 (plainElem (H := Unit) Tryz.prog 4) W.heap.size 0 (.map []) := World.ownsMap_made (H := Unit) W Tryz.prog 2 (plainElem Tryz.prog 4)
        have hwr : IntKind.i64.wrap ((k : Int) + 1) = (k : Int) + 1 := IntWalk.i64_in _ (by omega)
        have hkeyK := Maps.keyOf_int_mk (P := Tryz.prog) Tryz.underlying2 (a := (k : Int) + 1) (WalkArith.wf_i64 (n := (k : Int) + 1) (by omega))
        have hkeya := Maps.keyOf_int_mk (P := Tryz.prog) Tryz.underlying2 (a := a) (WalkArith.wf_i64 (n := a) (by omega))
        have hvt := plainElem_bool (P := Tryz.prog) (H := Unit) Tryz.underlying4 true
        obtain ⟨w1, r1, o1, g1⟩ := hown0.update keyedS Tryz.underlying177 (by unfold maxLen; omega) hkeyK hvt
        obtain ⟨w12, r12, o12, g12⟩ := o1.update keyedS Tryz.underlying177 (by unfold maxLen; omega) hkeya hvt
        obtain ⟨w2, r2, o2, g2⟩ := hown0.update keyedS Tryz.underlying177 (by unfold maxLen; omega) hkeya hvt
        obtain ⟨w21, r21, o21, g21⟩ := o2.update keyedS Tryz.underlying177 (by unfold maxLen; omega) hkeyK hvt
        have bm : Below W.heap.size W ((W.alloc (.map #[] 0)).drew) := (bnew W (.map #[] 0)).drew
        have b1 : Below W.heap.size W w1 := bm.trans (only_below g1 (Nat.le_refl _) bm.size)
        have b12 : Below W.heap.size W w12 := b1.trans (only_below g12 (Nat.le_refl _) b1.size)
        have b2 : Below W.heap.size W w2 := bm.trans (only_below g2 (Nat.le_refl _) bm.size)
        have b21 : Below W.heap.size W w21 := b2.trans (only_below g21 (Nat.le_refl _) b2.size)
        have y0 : ((W.alloc (.map #[] 0)).drew).cell? ⟨w.heap.size, 1, none⟩ = some (.int .i64 a) := (bm.cell (p := ⟨w.heap.size, 1, none⟩) hX.lt).trans x1
        have y1 : w1.cell? ⟨w.heap.size, 1, none⟩ = some (.int .i64 a) := (b1.cell (p := ⟨w.heap.size, 1, none⟩) hX.lt).trans x1
        have HIa := Lib.hid (increasing_c _ _ _ (putR a [(k : Int) + 1]) w12 o12 (by omega) (putR_one_rise _ _) (fun y => has_two _ _ y _ _))
        have HIb := Lib.hid (increasing_c _ _ _ (putR a [(k : Int) + 1]) w21 o21 (by omega) (putR_one_rise _ _) (fun y => has_two' _ _ y _ _))
        have B12 := Lib.hid b12
        have B21 := Lib.hid b21
        clear o1 o12 o2 o21 g1 g12 g2 g21 hown0 hkeyK hkeya hvt bm b1 b2 b12 b21
        go_region_with (first
          | (go_at_call 143; refine HIa.out.mono ?_; rintro e w5 ⟨v, rfl, hrow, hb5⟩; obtain ⟨A5, c5, rfl, _⟩ := own_slice hrow; have HB : Hid (Below W.heap.size W w5) := B12.out.trans (hb5.mono B12.out.size); have HR : Hid (w5.ownsRow W.heap.size 2 1 (.slice A5 (putR a [(k : Int) + 1]).length c5) (putR a [(k : Int) + 1]).length ((putR a [(k : Int) + 1]).map ic)) := own_less hrow B12.out.size; clear hrow hb5)
          | (go_at_call 143; refine HIb.out.mono ?_; rintro e w5 ⟨v, rfl, hrow, hb5⟩; obtain ⟨A5, c5, rfl, _⟩ := own_slice hrow; have HB : Hid (Below W.heap.size W w5) := B21.out.trans (hb5.mono B21.out.size); have HR : Hid (w5.ownsRow W.heap.size 2 1 (.slice A5 (putR a [(k : Int) + 1]).length c5) (putR a [(k : Int) + 1]).length ((putR a [(k : Int) + 1]).map ic)) := own_less hrow B21.out.size; clear hrow hb5))
        all_goals
          have HO := Lib.hid (OwnL.of_own HR.out)
          clear HR HIa HIb B12 B21
          go_wp2_with fail
          go_ret
          exact ⟨A5, c5, rfl, HO.out.less hb0.size, bon hb0 HB.out⟩
      · have e6 : (op == 6) = false := by simp [h6]
        rw [tgt1_else h11 h5 h6]
        clear h11 h5 h6
        have hsz : (w.alloc (.cells #[.int .i64 op, .int .i64 a] 65)).heap.size = w.heap.size + 1 := by simp
        have hone := (ownL_one (w.alloc (.cells #[.int .i64 op, .int .i64 a] 65)) ((k : Int) + 1)).less hb0.size
        rw [hsz] at hone
        go_enter Tryz.func124, Tryz.ntmps124
        go_wp2_with fail
        go_ret
        exact ⟨_, 1, rfl, hone, bon hb0 (bnew _ _)⟩
end Go.Proofs.YtdmcpabpjhinhaaGreatDoor
