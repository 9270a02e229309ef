/-
  Rising lists of numbers: a number put to its place, and the symbols of some terms. No conditions.
-/
import Derived.Test.YtdmcpabpjhinhaaDoorTmB
namespace Go.Proofs.YtdmcpabpjhinhaaDoor

/-- Two rising lists with the same numbers are one. -/
theorem rise_unique : ∀ {l l' : List Int}, l.Pairwise (· < ·) → l'.Pairwise (· < ·) → (∀ x, x ∈ l ↔ x ∈ l') → l = l'
  | [], [], _, _, _ => rfl
  | [], b :: l', _, _, h => absurd ((h b).2 (by simp)) (by simp)
  | a :: l, [], _, _, h => absurd ((h a).1 (by simp)) (by simp)
  | a :: l, b :: l', h1, h2, h => by
    obtain ⟨a1, a2⟩ := List.pairwise_cons.1 h1
    obtain ⟨b1, b2⟩ := List.pairwise_cons.1 h2
    have hab : a = b := by
      rcases List.mem_cons.1 ((h a).1 (by simp)) with e | e
      · exact e
      · rcases List.mem_cons.1 ((h b).2 (by simp)) with e' | e'
        · exact e'.symm
        · have := a1 b e'; have := b1 a e; omega
    subst hab
    rw [rise_unique a2 b2 fun x => ⟨fun hx => ?_, fun hx => ?_⟩]
    · rcases List.mem_cons.1 ((h x).1 (by simp [hx])) with e | e
      · have := a1 x hx; omega
      · exact e
    · rcases List.mem_cons.1 ((h x).2 (by simp [hx])) with e | e
      · have := b1 x hx; omega
      · exact e

/-- What a number makes of the first k of a list: the list so far, and whether the number has been put. -/
def putTo (x : Int) (zs : List Int) : Nat → List Int × Bool
  | 0 => ([], false)
  | k + 1 => if (putTo x zs k).2 = false ∧ x ≤ zs.getD k 0 then ((if x < zs.getD k 0 then (putTo x zs k).1 ++ [x] else (putTo x zs k).1) ++ [zs.getD k 0], true) else ((putTo x zs k).1 ++ [zs.getD k 0], (putTo x zs k).2)
def putR (x : Int) (zs : List Int) : List Int := if (putTo x zs zs.length).2 = true then (putTo x zs zs.length).1 else (putTo x zs zs.length).1 ++ [x]
theorem putTo_stay {x y : Int} {zs o : List Int} {d : Bool} {k : Nat} (hy : zs[k]? = some y) (hp : putTo x zs k = (o, d)) (h : d = true ∨ y < x) : putTo x zs (k + 1) = (o ++ [y], d) := by
  have e : zs.getD k 0 = y := by rw [List.getD_eq_getElem?_getD, hy]; rfl
  rw [putTo, if_neg (by rw [hp, e]; rintro ⟨h1, h2⟩; rcases h with h | h; (simp at h1; rw [h] at h1; cases h1); omega), hp, e]
theorem putTo_same {x : Int} {zs o : List Int} {k : Nat} (hy : zs[k]? = some x) (hp : putTo x zs k = (o, false)) : putTo x zs (k + 1) = (o ++ [x], true) := by
  have e : zs.getD k 0 = x := by rw [List.getD_eq_getElem?_getD, hy]; rfl
  rw [putTo, if_pos (by rw [hp, e]; exact ⟨rfl, by omega⟩), hp, e, if_neg (by omega)]
theorem putTo_new {x y : Int} {zs o : List Int} {k : Nat} (hy : zs[k]? = some y) (hp : putTo x zs k = (o, false)) (h : x < y) : putTo x zs (k + 1) = (o ++ [x] ++ [y], true) := by
  have e : zs.getD k 0 = y := by rw [List.getD_eq_getElem?_getD, hy]; rfl
  rw [putTo, if_pos (by rw [hp, e]; exact ⟨rfl, by omega⟩), hp, e, if_pos h]
theorem putTo_ok {x : Int} {zs : List Int} (hz : zs.Pairwise (· < ·)) : ∀ k, k ≤ zs.length → ((putTo x zs k).1.Pairwise (· < ·)) ∧ (∀ y, y ∈ (putTo x zs k).1 ↔ y ∈ zs.take k ∨ ((putTo x zs k).2 = true ∧ y = x)) ∧
      ((putTo x zs k).2 = false → ∀ y ∈ zs.take k, y < x) ∧ ((putTo x zs k).2 = true → ∃ y ∈ zs.take k, x ≤ y)
  | 0, _ => ⟨by simp [putTo], by simp [putTo], by simp [putTo], by simp [putTo]⟩
  | k + 1, hk => by
    obtain ⟨i1, i2, i3, i4⟩ := putTo_ok (x := x) hz k (by omega)
    obtain ⟨y, hy⟩ : ∃ y, zs[k]? = some y := ⟨_, List.getElem?_eq_getElem (by omega)⟩
    have ht : zs.take (k + 1) = zs.take k ++ [y] := by rw [List.take_add_one, hy]; rfl
    have hlt : ∀ u ∈ zs.take k, u < y := fun u hu => by
      obtain ⟨j, hj, rfl⟩ := List.getElem_of_mem hu
      have hyk : zs[k]'(by omega) = y := by rw [List.getElem?_eq_getElem (by omega)] at hy; exact Option.some.inj hy
      rw [List.length_take] at hj
      have := List.pairwise_iff_getElem.1 hz j k (by omega) (by omega) (by omega)
      rw [List.getElem_take, ← hyk]; exact this
    obtain ⟨⟨o, d⟩, hp⟩ : ∃ p, putTo x zs k = p := ⟨_, rfl⟩
    rw [hp] at i1 i2 i3 i4
    simp only at i1 i2 i3 i4
    cases d with
    | true =>
      rw [putTo_stay hy hp (.inl rfl), ht]
      obtain ⟨u, hu, hxu⟩ := i4 rfl
      have hxy := hlt u hu
      refine ⟨List.pairwise_append.2 ⟨i1, by simp, fun a ha b hb => ?_⟩, fun v => ?_, by simp, fun _ => ⟨u, by simp [hu], hxu⟩⟩
      · simp at hb; subst hb
        rcases (i2 a).1 ha with h | ⟨_, rfl⟩
        · exact hlt a h
        · omega
      · simp only [List.mem_append, List.mem_singleton, i2 v]
        constructor
        · rintro ((h | h) | h)
          · exact .inl (.inl h)
          · exact .inr h
          · exact .inl (.inr h)
        · rintro ((h | h) | h)
          · exact .inl (.inl h)
          · exact .inr h
          · exact .inl (.inr h)
    | false =>
      have o2 : ∀ v, v ∈ o ↔ v ∈ zs.take k := fun v => by rw [i2 v]; simp
      rcases Int.lt_trichotomy x y with hxy | hxy | hxy
      · rw [putTo_new hy hp hxy, ht]
        refine ⟨List.pairwise_append.2 ⟨List.pairwise_append.2 ⟨i1, by simp, fun a ha b hb => ?_⟩, by simp, fun a ha b hb => ?_⟩, fun v => ?_, by simp, fun _ => ⟨y, by simp, by omega⟩⟩
        · simp at hb; subst hb; exact i3 rfl a ((o2 a).1 ha)
        · simp at hb; subst hb
          rcases List.mem_append.1 ha with h | h
          · exact hlt a ((o2 a).1 h)
          · simp at h; omega
        · simp only [List.mem_append, List.mem_singleton, o2 v]
          constructor
          · rintro ((h | h) | h)
            · exact .inl (.inl h)
            · exact .inr (by simp [h])
            · exact .inl (.inr h)
          · rintro ((h | h) | ⟨_, h⟩)
            · exact .inl (.inl h)
            · exact .inr h
            · exact .inl (.inr h)
      · subst hxy
        rw [putTo_same hy hp, ht]
        refine ⟨List.pairwise_append.2 ⟨i1, by simp, fun a ha b hb => ?_⟩, fun v => ?_, by simp, fun _ => ⟨x, by simp, by omega⟩⟩
        · simp at hb; subst hb; exact i3 rfl a ((o2 a).1 ha)
        · simp only [List.mem_append, List.mem_singleton, o2 v]
          constructor
          · rintro (h | h)
            · exact .inl (.inl h)
            · exact .inl (.inr h)
          · rintro ((h | h) | ⟨_, h⟩)
            · exact .inl h
            · exact .inr h
            · exact .inr h
      · rw [putTo_stay hy hp (.inr hxy), ht]
        refine ⟨List.pairwise_append.2 ⟨i1, by simp, fun a ha b hb => ?_⟩, fun v => ?_, fun _ u hu => ?_, by simp⟩
        · simp at hb; subst hb; exact hlt a ((o2 a).1 ha)
        · simp only [List.mem_append, List.mem_singleton, o2 v]
          simp
        · rcases List.mem_append.1 hu with h | h
          · exact i3 rfl u h
          · simp at h; omega
theorem putTo_len {x : Int} {zs : List Int} : ∀ k, (putTo x zs k).1.length ≤ 2 * k
  | 0 => by simp [putTo]
  | k + 1 => by
    have h := putTo_len (x := x) (zs := zs) k
    rw [putTo]
    split
    · split <;> simp <;> omega
    · simp; omega
/-- A number put to its place among rising ones. -/
theorem putR_ok {x : Int} {zs : List Int} (hz : zs.Pairwise (· < ·)) : (putR x zs).Pairwise (· < ·) ∧ ∀ y, y ∈ putR x zs ↔ y ∈ zs ∨ y = x := by
  obtain ⟨i1, i2, i3, _⟩ := putTo_ok (x := x) hz zs.length (Nat.le_refl _)
  rw [List.take_length] at i2 i3
  unfold putR
  cases hd : (putTo x zs zs.length).2 with
  | true =>
    rw [if_pos rfl]
    exact ⟨i1, fun y => by rw [i2 y, hd]; simp⟩
  | false =>
    rw [if_neg (by simp)]
    have o2 : ∀ v, v ∈ (putTo x zs zs.length).1 ↔ v ∈ zs := fun v => by rw [i2 v, hd]; simp
    exact ⟨List.pairwise_append.2 ⟨i1, by simp, fun a ha b hb => by simp at hb; subst hb; exact i3 hd a ((o2 a).1 ha)⟩, fun y => by simp [o2 y]⟩

theorem putTo_le {x : Int} {zs : List Int} : ∀ k, (putTo x zs k).1.length ≤ k + 1 ∧ ((putTo x zs k).2 = false → (putTo x zs k).1.length = k)
  | 0 => ⟨by simp [putTo], by simp [putTo]⟩
  | k + 1 => by
    obtain ⟨h1, h2⟩ := putTo_le (x := x) (zs := zs) k
    rw [putTo]
    split
    · rename_i h
      have h3 := h2 h.1
      constructor
      · split <;> simp <;> omega
      · intro h'; cases h'
    · rename_i h
      constructor
      · simp; omega
      · intro h'
        have h3 := h2 h'
        simp; omega
theorem putR_len (x : Int) (zs : List Int) : (putR x zs).length ≤ zs.length + 1 := by
  obtain ⟨h1, h2⟩ := putTo_le (x := x) (zs := zs) zs.length
  unfold putR
  split
  · exact h1
  · rename_i h
    have := h2 (by simpa using h)
    simp; omega
/-- Whether the first i terms, or the first k coefficients of the next one, have a symbol. -/
def hasS (ts : List (Int × List Int)) (i k : Nat) (s : Nat) : Bool := (ts.take i).any (fun t => t.2.getD s 0 != 0) || (decide (s < k) && (ts.getD i (0, [])).2.getD s 0 != 0)
/-- These symbols. -/
def symTo (ts : List (Int × List Int)) (i k : Nat) : List Int := ((List.range 10).filter (hasS ts i k)).map fun s => ((s : Nat) : Int)
theorem symTo_rise (ts : List (Int × List Int)) (i k : Nat) : (symTo ts i k).Pairwise (· < ·) := by
  refine List.pairwise_map.2 ((List.pairwise_lt_range (n := 10)).filter _ |>.imp fun h => by omega)
theorem symTo_mem (ts : List (Int × List Int)) (i k : Nat) (y : Int) : y ∈ symTo ts i k ↔ ∃ s : Nat, s < 10 ∧ y = s ∧ hasS ts i k s = true := by
  unfold symTo
  rw [List.mem_map]
  constructor
  · rintro ⟨s, hs, rfl⟩
    rw [List.mem_filter, List.mem_range] at hs
    exact ⟨s, hs.1, rfl, hs.2⟩
  · rintro ⟨s, h1, rfl, h2⟩
    exact ⟨s, by rw [List.mem_filter, List.mem_range]; exact ⟨h1, h2⟩, rfl⟩
theorem symTo_len (ts : List (Int × List Int)) (i k : Nat) : (symTo ts i k).length ≤ 10 := by
  unfold symTo
  rw [List.length_map]
  exact Nat.le_trans (List.length_filter_le _ _) (by simp)
theorem symTo_in (ts : List (Int × List Int)) (i k : Nat) : ∀ y ∈ symTo ts i k, 0 ≤ y ∧ y < 10 := fun y hy => by
  obtain ⟨s, h1, rfl, _⟩ := (symTo_mem ts i k y).1 hy
  omega
theorem symTo_zero (ts : List (Int × List Int)) : symTo ts 0 0 = [] := by
  refine List.eq_nil_iff_forall_not_mem.2 fun y hy => ?_
  obtain ⟨s, _, _, h⟩ := (symTo_mem ts 0 0 y).1 hy
  simp [hasS] at h
theorem hasS_skip {ts : List (Int × List Int)} {i k : Nat} {t : Int × List Int} (ht : ts[i]? = some t) (h0 : t.2[k]? = some 0) (s : Nat) : hasS ts i (k + 1) s = hasS ts i k s := by
  have e : ts.getD i (0, []) = t := by rw [List.getD_eq_getElem?_getD, ht]; rfl
  unfold hasS
  rw [e]
  by_cases hs : s = k
  · subst hs
    have e2 : t.2.getD s 0 = 0 := by rw [List.getD_eq_getElem?_getD, h0]; rfl
    rw [e2]; simp
  · have : decide (s < k + 1) = decide (s < k) := by rw [decide_eq_decide]; omega
    rw [this]
theorem symTo_skip {ts : List (Int × List Int)} {i k : Nat} {t : Int × List Int} (ht : ts[i]? = some t) (h0 : t.2[k]? = some 0) : symTo ts i (k + 1) = symTo ts i k := by
  unfold symTo
  rw [List.filter_congr (fun s _ => hasS_skip ht h0 s)]
theorem symTo_more {ts : List (Int × List Int)} {i k : Nat} {t : Int × List Int} {x : Int} (ht : ts[i]? = some t) (hx : t.2[k]? = some x) (h0 : x ≠ 0) (hk : k < 10) (y : Int) : y ∈ symTo ts i (k + 1) ↔ y ∈ symTo ts i k ∨ y = k := by
  have e : ts.getD i (0, []) = t := by rw [List.getD_eq_getElem?_getD, ht]; rfl
  have e2 : t.2.getD k 0 = x := by rw [List.getD_eq_getElem?_getD, hx]; rfl
  have hkk : hasS ts i (k + 1) k = true := by
    unfold hasS; rw [e, e2]; simp [h0]
  have hother : ∀ s, s ≠ k → hasS ts i (k + 1) s = hasS ts i k s := fun s hs => by
    unfold hasS
    have : decide (s < k + 1) = decide (s < k) := by rw [decide_eq_decide]; omega
    rw [this]
  rw [symTo_mem, symTo_mem]
  constructor
  · rintro ⟨s, h1, rfl, h2⟩
    by_cases hs : s = k
    · exact .inr (by rw [hs])
    · exact .inl ⟨s, h1, rfl, by rw [← hother s hs]; exact h2⟩
  · rintro (⟨s, h1, rfl, h2⟩ | rfl)
    · by_cases hs : s = k
      · subst hs; exact ⟨s, h1, rfl, hkk⟩
      · exact ⟨s, h1, rfl, by rw [hother s hs]; exact h2⟩
    · exact ⟨k, hk, rfl, hkk⟩
theorem symTo_put {ts : List (Int × List Int)} {i k : Nat} {t : Int × List Int} {x : Int} (ht : ts[i]? = some t) (hx : t.2[k]? = some x) (h0 : x ≠ 0) (hk : k < 10) : symTo ts i (k + 1) = putR (k : Int) (symTo ts i k) := by
  obtain ⟨h1, h2⟩ := putR_ok (x := (k : Int)) (symTo_rise ts i k)
  exact rise_unique (symTo_rise _ _ _) h1 fun y => by rw [symTo_more ht hx h0 hk, h2 y]
theorem symTo_next {ts : List (Int × List Int)} {i : Nat} {t : Int × List Int} (ht : ts[i]? = some t) : symTo ts i t.2.length = symTo ts (i + 1) 0 := by
  have e : ts.getD i (0, []) = t := by rw [List.getD_eq_getElem?_getD, ht]; rfl
  have et : ts.take (i + 1) = ts.take i ++ [t] := by rw [List.take_add_one, ht]; rfl
  unfold symTo
  rw [List.filter_congr (fun s _ => ?_)]
  unfold hasS
  rw [e, et, List.any_append]
  by_cases hs : s < t.2.length
  · simp [hs]
  · have h2 : t.2[s]?.getD 0 = 0 := by rw [List.getElem?_eq_none (by omega)]; rfl
    simp [h2]
/-- The symbols of some terms. -/
def symL (ts : List (Int × List Int)) : List Int := symTo ts ts.length 0
end Go.Proofs.YtdmcpabpjhinhaaDoor
