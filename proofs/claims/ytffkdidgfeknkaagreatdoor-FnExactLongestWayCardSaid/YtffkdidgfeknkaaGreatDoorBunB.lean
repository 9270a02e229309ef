/-
  Several texts in one: InstrB, ShiftP, PutM, TargP, ReachP, HgtP. Conditions: as each says.
-/
import Derived.Test.YtffkdidgfeknkaaGreatDoorBase
import Derived.Test.YtffkdidgfeknkaaGreatDoorTmB

/-! Valid instructions and code, told by numbers. No conditions. -/
namespace Go.Proofs.YtffkdidgfeknkaaGreatDoor
set_option linter.unusedVariables false
open Go.RowKit

/-- The bounds of an operation's argument, how many numbers it pops and pushes. -/
def loB (op : Int) : Int := if op = 0 ∨ op = 4 then -1000000 else 0
def hiB (op : Int) : Int := if op = 0 ∨ op = 4 then 1000000 else if op = 1 ∨ op = 2 ∨ op = 9 then 3 else if op = 5 ∨ op = 6 then 79 else 0
def popB (op : Int) : Int := if op = 2 ∨ op = 4 ∨ op = 6 ∨ op = 7 ∨ op = 10 then 1 else if op = 3 ∨ op = 8 then 2 else 0
def pushB (op : Int) : Int := if op = 0 ∨ op = 1 ∨ op = 3 ∨ op = 4 ∨ op = 7 then 1 else 0
def instrB (op a : Int) : Bool := decide (0 ≤ op ∧ op ≤ 11 ∧ loB op ≤ a ∧ a ≤ hiB op)
theorem instrB_out {op a : Int} (h : ¬ (0 ≤ op ∧ op ≤ 11)) : instrB op a = false := decide_eq_false (fun e => h ⟨e.1, e.2.1⟩)
theorem instrB_in {op a : Int} (h0 : 0 ≤ op) (h1 : op ≤ 11) : instrB op a = decide (loB op ≤ a ∧ a ≤ hiB op) := by
  unfold instrB
  by_cases h : loB op ≤ a ∧ a ≤ hiB op
  · rw [decide_eq_true h, decide_eq_true ⟨h0, h1, h⟩]
  · rw [decide_eq_false h, decide_eq_false (fun e => h e.2.2)]
theorem instrB_parts {op a : Int} (h : instrB op a = true) : 0 ≤ op ∧ op ≤ 11 ∧ loB op ≤ a ∧ a ≤ hiB op := of_decide_eq_true h
theorem instrB_cases {op a : Int} (h : instrB op a = true) : op = 0 ∨ op = 1 ∨ op = 2 ∨ op = 3 ∨ op = 4 ∨ op = 5 ∨ op = 6 ∨ op = 7 ∨ op = 8 ∨ op = 9 ∨ op = 10 ∨ op = 11 := by
  have := instrB_parts h
  omega
/-- Valid code. -/
def codeB (xs : List (Int × Int)) : Bool := decide (1 ≤ xs.length ∧ xs.length ≤ 80 ∧ ∀ x ∈ xs, instrB x.1 x.2 = true)
theorem codeB_len {xs : List (Int × Int)} (h : ¬ (1 ≤ xs.length ∧ xs.length ≤ 80)) : codeB xs = false := decide_eq_false (fun e => h ⟨e.1, e.2.1⟩)
theorem codeB_no {xs : List (Int × Int)} {k : Nat} {x : Int × Int} (hx : xs[k]? = some x) (h : instrB x.1 x.2 = false) : codeB xs = false := decide_eq_false (fun e => by
  have := e.2.2 x (List.mem_of_getElem? hx)
  rw [h] at this; cases this)
theorem codeB_is {xs : List (Int × Int)} {k : Nat} (h : ∀ x ∈ xs.take k, instrB x.1 x.2 = true) (hk : xs.length ≤ k) : codeB xs = decide (1 ≤ xs.length ∧ xs.length ≤ 80) := by
  rw [List.take_of_length_le hk] at h
  unfold codeB
  by_cases e : 1 ≤ xs.length ∧ xs.length ≤ 80
  · rw [decide_eq_true e, decide_eq_true ⟨e.1, e.2, h⟩]
  · rw [decide_eq_false e, decide_eq_false (fun q => e ⟨q.1, q.2.1⟩)]
theorem codeB_step {xs : List (Int × Int)} {k : Nat} {x : Int × Int} (h : ∀ x ∈ xs.take k, instrB x.1 x.2 = true) (hx : xs[k]? = some x) (hv : instrB x.1 x.2 = true) : ∀ x ∈ xs.take (k + 1), instrB x.1 x.2 = true := by
  intro y hy
  rw [List.take_add_one, hx] at hy
  rcases List.mem_append.1 hy with hy | hy
  · exact h y hy
  · obtain rfl : y = x := by simpa using hy
    exact hv
theorem codeB_parts {xs : List (Int × Int)} (h : codeB xs = true) : 1 ≤ xs.length ∧ xs.length ≤ 80 ∧ ∀ x ∈ xs, instrB x.1 x.2 = true := of_decide_eq_true h
theorem codeB_at {xs : List (Int × Int)} (h : codeB xs = true) {k : Nat} {x : Int × Int} (hx : xs[k]? = some x) : instrB x.1 x.2 = true := (codeB_parts h).2.2 x (List.mem_of_getElem? hx)
end Go.Proofs.YtffkdidgfeknkaaGreatDoor

/-! Code with greater places, joined code: pure. No conditions. -/
namespace Go.Proofs.YtffkdidgfeknkaaGreatDoor
set_option linter.unusedVariables false

/-- An instruction whose place is greater. -/
def shi1 (by_ : Int) (x : Int × Int) : Int × Int := if x.1 = 5 ∨ x.1 = 6 then (x.1, x.2 + by_) else x
theorem shi1_yes {b : Int} {x : Int × Int} (h : x.1 = 5 ∨ x.1 = 6) : shi1 b x = (x.1, x.2 + b) := if_pos h
theorem shi1_no {b : Int} {x : Int × Int} (h : ¬ (x.1 = 5 ∨ x.1 = 6)) : shi1 b x = x := if_neg h
def shiL (xs : List (Int × Int)) (b : Int) : List (Int × Int) := xs.map (shi1 b)
theorem shiL_len (xs : List (Int × Int)) (b : Int) : (shiL xs b).length = xs.length := by simp [shiL]
def shiR (xs : List (Int × Int)) (b : Int) : List (Int × Int) × Bool := if codeB xs = true ∧ (0 ≤ b ∧ b ≤ 80) ∧ codeB (shiL xs b) = true then (shiL xs b, true) else ([], false)
theorem shiR_no1 {xs : List (Int × Int)} {b : Int} (h : codeB xs = false) : shiR xs b = ([], false) := if_neg (by rw [h]; simp)
theorem shiR_no2 {xs : List (Int × Int)} {b : Int} (h : ¬ (0 ≤ b ∧ b ≤ 80)) : shiR xs b = ([], false) := if_neg (fun e => h e.2.1)
theorem shiR_no3 {xs : List (Int × Int)} {b : Int} (h : codeB (shiL xs b) = false) : shiR xs b = ([], false) := if_neg (by rw [h]; simp)
theorem shiR_yes {xs : List (Int × Int)} {b : Int} (h : codeB xs = true) (h1 : 0 ≤ b ∧ b ≤ 80) (h2 : codeB (shiL xs b) = true) : shiR xs b = (shiL xs b, true) := if_pos ⟨h, h1, h2⟩
theorem shiR_len (xs : List (Int × Int)) (b : Int) : (shiR xs b).1.length ≤ 80 := by
  unfold shiR
  split
  · rename_i h; have := (codeB_parts h.1).2.1; rw [shiL_len]; exact this
  · simp
/-- A list whose first k elements have been turned. -/
def turned (f : Int × Int → Int × Int) (xs : List (Int × Int)) (k : Nat) : List (Int × Int) := (xs.take k).map f ++ xs.drop k
theorem turned_zero (f : Int × Int → Int × Int) (xs : List (Int × Int)) : turned f xs 0 = xs := by simp [turned]
theorem turned_all (f : Int × Int → Int × Int) {xs : List (Int × Int)} {k : Nat} (h : xs.length ≤ k) : turned f xs k = xs.map f := by unfold turned; rw [List.take_of_length_le h, List.drop_eq_nil_of_le h, List.append_nil]
theorem turned_len (f : Int × Int → Int × Int) (xs : List (Int × Int)) (k : Nat) : (turned f xs k).length = xs.length := by simp [turned]; omega
theorem turned_at (f : Int × Int → Int × Int) {xs : List (Int × Int)} {k : Nat} {x : Int × Int} (h : xs[k]? = some x) : (turned f xs k)[k]? = some x := by
  have hl := (List.getElem?_eq_some_iff.1 h).1
  unfold turned
  rw [List.getElem?_append_right (by simp; omega), List.getElem?_drop]
  simp [Nat.min_eq_left (Nat.le_of_lt hl), h]
theorem turned_succ (f : Int × Int → Int × Int) {xs : List (Int × Int)} {k : Nat} {x : Int × Int} (h : xs[k]? = some x) : (turned f xs k).set k (f x) = turned f xs (k + 1) := by
  have hl := (List.getElem?_eq_some_iff.1 h).1
  have hx : xs[k] = x := (List.getElem?_eq_some_iff.1 h).2
  unfold turned
  rw [List.set_append_right _ _ (by simp; omega), List.drop_eq_getElem_cons hl]
  have e : k - ((xs.take k).map f).length = 0 := by simp; omega
  rw [e, List.set_cons_zero, List.take_add_one, h]
  simp
theorem turned_same (f : Int × Int → Int × Int) {xs : List (Int × Int)} {k : Nat} {x : Int × Int} (h : xs[k]? = some x) (hf : f x = x) : turned f xs k = turned f xs (k + 1) := by
  rw [← turned_succ f h, hf]
  have h1 := turned_at f h
  apply List.ext_getElem?
  intro j
  by_cases e : j = k
  · subst e; rw [h1, List.getElem?_set_self (by have := (List.getElem?_eq_some_iff.1 h1).1; exact this)]
  · rw [List.getElem?_set_ne (by omega)]
/-- An instruction whose halt has become a jump. -/
def joi1 (n : Int) (x : Int × Int) : Int × Int := if x.1 = 11 then (5, n) else x
theorem joi1_yes {n : Int} {x : Int × Int} (h : x.1 = 11) : joi1 n x = (5, n) := if_pos h
theorem joi1_no {n : Int} {x : Int × Int} (h : ¬ x.1 = 11) : joi1 n x = x := if_neg h
def joiL (xs ys : List (Int × Int)) : List (Int × Int) := xs.map (joi1 xs.length) ++ shiL ys xs.length
theorem joiL_len (xs ys : List (Int × Int)) : (joiL xs ys).length = xs.length + ys.length := by simp [joiL, shiL]
def joiR (xs ys : List (Int × Int)) : List (Int × Int) × Bool := if codeB xs = true ∧ codeB ys = true ∧ codeB (joiL xs ys) = true then (joiL xs ys, true) else ([], false)
theorem joiR_no1 {xs ys : List (Int × Int)} (h : codeB xs = false) : joiR xs ys = ([], false) := if_neg (by rw [h]; simp)
theorem joiR_no2 {xs ys : List (Int × Int)} (h : codeB ys = false) : joiR xs ys = ([], false) := if_neg (by rw [h]; simp)
theorem joiR_no3 {xs ys : List (Int × Int)} (h : codeB (joiL xs ys) = false) : joiR xs ys = ([], false) := if_neg (by rw [h]; simp)
theorem joiR_yes {xs ys : List (Int × Int)} (h : codeB xs = true) (h1 : codeB ys = true) (h2 : codeB (joiL xs ys) = true) : joiR xs ys = (joiL xs ys, true) := if_pos ⟨h, h1, h2⟩
theorem joiR_len (xs ys : List (Int × Int)) : (joiR xs ys).1.length ≤ 160 := by
  unfold joiR
  split
  · rename_i h; have := (codeB_parts h.1).2.1; have := (codeB_parts h.2.1).2.1; rw [joiL_len]; omega
  · simp
/-- The argument of a valid instruction. -/
theorem instrB_arg {op a : Int} (h : instrB op a = true) : -1000000 ≤ a ∧ a ≤ 1000000 := by
  have hp := instrB_parts h
  have h1 : -1000000 ≤ loB op := by unfold loB; split <;> omega
  have h2 : hiB op ≤ 1000000 := by unfold hiB; split <;> (try split) <;> (try split) <;> omega
  omega
end Go.Proofs.YtffkdidgfeknkaaGreatDoor

/-! Rising lists of numbers: a number put to its place, and the symbols of some terms. No conditions. -/
namespace Go.Proofs.YtffkdidgfeknkaaGreatDoor

/-- Two rising lists with the same numbers are one. -/
theorem rise_unique : ∀ {l l' : List Int}, l.Pairwise (· < ·) → l'.Pairwise (· < ·) → (∀ x, x ∈ l ↔ x ∈ l') → l = l'
  | [], [], _, _, _ => rfl
  | [], b :: l', _, _, h => absurd ((h b).2 (by simp)) (by simp)
  | a :: l, [], _, _, h => absurd ((h a).1 (by simp)) (by simp)
  | a :: l, b :: l', h1, h2, h => by
    obtain ⟨a1, a2⟩ := List.pairwise_cons.1 h1
    obtain ⟨b1, b2⟩ := List.pairwise_cons.1 h2
    have hab : a = b := by
      rcases List.mem_cons.1 ((h a).1 (by simp)) with e | e
      · exact e
      · rcases List.mem_cons.1 ((h b).2 (by simp)) with e' | e'
        · exact e'.symm
        · have := a1 b e'; have := b1 a e; omega
    subst hab
    rw [rise_unique a2 b2 fun x => ⟨fun hx => ?_, fun hx => ?_⟩]
    · rcases List.mem_cons.1 ((h x).1 (by simp [hx])) with e | e
      · have := a1 x hx; omega
      · exact e
    · rcases List.mem_cons.1 ((h x).2 (by simp [hx])) with e | e
      · have := b1 x hx; omega
      · exact e

/-- What a number makes of the first k of a list: the list so far, and whether the number has been put. -/
def putTo (x : Int) (zs : List Int) : Nat → List Int × Bool
  | 0 => ([], false)
  | k + 1 => if (putTo x zs k).2 = false ∧ x ≤ zs.getD k 0 then ((if x < zs.getD k 0 then (putTo x zs k).1 ++ [x] else (putTo x zs k).1) ++ [zs.getD k 0], true) else ((putTo x zs k).1 ++ [zs.getD k 0], (putTo x zs k).2)
def putR (x : Int) (zs : List Int) : List Int := if (putTo x zs zs.length).2 = true then (putTo x zs zs.length).1 else (putTo x zs zs.length).1 ++ [x]
theorem putTo_stay {x y : Int} {zs o : List Int} {d : Bool} {k : Nat} (hy : zs[k]? = some y) (hp : putTo x zs k = (o, d)) (h : d = true ∨ y < x) : putTo x zs (k + 1) = (o ++ [y], d) := by
  have e : zs.getD k 0 = y := by rw [List.getD_eq_getElem?_getD, hy]; rfl
  rw [putTo, if_neg (by rw [hp, e]; rintro ⟨h1, h2⟩; rcases h with h | h; (simp at h1; rw [h] at h1; cases h1); omega), hp, e]
theorem putTo_same {x : Int} {zs o : List Int} {k : Nat} (hy : zs[k]? = some x) (hp : putTo x zs k = (o, false)) : putTo x zs (k + 1) = (o ++ [x], true) := by
  have e : zs.getD k 0 = x := by rw [List.getD_eq_getElem?_getD, hy]; rfl
  rw [putTo, if_pos (by rw [hp, e]; exact ⟨rfl, by omega⟩), hp, e, if_neg (by omega)]
theorem putTo_new {x y : Int} {zs o : List Int} {k : Nat} (hy : zs[k]? = some y) (hp : putTo x zs k = (o, false)) (h : x < y) : putTo x zs (k + 1) = (o ++ [x] ++ [y], true) := by
  have e : zs.getD k 0 = y := by rw [List.getD_eq_getElem?_getD, hy]; rfl
  rw [putTo, if_pos (by rw [hp, e]; exact ⟨rfl, by omega⟩), hp, e, if_pos h]
theorem putTo_ok {x : Int} {zs : List Int} (hz : zs.Pairwise (· < ·)) : ∀ k, k ≤ zs.length → ((putTo x zs k).1.Pairwise (· < ·)) ∧ (∀ y, y ∈ (putTo x zs k).1 ↔ y ∈ zs.take k ∨ ((putTo x zs k).2 = true ∧ y = x)) ∧
      ((putTo x zs k).2 = false → ∀ y ∈ zs.take k, y < x) ∧ ((putTo x zs k).2 = true → ∃ y ∈ zs.take k, x ≤ y)
  | 0, _ => ⟨by simp [putTo], by simp [putTo], by simp [putTo], by simp [putTo]⟩
  | k + 1, hk => by
    obtain ⟨i1, i2, i3, i4⟩ := putTo_ok (x := x) hz k (by omega)
    obtain ⟨y, hy⟩ : ∃ y, zs[k]? = some y := ⟨_, List.getElem?_eq_getElem (by omega)⟩
    have ht : zs.take (k + 1) = zs.take k ++ [y] := by rw [List.take_add_one, hy]; rfl
    have hlt : ∀ u ∈ zs.take k, u < y := fun u hu => by
      obtain ⟨j, hj, rfl⟩ := List.getElem_of_mem hu
      have hyk : zs[k]'(by omega) = y := by rw [List.getElem?_eq_getElem (by omega)] at hy; exact Option.some.inj hy
      rw [List.length_take] at hj
      have := List.pairwise_iff_getElem.1 hz j k (by omega) (by omega) (by omega)
      rw [List.getElem_take, ← hyk]; exact this
    obtain ⟨⟨o, d⟩, hp⟩ : ∃ p, putTo x zs k = p := ⟨_, rfl⟩
    rw [hp] at i1 i2 i3 i4
    simp only at i1 i2 i3 i4
    cases d with
    | true =>
      rw [putTo_stay hy hp (.inl rfl), ht]
      obtain ⟨u, hu, hxu⟩ := i4 rfl
      have hxy := hlt u hu
      refine ⟨List.pairwise_append.2 ⟨i1, by simp, fun a ha b hb => ?_⟩, fun v => ?_, by simp, fun _ => ⟨u, by simp [hu], hxu⟩⟩
      · simp at hb; subst hb
        rcases (i2 a).1 ha with h | ⟨_, rfl⟩
        · exact hlt a h
        · omega
      · simp only [List.mem_append, List.mem_singleton, i2 v]
        constructor
        · rintro ((h | h) | h)
          · exact .inl (.inl h)
          · exact .inr h
          · exact .inl (.inr h)
        · rintro ((h | h) | h)
          · exact .inl (.inl h)
          · exact .inr h
          · exact .inl (.inr h)
    | false =>
      have o2 : ∀ v, v ∈ o ↔ v ∈ zs.take k := fun v => by rw [i2 v]; simp
      rcases Int.lt_trichotomy x y with hxy | hxy | hxy
      · rw [putTo_new hy hp hxy, ht]
        refine ⟨List.pairwise_append.2 ⟨List.pairwise_append.2 ⟨i1, by simp, fun a ha b hb => ?_⟩, by simp, fun a ha b hb => ?_⟩, fun v => ?_, by simp, fun _ => ⟨y, by simp, by omega⟩⟩
        · simp at hb; subst hb; exact i3 rfl a ((o2 a).1 ha)
        · simp at hb; subst hb
          rcases List.mem_append.1 ha with h | h
          · exact hlt a ((o2 a).1 h)
          · simp at h; omega
        · simp only [List.mem_append, List.mem_singleton, o2 v]
          constructor
          · rintro ((h | h) | h)
            · exact .inl (.inl h)
            · exact .inr (by simp [h])
            · exact .inl (.inr h)
          · rintro ((h | h) | ⟨_, h⟩)
            · exact .inl (.inl h)
            · exact .inr h
            · exact .inl (.inr h)
      · subst hxy
        rw [putTo_same hy hp, ht]
        refine ⟨List.pairwise_append.2 ⟨i1, by simp, fun a ha b hb => ?_⟩, fun v => ?_, by simp, fun _ => ⟨x, by simp, by omega⟩⟩
        · simp at hb; subst hb; exact i3 rfl a ((o2 a).1 ha)
        · simp only [List.mem_append, List.mem_singleton, o2 v]
          constructor
          · rintro (h | h)
            · exact .inl (.inl h)
            · exact .inl (.inr h)
          · rintro ((h | h) | ⟨_, h⟩)
            · exact .inl h
            · exact .inr h
            · exact .inr h
      · rw [putTo_stay hy hp (.inr hxy), ht]
        refine ⟨List.pairwise_append.2 ⟨i1, by simp, fun a ha b hb => ?_⟩, fun v => ?_, fun _ u hu => ?_, by simp⟩
        · simp at hb; subst hb; exact hlt a ((o2 a).1 ha)
        · simp only [List.mem_append, List.mem_singleton, o2 v]
          simp
        · rcases List.mem_append.1 hu with h | h
          · exact i3 rfl u h
          · simp at h; omega
theorem putTo_len {x : Int} {zs : List Int} : ∀ k, (putTo x zs k).1.length ≤ 2 * k
  | 0 => by simp [putTo]
  | k + 1 => by
    have h := putTo_len (x := x) (zs := zs) k
    rw [putTo]
    split
    · split <;> simp <;> omega
    · simp; omega
/-- A number put to its place among rising ones. -/
theorem putR_ok {x : Int} {zs : List Int} (hz : zs.Pairwise (· < ·)) : (putR x zs).Pairwise (· < ·) ∧ ∀ y, y ∈ putR x zs ↔ y ∈ zs ∨ y = x := by
  obtain ⟨i1, i2, i3, _⟩ := putTo_ok (x := x) hz zs.length (Nat.le_refl _)
  rw [List.take_length] at i2 i3
  unfold putR
  cases hd : (putTo x zs zs.length).2 with
  | true =>
    rw [if_pos rfl]
    exact ⟨i1, fun y => by rw [i2 y, hd]; simp⟩
  | false =>
    rw [if_neg (by simp)]
    have o2 : ∀ v, v ∈ (putTo x zs zs.length).1 ↔ v ∈ zs := fun v => by rw [i2 v, hd]; simp
    exact ⟨List.pairwise_append.2 ⟨i1, by simp, fun a ha b hb => by simp at hb; subst hb; exact i3 hd a ((o2 a).1 ha)⟩, fun y => by simp [o2 y]⟩

theorem putTo_le {x : Int} {zs : List Int} : ∀ k, (putTo x zs k).1.length ≤ k + 1 ∧ ((putTo x zs k).2 = false → (putTo x zs k).1.length = k)
  | 0 => ⟨by simp [putTo], by simp [putTo]⟩
  | k + 1 => by
    obtain ⟨h1, h2⟩ := putTo_le (x := x) (zs := zs) k
    rw [putTo]
    split
    · rename_i h
      have h3 := h2 h.1
      constructor
      · split <;> simp <;> omega
      · intro h'; cases h'
    · rename_i h
      constructor
      · simp; omega
      · intro h'
        have h3 := h2 h'
        simp; omega
theorem putR_len (x : Int) (zs : List Int) : (putR x zs).length ≤ zs.length + 1 := by
  obtain ⟨h1, h2⟩ := putTo_le (x := x) (zs := zs) zs.length
  unfold putR
  split
  · exact h1
  · rename_i h
    have := h2 (by simpa using h)
    simp; omega
/-- Whether the first i terms, or the first k coefficients of the next one, have a symbol. -/
def hasS (ts : List (Int × List Int)) (i k : Nat) (s : Nat) : Bool := (ts.take i).any (fun t => t.2.getD s 0 != 0) || (decide (s < k) && (ts.getD i (0, [])).2.getD s 0 != 0)
/-- These symbols. -/
def symTo (ts : List (Int × List Int)) (i k : Nat) : List Int := ((List.range 10).filter (hasS ts i k)).map fun s => ((s : Nat) : Int)
theorem symTo_rise (ts : List (Int × List Int)) (i k : Nat) : (symTo ts i k).Pairwise (· < ·) := by
  refine List.pairwise_map.2 ((List.pairwise_lt_range (n := 10)).filter _ |>.imp fun h => by omega)
theorem symTo_mem (ts : List (Int × List Int)) (i k : Nat) (y : Int) : y ∈ symTo ts i k ↔ ∃ s : Nat, s < 10 ∧ y = s ∧ hasS ts i k s = true := by
  unfold symTo
  rw [List.mem_map]
  constructor
  · rintro ⟨s, hs, rfl⟩
    rw [List.mem_filter, List.mem_range] at hs
    exact ⟨s, hs.1, rfl, hs.2⟩
  · rintro ⟨s, h1, rfl, h2⟩
    exact ⟨s, by rw [List.mem_filter, List.mem_range]; exact ⟨h1, h2⟩, rfl⟩
theorem symTo_len (ts : List (Int × List Int)) (i k : Nat) : (symTo ts i k).length ≤ 10 := by
  unfold symTo
  rw [List.length_map]
  exact Nat.le_trans (List.length_filter_le _ _) (by simp)
theorem symTo_in (ts : List (Int × List Int)) (i k : Nat) : ∀ y ∈ symTo ts i k, 0 ≤ y ∧ y < 10 := fun y hy => by
  obtain ⟨s, h1, rfl, _⟩ := (symTo_mem ts i k y).1 hy
  omega
theorem symTo_zero (ts : List (Int × List Int)) : symTo ts 0 0 = [] := by
  refine List.eq_nil_iff_forall_not_mem.2 fun y hy => ?_
  obtain ⟨s, _, _, h⟩ := (symTo_mem ts 0 0 y).1 hy
  simp [hasS] at h
theorem hasS_skip {ts : List (Int × List Int)} {i k : Nat} {t : Int × List Int} (ht : ts[i]? = some t) (h0 : t.2[k]? = some 0) (s : Nat) : hasS ts i (k + 1) s = hasS ts i k s := by
  have e : ts.getD i (0, []) = t := by rw [List.getD_eq_getElem?_getD, ht]; rfl
  unfold hasS
  rw [e]
  by_cases hs : s = k
  · subst hs
    have e2 : t.2.getD s 0 = 0 := by rw [List.getD_eq_getElem?_getD, h0]; rfl
    rw [e2]; simp
  · have : decide (s < k + 1) = decide (s < k) := by rw [decide_eq_decide]; omega
    rw [this]
theorem symTo_skip {ts : List (Int × List Int)} {i k : Nat} {t : Int × List Int} (ht : ts[i]? = some t) (h0 : t.2[k]? = some 0) : symTo ts i (k + 1) = symTo ts i k := by
  unfold symTo
  rw [List.filter_congr (fun s _ => hasS_skip ht h0 s)]
theorem symTo_more {ts : List (Int × List Int)} {i k : Nat} {t : Int × List Int} {x : Int} (ht : ts[i]? = some t) (hx : t.2[k]? = some x) (h0 : x ≠ 0) (hk : k < 10) (y : Int) : y ∈ symTo ts i (k + 1) ↔ y ∈ symTo ts i k ∨ y = k := by
  have e : ts.getD i (0, []) = t := by rw [List.getD_eq_getElem?_getD, ht]; rfl
  have e2 : t.2.getD k 0 = x := by rw [List.getD_eq_getElem?_getD, hx]; rfl
  have hkk : hasS ts i (k + 1) k = true := by
    unfold hasS; rw [e, e2]; simp [h0]
  have hother : ∀ s, s ≠ k → hasS ts i (k + 1) s = hasS ts i k s := fun s hs => by
    unfold hasS
    have : decide (s < k + 1) = decide (s < k) := by rw [decide_eq_decide]; omega
    rw [this]
  rw [symTo_mem, symTo_mem]
  constructor
  · rintro ⟨s, h1, rfl, h2⟩
    by_cases hs : s = k
    · exact .inr (by rw [hs])
    · exact .inl ⟨s, h1, rfl, by rw [← hother s hs]; exact h2⟩
  · rintro (⟨s, h1, rfl, h2⟩ | rfl)
    · by_cases hs : s = k
      · subst hs; exact ⟨s, h1, rfl, hkk⟩
      · exact ⟨s, h1, rfl, by rw [hother s hs]; exact h2⟩
    · exact ⟨k, hk, rfl, hkk⟩
theorem symTo_put {ts : List (Int × List Int)} {i k : Nat} {t : Int × List Int} {x : Int} (ht : ts[i]? = some t) (hx : t.2[k]? = some x) (h0 : x ≠ 0) (hk : k < 10) : symTo ts i (k + 1) = putR (k : Int) (symTo ts i k) := by
  obtain ⟨h1, h2⟩ := putR_ok (x := (k : Int)) (symTo_rise ts i k)
  exact rise_unique (symTo_rise _ _ _) h1 fun y => by rw [symTo_more ht hx h0 hk, h2 y]
theorem symTo_next {ts : List (Int × List Int)} {i : Nat} {t : Int × List Int} (ht : ts[i]? = some t) : symTo ts i t.2.length = symTo ts (i + 1) 0 := by
  have e : ts.getD i (0, []) = t := by rw [List.getD_eq_getElem?_getD, ht]; rfl
  have et : ts.take (i + 1) = ts.take i ++ [t] := by rw [List.take_add_one, ht]; rfl
  unfold symTo
  rw [List.filter_congr (fun s _ => ?_)]
  unfold hasS
  rw [e, et, List.any_append]
  by_cases hs : s < t.2.length
  · simp [hs]
  · have h2 : t.2[s]?.getD 0 = 0 := by rw [List.getElem?_eq_none (by omega)]; rfl
    simp [h2]
/-- The symbols of some terms. -/
def symL (ts : List (Int × List Int)) : List Int := symTo ts ts.length 0
end Go.Proofs.YtffkdidgfeknkaaGreatDoor

/-! The places behind an instruction: pure. No conditions. -/
namespace Go.Proofs.YtffkdidgfeknkaaGreatDoor
set_option linter.unusedVariables false

def tgt1 (op a k : Int) : List Int := if op = 11 then [] else if op = 5 then [a] else if op = 6 then putR a [k + 1] else [k + 1]
theorem tgt1_halt (a k : Int) : tgt1 11 a k = [] := rfl
theorem tgt1_jump (a k : Int) : tgt1 5 a k = [a] := rfl
theorem tgt1_test (a k : Int) : tgt1 6 a k = putR a [k + 1] := rfl
theorem tgt1_else {op a k : Int} (h : op ≠ 11) (h5 : op ≠ 5) (h6 : op ≠ 6) : tgt1 op a k = [k + 1] := by unfold tgt1; rw [if_neg h, if_neg h5, if_neg h6]
theorem putR_one (x y : Int) : putR x [y] = if x < y then [x, y] else if x = y then [y] else [y, x] := by
  unfold putR putTo putTo
  simp only [List.length_cons, List.length_nil, List.getD_cons_zero]
  by_cases h : x < y
  · have h1 : x ≤ y := by omega
    simp [h, h1]
  · by_cases e : x = y
    · subst e; simp
    · have h1 : ¬ x ≤ y := by omega
      simp [h, e, h1]
theorem putR_one_mem (x y z : Int) : z ∈ putR x [y] ↔ z = y ∨ z = x := by
  rw [putR_one]
  split
  · simp [or_comm]
  · split
    · rename_i h e; subst e; simp
    · simp
theorem putR_one_rise (x y : Int) : (putR x [y]).Pairwise (· < ·) := by
  rw [putR_one]
  split
  · rename_i h; simp [h]
  · split
    · simp
    · simp; omega
theorem tgt1_len (op a k : Int) : (tgt1 op a k).length ≤ 2 := by
  unfold tgt1
  split
  · simp
  · split
    · simp
    · split
      · rw [putR_one]; split
        · simp
        · split <;> simp
      · simp
def tgtR (xs : List (Int × Int)) (k : Int) : List Int × Bool := if codeB xs = true ∧ (0 ≤ k ∧ k ≤ (xs.length : Int) - 1) then (tgt1 (xs.getD k.toNat (0, 0)).1 (xs.getD k.toNat (0, 0)).2 k, true) else ([], false)
theorem tgtR_no1 {xs : List (Int × Int)} {k : Int} (h : codeB xs = false) : tgtR xs k = ([], false) := if_neg (by rw [h]; simp)
theorem tgtR_no2 {xs : List (Int × Int)} {k : Int} (h : ¬ (0 ≤ k ∧ k ≤ (xs.length : Int) - 1)) : tgtR xs k = ([], false) := if_neg (fun e => h e.2)
theorem tgtR_yes {xs : List (Int × Int)} {k : Nat} {x : Int × Int} (h : codeB xs = true) (hx : xs[k]? = some x) : tgtR xs (k : Int) = (tgt1 x.1 x.2 k, true) := by
  have hl := (List.getElem?_eq_some_iff.1 hx).1
  unfold tgtR
  rw [if_pos ⟨h, by omega, by omega⟩, Int.toNat_natCast, List.getD_eq_getElem?_getD, hx]
  rfl
theorem tgtR_len (xs : List (Int × Int)) (k : Int) : (tgtR xs k).1.length ≤ 2 := by
  unfold tgtR
  split
  · exact tgt1_len _ _ _
  · simp
end Go.Proofs.YtffkdidgfeknkaaGreatDoor

/-! What is reached over code: pure. No conditions. -/
namespace Go.Proofs.YtffkdidgfeknkaaGreatDoor
set_option linter.unusedVariables false

/-- The places behind the instruction k. -/
def tgtN (xs : List (Int × Int)) (k : Nat) : List Int := tgt1 (xs.getD k (0, 0)).1 (xs.getD k (0, 0)).2 k
/-- What is reached from some places on, over code. -/
inductive RchP (xs : List (Int × Int)) (S : Int → Prop) : Int → Prop
  | base {k : Int} : S k → RchP xs S k
  | step {k : Nat} {t : Int} : RchP xs S k → k < xs.length → t ∈ tgtN xs k → RchP xs S t
/-- A list of marks that says what is reached, below the end. -/
def MarksOf (xs : List (Int × Int)) (S : Int → Prop) (ms : List Bool) : Prop := ms.length = xs.length ∧ ∀ k : Nat, ∀ b, ms[k]? = some b → (b = true ↔ RchP xs S k)
theorem MarksOf.uniq {xs : List (Int × Int)} {S : Int → Prop} {a b : List Bool} (h : MarksOf xs S a) (h' : MarksOf xs S b) : a = b := by
  apply List.ext_getElem (by rw [h.1, h'.1])
  intro i hi hj
  have h1 := h.2 i a[i] (List.getElem?_eq_getElem hi)
  have h2 := h'.2 i b[i] (List.getElem?_eq_getElem hj)
  rw [Bool.eq_iff_iff, h1, h2]
/-- The model's search: marks and places still to be looked at. -/
structure Srch (xs : List (Int × Int)) (S : Int → Prop) (ms : List Bool) (work : List Int) : Prop where
  len : ms.length = xs.length
  ok : ∀ t ∈ work, RchP xs S t
  in_ : ∀ k : Nat, ms[k]? = some true → RchP xs S k
  all : ∀ t : Int, S t → t < xs.length → t ∈ work ∨ ms[t.toNat]? = some true
  next : ∀ k : Nat, ms[k]? = some true → ∀ t ∈ tgtN xs k, t < xs.length → t ∈ work ∨ ms[t.toNat]? = some true
theorem tgt1_ge {op a : Int} {k : Nat} {t : Int} (ha : op = 5 ∨ op = 6 → 0 ≤ a) (h : t ∈ tgt1 op a k) : 0 ≤ t := by
  unfold tgt1 at h
  split at h
  · cases h
  · split at h
    · rename_i e; simp at h; subst h; exact ha (.inl e)
    · split at h
      · rename_i e
        rcases (putR_one_mem _ _ _).1 h with rfl | rfl
        · omega
        · exact ha (.inr e)
      · simp at h; omega
theorem Srch.init {xs : List (Int × Int)} {S : Int → Prop} {work : List Int} (h : ∀ t, t ∈ work ↔ S t) : Srch xs S (List.replicate xs.length false) work :=
  ⟨by simp, fun t ht => .base ((h t).1 ht), fun k hk => (by rw [List.getElem?_replicate] at hk; split at hk <;> cases hk), fun t ht _ => .inl ((h t).2 ht), fun k hk => (by rw [List.getElem?_replicate] at hk; split at hk <;> cases hk)⟩
theorem Srch.skip {xs : List (Int × Int)} {S : Int → Prop} {ms : List Bool} {t : Int} {work : List Int} (h : Srch xs S ms (t :: work)) (ht : (xs.length : Int) ≤ t ∨ ms[t.toNat]? = some true) : Srch xs S ms work :=
  ⟨h.len, fun u hu => h.ok u (List.mem_cons_of_mem _ hu), h.in_,
    fun u hu hl => by
      rcases h.all u hu hl with h' | h'
      · rcases List.mem_cons.1 h' with rfl | h'
        · rcases ht with h2 | h2
          · omega
          · exact .inr h2
        · exact .inl h'
      · exact .inr h',
    fun k hk u hu hl => by
      rcases h.next k hk u hu hl with h' | h'
      · rcases List.mem_cons.1 h' with rfl | h'
        · rcases ht with h2 | h2
          · omega
          · exact .inr h2
        · exact .inl h'
      · exact .inr h'⟩
theorem Srch.mark {xs : List (Int × Int)} {S : Int → Prop} {ms : List Bool} {k : Nat} {work : List Int} (h : Srch xs S ms ((k : Int) :: work)) (hk : k < xs.length) : Srch xs S (ms.set k true) (work ++ tgtN xs k) := by
  have hr := h.ok _ (List.mem_cons_self ..)
  have up : ∀ i : Nat, ms[i]? = some true → (ms.set k true)[i]? = some true := fun i hi => by
    rw [List.getElem?_set]; split
    · rename_i e; rw [if_pos (by have := h.len; omega)]
    · exact hi
  have me : (ms.set k true)[((k : Int)).toNat]? = some true := by
    rw [Int.toNat_natCast, List.getElem?_set_self (by have := h.len; omega)]
  refine ⟨by rw [List.length_set]; exact h.len, fun u hu => ?_, fun i hi => ?_, fun u hu hl => ?_, fun i hi u hu hl => ?_⟩
  · rcases List.mem_append.1 hu with hu | hu
    · exact h.ok u (List.mem_cons_of_mem _ hu)
    · exact .step hr hk hu
  · rw [List.getElem?_set] at hi
    split at hi
    · rename_i e; subst e; exact hr
    · exact h.in_ i hi
  · rcases h.all u hu hl with h' | h'
    · rcases List.mem_cons.1 h' with rfl | h'
      · exact .inr me
      · exact .inl (List.mem_append_left _ h')
    · exact .inr (up _ h')
  · rw [List.getElem?_set] at hi
    split at hi
    · rename_i e; subst e; exact .inl (List.mem_append_right _ hu)
    · rcases h.next i hi u hu hl with h' | h'
      · rcases List.mem_cons.1 h' with rfl | h'
        · exact .inr me
        · exact .inl (List.mem_append_left _ h')
      · exact .inr (up _ h')
theorem Srch.done {xs : List (Int × Int)} {S : Int → Prop} {ms : List Bool} (h : Srch xs S ms [])   : MarksOf xs S ms := by
  have key : ∀ t, RchP xs S t → t < xs.length → ms[t.toNat]? = some true := by
    intro t ht
    induction ht with
    | base hs => intro hl; rcases h.all _ hs hl with h' | h'
                 · cases h'
                 · exact h'
    | step hk hkl htt ih =>
      intro hl
      have := ih (by omega)
      rw [Int.toNat_natCast] at this
      rcases h.next _ this _ htt hl with h' | h'
      · cases h'
      · exact h'
  refine ⟨h.len, fun k b hb => ⟨fun e => h.in_ k (by rw [hb, e]), fun hr => ?_⟩⟩
  have hl := (List.getElem?_eq_some_iff.1 hb).1
  have := key k hr (by have := h.len; omega)
  rw [Int.toNat_natCast, hb] at this
  exact Option.some.inj this
/-- How many marks are missing. -/
def missing (ms : List Bool) : Nat := (ms.filter (!·)).length
theorem missing_set {ms : List Bool} {k : Nat} (h : ms[k]? = some false) : missing (ms.set k true) + 1 = missing ms := by
  induction ms generalizing k with
  | nil => simp at h
  | cons m ms ih =>
    cases k with
    | zero => simp at h; subst h; simp [missing]
    | succ k =>
      have := ih (k := k) (by simpa using h)
      unfold missing at this ⊢
      rw [List.set_cons_succ, List.filter_cons, List.filter_cons]
      split
      · simp only [List.length_cons]; omega
      · exact this
theorem RchP_ge {xs : List (Int × Int)} {S : Int → Prop} (hS : ∀ t, S t → 0 ≤ t) (hx : ∀ (k : Nat) (x : Int × Int), xs[k]? = some x → x.1 = 5 ∨ x.1 = 6 → 0 ≤ x.2) : ∀ t, RchP xs S t → 0 ≤ t := by
  intro t ht
  cases ht with
  | base h => exact hS _ h
  | @step k _ hk hkl htt =>
    have hy : xs[k]? = some xs[k] := List.getElem?_eq_getElem hkl
    refine tgt1_ge (fun e => ?_) htt
    rw [List.getD_eq_getElem?_getD, hy] at e ⊢
    exact hx k _ hy e
/-- One list of heights goes on another: what is known stays. -/
def Ext (K K' : List Int) : Prop := K'.length = K.length ∧ ∀ i : Nat, K.getD i 0 ≠ -1 → K'.getD i 0 = K.getD i 0
theorem Ext.refl (K : List Int) : Ext K K := ⟨rfl, fun _ _ => rfl⟩
theorem Ext.trans {K L M : List Int} (h : Ext K L) (g : Ext L M) : Ext K M :=
  ⟨g.1.trans h.1, fun i hi => by have h1 := h.2 i hi; rw [g.2 i (by rw [h1]; exact hi), h1]⟩
theorem getD_of_lt {K : List Int} {i : Nat} (h : i < K.length) (d : Int) : K.getD i d = K[i] := by
  rw [List.getD_eq_getElem?_getD, List.getElem?_eq_getElem h]; rfl
theorem Ext.anti {K L : List Int} (h : Ext K L) (g : Ext L K) : K = L := by
  apply List.ext_getElem h.1.symm
  intro i hi hj
  rw [← getD_of_lt hi 0, ← getD_of_lt hj 0]
  by_cases e : K.getD i 0 = -1
  · by_cases e' : L.getD i 0 = -1
    · rw [e, e']
    · exact g.2 i e'
  · exact (h.2 i e).symm
theorem Ext.set {K : List Int} {t : Nat} {h : Int} (hk : K.getD t 0 = -1 ∨ K.getD t 0 = h) : Ext K (K.set t h) := by
  refine ⟨List.length_set .., fun i hi => ?_⟩
  rw [List.getD_eq_getElem?_getD, List.getD_eq_getElem?_getD, List.getElem?_set]
  split
  · rename_i e; subst e
    rw [List.getD_eq_getElem?_getD] at hi hk
    rcases hk with hk | hk
    · exact absurd hk hi
    · split
      · exact hk.symm
      · rename_i hl; rw [List.getElem?_eq_none (by omega)]
  · rfl
/-- How many heights are missing. -/
def missH (K : List Int) : Nat := (K.filter (· == -1)).length
theorem missH_le : ∀ (K L : List Int), L.length = K.length → (∀ i : Nat, K.getD i 0 ≠ -1 → L.getD i 0 = K.getD i 0) → missH L ≤ missH K ∧ (missH L = missH K → K = L)
  | [], [], _, _ => ⟨Nat.le_refl _, fun _ => rfl⟩
  | a :: K, b :: L, hl, h => by
    have ih := missH_le K L (by simpa using hl) (fun i hi => by have := h (i + 1) (by simpa using hi); simpa using this)
    have h0 := h 0
    simp only [List.getD_cons_zero] at h0
    unfold missH at ih ⊢
    rw [List.filter_cons, List.filter_cons]
    by_cases ea : a = -1
    · subst ea
      by_cases eb : b = -1
      · subst eb
        simp only [beq_self_eq_true, if_true, List.length_cons]
        refine ⟨by omega, fun e => ?_⟩
        rw [ih.2 (by omega)]
      · have : (b == -1) = false := by simp [eb]
        simp only [beq_self_eq_true, if_true, this, List.length_cons]
        refine ⟨by simp; omega, fun e => ?_⟩
        simp at e; omega
    · have hb : b = a := h0 ea
      subst hb
      have : (b == -1) = false := by simp [ea]
      simp only [this, Bool.false_eq_true, if_false]
      exact ⟨ih.1, fun e => by rw [ih.2 e]⟩
theorem Ext.miss {K L : List Int} (h : Ext K L) : missH L ≤ missH K ∧ (missH L = missH K → K = L) := missH_le K L h.1 h.2
/-- The measure of the sweeps: heights, and those before. -/
def leftH (K Bf : List Int) : Nat := if K = Bf then 0 else missH K + 1
theorem leftH_less {K Bf L : List Int} (h : Ext K L) (hne : K ≠ Bf) : leftH L K < leftH K Bf := by
  unfold leftH
  rw [if_neg hne]
  split
  · omega
  · rename_i e
    have := h.miss
    have h2 : missH L ≠ missH K := fun e' => e (this.2 e').symm
    omega
/-- The first heights. -/
def heights0 : List Int := 0 :: List.replicate 80 (-1)
theorem heights0_len : heights0.length = 81 := by simp [heights0]
theorem heights0_ne : heights0 ≠ List.replicate 81 0 := by
  intro h
  have := congrArg (fun l : List Int => l.getD 1 0) h
  simp [heights0] at this
/-- What holds of heights throughout: an invariant for what lies behind an instruction (b x h = the height behind it, if it may be executed). -/
structure GoesOn (xs : List (Int × Int)) (b : Int × Int → Int → Option Int) (I : List Int → Prop) : Prop where
  step : ∀ (k : Nat) (x : Int × Int) (K : List Int), xs[k]? = some x → I K → K.getD k 0 ≠ -1 → ∃ h, 0 ≤ h ∧ h ≤ 1000 ∧ b x (K.getD k 0) = some h ∧ ∀ t ∈ tgt1 x.1 x.2 k, ∀ L, I L → Ext K L → (L.getD t.toNat 0 = -1 ∨ L.getD t.toNat 0 = h) ∧ I (L.set t.toNat h)
/-- Heights that no sweep changes, as far as the first k instructions tell. -/
def ClosedTo (xs : List (Int × Int)) (b : Int × Int → Int → Option Int) (K : List Int) (k : Nat) : Prop :=
  ∀ (j : Nat) (x : Int × Int), j < k → xs[j]? = some x → K.getD j 0 ≠ -1 → ∃ h, b x (K.getD j 0) = some h ∧ ∀ t ∈ tgt1 x.1 x.2 j, K.getD t.toNat 0 = h
/-- Behind k instructions of a sweep that began with heights K: if nothing has changed, they are closed. -/
structure SwpTo (xs : List (Int × Int)) (b : Int × Int → Int → Option Int) (I : List Int → Prop) (K : List Int) (k : Nat) (L : List Int) : Prop where
  len : K.length = 81
  inv : I L
  ext : Ext K L
  same : L = K → ClosedTo xs b K k
theorem SwpTo.nil {xs b I} {K : List Int} (hI : I K) (hl : K.length = 81) : SwpTo xs b I K 0 K := ⟨hl, hI, .refl K, fun _ j x hj => absurd hj (Nat.not_lt_zero j)⟩
theorem SwpTo.skip {xs b I} {K L : List Int} {k : Nat} (h : SwpTo xs b I K k L) (hk : L.getD k 0 = -1) : SwpTo xs b I K (k + 1) L := by
  refine ⟨h.len, h.inv, h.ext, fun e j x hj hx hn => ?_⟩
  by_cases hjk : j = k
  · subst hjk; rw [e] at hk; exact absurd hk hn
  · exact h.same e j x (by omega) hx hn
/-- Behind some targets of an instruction. -/
structure PutTo (I : List Int → Prop) (h : Int) (L : List Int) (ts : List Int) (M : List Int) : Prop where
  inv : I M
  ext : Ext L M
  all : M = L → ∀ t ∈ ts, L.getD t.toNat 0 = h
theorem PutTo.nil {I h} {L : List Int} (hI : I L) : PutTo I h L [] L := ⟨hI, .refl L, fun _ t ht => absurd ht (by simp)⟩
theorem PutTo.more {I h} {L M : List Int} {ts : List Int} {t : Int} (p : PutTo I h L ts M) (ht : t.toNat < M.length) (h1 : M.getD t.toNat 0 = -1 ∨ M.getD t.toNat 0 = h) (h2 : I (M.set t.toNat h)) : PutTo I h L (ts ++ [t]) (M.set t.toNat h) := by
  have e1 : Ext M (M.set t.toNat h) := .set h1
  refine ⟨h2, p.ext.trans e1, fun e u hu => ?_⟩
  have eM : M = L := Ext.anti (e ▸ e1) p.ext
  rcases List.mem_append.1 hu with hu | hu
  · exact p.all eM u hu
  · rw [List.mem_singleton] at hu
    subst hu
    rw [← e, List.getD_eq_getElem?_getD, List.getElem?_set_self ht]
    rfl
theorem SwpTo.done {xs b I} {K L M : List Int} {k : Nat} {x : Int × Int} {h : Int} (s : SwpTo xs b I K k L) (hx : xs[k]? = some x) (hb : b x (L.getD k 0) = some h) (p : PutTo I h L (tgt1 x.1 x.2 k) M) : SwpTo xs b I K (k + 1) M := by
  refine ⟨s.len, p.inv, s.ext.trans p.ext, fun e j y hj hy hn => ?_⟩
  have eL : L = K := Ext.anti (e ▸ p.ext) s.ext
  by_cases hjk : j = k
  · subst hjk
    obtain rfl : x = y := by rw [hx] at hy; exact Option.some.inj hy
    rw [eL] at hb
    exact ⟨h, hb, fun t ht => by rw [← eL]; exact p.all (e.trans eL.symm) t ht⟩
  · exact s.same eL j y (by omega) hy hn
/-- What lies behind the sweeps: an invariant, and that the heights are closed. -/
structure SprTo (xs : List (Int × Int)) (b : Int × Int → Int → Option Int) (I : List Int → Prop) (K : List Int) : Prop where
  len : K.length = 81
  inv : I K
  ext : Ext heights0 K
  closed : ClosedTo xs b K xs.length
/-- .. between two sweeps. -/
structure SprAt (xs : List (Int × Int)) (b : Int × Int → Int → Option Int) (I : List Int → Prop) (K Bf : List Int) : Prop where
  len : K.length = 81
  inv : I K
  ext : Ext heights0 K
  closed : K = Bf → ClosedTo xs b K xs.length
theorem SprAt.init {xs b I} (hI : I heights0) : SprAt xs b I heights0 (List.replicate 81 0) := ⟨heights0_len, hI, .refl _, fun e => absurd e heights0_ne⟩
theorem SprAt.next {xs b I} {K Bf L : List Int} (h : SprAt xs b I K Bf) (s : SwpTo xs b I K xs.length L) : SprAt xs b I L K :=
  ⟨s.ext.1.trans h.len, s.inv, h.ext.trans s.ext, fun e => e ▸ s.same e⟩
theorem SprAt.done {xs b I} {K : List Int} (h : SprAt xs b I K K) : SprTo xs b I K := ⟨h.len, h.inv, h.ext, h.closed rfl⟩

/-- Nothing but what is reached, with heights that do not matter. -/
def Emp (xs : List (Int × Int)) (K : List Int) : Prop := K.length = 81 ∧ ∀ i : Nat, i < 81 → K.getD i 0 = -1 ∨ K.getD i 0 = 0 ∧ RchP xs (fun t => t = 0) i
theorem Emp.init (xs : List (Int × Int)) : Emp xs heights0 := by
  refine ⟨heights0_len, fun i hi => ?_⟩
  cases i with
  | zero => exact .inr ⟨rfl, .base rfl⟩
  | succ i =>
    left
    unfold heights0
    rw [List.getD_cons_succ, List.getD_eq_getElem?_getD, List.getElem?_replicate, if_pos (by omega)]
    rfl
theorem emp_on {xs : List (Int × Int)} (hl : xs.length ≤ 80) (hx : ∀ (k : Nat) (x : Int × Int), xs[k]? = some x → ∀ t ∈ tgt1 x.1 x.2 k, 0 ≤ t ∧ t ≤ 80) : GoesOn xs (fun _ _ => some 0) (Emp xs) := by
  refine ⟨fun k x K hk hI hn => ⟨0, by decide, by decide, rfl, fun t ht L hL hE => ?_⟩⟩
  have hkl : k < xs.length := (List.getElem?_eq_some_iff.1 hk).1
  obtain ⟨t0, t1⟩ := hx k x hk t ht
  have hr : RchP xs (fun t => t = 0) k := by
    rcases hI.2 k (by omega) with h | h
    · exact absurd h hn
    · exact h.2
  have hrt : RchP xs (fun t => t = 0) t := .step hr hkl (by unfold tgtN; rw [List.getD_eq_getElem?_getD, hk]; exact ht)
  refine ⟨(hL.2 t.toNat (by omega)).imp id (·.1), (List.length_set ..).trans hL.1, fun i hi => ?_⟩
  rw [List.getD_eq_getElem?_getD, List.getElem?_set]
  split
  · rename_i e
    rw [if_pos (by have := hL.1; omega)]
    refine .inr ⟨rfl, ?_⟩
    have : (i : Int) = t := by omega
    rw [this]; exact hrt
  · have := hL.2 i hi
    rw [List.getD_eq_getElem?_getD] at this
    exact this
/-- Which instructions heights tell to be reached. -/
def marksH (n : Nat) (K : List Int) : List Bool := (List.range n).map fun k => K.getD k 0 != -1
theorem marksH_of {xs : List (Int × Int)} {K : List Int} (hl : xs.length ≤ 80) (hx : ∀ (k : Nat) (x : Int × Int), xs[k]? = some x → ∀ t ∈ tgt1 x.1 x.2 k, 0 ≤ t ∧ t ≤ 80) (h : SprTo xs (fun _ _ => some 0) (Emp xs) K) : MarksOf xs (fun t => t = 0) (marksH xs.length K) := by
  refine ⟨by simp [marksH], fun k b hb => ?_⟩
  have hk : k < xs.length := by
    have := (List.getElem?_eq_some_iff.1 hb).1
    simpa [marksH] using this
  have eb : b = (K.getD k 0 != -1) := by
    unfold marksH at hb
    rw [List.getElem?_map, List.getElem?_range hk] at hb
    exact (Option.some.inj hb).symm
  subst eb
  have h0 : K.getD 0 0 = 0 := by
    have := h.ext.2 0 (by simp [heights0])
    rw [this]; simp [heights0]
  have key : ∀ t, RchP xs (fun t => t = 0) t → 0 ≤ t ∧ t ≤ 80 ∧ K.getD t.toNat 0 ≠ -1 := by
    intro t ht
    induction ht with
    | base e => subst e; exact ⟨by omega, by omega, by show K.getD 0 0 ≠ -1; rw [h0]; decide⟩
    | @step j t hj hjl htt ih =>
      have hy : xs[j]? = some xs[j] := List.getElem?_eq_getElem hjl
      have htt' : t ∈ tgt1 xs[j].1 xs[j].2 j := by unfold tgtN at htt; rw [List.getD_eq_getElem?_getD, hy] at htt; exact htt
      obtain ⟨t0, t1⟩ := hx j _ hy t htt'
      obtain ⟨h', e, hall⟩ := h.closed j _ hjl hy (by have := ih.2.2; rwa [Int.toNat_natCast] at this)
      refine ⟨t0, t1, ?_⟩
      rw [hall t htt']
      have : h' = 0 := (Option.some.inj e).symm
      rw [this]; decide
  constructor
  · intro e
    rcases h.inv.2 k (by omega) with h' | h'
    · rw [h'] at e; exact absurd e (by decide)
    · exact h'.2
  · intro hr
    have := (key _ hr).2.2
    rw [Int.toNat_natCast] at this
    simp only [bne_iff_ne, ne_eq]
    exact this
theorem tgt_in {xs : List (Int × Int)} (hc : codeB xs = true) : ∀ (k : Nat) (x : Int × Int), xs[k]? = some x → ∀ t ∈ tgt1 x.1 x.2 k, 0 ≤ t ∧ t ≤ 80 := by
  intro k x hx t ht
  have hk : k < xs.length := (List.getElem?_eq_some_iff.1 hx).1
  have h80 := (codeB_parts hc).2.1
  obtain ⟨h0, h1, h2, h3⟩ := instrB_parts (codeB_at hc hx)
  unfold tgt1 at ht
  unfold loB at h2
  unfold hiB at h3
  split at ht
  · cases ht
  · split at ht
    · rename_i e
      rw [e] at h2 h3
      simp at h2 h3 ht
      omega
    · split at ht
      · rename_i e
        rw [e] at h2 h3
        simp at h2 h3
        rcases (putR_one_mem _ _ _).1 ht with rfl | rfl <;> omega
      · simp at ht; omega
theorem tgt_len (op a k : Int) : (tgt1 op a k).length ≤ 2 := by
  unfold tgt1
  split
  · simp
  · split
    · simp
    · split
      · rw [putR_one]; split
        · simp
        · split <;> simp
      · simp
theorem marks_exist (xs : List (Int × Int)) (S : Int → Prop) : ∃ ms, MarksOf xs S ms := by
  refine ⟨(List.range xs.length).map fun (k : Nat) => @decide (RchP xs S k) (Classical.propDecidable _), by simp, fun k b hb => ?_⟩
  rw [List.getElem?_map] at hb
  cases hr : (List.range xs.length)[k]? with
  | none => rw [hr] at hb; cases hb
  | some j =>
    rw [hr] at hb
    have hj : j = k := by
      have h1 := (List.getElem?_eq_some_iff.1 hr)
      obtain ⟨h1, h2⟩ := h1
      simp at h2
      exact h2.symm
    subst hj
    obtain rfl := Option.some.inj hb
    exact @decide_eq_true_iff _ (Classical.propDecidable _)
/-- The instructions that marks tell, of the first ones. -/
def lstM (ms : List Bool) (k : Nat) : List Int := ((List.range k).filter fun j => ms.getD j false).map fun (j : Nat) => (j : Int)
theorem lstM_zero (ms : List Bool) : lstM ms 0 = [] := rfl
theorem lstM_yes {ms : List Bool} {k : Nat} (h : ms[k]? = some true) : lstM ms (k + 1) = lstM ms k ++ [(k : Int)] := by
  unfold lstM
  rw [List.range_succ, List.filter_append, List.map_append]
  simp [List.getD_eq_getElem?_getD, h]
theorem lstM_no {ms : List Bool} {k : Nat} (h : ms[k]? = some false) : lstM ms (k + 1) = lstM ms k := by
  unfold lstM
  rw [List.range_succ, List.filter_append, List.map_append]
  simp [List.getD_eq_getElem?_getD, h]
theorem lstM_len (ms : List Bool) (k : Nat) : (lstM ms k).length ≤ k := by
  unfold lstM
  rw [List.length_map]
  have := List.length_filter_le (fun j => ms.getD j false) (List.range k)
  rwa [List.length_range] at this
end Go.Proofs.YtffkdidgfeknkaaGreatDoor

/-! Heights over code: what every good list of heights agrees with, and the search that finds the least one. No conditions. -/
namespace Go.Proofs.YtffkdidgfeknkaaGreatDoor
set_option linter.unusedVariables false
open Go.RowKit

def opN (xs : List (Int × Int)) (k : Nat) : Int := (xs.getD k (0, 0)).1
/-- The height behind an instruction. -/
def hgB (xs : List (Int × Int)) (k : Nat) (h : Int) : Int := h - popB (opN xs k) + pushB (opN xs k)
def fitH (xs : List (Int × Int)) (k : Nat) (h : Int) : Prop := 0 ≤ h - popB (opN xs k) ∧ hgB xs k h ≤ 6
theorem pushB_ge (op : Int) : 0 ≤ pushB op := by unfold pushB; split <;> omega
theorem fitH.ge {xs : List (Int × Int)} {k : Nat} {h : Int} (f : fitH xs k h) : 0 ≤ hgB xs k h := by
  have h1 := f.1
  have h2 := pushB_ge (opN xs k)
  unfold hgB; omega
structure GoodH (xs : List (Int × Int)) (K : List Int) : Prop where
  len : K.length = xs.length
  zero : K[0]? = some 0
  low : ∀ z ∈ K, -1 ≤ z
  step : ∀ (k : Nat) (h : Int), K[k]? = some h → 0 ≤ h → fitH xs k h ∧ ∀ t ∈ tgtN xs k, t < xs.length ∧ K[t.toNat]? = some (hgB xs k h)
/-- Where L has a height, every good list has the same. -/
def Under (xs : List (Int × Int)) (L : List Int) : Prop := ∀ K : List Int, GoodH xs K → ∀ (k : Nat) (h : Int), L[k]? = some h → 0 ≤ h → K[k]? = some h
structure LeastH (xs : List (Int × Int)) (L : List Int) : Prop where
  good : GoodH xs L
  under : Under xs L
theorem LeastH.uniq {xs : List (Int × Int)} {L M : List Int} (h : LeastH xs L) (h' : LeastH xs M) : L = M := by
  apply List.ext_getElem?
  intro k
  rcases Nat.lt_or_ge k xs.length with hk | hk
  · obtain ⟨a, ha⟩ : ∃ a, L[k]? = some a := ⟨_, List.getElem?_eq_getElem (by rw [h.good.len]; exact hk)⟩
    obtain ⟨b, hb⟩ : ∃ b, M[k]? = some b := ⟨_, List.getElem?_eq_getElem (by rw [h'.good.len]; exact hk)⟩
    have a1 := h.good.low a (List.mem_of_getElem? ha)
    have b1 := h'.good.low b (List.mem_of_getElem? hb)
    by_cases a0 : 0 ≤ a
    · rw [ha, h.under M h'.good k a ha a0]
    · by_cases b0 : 0 ≤ b
      · rw [hb, h'.under L h.good k b hb b0]
      · rw [ha, hb, show a = b by omega]
  · rw [List.getElem?_eq_none (by rw [h.good.len]; exact hk), List.getElem?_eq_none (by rw [h'.good.len]; exact hk)]
/-- What StackHeights gives. -/
noncomputable def hgtR (xs : List (Int × Int)) : List Int × Bool := open Classical in if h : codeB xs = true ∧ ∃ L, LeastH xs L then (Classical.choose h.2, true) else ([], false)
theorem hgtR_yes {xs : List (Int × Int)} {L : List Int} (hc : codeB xs = true) (h : LeastH xs L) : hgtR xs = (L, true) := by
  have he : codeB xs = true ∧ ∃ L, LeastH xs L := ⟨hc, L, h⟩
  unfold hgtR
  rw [dif_pos he, (Classical.choose_spec he.2).uniq h]
theorem hgtR_no {xs : List (Int × Int)} (h : ∀ K, ¬ GoodH xs K) : hgtR xs = ([], false) := by
  unfold hgtR
  rw [dif_neg (fun e => by obtain ⟨_, L, hL⟩ := e; exact h L hL.good)]
theorem hgtR_bad {xs : List (Int × Int)} (h : codeB xs = false) : hgtR xs = ([], false) := by
  unfold hgtR
  rw [dif_neg (fun e => by rw [h] at e; cases e.1)]

theorem hgtR_is {xs : List (Int × Int)} (h : (hgtR xs).2 = true) : LeastH xs (hgtR xs).1 := by
  by_cases he : codeB xs = true ∧ ∃ L, LeastH xs L
  · obtain ⟨hc, L, hL⟩ := he
    rw [hgtR_yes hc hL]; exact hL
  · unfold hgtR at h
    rw [dif_neg he] at h
    cases h

/-! The model's search. -/
def negN (L : List Int) : Nat := (L.filter fun z => decide (z < 0)).length
theorem negN_set : ∀ {L : List Int} {k : Nat} {a b : Int}, L[k]? = some a → a < 0 → 0 ≤ b → negN (L.set k b) + 1 = negN L
  | [], k, a, b, h, _, _ => by simp at h
  | z :: L, 0, a, b, h, ha, hb => by
    have e : z = a := by simpa using h
    subst e
    unfold negN
    rw [List.set_cons_zero, List.filter_cons_of_neg (by simp; omega), List.filter_cons_of_pos (by simp; omega)]
    simp
  | z :: L, k + 1, a, b, h, ha, hb => by
    have h' : L[k]? = some a := by simpa using h
    have ih := negN_set h' ha hb
    unfold negN at ih ⊢
    rw [List.set_cons_succ, List.filter_cons, List.filter_cons]
    split
    · rw [List.length_cons, List.length_cons]; omega
    · exact ih
theorem negN_le (L : List Int) : negN L ≤ L.length := List.length_filter_le _ _
/-- Between two places of the queue. -/
structure SrchH (xs : List (Int × Int)) (out q : List Int) : Prop where
  len : out.length = xs.length
  zero : out[0]? = some 0
  low : ∀ z ∈ out, -1 ≤ z
  under : Under xs out
  inq : ∀ t ∈ q, 0 ≤ t ∧ t < xs.length ∧ ∃ h, out[t.toNat]? = some h ∧ 0 ≤ h
  done : ∀ (k : Nat) (h : Int), out[k]? = some h → 0 ≤ h → (k : Int) ∉ q → fitH xs k h ∧ ∀ t ∈ tgtN xs k, t < xs.length ∧ out[t.toNat]? = some (hgB xs k h)
/-- Within the targets of a place. -/
structure SrchT (xs : List (Int × Int)) (out q : List Int) (k : Nat) (h : Int) (i : Nat) : Prop where
  len : out.length = xs.length
  zero : out[0]? = some 0
  low : ∀ z ∈ out, -1 ≤ z
  under : Under xs out
  inq : ∀ t ∈ q, 0 ≤ t ∧ t < xs.length ∧ ∃ h, out[t.toNat]? = some h ∧ 0 ≤ h
  done : ∀ (j : Nat) (g : Int), out[j]? = some g → 0 ≤ g → (j : Int) ∉ q → j ≠ k → fitH xs j g ∧ ∀ t ∈ tgtN xs j, t < xs.length ∧ out[t.toNat]? = some (hgB xs j g)
  cur : out[k]? = some h
  pos : 0 ≤ h
  fit : fitH xs k h
  part : ∀ t ∈ (tgtN xs k).take i, t < xs.length ∧ out[t.toNat]? = some (hgB xs k h)
section
variable {xs : List (Int × Int)} {out q : List Int} {k i : Nat} {h : Int}
theorem SrchH.init (hn : 1 ≤ xs.length) : SrchH xs ((List.replicate xs.length (-1 : Int)).set 0 0) [0] := by
  have hz : ((List.replicate xs.length (-1 : Int)).set 0 0)[0]? = some 0 := by rw [List.getElem?_set_self (by rw [List.length_replicate]; omega)]
  have hw : ∀ (j : Nat) (g : Int), ((List.replicate xs.length (-1 : Int)).set 0 0)[j]? = some g → 0 ≤ g → j = 0 := fun j g hj hg => by
    rcases Nat.eq_zero_or_pos j with e | e
    · exact e
    · rw [List.getElem?_set_ne (by omega)] at hj
      have := List.eq_of_mem_replicate (List.mem_of_getElem? hj)
      omega
  refine ⟨by simp, hz, fun z hz => ?_, fun K hK j g hj hg => ?_, fun t ht => ?_, fun j g hj hg hq => ?_⟩
  · rcases List.mem_or_eq_of_mem_set hz with e | rfl
    · rw [List.eq_of_mem_replicate e]; omega
    · omega
  · obtain rfl := hw j g hj hg
    rw [hz] at hj
    rw [← hj]; exact hK.zero
  · obtain rfl := List.mem_singleton.1 ht
    exact ⟨by omega, by omega, 0, hz, by omega⟩
  · obtain rfl := hw j g hj hg
    exact absurd (List.mem_singleton.2 rfl) hq
/-- A place is taken from the queue. -/
theorem SrchH.take (s : SrchH xs out ((k : Int) :: q)) (hk : out[k]? = some h) (h0 : 0 ≤ h) (hf : fitH xs k h) : SrchT xs out q k h 0 :=
  ⟨s.len, s.zero, s.low, s.under, fun t ht => s.inq t (List.mem_cons_of_mem _ ht), fun j g hj hg hq hne => s.done j g hj hg (fun e => by
    rcases List.mem_cons.1 e with e | e
    · exact hne (by omega)
    · exact hq e), hk, h0, hf, fun t ht => by cases ht⟩
theorem SrchH.unfit (s : SrchH xs out q) (hk : out[k]? = some h) (h0 : 0 ≤ h) (hf : ¬ fitH xs k h) : ∀ K, ¬ GoodH xs K :=
  fun K hK => hf (hK.step k h (s.under K hK k h hk h0) h0).1
theorem SrchT.good (s : SrchT xs out q k h i) {K : List Int} (hK : GoodH xs K) {t : Int} (ht : t ∈ tgtN xs k) : t < xs.length ∧ K[t.toNat]? = some (hgB xs k h) :=
  (hK.step k h (s.under K hK k h s.cur s.pos) s.pos).2 t ht
/-- A target that has the height already. -/
theorem SrchT.skip (s : SrchT xs out q k h i) {t : Int} (ht : (tgtN xs k)[i]? = some t) (hl : t < xs.length) (he : out[t.toNat]? = some (hgB xs k h)) : SrchT xs out q k h (i + 1) :=
  ⟨s.len, s.zero, s.low, s.under, s.inq, s.done, s.cur, s.pos, s.fit, fun u hu => by
    rw [List.take_add_one, ht] at hu
    rcases List.mem_append.1 hu with e | e
    · exact s.part u e
    · have : u = t := by simpa using e
      subst this; exact ⟨hl, he⟩⟩
/-- A target without a height gets one, and is appended. -/
theorem SrchT.put (s : SrchT xs out q k h i) {t a : Int} (ht : (tgtN xs k)[i]? = some t) (h0 : 0 ≤ t) (hl : t < xs.length) (he : out[t.toNat]? = some a) (ha : a < 0) : SrchT xs (out.set t.toNat (hgB xs k h)) (q ++ [t]) k h (i + 1) := by
  have hge := s.fit.ge
  have hlt : t.toNat < out.length := (List.getElem?_eq_some_iff.1 he).1
  have hself : (out.set t.toNat (hgB xs k h))[t.toNat]? = some (hgB xs k h) := List.getElem?_set_self hlt
  have hkeep : ∀ (j : Nat) (g : Int), out[j]? = some g → 0 ≤ g → (out.set t.toNat (hgB xs k h))[j]? = some g := fun j g hj hg => by
    rw [List.getElem?_set_ne (fun e => by rw [e] at he; rw [he] at hj; have := Option.some.inj hj; omega)]; exact hj
  refine ⟨by rw [List.length_set]; exact s.len, hkeep 0 0 s.zero (Int.le_refl _), fun z hz => ?_, fun K hK j g hj hg => ?_, fun u hu => ?_, fun j g hj hg hq hne => ?_, hkeep k h s.cur s.pos, s.pos, s.fit, fun u hu => ?_⟩
  · rcases List.mem_or_eq_of_mem_set hz with e | rfl
    · exact s.low z e
    · omega
  · by_cases e : t.toNat = j
    · subst e
      rw [hself] at hj
      rw [← hj]; exact (s.good hK (List.mem_of_getElem? ht)).2
    · rw [List.getElem?_set_ne e] at hj
      exact s.under K hK j g hj hg
  · rcases List.mem_append.1 hu with e | e
    · obtain ⟨a1, a2, g, a3, a4⟩ := s.inq u e
      exact ⟨a1, a2, g, hkeep _ g a3 a4, a4⟩
    · obtain rfl := List.mem_singleton.1 e
      exact ⟨h0, hl, _, hself, hge⟩
  · have hjt : t.toNat ≠ j := fun e => hq (List.mem_append_right _ (List.mem_singleton.2 (by omega)))
    rw [List.getElem?_set_ne hjt] at hj
    obtain ⟨f1, f2⟩ := s.done j g hj hg (fun e => hq (List.mem_append_left _ e)) hne
    exact ⟨f1, fun u hu => ⟨(f2 u hu).1, hkeep _ _ (f2 u hu).2 f1.ge⟩⟩
  · rw [List.take_add_one, ht] at hu
    rcases List.mem_append.1 hu with e | e
    · exact ⟨(s.part u e).1, hkeep _ _ (s.part u e).2 hge⟩
    · have : u = t := by simpa using e
      subst this; exact ⟨hl, hself⟩
theorem SrchT.far (s : SrchT xs out q k h i) {t : Int} (ht : (tgtN xs k)[i]? = some t) (hl : ¬ t < xs.length) : ∀ K, ¬ GoodH xs K :=
  fun K hK => hl (s.good hK (List.mem_of_getElem? ht)).1
theorem SrchT.other (s : SrchT xs out q k h i) {t a : Int} (ht : (tgtN xs k)[i]? = some t) (he : out[t.toNat]? = some a) (ha : 0 ≤ a) (hne : a ≠ hgB xs k h) : ∀ K, ¬ GoodH xs K :=
  fun K hK => by
    have h1 := (s.good hK (List.mem_of_getElem? ht)).2
    rw [s.under K hK t.toNat a he ha] at h1
    exact hne (Option.some.inj h1)
theorem SrchT.all (s : SrchT xs out q k h i) (hi : (tgtN xs k).length ≤ i) : SrchH xs out q :=
  ⟨s.len, s.zero, s.low, s.under, s.inq, fun j g hj hg hq => by
    by_cases e : j = k
    · subst e
      have := s.cur
      rw [this] at hj
      obtain rfl := Option.some.inj hj
      exact ⟨s.fit, fun t ht => s.part t (by rw [List.take_of_length_le hi]; exact ht)⟩
    · exact s.done j g hj hg hq e⟩
theorem SrchH.least (s : SrchH xs out []) : LeastH xs out :=
  ⟨⟨s.len, s.zero, s.low, fun k h hk h0 => s.done k h hk h0 (by simp)⟩, s.under⟩
end

/-! The program's sweeps: a list that every good one agrees with, and that nothing changes any more. -/
theorem leastH_of {xs : List (Int × Int)} {L : List Int} (hl : L.length = xs.length) (h0 : L[0]? = some 0) (hlow : ∀ z ∈ L, -1 ≤ z) (hu : Under xs L)
    (hs : ∀ (k : Nat) (h : Int), L[k]? = some h → 0 ≤ h → fitH xs k h ∧ ∀ t ∈ tgtN xs k, t < xs.length ∧ L[t.toNat]? = some (hgB xs k h)) : LeastH xs L := ⟨⟨hl, h0, hlow, hs⟩, hu⟩
end Go.Proofs.YtffkdidgfeknkaaGreatDoor
