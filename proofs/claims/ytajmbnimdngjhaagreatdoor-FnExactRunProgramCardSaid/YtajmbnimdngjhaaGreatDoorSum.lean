/-
  Sums of terms as functions of the symbol; the list of coefficients without its zeros at the end. Plain lemmas, of no program. No conditions.
-/
import Derived.Test.YtajmbnimdngjhaaGreatDoorTmB
namespace Go.Proofs.YtajmbnimdngjhaaGreatDoor

/-- The coefficient of a symbol in a term; the symbol -1 is the constant. -/
def tf (t : Int × List Int) (k : Int) : Int := if k = -1 then t.1 else if k < 0 then 0 else t.2.getD k.toNat 0
theorem tf_const (t : Int × List Int) : tf t (-1) = t.1 := by simp [tf]
theorem tf_nat (t : Int × List Int) (i : Nat) : tf t (i : Int) = t.2.getD i 0 := by
  unfold tf; rw [if_neg (by omega), if_neg (by omega)]; simp
/-- A coefficient is turned by a number. -/
def upd (g : Int → Int) (j v : Int) : Int → Int := fun k => if k = j then g k + v else g k
/-- The summands of a term, as far as its first k coefficients go. -/
def sumTo (t : Int × List Int) : Nat → List (Int × Int)
  | 0 => []
  | k + 1 => sumTo t k ++ (if t.2.getD k 0 = 0 then [] else [((k : Int), t.2.getD k 0)])
/-- All summands of a term. -/
def summ (t : Int × List Int) : List (Int × Int) := sumTo t t.2.length ++ (if t.1 = 0 then [] else [(-1, t.1)])
def addS (n : Int) (f : Int → Int) (l : List (Int × Int)) : Int → Int := l.foldl (fun g p => upd g p.1 (n * p.2)) f
/-- A multiple of a term is added. -/
def addT (f : Int → Int) (n : Int) (t : Int × List Int) : Int → Int := fun k => f k + n * tf t k
theorem addS_snoc (n : Int) (f : Int → Int) (l : List (Int × Int)) (p : Int × Int) : addS n f (l ++ [p]) = upd (addS n f l) p.1 (n * p.2) := by simp [addS, List.foldl_append]
theorem addS_sumTo (n : Int) (f : Int → Int) (t : Int × List Int) : ∀ k j, addS n f (sumTo t k) j = f j + n * (if 0 ≤ j ∧ j < (k : Int) then t.2.getD j.toNat 0 else 0)
  | 0, j => by
    have : ¬ (0 ≤ j ∧ j < ((0 : Nat) : Int)) := by omega
    rw [if_neg this]; simp [sumTo, addS]
  | k + 1, j => by
    have ih := addS_sumTo n f t k
    by_cases h0 : t.2.getD k 0 = 0
    · rw [sumTo, if_pos h0, List.append_nil, ih]
      by_cases hj : j = (k : Int)
      · subst hj
        rw [if_neg (by omega), if_pos (by omega)]
        simp only [Int.toNat_natCast]
        rw [h0]
      · by_cases h1 : 0 ≤ j ∧ j < (k : Int)
        · rw [if_pos h1, if_pos (by omega)]
        · rw [if_neg h1, if_neg (by omega)]
    · rw [sumTo, if_neg h0, addS_snoc]
      unfold upd
      by_cases hj : j = (k : Int)
      · subst hj
        rw [if_pos rfl, ih, if_neg (by omega), if_pos (by omega)]
        simp
      · rw [if_neg hj, ih]
        by_cases h1 : 0 ≤ j ∧ j < (k : Int)
        · rw [if_pos h1, if_pos (by omega)]
        · rw [if_neg h1, if_neg (by omega)]
theorem addS_summ (n : Int) (f : Int → Int) (t : Int × List Int) : addS n f (summ t) = addT f n t := by
  funext j
  have key : addS n f (sumTo t t.2.length) j = f j + n * (if 0 ≤ j then t.2.getD j.toNat 0 else 0) := by
    rw [addS_sumTo]
    by_cases h1 : 0 ≤ j
    · by_cases h2 : j < (t.2.length : Int)
      · rw [if_pos ⟨h1, h2⟩, if_pos h1]
      · rw [if_neg (fun h => h2 h.2), if_pos h1]
        have : t.2.getD j.toNat 0 = 0 := by
          rw [List.getD_eq_getElem?_getD, List.getElem?_eq_none (by omega)]; rfl
        rw [this]
    · rw [if_neg (fun h => h1 h.1), if_neg h1]
  unfold summ addT tf
  by_cases h0 : t.1 = 0
  · rw [if_pos h0, List.append_nil, key]
    by_cases hj : j = -1
    · subst hj; rw [if_neg (by omega), if_pos rfl, h0]
    · rw [if_neg hj]
      by_cases h1 : 0 ≤ j
      · rw [if_pos h1, if_neg (by omega)]
      · rw [if_neg h1, if_pos (by omega)]
  · rw [if_neg h0, addS_snoc]
    unfold upd
    by_cases hj : j = -1
    · subst hj
      rw [if_pos rfl, key, if_neg (by omega), if_pos rfl]; simp
    · rw [if_neg hj, key, if_neg hj]
      by_cases h1 : 0 ≤ j
      · rw [if_pos h1, if_neg (by omega)]
      · rw [if_neg h1, if_pos (by omega)]
theorem sumTo_mem {t : Int × List Int} : ∀ {k : Nat} {p : Int × Int}, p ∈ sumTo t k → 0 ≤ p.1 ∧ p.1 < (k : Int) ∧ p.2 = t.2.getD p.1.toNat 0 ∧ p.2 ≠ 0
  | 0, p, h => by simp [sumTo] at h
  | k + 1, p, h => by
    rw [sumTo, List.mem_append] at h
    rcases h with h | h
    · have := sumTo_mem h; omega
    · by_cases h0 : t.2.getD k 0 = 0
      · rw [if_pos h0] at h; simp at h
      · rw [if_neg h0] at h
        obtain rfl := List.mem_singleton.1 h
        refine ⟨by simp, by simp; omega, by simp, h0⟩
theorem sumTo_len (t : Int × List Int) : ∀ k, (sumTo t k).length ≤ k
  | 0 => by simp [sumTo]
  | k + 1 => by
    have := sumTo_len t k
    rw [sumTo, List.length_append]
    by_cases h0 : t.2.getD k 0 = 0
    · rw [if_pos h0]; simp; omega
    · rw [if_neg h0]; simp; omega
theorem summ_len (t : Int × List Int) : (summ t).length ≤ t.2.length + 1 := by
  have := sumTo_len t t.2.length
  unfold summ
  rw [List.length_append]
  by_cases h0 : t.1 = 0
  · rw [if_pos h0]; simp; omega
  · rw [if_neg h0]; simp; omega
theorem getD_mem {l : List Int} {i : Nat} (h : l.getD i 0 ≠ 0) : l.getD i 0 ∈ l := by
  rw [List.getD_eq_getElem?_getD] at h ⊢
  cases hx : l[i]? with
  | none => rw [hx] at h; exact absurd rfl h
  | some x => exact List.mem_of_getElem? hx
/-- What a summand of a valid term is. -/
theorem summ_ok {t : Int × List Int} (h : tmB t = true) {p : Int × Int} (hp : p ∈ summ t) : -1 ≤ p.1 ∧ p.1 ≤ 9 ∧ -1000000 ≤ p.2 ∧ p.2 ≤ 1000000 := by
  obtain ⟨h1, h2, h3, _⟩ := tmB_parts h
  unfold summ at hp
  rw [List.mem_append] at hp
  rcases hp with hp | hp
  · obtain ⟨a, b, c, d⟩ := sumTo_mem hp
    have := h3 p.2 (by rw [c]; exact getD_mem (by rw [← c]; exact d))
    omega
  · by_cases h0 : t.1 = 0
    · rw [if_pos h0] at hp; simp at hp
    · rw [if_neg h0] at hp
      obtain rfl := List.mem_singleton.1 hp
      exact ⟨by simp, by simp, h2.1, h2.2⟩
theorem upd_bound {g : Int → Int} {M j v : Int} (hg : ∀ k, -M ≤ g k ∧ g k ≤ M) (h1 : -1000000000000 ≤ v) (h2 : v ≤ 1000000000000) : ∀ k, -(M + 1000000000000) ≤ upd g j v k ∧ upd g j v k ≤ M + 1000000000000 := fun k => by
  have := hg k
  unfold upd
  by_cases h : k = j
  · rw [if_pos h]; omega
  · rw [if_neg h]; omega
theorem prod_le {a b : Int} (a1 : -1000000 ≤ a) (a2 : a ≤ 1000000) (b1 : -1000000 ≤ b) (b2 : b ≤ 1000000) : -1000000000000 ≤ a * b ∧ a * b ≤ 1000000000000 := by
  have h : (a * b).natAbs ≤ 1000000 * 1000000 := by
    rw [Int.natAbs_mul]
    exact Nat.mul_le_mul (by omega) (by omega)
  omega

/-! Without zeros at the end. -/
/-- n is how many numbers stay. -/
def Trim (zs : List Int) (n : Nat) : Prop := n ≤ zs.length ∧ (∀ k, n ≤ k → k < zs.length → zs[k]? = some 0) ∧ (n = 0 ∨ ∃ x, zs[n - 1]? = some x ∧ x ≠ 0)
theorem Trim.unique {zs : List Int} {n m : Nat} (h : Trim zs n) (k : Trim zs m) : n = m := by
  rcases Nat.lt_trichotomy n m with hlt | rfl | hlt
  · rcases k.2.2 with h0 | ⟨x, hx, hne⟩
    · omega
    · have := h.2.1 (m - 1) (by omega) (by have := k.1; omega)
      rw [this] at hx
      exact absurd (Option.some.inj hx).symm hne
  · rfl
  · rcases h.2.2 with h0 | ⟨x, hx, hne⟩
    · omega
    · have := k.2.1 (n - 1) (by omega) (by have := h.1; omega)
      rw [this] at hx
      exact absurd (Option.some.inj hx).symm hne
theorem trim_exists (zs : List Int) : ∀ n, n ≤ zs.length → (∀ k, n ≤ k → k < zs.length → zs[k]? = some 0) → ∃ m, Trim zs m
  | 0, h1, h2 => ⟨0, h1, h2, .inl rfl⟩
  | n + 1, h1, h2 => by
    obtain ⟨x, hx⟩ : ∃ x, zs[n]? = some x := ⟨_, List.getElem?_eq_getElem (by omega)⟩
    by_cases h0 : x = 0
    · subst h0
      refine trim_exists zs n (by omega) fun k hk hl => ?_
      rcases Nat.eq_or_lt_of_le hk with rfl | h
      · exact hx
      · exact h2 k h hl
    · exact ⟨n + 1, h1, h2, .inr ⟨x, by simpa using hx, h0⟩⟩
theorem trim_some (zs : List Int) : ∃ m, Trim zs m := trim_exists zs zs.length (Nat.le_refl _) fun k h1 h2 => by omega
/-- How many numbers stay. -/
def trimN (zs : List Int) : Nat := (zs.reverse.dropWhile (· == 0)).length
theorem trimN_rev : ∀ l : List Int, Trim l.reverse (l.dropWhile (· == 0)).length
  | [] => ⟨by simp, fun k _ h => by simp at h, .inl (by simp)⟩
  | x :: l => by
    rw [List.reverse_cons, List.dropWhile_cons]
    have hle : (l.dropWhile (· == 0)).length ≤ l.length := (List.dropWhile_sublist _).length_le
    by_cases hx : x = 0
    · subst hx
      rw [if_pos (by simp)]
      obtain ⟨h1, h2, h3⟩ := trimN_rev l
      refine ⟨by simp; omega, fun k hk hl => ?_, ?_⟩
      · rw [List.length_append, List.length_singleton] at hl
        by_cases hkl : k < l.reverse.length
        · rw [List.getElem?_append_left hkl]; exact h2 k hk hkl
        · rw [List.getElem?_append_right (by omega), show k - l.reverse.length = 0 by omega]; rfl
      · rcases h3 with h | ⟨y, hy, hne⟩
        · exact .inl h
        · by_cases h0 : (l.dropWhile (· == 0)).length = 0
          · exact .inl h0
          · refine .inr ⟨y, ?_, hne⟩
            rw [List.getElem?_append_left (by rw [List.length_reverse]; omega)]; exact hy
    · rw [if_neg (by simpa using hx)]
      refine ⟨by simp, fun k hk hl => ?_, .inr ⟨x, ?_, hx⟩⟩
      · simp at hk hl; omega
      · simp
theorem trimN_is (zs : List Int) : Trim zs (trimN zs) := by
  have := trimN_rev zs.reverse
  rwa [List.reverse_reverse] at this
theorem Trim.is {zs : List Int} {n : Nat} (h : Trim zs n) : n = trimN zs := h.unique (trimN_is zs)
/-- The term with some numbers, and whether it is valid. -/
def mkL (c : Int) (zs : List Int) : (Int × List Int) × Bool := if tmB (c, zs.take (trimN zs)) = true then ((c, zs.take (trimN zs)), true) else ((0, []), false)
theorem mkL_yes {c : Int} {zs : List Int} (h : tmB (c, zs.take (trimN zs)) = true) : mkL c zs = ((c, zs.take (trimN zs)), true) := if_pos h
theorem mkL_no {c : Int} {zs : List Int} (h : tmB (c, zs.take (trimN zs)) = false) : mkL c zs = ((0, []), false) := if_neg (by rw [h]; simp)
theorem mkL_len (c : Int) (zs : List Int) : (mkL c zs).1.2.length ≤ 10 := by
  cases h : tmB (c, zs.take (trimN zs)) with
  | true => rw [mkL_yes h]; exact (tmB_parts h).1
  | false => rw [mkL_no h]; simp
/-- Ten numbers of a function. -/
def ten (f : Int → Int) : List Int := (List.range 10).map fun i => f (i : Nat)
theorem ten_len (f : Int → Int) : (ten f).length = 10 := by simp [ten]
theorem ten_at (f : Int → Int) {i : Nat} (h : i < 10) : (ten f)[i]? = some (f (i : Nat)) := by simp [ten, h]
theorem ten_take (f : Int → Int) {n : Nat} (h : n ≤ 10) : (ten f).take n = (List.range n).map fun i => f (i : Nat) := by
  unfold ten
  rw [← List.map_take, List.take_range, Nat.min_eq_left h]
theorem ten_trim {f : Int → Int} {n : Nat} (hn : n ≤ 10) (h1 : ∀ k : Nat, n ≤ k → k < 10 → f (k : Nat) = 0) (h2 : n = 0 ∨ f ((n : Int) - 1) ≠ 0) : n = trimN (ten f) := by
  refine Trim.is ⟨by rw [ten_len]; exact hn, fun k hk hl => ?_, ?_⟩
  · rw [ten_len] at hl
    rw [ten_at f hl, h1 k hk hl]
  · rcases h2 with h | h
    · exact .inl h
    · by_cases h0 : n = 0
      · exact .inl h0
      · refine .inr ⟨_, ten_at f (by omega), ?_⟩
        rwa [show ((n - 1 : Nat) : Int) = (n : Int) - 1 by omega]
end Go.Proofs.YtajmbnimdngjhaaGreatDoor
