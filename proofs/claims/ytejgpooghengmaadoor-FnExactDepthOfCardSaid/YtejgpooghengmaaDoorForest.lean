/-
  Lists of nodes, read from their end: the subproofs that wait, each with the index of its first node and the one behind it; a list is one proof exactly if one waits at last. No conditions.
-/
import Derived.Test.YtejgpooghengmaaDoorProof
namespace Go.Proofs.YtejgpooghengmaaDoor
set_option linter.unusedVariables false

/-- The subproofs that wait, the first one ahead; none if too few wait for a node. -/
def stk : List N5 → Nat → Option (List (Nat × Nat))
  | [], _ => some []
  | x :: xs, j => match stk xs (j + 1) with
    | none => none
    | some s => if s.length < forks x.k then none else some ((j, if forks x.k = 0 then j + 1 else (s.getD (forks x.k - 1) (0, 0)).2) :: s.drop (forks x.k))
theorem stk_nil {xs : List N5} {n : Nat} (h : xs.length ≤ n) : stk (xs.drop n) n = some [] := by rw [List.drop_of_length_le h]; rfl
theorem stk_step {xs : List N5} {j : Nat} {x : N5} {s : List (Nat × Nat)} (h : xs[j]? = some x) (hs : stk (xs.drop (j + 1)) (j + 1) = some s) :
    stk (xs.drop j) j = if s.length < forks x.k then none else some ((j, if forks x.k = 0 then j + 1 else (s.getD (forks x.k - 1) (0, 0)).2) :: s.drop (forks x.k)) := by
  obtain ⟨hj, e⟩ := List.getElem?_eq_some_iff.1 h
  rw [List.drop_eq_getElem_cons hj, e]
  unfold stk
  rw [hs]
/-- The subproofs lie one behind the other. -/
def Tiles : Nat → Nat → List (Nat × Nat) → Prop
  | j, n, [] => j = n
  | j, n, p :: s => p.1 = j ∧ j < p.2 ∧ Tiles p.2 n s
theorem Tiles.drop {n : Nat} : ∀ {s : List (Nat × Nat)} {j f : Nat}, Tiles j n s → f ≤ s.length → Tiles (if f = 0 then j else (s.getD (f - 1) (0, 0)).2) n (s.drop f)
  | s, j, 0, h, _ => by rw [if_pos rfl, List.drop_zero]; exact h
  | [], j, f + 1, h, hf => by simp at hf
  | p :: s, j, f + 1, h, hf => by
    have ih := h.2.2.drop (f := f) (by simpa using hf)
    rw [if_neg (Nat.succ_ne_zero f), List.drop_succ_cons]
    rcases Nat.eq_zero_or_pos f with rfl | hp
    · rw [if_pos rfl] at ih
      simpa using ih
    · rw [if_neg (by omega)] at ih
      obtain ⟨g, rfl⟩ : ∃ g, f = g + 1 := ⟨f - 1, by omega⟩
      simpa using ih
theorem Tiles.le {n : Nat} : ∀ {s : List (Nat × Nat)} {j : Nat}, Tiles j n s → j ≤ n
  | [], j, h => by have h : j = n := h; omega
  | p :: s, j, h => by have := h.2.2.le; have := h.2.1; omega
theorem Tiles.at_ {n : Nat} : ∀ {s : List (Nat × Nat)} {j i : Nat}, Tiles j n s → i < s.length → j ≤ (s.getD i (0, 0)).1 ∧ (s.getD i (0, 0)).1 < (s.getD i (0, 0)).2 ∧ (s.getD i (0, 0)).2 ≤ n
  | [], j, i, h, hi => by simp at hi
  | p :: s, j, 0, h, hi => by
    have := h.2.2.le
    have := h.2.1
    have := h.1
    simp
    omega
  | p :: s, j, i + 1, h, hi => by
    have ih := h.2.2.at_ (i := i) (by simpa using hi)
    have := h.2.1
    simp only [List.getD_cons_succ]
    omega
theorem Tiles.one {n j : Nat} : ∀ {s : List (Nat × Nat)}, Tiles j n s → j < n → (decide ((s.getD 0 (0, 0)).2 = n)) = decide (s.length = 1)
  | [], h, hj => by have h : j = n := h; omega
  | [p], h, _ => by have h : p.2 = n := h.2.2; simp [h]
  | p :: q :: s, h, _ => by
    have h1 := h.2.2.at_ (i := 0) (by simp)
    have h2 := h.2.2.1
    simp at h1
    have h3 : ¬ p.2 = n := by omega
    simp [h3]
theorem stk_tiles : ∀ (xs : List N5) (j : Nat) (s : List (Nat × Nat)), stk xs j = some s → Tiles j (j + xs.length) s
  | [], j, s, h => by
    obtain rfl : [] = s := Option.some.inj h
    simp [Tiles]
  | x :: xs, j, s, h => by
    unfold stk at h
    cases hs : stk xs (j + 1) with
    | none => rw [hs] at h; cases h
    | some s' =>
      rw [hs] at h
      have ih := stk_tiles xs (j + 1) s' hs
      have h : (if s'.length < forks x.k then none else some ((j, if forks x.k = 0 then j + 1 else (s'.getD (forks x.k - 1) (0, 0)).2) :: s'.drop (forks x.k))) = some s := h
      by_cases hl : s'.length < forks x.k
      · rw [if_pos hl] at h; cases h
      · rw [if_neg hl] at h
        obtain rfl := Option.some.inj h
        have hd := ih.drop (f := forks x.k) (by omega)
        refine ⟨rfl, ?_, ?_⟩
        · show j < (if forks x.k = 0 then j + 1 else (s'.getD (forks x.k - 1) (0, 0)).2)
          rcases Nat.eq_zero_or_pos (forks x.k) with h0 | h0
          · rw [if_pos h0]; omega
          · rw [if_neg (by omega)]
            have := ih.at_ (i := forks x.k - 1) (by omega)
            omega
        · show Tiles (if forks x.k = 0 then j + 1 else (s'.getD (forks x.k - 1) (0, 0)).2) _ _
          rw [List.length_cons, show j + (xs.length + 1) = j + 1 + xs.length by omega]
          exact hd
/-- Where so many proofs end, told by the subproofs that wait. -/
theorem stk_end : ∀ (xs : List N5) (j : Nat) (s : List (Nat × Nat)) (m : Nat), stk xs j = some s → endN m xs j = if m = 0 then (j : Int) else if m ≤ s.length then ((s.getD (m - 1) (0, 0)).2 : Int) else -1
  | [], j, s, m, h => by
    obtain rfl : [] = s := Option.some.inj h
    cases m with
    | zero => rfl
    | succ m => simp [endN]
  | x :: xs, j, s, m, h => by
    unfold stk at h
    cases hs : stk xs (j + 1) with
    | none => rw [hs] at h; cases h
    | some s' =>
      rw [hs] at h
      have h : (if s'.length < forks x.k then none else some ((j, if forks x.k = 0 then j + 1 else (s'.getD (forks x.k - 1) (0, 0)).2) :: s'.drop (forks x.k))) = some s := h
      by_cases hl : s'.length < forks x.k
      · rw [if_pos hl] at h; cases h
      · rw [if_neg hl] at h
        obtain rfl := Option.some.inj h
        cases m with
        | zero => rw [endN_done]; rfl
        | succ m =>
          have ih := stk_end xs (j + 1) s' (m + forks x.k) hs
          show endN (m + forks x.k) xs (j + 1) = _
          rw [ih, if_neg (Nat.succ_ne_zero m)]
          have hll : (s'.drop (forks x.k)).length = s'.length - forks x.k := by simp
          generalize forks x.k = f at hl hll ⊢
          cases m with
          | zero =>
            rw [Nat.zero_add, if_pos (c := 0 + 1 ≤ _) (by simp)]
            show _ = ((if f = 0 then j + 1 else (s'.getD (f - 1) (0, 0)).2 : Nat) : Int)
            rcases Nat.eq_zero_or_pos f with rfl | h0
            · simp
            · rw [if_neg (c := f = 0) (by omega), if_neg (c := f = 0) (by omega), if_pos (c := f ≤ s'.length) (by omega)]
          | succ m =>
            rw [if_neg (by omega)]
            simp only [List.length_cons, hll, Nat.add_sub_cancel, List.getD_cons_succ]
            by_cases hm : m + 1 + f ≤ s'.length
            · rw [if_pos hm, if_pos (by omega), List.getD_eq_getElem?_getD, List.getD_eq_getElem?_getD, List.getElem?_drop, show m + 1 + f - 1 = f + m by omega]
            · rw [if_neg hm, if_neg (by omega)]

/-- Where more proofs are whole, fewer are. -/
theorem endN_less : ∀ (xs : List N5) (m m' k : Nat), m' ≤ m → endN m xs k ≠ -1 → endN m' xs k ≠ -1
  | xs, m, 0, k, _, _ => by rw [endN_done]; omega
  | [], 0, m' + 1, k, hm, _ => by omega
  | [], m + 1, m' + 1, k, hm, h => h
  | x :: xs, 0, m' + 1, k, hm, _ => by omega
  | x :: xs, m + 1, m' + 1, k, hm, h => endN_less xs (m + forks x.k) (m' + forks x.k) (k + 1) (by omega) h
theorem endN_part (xs : List N5) (h : endN 1 xs 0 = (xs.length : Int)) : ∀ j, j < xs.length → ∃ m, 1 ≤ m ∧ endN m (xs.drop j) j = (xs.length : Int)
  | 0, hj => ⟨1, Nat.le_refl _, h⟩
  | j + 1, hj => by
    obtain ⟨m, hm, he⟩ := endN_part xs h j (by omega)
    have hx : xs[j]? = some xs[j] := List.getElem?_eq_getElem (by omega)
    rw [endN_next hm hx] at he
    rcases Nat.eq_zero_or_pos (m - 1 + forks xs[j].k) with h0 | h0
    · rw [h0, endN_done] at he
      omega
    · exact ⟨_, h0, he⟩
theorem endN_whole (xs : List N5) (h : endN 1 xs 0 = (xs.length : Int)) (j : Nat) (hj : j < xs.length) : endN 1 (xs.drop j) j ≠ -1 := by
  obtain ⟨m, hm, he⟩ := endN_part xs h j hj
  exact endN_less _ m 1 j hm (by omega)
/-- Too few wait for a node: no proof. -/
theorem proofB_few {xs : List N5} {j : Nat} {x : N5} {s : List (Nat × Nat)} (h : xs[j]? = some x) (hs : stk (xs.drop (j + 1)) (j + 1) = some s) (hl : s.length < forks x.k) : proofB xs = false := by
  have hj := (List.getElem?_eq_some_iff.1 h).1
  cases hp : proofB xs with
  | false => rfl
  | true =>
    unfold proofB at hp
    simp only [Bool.and_eq_true, decide_eq_true_eq] at hp
    have h1 := endN_whole xs hp.2.2 j hj
    rw [endN_next (by omega) h, stk_end _ _ _ _ hs, if_neg (by omega), if_neg (by omega)] at h1
    exact absurd rfl h1
theorem proofB_stk {xs : List N5} {s : List (Nat × Nat)} (hl : xs.length ≤ 60) (ha : ∀ x ∈ xs, nodeB x = true) (hs : stk xs 0 = some s) : proofB xs = decide (s.length = 1) := by
  have ht := stk_tiles xs 0 s hs
  rw [Nat.zero_add] at ht
  by_cases h1 : 1 ≤ xs.length
  · rw [proofB_all ⟨h1, hl⟩ ha, stk_end _ _ _ _ hs, if_neg (by omega)]
    have hone := ht.one (by omega)
    cases s with
    | nil => have ht : 0 = xs.length := ht; omega
    | cons p s =>
      rw [if_pos (by simp), ← hone, Bool.eq_iff_iff]
      simp
      omega
  · obtain rfl : xs = [] := List.eq_nil_of_length_eq_zero (by omega)
    obtain rfl : [] = s := Option.some.inj hs
    rfl
theorem stk_some {xs : List N5} (h : proofB xs = true) : ∀ d j, d + j = xs.length → ∃ s, stk (xs.drop j) j = some s
  | 0, j, hd => ⟨[], stk_nil (by omega)⟩
  | d + 1, j, hd => by
    obtain ⟨s, hs⟩ := stk_some h d (j + 1) (by omega)
    have hx : xs[j]? = some xs[j] := List.getElem?_eq_getElem (by omega)
    rw [stk_step hx hs]
    by_cases hl : s.length < forks xs[j].k
    · rw [proofB_few hx hs hl] at h; cases h
    · rw [if_neg hl]; exact ⟨_, rfl⟩
end Go.Proofs.YtejgpooghengmaaDoor
