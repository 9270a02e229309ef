/-
  How deep nodes lie one inside the other: the model's parents and the program's parts give the same number. No conditions.
-/
import Derived.Test.YtejgpooghengmaaDoorSubAt
namespace Go.Proofs.YtejgpooghengmaaDoor
set_option linter.unusedVariables false
open Go.RowKit

theorem stk_tail (xs : List N5) : ∀ d j, xs.length ≤ d + j → ∀ p s, stk (xs.drop j) j = some (p :: s) → stk (xs.drop p.2) p.2 = some s
  | 0, j, hd, p, s, h => by rw [stk_nil (by omega)] at h; cases h
  | d + 1, j, hd, p, s, h => by
    by_cases hj : j < xs.length
    · have hx : xs[j]? = some xs[j] := List.getElem?_eq_getElem hj
      cases hs : stk (xs.drop (j + 1)) (j + 1) with
      | none => rw [List.drop_eq_getElem_cons hj] at h; unfold stk at h; rw [hs] at h; cases h
      | some s' =>
        have ht := stk_tiles _ _ _ hs
        rw [stk_step hx hs] at h
        by_cases hl : s'.length < forks xs[j].k
        · rw [if_pos hl] at h; cases h
        · rw [if_neg hl] at h
          injection h with h
          injection h with h1 h2
          subst h1
          subst h2
          have hf := forks_le xs[j].k
          generalize forks xs[j].k = f at hl hf ⊢
          match f, hf with
          | 0, _ => exact hs
          | 1, _ =>
            match s', hl with
            | q :: s', _ => exact stk_tail xs d (j + 1) (by omega) q s' hs
            | [], hl => simp at hl
          | 2, _ =>
            match s', hl with
            | q :: r :: s', _ =>
              have h1 := stk_tail xs d (j + 1) (by omega) q (r :: s') hs
              have hq : q.1 = j + 1 := ht.1
              have hq2 := ht.2.1
              exact stk_tail xs d q.2 (by omega) r s' h1
            | [q], hl => simp at hl
            | [], hl => simp at hl
    · rw [stk_nil (by omega)] at h; cases h
theorem endOf_stk {xs : List N5} {j : Nat} {p : Nat × Nat} {s : List (Nat × Nat)} (h : stk (xs.drop j) j = some (p :: s)) : endOf xs j = p.2 := by
  have he := stk_end _ _ _ 1 h
  rw [if_neg (by omega), if_pos (by simp)] at he
  unfold endOf
  rw [he]
  simp
/-- The parts of a node, and where its subproof ends. -/
theorem kid_facts {xs : List N5} {i : Nat} (hp : proofB xs = true) (hi : i < xs.length) :
    (kids xs i = [] ∧ endOf xs i = i + 1) ∨ ((xs.getD i default).k ≠ 1 ∧ kids xs i = [i + 1] ∧ i + 1 < xs.length ∧ endOf xs i = endOf xs (i + 1)) ∨
      ((xs.getD i default).k ≠ 1 ∧ kids xs i = [i + 1, endOf xs (i + 1)] ∧ i + 1 < xs.length ∧ endOf xs (i + 1) < xs.length ∧ endOf xs i = endOf xs (endOf xs (i + 1))) := by
  have hx : xs[i]? = some xs[i] := List.getElem?_eq_getElem hi
  have hg : xs.getD i default = xs[i] := by rw [List.getD_eq_getElem?_getD, hx]; rfl
  obtain ⟨s, hs⟩ := stk_some hp (xs.length - (i + 1)) (i + 1) (by omega)
  have ht := stk_tiles _ _ _ hs
  rw [List.length_drop] at ht
  by_cases hl : s.length < forks xs[i].k
  · have := proofB_few hx hs hl
    rw [hp] at this; cases this
  · have hst := stk_step hx hs
    rw [if_neg hl] at hst
    have hE := endOf_stk hst
    have hk : kids xs i = ((s.take (forks xs[i].k)).map Prod.fst) := by unfold kids; rw [hs, hg]; rfl
    have hf1 : forks xs[i].k ≠ 0 → xs[i].k ≠ 1 := fun h e => h (by unfold forks; rw [if_pos e])
    have hf := forks_le xs[i].k
    rw [hg, hk, hE]
    generalize forks xs[i].k = f at hl hf hf1 ⊢
    match f, hf with
    | 0, _ => exact .inl ⟨rfl, rfl⟩
    | 1, _ =>
      match s, hl with
      | [], hl => simp at hl
      | q :: s, _ =>
        have hq : q.1 = i + 1 := ht.1
        have hq2 : i + 1 < q.2 := ht.2.1
        have hq3 := ht.2.2.le
        refine .inr (.inl ⟨hf1 (by omega), by simp [hq], by omega, ?_⟩)
        rw [endOf_stk hs]; rfl
    | 2, _ =>
      match s, hl with
      | [], hl => simp at hl
      | [q], hl => simp at hl
      | q :: r :: s, _ =>
        have hq : q.1 = i + 1 := ht.1
        have hq2 : i + 1 < q.2 := ht.2.1
        have hr : r.1 = q.2 := ht.2.2.1
        have hr2 : q.2 < r.2 := ht.2.2.2.1
        have hr3 := ht.2.2.2.2.le
        have h2 := stk_tail xs (xs.length - (i + 1)) (i + 1) (by omega) q (r :: s) hs
        have e1 := endOf_stk hs
        refine .inr (.inr ⟨hf1 (by omega), by simp [hq, hr, e1], by omega, by omega, ?_⟩)
        rw [e1, endOf_stk h2]; rfl
theorem nested {xs : List N5} (hp : proofB xs = true) : ∀ d i, xs.length ≤ d + i → ∀ k, i ≤ k → k < endOf xs i → i < xs.length → endOf xs k ≤ endOf xs i
  | 0, i, hd, k, h1, h2, h3 => by omega
  | d + 1, i, hd, k, h1, h2, h3 => by
    rcases Nat.eq_or_lt_of_le h1 with rfl | hlt
    · exact Nat.le_refl _
    · rcases kid_facts hp h3 with ⟨_, e⟩ | ⟨_, _, hn, e⟩ | ⟨_, _, hn, hn2, e⟩
      · omega
      · rw [e] at h2 ⊢
        exact nested hp d (i + 1) (by omega) k (by omega) h2 hn
      · have hE := endOf_is hp hn
        have hE2 := endOf_is hp hn2
        rw [e] at h2 ⊢
        by_cases hk : k < endOf xs (i + 1)
        · have := nested hp d (i + 1) (by omega) k (by omega) hk hn
          omega
        · exact nested hp d (endOf xs (i + 1)) (by omega) k (by omega) h2 hn2

/-- A node that is still open where node k begins. -/
def openB (xs : List N5) (k i : Nat) : Bool := decide ((xs.getD i default).k ≠ 1 ∧ k < endOf xs i)
/-- The last node before m that is still open where node k begins. -/
def parB (xs : List N5) (k : Nat) : Nat → Option Nat
  | 0 => none
  | i + 1 => if openB xs k i = true then some i else parB xs k i
theorem parB_lt {xs : List N5} {k : Nat} : ∀ {m i : Nat}, parB xs k m = some i → i < m
  | 0, i, h => by cases h
  | m + 1, i, h => by
    unfold parB at h
    split at h
    · injection h with h; omega
    · have := parB_lt h; omega
theorem parB_is {xs : List N5} {k i : Nat} (ho : openB xs k i = true) : ∀ {m : Nat}, i < m → (∀ j, i < j → j < m → openB xs k j = false) → parB xs k m = some i
  | 0, h, _ => by omega
  | m + 1, h, hj => by
    unfold parB
    by_cases e : m = i
    · subst e; rw [if_pos ho]
    · rw [hj m (by omega) (by omega), if_neg (by simp)]
      exact parB_is ho (by omega) (fun j h1 h2 => hj j h1 (by omega))
def lev (xs : List N5) : Nat → Nat → Nat
  | 0, _ => 0
  | f + 1, k => match parB xs k k with
    | none => 1
    | some i => lev xs f i + 1
theorem lev_same (xs : List N5) : ∀ f f' k, k < f → k < f' → lev xs f k = lev xs f' k
  | 0, _, k, h, _ => by omega
  | f + 1, 0, k, _, h => by omega
  | f + 1, f' + 1, k, h, h' => by
    unfold lev
    cases hp : parB xs k k with
    | none => rfl
    | some i =>
      have := parB_lt hp
      simp only
      rw [lev_same xs f f' i (by omega) (by omega)]
/-- The number of nodes that a node lies in, with itself. -/
def levN (xs : List N5) (k : Nat) : Nat := lev xs (k + 1) k
theorem levN_none {xs : List N5} {k : Nat} (h : parB xs k k = none) : levN xs k = 1 := by unfold levN lev; rw [h]
theorem levN_some {xs : List N5} {k i : Nat} (h : parB xs k k = some i) : levN xs k = levN xs i + 1 := by
  have hl := parB_lt h
  have : levN xs k = lev xs k i + 1 := by unfold levN; rw [lev, h]
  rw [this, lev_same xs k (i + 1) i hl (by omega)]; rfl
theorem levN_le (xs : List N5) : ∀ d k, k < d → levN xs k ≤ k + 1 ∧ 1 ≤ levN xs k
  | 0, k, h => by omega
  | d + 1, k, h => by
    cases hp : parB xs k k with
    | none => rw [levN_none hp]; omega
    | some i =>
      have hl := parB_lt hp
      have := levN_le xs d i (by omega)
      rw [levN_some hp]; omega
theorem lev_first {xs : List N5} {i : Nat} (hp : proofB xs = true) (hi : i < xs.length) (hn : i + 1 < xs.length) (hk : (xs.getD i default).k ≠ 1) (he : endOf xs (i + 1) ≤ endOf xs i) : levN xs (i + 1) = levN xs i + 1 := by
  have h1 := endOf_is hp hn
  refine levN_some (parB_is ?_ (Nat.lt_succ_self _) (fun j h1 h2 => by omega))
  unfold openB
  exact decide_eq_true ⟨hk, by omega⟩
theorem lev_second {xs : List N5} {i : Nat} (hp : proofB xs = true) (hi : i < xs.length) (hn : i + 1 < xs.length) (hn2 : endOf xs (i + 1) < xs.length) (hk : (xs.getD i default).k ≠ 1) (he : endOf xs i = endOf xs (endOf xs (i + 1))) : levN xs (endOf xs (i + 1)) = levN xs i + 1 := by
  have h1 := endOf_is hp hn
  have h2 := endOf_is hp hn2
  refine levN_some (parB_is ?_ (by omega) (fun j h3 h4 => ?_))
  · unfold openB
    exact decide_eq_true ⟨hk, by omega⟩
  · unfold openB
    refine decide_eq_false (fun h => ?_)
    have := nested hp xs.length (i + 1) (by omega) j (by omega) h4 hn
    omega
/-- A node's subproof is so deep. -/
def DepR (xs : List N5) (i v : Nat) : Prop := (∀ k, i ≤ k → k < endOf xs i → levN xs k < levN xs i + v) ∧ ∃ k, i ≤ k ∧ k < endOf xs i ∧ levN xs k + 1 = levN xs i + v
theorem DepR.small {xs : List N5} {i v : Nat} (hp : proofB xs = true) (hi : i < xs.length) (h : DepR xs i v) : v ≤ 61 ∧ 1 ≤ v := by
  obtain ⟨h1, k, h2, h3, h4⟩ := h
  have h5 := endOf_is hp hi
  have h6 := levN_le xs (k + 1) k (by omega)
  have h7 := levN_le xs (i + 1) i (by omega)
  have h8 := (proofB_parts hp).2.1
  have h9 := h1 i (Nat.le_refl _) h5.2.1
  omega
theorem dep_step {xs : List N5} {i : Nat} {vs : List Nat} (hp : proofB xs = true) (hi : i < xs.length) (hl : vs.length = (kids xs i).length) (hv : ∀ (j : Nat) (c : Nat) (v : Nat), (kids xs i)[j]? = some c → vs[j]? = some v → DepR xs c v) : DepR xs i (vs.foldl max 0 + 1) := by
  have hE := endOf_is hp hi
  rcases kid_facts hp hi with ⟨hk, e⟩ | ⟨h1, hk, hn, e⟩ | ⟨h1, hk, hn, hn2, e⟩
  · rw [hk] at hl
    obtain rfl : vs = [] := List.eq_nil_of_length_eq_zero hl
    refine ⟨fun k h2 h3 => ?_, i, Nat.le_refl _, hE.2.1, by simp⟩
    obtain rfl : k = i := by omega
    simp
  · rw [hk] at hl hv
    match vs, hl with
    | [v], _ =>
      obtain ⟨a, k, b, c, d⟩ := hv 0 (i + 1) v rfl rfl
      have hlev := lev_first hp hi hn h1 (by omega)
      have e0 : [v].foldl max 0 = v := by simp
      rw [e0]
      refine ⟨fun k h2 h3 => ?_, k, by omega, by omega, by omega⟩
      rcases Nat.eq_or_lt_of_le h2 with rfl | h2
      · omega
      · have := a k (by omega) (by omega)
        omega
  · rw [hk] at hl hv
    match vs, hl with
    | [u, v], _ =>
      obtain ⟨a, k, b, c, d⟩ := hv 0 (i + 1) u rfl rfl
      obtain ⟨a', k', b', c', d'⟩ := hv 1 (endOf xs (i + 1)) v rfl rfl
      have hE1 := endOf_is hp hn
      have hE2 := endOf_is hp hn2
      have hlev := lev_first hp hi hn h1 (by omega)
      have hlev2 := lev_second hp hi hn hn2 h1 e
      have e0 : [u, v].foldl max 0 = max u v := by simp
      rw [e0]
      refine ⟨fun k h2 h3 => ?_, ?_⟩
      · rcases Nat.eq_or_lt_of_le h2 with rfl | h2
        · omega
        · by_cases hlt : k < endOf xs (i + 1)
          · have := a k (by omega) hlt
            omega
          · have := a' k (by omega) (by omega)
            omega
      · by_cases huv : u ≤ v
        · exact ⟨k', by omega, by omega, by omega⟩
        · exact ⟨k, by omega, by omega, by omega⟩
/-- The greatest number of nodes one inside the other. -/
theorem dep_whole {xs : List N5} {v m : Nat} (hp : proofB xs = true) (h : DepR xs 0 v) (h1 : ∀ k, k < xs.length → levN xs k ≤ m) (h2 : ∃ k, k < xs.length ∧ levN xs k = m) : v = m := by
  obtain ⟨q1, q2, q3, q4⟩ := proofB_parts hp
  have hE : endOf xs 0 = xs.length := by unfold endOf; rw [List.drop_zero, q4]; simp
  have h0 : levN xs 0 = 1 := levN_none rfl
  obtain ⟨a, k, b, c, d⟩ := h
  obtain ⟨k', e1, e2⟩ := h2
  have := a k' (by omega) (by omega)
  have := h1 k (by omega)
  omega
end Go.Proofs.YtejgpooghengmaaDoor
