/-
  Items that are reached one from another, in their order, with the rows of their steps. (pure) No conditions.
-/
import Derived.Test.YtpdgnmdjneakgaaWork
namespace Go.Proofs.Ytpdgnmdjneakgaa
set_option linter.unusedVariables false

/-- One event's step: the items, and the row. -/
def evS (st : Int → Nat → Int × Bool) (x : Int) (q : List Int × List Int) (e : Nat) : List Int × List Int :=
  if (st x e).2 = true then (addL (st x e).1 q.1, q.2.set e ((addL (st x e).1 q.1).idxOf (st x e).1 : Int)) else q
def evT (st : Int → Nat → Int × Bool) (x : Int) (L : List Int) : Nat → List Int × List Int
  | 0 => (L, [-1, -1, -1, -1])
  | j + 1 => evS st x (evT st x L j) j
/-- The items and the rows behind k rounds. -/
def unf (st : Int → Nat → Int × Bool) (x0 : Int) : Nat → List Int × List (List Int)
  | 0 => ([x0], [])
  | k + 1 => match (unf st x0 k).1[k]? with
    | some x => ((evT st x (unf st x0 k).1 4).1, (unf st x0 k).2 ++ [(evT st x (unf st x0 k).1 4).2])
    | none => unf st x0 k
theorem evS_no {st : Int → Nat → Int × Bool} {x : Int} {q : List Int × List Int} {e : Nat} (h : (st x e).2 = false) : evS st x q e = q := by unfold evS; rw [h]; rfl
theorem evS_yes {st : Int → Nat → Int × Bool} {x : Int} {q : List Int × List Int} {e : Nat} (h : (st x e).2 = true) : evS st x q e = (addL (st x e).1 q.1, q.2.set e ((addL (st x e).1 q.1).idxOf (st x e).1 : Int)) := if_pos h
theorem unf_next {st : Int → Nat → Int × Bool} {x0 : Int} {k : Nat} {x : Int} (h : (unf st x0 k).1[k]? = some x) : unf st x0 (k + 1) = ((evT st x (unf st x0 k).1 4).1, (unf st x0 k).2 ++ [(evT st x (unf st x0 k).1 4).2]) := by
  rw [unf, h]
theorem unf_stop {st : Int → Nat → Int × Bool} {x0 : Int} {k : Nat} (h : (unf st x0 k).1.length ≤ k) : unf st x0 (k + 1) = unf st x0 k := by
  rw [unf, List.getElem?_eq_none h]
/-- A step stays among the numbers below N. -/
def Stays (st : Int → Nat → Int × Bool) (N : Nat) : Prop := ∀ x e, 0 ≤ x → x < (N : Int) → e < 4 → (st x e).2 = true → 0 ≤ (st x e).1 ∧ (st x e).1 < (N : Int)
/-- A list of different numbers below N. -/
def Among (N : Nat) (L : List Int) : Prop := L.Nodup ∧ ∀ y ∈ L, 0 ≤ y ∧ y < (N : Int)
theorem Among.len {N : Nat} {L : List Int} (h : Among N L) : L.length ≤ N := by
  have := h.1.length_le_of_subset (l₂ := (List.range N).map fun i : Nat => (i : Int)) (fun y hy => by
    have := h.2 y hy
    exact List.mem_map.2 ⟨y.toNat, List.mem_range.2 (by omega), by omega⟩)
  simpa using this
theorem Among.add {N : Nat} {L : List Int} {y : Int} (h : Among N L) (hy : 0 ≤ y ∧ y < (N : Int)) : Among N (addL y L) := by
  by_cases hm : y ∈ L
  · rw [addL_old hm]; exact h
  · rw [addL_new hm]
    refine ⟨List.nodup_append.2 ⟨h.1, by simp, fun a ha b hb e => ?_⟩, fun z hz => ?_⟩
    · simp at hb; subst hb; subst e; exact hm ha
    · rcases List.mem_append.1 hz with h' | h'
      · exact h.2 z h'
      · simp at h'; subst h'; exact hy
theorem addL_le (y : Int) (L : List Int) : L.length ≤ (addL y L).length := by
  unfold addL; split <;> simp
theorem addL_pre (y : Int) (L : List Int) : L <+: addL y L := by
  unfold addL; split
  · exact List.prefix_refl _
  · exact List.prefix_append _ _
theorem evT_among {st : Int → Nat → Int × Bool} {N : Nat} (hs : Stays st N) {x : Int} (hx : 0 ≤ x ∧ x < (N : Int)) {L : List Int} (h : Among N L) : ∀ j, j ≤ 4 → Among N (evT st x L j).1 ∧ L <+: (evT st x L j).1 ∧ (evT st x L j).2.length = 4
  | 0, _ => ⟨h, List.prefix_refl _, rfl⟩
  | j + 1, hj => by
    obtain ⟨a, b, c⟩ := evT_among hs hx h j (by omega)
    rw [evT]
    cases hv : (st x j).2 with
    | false => rw [evS_no hv]; exact ⟨a, b, c⟩
    | true =>
      rw [evS_yes hv]
      exact ⟨a.add (hs x j hx.1 hx.2 (by omega) hv), b.trans (addL_pre _ _), by simpa using c⟩
theorem unf_among {st : Int → Nat → Int × Bool} {N : Nat} (hs : Stays st N) {x0 : Int} (hx : 0 ≤ x0 ∧ x0 < (N : Int)) : ∀ k, Among N (unf st x0 k).1
  | 0 => ⟨by simp [unf], fun y hy => by simp [unf] at hy; subst hy; exact hx⟩
  | k + 1 => by
    have ih := unf_among hs hx k
    rcases Nat.lt_or_ge k (unf st x0 k).1.length with h | h
    · have hx' : (unf st x0 k).1[k]? = some (unf st x0 k).1[k] := List.getElem?_eq_getElem h
      rw [unf_next hx']
      exact (evT_among hs (ih.2 _ (List.getElem_mem h)) ih 4 (Nat.le_refl _)).1
    · rw [unf_stop h]; exact ih
theorem unf_rows {st : Int → Nat → Int × Bool} {N : Nat} (hs : Stays st N) {x0 : Int} (hx : 0 ≤ x0 ∧ x0 < (N : Int)) : ∀ k, (∀ r ∈ (unf st x0 k).2, r.length = 4)
  | 0 => fun r hr => by simp [unf] at hr
  | k + 1 => by
    have ih := unf_rows hs hx k
    rcases Nat.lt_or_ge k (unf st x0 k).1.length with h | h
    · have hx' : (unf st x0 k).1[k]? = some (unf st x0 k).1[k] := List.getElem?_eq_getElem h
      have ha := unf_among hs hx k
      rw [unf_next hx']
      intro r hr
      rcases List.mem_append.1 hr with h' | h'
      · exact ih r h'
      · simp at h'; subst h'
        exact (evT_among hs (ha.2 _ (List.getElem_mem h)) ha 4 (Nat.le_refl _)).2.2
    · rw [unf_stop h]; exact ih
theorem unf_len (st : Int → Nat → Int × Bool) (x0 : Int) : ∀ k, (unf st x0 k).2.length ≤ k
  | 0 => Nat.le_refl _
  | k + 1 => by
    have ih := unf_len st x0 k
    rcases Nat.lt_or_ge k (unf st x0 k).1.length with h | h
    · rw [unf_next (List.getElem?_eq_getElem h)]; simp; omega
    · rw [unf_stop h]; omega
/-- All items have been gone through. -/
def UnfEnd (st : Int → Nat → Int × Bool) (x0 : Int) (L : List Int) (R : List (List Int)) : Prop := ∃ k, unf st x0 k = (L, R) ∧ k = L.length
theorem unf_stay {st : Int → Nat → Int × Bool} {x0 : Int} {k : Nat} (h : (unf st x0 k).1.length ≤ k) : ∀ d, unf st x0 (k + d) = unf st x0 k
  | 0 => rfl
  | d + 1 => by
    have ih := unf_stay h d
    rw [← Nat.add_assoc, unf_stop (by rw [ih]; omega), ih]
theorem UnfEnd.uniq {st : Int → Nat → Int × Bool} {x0 : Int} {L L' : List Int} {R R' : List (List Int)} (h : UnfEnd st x0 L R) (h' : UnfEnd st x0 L' R') : L = L' ∧ R = R' := by
  obtain ⟨k, h1, h2⟩ := h
  obtain ⟨k', h1', h2'⟩ := h'
  have e : unf st x0 k = unf st x0 k' := by
    rcases Nat.le_total k k' with hle | hle
    · obtain ⟨d, rfl⟩ := Nat.exists_eq_add_of_le hle
      exact (unf_stay (by rw [h1]; exact Nat.le_of_eq h2.symm) d).symm
    · obtain ⟨d, rfl⟩ := Nat.exists_eq_add_of_le hle
      exact unf_stay (by rw [h1']; exact Nat.le_of_eq h2'.symm) d
  rw [h1, h1'] at e
  exact ⟨congrArg Prod.fst e, congrArg Prod.snd e⟩
end Go.Proofs.Ytpdgnmdjneakgaa
