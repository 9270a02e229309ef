/-
  The numbers of the kinds of states, as the program gives them, and the list of the model's minimal policy. (pure) No conditions.
-/
import Derived.Test.YtpdgnmdjneakgaaMinP
namespace Go.Proofs.Ytpdgnmdjneakgaa
set_option linter.unusedVariables false

/-- What an event leads to, as a number of a kind. -/
def bh1 (xs : List (List Int)) (c : List Int) (s e : Nat) : Int := if nxP xs s e < 0 then -1 else c.getD (nxP xs s e).toNat 0
def bhL (xs : List (List Int)) (c : List Int) (s : Nat) : List Int := [bh1 xs c s 0, bh1 xs c s 1, bh1 xs c s 2, bh1 xs c s 3]
theorem bh1_no {xs : List (List Int)} {c : List Int} {s e : Nat} (h : nxP xs s e < 0) : bh1 xs c s e = -1 := if_pos h
theorem bh1_yes {xs : List (List Int)} {c : List Int} {s e : Nat} (h : ¬ nxP xs s e < 0) : bh1 xs c s e = c.getD (nxP xs s e).toNat 0 := if_neg h

/-- The numbers c tell apart what words of at most t events tell apart. -/
structure ClsI (xs : List (List Int)) (t : Nat) (c : List Int) : Prop where
  len : c.length = xs.length
  num : ∀ s, s < xs.length → 0 ≤ c.getD s 0 ∧ c.getD s 0 < (xs.length : Int)
  iff : ∀ a b, a < xs.length → b < xs.length → (c.getD a 0 = c.getD b 0 ↔ eqB xs t a b = true)
theorem ClsI.zero {xs : List (List Int)} (ok : RectP xs) : ClsI xs 0 (List.replicate xs.length 0) :=
  ⟨by simp, fun s hs => by have := ok.lo; simp [List.getD, hs]; omega, fun a b ha hb => by simp [List.getD, ha, hb, eqB]⟩
theorem ClsI.bh {xs : List (List Int)} (ok : RectP xs) {t : Nat} {c : List Int} (h : ClsI xs t c) {a b : Nat} (ha : a < xs.length) (hb : b < xs.length) : bhL xs c a = bhL xs c b ↔ eqB xs (t + 1) a b = true := by
  have one : ∀ e, e < 4 → (bh1 xs c a e = bh1 xs c b e ↔ (nxP xs a e < 0 ↔ nxP xs b e < 0) ∧ (¬ nxP xs a e < 0 → eqB xs t (nxP xs a e).toNat (nxP xs b e).toNat = true)) := fun e he => by
    by_cases p : nxP xs a e < 0
    · rw [bh1_no p]
      by_cases q : nxP xs b e < 0
      · rw [bh1_no q]; simp [p, q]
      · rw [bh1_yes q]
        have := (h.num _ (ok.nx hb he q)).1
        constructor
        · intro k; omega
        · intro k; exact absurd (k.1.1 p) q
    · rw [bh1_yes p]
      by_cases q : nxP xs b e < 0
      · rw [bh1_no q]
        have := (h.num _ (ok.nx ha he p)).1
        constructor
        · intro k; omega
        · intro k; exact absurd (k.1.2 q) p
      · rw [bh1_yes q, h.iff _ _ (ok.nx ha he p) (ok.nx hb he q)]
        simp [p, q]
  rw [eqB_succ]
  unfold bhL
  simp only [List.cons.injEq, and_true]
  constructor
  · rintro ⟨k0, k1, k2, k3⟩ e he
    have : e = 0 ∨ e = 1 ∨ e = 2 ∨ e = 3 := by omega
    rcases this with rfl | rfl | rfl | rfl
    · exact (one 0 he).1 k0
    · exact (one 1 he).1 k1
    · exact (one 2 he).1 k2
    · exact (one 3 he).1 k3
  · intro k
    exact ⟨(one 0 (by omega)).2 (k 0 (by omega)), (one 1 (by omega)).2 (k 1 (by omega)), (one 2 (by omega)).2 (k 2 (by omega)), (one 3 (by omega)).2 (k 3 (by omega))⟩

/-- A list of rows, each once. -/
def addR (r : List Int) (L : List (List Int)) : List (List Int) := if r ∈ L then L else L ++ [r]
theorem addR_old {r : List Int} {L : List (List Int)} (h : r ∈ L) : addR r L = L := if_pos h
theorem addR_new {r : List Int} {L : List (List Int)} (h : r ∉ L) : addR r L = L ++ [r] := if_neg h
theorem addR_pre (r : List Int) (L : List (List Int)) : L <+: addR r L := by
  unfold addR; split
  · exact List.prefix_refl _
  · exact List.prefix_append _ _
theorem addR_mem (r : List Int) (L : List (List Int)) : r ∈ addR r L := by
  unfold addR; split
  · assumption
  · simp
theorem mem_addR {r x : List Int} {L : List (List Int)} : x ∈ addR r L ↔ x ∈ L ∨ x = r := by
  unfold addR; split
  · rename_i h
    exact ⟨.inl, fun k => k.elim id (fun e => e ▸ h)⟩
  · simp
/-- The rows behind k states, and the numbers. -/
def rowsK (xs : List (List Int)) (c : List Int) : Nat → List (List Int) × List Int
  | 0 => ([], [])
  | k + 1 => (addR (bhL xs c k) (rowsK xs c k).1, (rowsK xs c k).2 ++ [((addR (bhL xs c k) (rowsK xs c k).1).idxOf (bhL xs c k) : Int)])
theorem idxOf_pre {α : Type} [BEq α] [LawfulBEq α] {a : α} {L M : List α} (h : L <+: M) (ha : a ∈ L) : M.idxOf a = L.idxOf a := by
  obtain ⟨t, rfl⟩ := h
  rw [List.idxOf_append, if_pos ha]
theorem rowsK_ok {xs : List (List Int)} (ok : RectP xs) {t : Nat} {c : List Int} (h : ClsI xs t c) : ∀ k, k ≤ xs.length →
    (∀ x, x ∈ (rowsK xs c k).1 ↔ ∃ s, s < k ∧ bhL xs c s = x) ∧ (rowsK xs c k).1.Nodup ∧ (rowsK xs c k).1.length = (List.range k).countP (fstB xs (t + 1)) ∧ (rowsK xs c k).2.length = k ∧ (∀ s, s < k → (rowsK xs c k).2.getD s 0 = ((rowsK xs c k).1.idxOf (bhL xs c s) : Int))
  | 0, _ => ⟨fun x => by simp [rowsK], by simp [rowsK], by simp [rowsK], rfl, fun s hs => by omega⟩
  | k + 1, hk => by
    obtain ⟨h1, h2, h3, h4, h5⟩ := rowsK_ok ok h k (by omega)
    have hm : ∀ x, x ∈ (rowsK xs c (k + 1)).1 ↔ ∃ s, s < k + 1 ∧ bhL xs c s = x := fun x => by
      show x ∈ addR _ _ ↔ _
      rw [mem_addR, h1]
      constructor
      · rintro (⟨s, p, q⟩ | e)
        · exact ⟨s, by omega, q⟩
        · exact ⟨k, by omega, e.symm⟩
      · rintro ⟨s, p, q⟩
        rcases Nat.lt_or_ge s k with r | r
        · exact .inl ⟨s, r, q⟩
        · obtain rfl : s = k := by omega
          exact .inr q.symm
    have hf : bhL xs c k ∈ (rowsK xs c k).1 ↔ fstB xs (t + 1) k = false := by
      rw [h1]
      constructor
      · rintro ⟨s, p, q⟩
        cases e : fstB xs (t + 1) k with
        | false => rfl
        | true => have := fstB_iff.1 e s p; rw [(h.bh ok (by omega) (by omega)).1 q] at this; cases this
      · intro e
        have : ¬ ∀ r, r < k → eqB xs (t + 1) r k = false := fun k' => by rw [fstB_iff.2 k'] at e; cases e
        obtain ⟨r, hr⟩ := Classical.not_forall.1 this
        obtain ⟨hr, he⟩ := Classical.not_imp.1 hr
        exact ⟨r, hr, (h.bh ok (by omega) (by omega)).2 (by cases q : eqB xs (t + 1) r k with | true => rfl | false => exact absurd q he)⟩
    refine ⟨hm, ?_, ?_, ?_, ?_⟩
    · show (addR _ _).Nodup
      by_cases e : bhL xs c k ∈ (rowsK xs c k).1
      · rw [addR_old e]; exact h2
      · rw [addR_new e]
        exact List.nodup_append.2 ⟨h2, by simp, fun a ha b hb ab => by simp at hb; subst hb; subst ab; exact e ha⟩
    · show (addR _ _).length = _
      rw [List.range_succ, List.countP_append, ← h3]
      by_cases e : bhL xs c k ∈ (rowsK xs c k).1
      · rw [addR_old e]; simp [hf.1 e]
      · rw [addR_new e]
        have : fstB xs (t + 1) k = true := by cases q : fstB xs (t + 1) k with | true => rfl | false => exact absurd (hf.2 q) e
        simp [this]
    · show (_ ++ [_]).length = _
      simp [h4]
    · intro s hs
      show (((rowsK xs c k).2 ++ [_]).getD s 0) = _
      rcases Nat.lt_or_ge s k with r | r
      · have e1 := h5 s r
        simp only [List.getD] at e1 ⊢
        rw [List.getElem?_append_left (by omega), e1]
        show _ = ((addR (bhL xs c k) (rowsK xs c k).1).idxOf (bhL xs c s) : Int)
        rw [idxOf_pre (addR_pre _ _) ((h1 _).2 ⟨s, r, rfl⟩)]
      · obtain rfl : s = k := by omega
        simp only [List.getD]
        rw [List.getElem?_append_right (by omega), h4]
        simp
        rfl
theorem idxOf_inj {α : Type} [BEq α] [LawfulBEq α] {a b : α} {L : List α} (ha : a ∈ L) (h : L.idxOf a = L.idxOf b) : a = b := by
  have h1 := List.idxOf_lt_length_of_mem ha
  have h2 : L.idxOf b < L.length := by omega
  have e1 := List.getElem_idxOf h1
  have e2 := List.getElem_idxOf h2
  rw [← e1, ← e2]
  congr 1
theorem rowsK_cls {xs : List (List Int)} (ok : RectP xs) {t : Nat} {c : List Int} (h : ClsI xs t c) : ClsI xs (t + 1) (rowsK xs c xs.length).2 ∧ (rowsK xs c xs.length).1.length = kinds xs (t + 1) := by
  obtain ⟨h1, h2, h3, h4, h5⟩ := rowsK_ok ok h xs.length (Nat.le_refl _)
  refine ⟨⟨h4, fun s hs => ?_, fun a b ha hb => ?_⟩, h3⟩
  · rw [h5 s hs]
    have k1 := List.idxOf_lt_length_of_mem ((h1 _).2 ⟨s, hs, rfl⟩)
    have k2 := kinds_le xs (t + 1)
    have k3 : (rowsK xs c xs.length).1.length = kinds xs (t + 1) := h3
    omega
  · rw [h5 a ha, h5 b hb, ← h.bh ok ha hb]
    constructor
    · intro e
      exact idxOf_inj ((h1 _).2 ⟨a, ha, rfl⟩) (by omega)
    · intro e; rw [e]
theorem ClsI.index {xs : List (List Int)} {t : Nat} {c : List Int} (h : ClsI xs t c) {y : Nat} (hy : y < xs.length) : c.idxOf (c.getD y 0) = rep xs t y := by
  have hl := h.len
  refine (rep_is ?_ ?_ ?_).symm
  · have : c.idxOf (c.getD y 0) ≤ y := by
      rcases Nat.lt_or_ge y (c.idxOf (c.getD y 0)) with k | k
      · have := List.not_of_lt_findIdx (p := (· == c.getD y 0)) (xs := c) (i := y) k
        simp [List.getD, List.getElem?_eq_getElem (by omega : y < c.length)] at this
      · exact k
    exact this
  · have hm : c.getD y 0 ∈ c := by
      simp only [List.getD, List.getElem?_eq_getElem (by omega : y < c.length), Option.getD_some]
      exact List.getElem_mem _
    have key : ∀ v, v ∈ c → c.getD (c.idxOf v) 0 = v := fun v hm => by
      have h1 := List.idxOf_lt_length_of_mem hm
      rw [List.getD, List.getElem?_eq_getElem h1, Option.getD_some]
      exact List.getElem_idxOf h1
    have h1 := List.idxOf_lt_length_of_mem hm
    exact (h.iff _ _ (by omega) hy).1 (key _ hm)
  · intro j hj
    have h1 : c.idxOf (c.getD y 0) < c.length := List.idxOf_lt_length_of_mem (by
      simp only [List.getD, List.getElem?_eq_getElem (by omega : y < c.length), Option.getD_some]
      exact List.getElem_mem _)
    have := List.not_of_lt_findIdx (p := (· == c.getD y 0)) (xs := c) (i := j) hj
    cases e : eqB xs t j y with
    | false => rfl
    | true =>
      have := (h.iff j y (by omega) hy).2 e
      simp only [List.getD] at this
      rw [List.getElem?_eq_getElem (by omega : j < c.length)] at this
      simp at this
      simp_all [List.getD]

/-! The model's list: other states of the same kinds. -/
structure MinI (xs : List (List Int)) (l : List Int) (L : List Int) : Prop where
  len : l.length = L.length
  num : ∀ (j : Nat) (x : Int), l[j]? = some x → 0 ≤ x ∧ x < (xs.length : Int)
  like : ∀ (j : Nat) (x : Int), l[j]? = some x → L[j]? = some (rep xs xs.length x.toNat : Int)
theorem MinI.init {xs : List (List Int)} (ok : RectP xs) : MinI xs [0] [0] := ⟨rfl, fun j x h => by
  have := ok.lo
  cases j with
  | zero => simp at h; subst h; omega
  | succ j => simp at h, fun j x h => by
  cases j with
  | zero => simp at h; subst h; simp [rep_nil]
  | succ j => simp at h⟩
theorem MinI.snoc {xs : List (List Int)} {l L : List Int} (h : MinI xs l L) {y : Nat} (hy : y < xs.length) : MinI xs (l ++ [(y : Int)]) (L ++ [(rep xs xs.length y : Int)]) := by
  refine ⟨by simp [h.len], fun j x e => ?_, fun j x e => ?_⟩
  · rcases Nat.lt_trichotomy j l.length with k | k | k
    · rw [List.getElem?_append_left k] at e; exact h.num j x e
    · subst k; simp at e; subst e; omega
    · rw [List.getElem?_eq_none (by simp; omega)] at e; cases e
  · rcases Nat.lt_trichotomy j l.length with k | k | k
    · rw [List.getElem?_append_left k] at e
      rw [List.getElem?_append_left (by rw [← h.len]; exact k)]
      exact h.like j x e
    · subst k; simp at e; subst e
      rw [h.len]; simp
    · rw [List.getElem?_eq_none (by simp; omega)] at e; cases e
end Go.Proofs.Ytpdgnmdjneakgaa
