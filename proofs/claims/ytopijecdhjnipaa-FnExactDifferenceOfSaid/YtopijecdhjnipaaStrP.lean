/-
  Words that policies allow: the minimal policy allows the same; a policy is stricter if no reached pair tells otherwise; the search for a word with its words. (pure) No conditions.
-/
import Derived.Test.YtopijecdhjnipaaBothP
namespace Go.Proofs.Ytopijecdhjnipaa
set_option linter.unusedVariables false

/-- A map of states that keeps the steps gives the same minimal policy. -/
theorem hom_minL {P R : List (List Int)} (ok : RectP P) (okR : RectP R) (lx : Nat → Nat) (hlx : ∀ i, i < R.length → lx i < P.length) (hl0 : lx 0 = 0)
    (hstep : ∀ i e, i < R.length → e < 4 → (nxP R i e < 0 ↔ nxP P (lx i) e < 0) ∧ (¬ nxP P (lx i) e < 0 → lx (nxP R i e).toNat = (nxP P (lx i) e).toNat)) : minL R = minL P := by
  have h00 : (0 : Int) ≤ 0 ∧ (0 : Int) < (P.length : Int) := by have := ok.lo; omega
  have hRp := okR.lo
  have heq : ∀ t i j, i < R.length → j < R.length → eqB R t i j = eqB P t (lx i) (lx j) := fun t => by
    induction t with
    | zero => intro i j _ _; rfl
    | succ t ih =>
      intro i j hi hj
      rw [Bool.eq_iff_iff, eqB_succ, eqB_succ]
      constructor
      · intro h e he
        obtain ⟨p, q⟩ := h e he
        obtain ⟨i1, i2⟩ := hstep i e hi he
        obtain ⟨j1, j2⟩ := hstep j e hj he
        refine ⟨i1.symm.trans (p.trans j1), fun hn => ?_⟩
        have hn2 : ¬ nxP R i e < 0 := fun k => hn (i1.1 k)
        have hn4 : ¬ nxP R j e < 0 := fun k => hn2 (p.2 k)
        have hn3 : ¬ nxP P (lx j) e < 0 := fun k => hn4 (j1.2 k)
        have := q hn2
        rw [ih _ _ (okR.nx hi he hn2) (okR.nx hj he hn4), i2 hn, j2 hn3] at this
        exact this
      · intro h e he
        obtain ⟨p, q⟩ := h e he
        obtain ⟨i1, i2⟩ := hstep i e hi he
        obtain ⟨j1, j2⟩ := hstep j e hj he
        refine ⟨i1.trans (p.trans j1.symm), fun hn => ?_⟩
        have hn2 : ¬ nxP P (lx i) e < 0 := fun k => hn (i1.2 k)
        have hn3 : ¬ nxP P (lx j) e < 0 := fun k => hn2 (p.2 k)
        have hn4 : ¬ nxP R j e < 0 := fun k => hn3 (j1.1 k)
        rw [ih _ _ (okR.nx hi he hn) (okR.nx hj he hn4), i2 hn2, j2 hn3]
        exact q hn2
  have hsame : ∀ i j, i < R.length → j < R.length → sameB R i j = sameB P (lx i) (lx j) := fun i j hi hj => by
    have s1 := (settled_len okR).add okR P.length
    have s2 := (settled_len ok).add ok R.length
    rw [← same_of okR s1 hi hj, ← same_of ok s2 (hlx i hi) (hlx j hj), Nat.add_comm P.length R.length]
    exact heq _ i j hi hj
  have hsim := unf_sim (ρ := fun a b => ∃ i, i < R.length ∧ a = (rep R R.length i : Int) ∧ b = (rep P P.length (lx i) : Int)) (st := stM R) (st' := stM P) (x := 0) (y := 0)
    (by
      rintro a b a' b' ⟨i, hi, rfl, rfl⟩ ⟨j, hj, rfl, rfl⟩
      have := hsame i j hi hj
      have e1 : ((rep R R.length i : Int) = (rep R R.length j : Int)) ↔ sameB R i j = true := by rw [Int.ofNat_inj]; exact rep_iff
      have e2 : ((rep P P.length (lx i) : Int) = (rep P P.length (lx j) : Int)) ↔ sameB P (lx i) (lx j) = true := by rw [Int.ofNat_inj]; exact rep_iff
      rw [e1, e2, this])
    (by
      rintro a b e ⟨i, hi, rfl, rfl⟩ he
      obtain ⟨r1, r2, _⟩ := rep_ok R R.length i
      obtain ⟨p1, p2, _⟩ := rep_ok P P.length (lx i)
      have hli := hlx i hi
      rw [stM_same okR (a := rep R R.length i) (b := i) (by omega) (by omega) he r2, stM_same ok (a := rep P P.length (lx i)) (b := lx i) (by omega) hli he p2]
      obtain ⟨i1, i2⟩ := hstep i e hi he
      by_cases hn : nxP P (lx i) e < 0
      · rw [stM_no hn, stM_no (i1.2 hn)]
        exact ⟨rfl, fun k => by cases k⟩
      · have hn2 : ¬ nxP R i e < 0 := fun k => hn (i1.1 k)
        rw [stM_yes hn, stM_yes hn2]
        exact ⟨rfl, fun _ => ⟨_, okR.nx hi he hn2, rfl, by rw [i2 hn]⟩⟩)
    ⟨0, by omega, by rw [rep_nil]; rfl, by rw [hl0, rep_nil]; rfl⟩ (R.length + P.length)
  have hR0 : (0 : Int) ≤ 0 ∧ (0 : Int) < (R.length : Int) := by omega
  have e1 := unf_stay (unf_among (stM_stays okR) hR0 R.length).len P.length
  have e2 := unf_stay (unf_among (stM_stays ok) h00 P.length).len R.length
  have h3 := hsim.1
  rw [e1, Nat.add_comm R.length P.length, e2] at h3
  unfold minL
  exact h3

/-- All items are gone through at some time. -/
theorem unf_end {st : Int → Nat → Int × Bool} {N : Nat} (hs : Stays st N) {x0 : Int} (hx : 0 ≤ x0 ∧ x0 < (N : Int)) : ∀ d k, N ≤ k + d → k ≤ (unf st x0 k).1.length → ∃ L R, UnfEnd st x0 L R
  | 0, k, hd, hk => ⟨(unf st x0 k).1, (unf st x0 k).2, k, rfl, by have := (unf_among hs hx k).len; omega⟩
  | d + 1, k, hd, hk => by
    rcases Nat.lt_or_ge k (unf st x0 k).1.length with h | h
    · have e1 : (unf st x0 k).1[k]? = some (unf st x0 k).1[k] := List.getElem?_eq_getElem h
      refine unf_end hs hx d (k + 1) (by omega) ?_
      rw [unf_next e1]
      have := (evT_rows st (unf st x0 k).1[k] (unf st x0 k).1 4 (Nat.le_refl _)).2.length_le
      show k + 1 ≤ (evT st _ _ 4).1.length
      omega
    · exact ⟨(unf st x0 k).1, (unf st x0 k).2, k, rfl, by omega⟩

/-- What a row says of the next items, by their places. -/
structure UnfAt (st : Int → Nat → Int × Bool) (L : List Int) (R : List (List Int)) : Prop where
  len : R.length = L.length
  zero : L[0]? = some 0
  nx : ∀ i x, L[i]? = some x → ∀ e, e < 4 → (nxP R i e < 0 ↔ (st x e).2 = false) ∧ ((st x e).2 = true → ∃ j : Nat, j < L.length ∧ nxP R i e = j ∧ L[j]? = some (st x e).1)
theorem UnfEnd.unfAt {st : Int → Nat → Int × Bool} {L : List Int} {R : List (List Int)} (h : UnfEnd st 0 L R) : UnfAt st L R := by
  obtain ⟨k, hk, hkl⟩ := h
  obtain ⟨a1, a2, a3, a4⟩ := unf_at st 0 k
  rw [hk] at a1 a2 a3 a4
  dsimp only at a1 a2 a3 a4
  have hRL : R.length = L.length := by rw [a4 (by omega)]; exact hkl
  refine ⟨hRL, by obtain ⟨t, ht⟩ := a2; rw [← ht]; rfl, fun i x hx e he => ?_⟩
  have hi := (List.getElem?_eq_some_iff.1 hx).1
  obtain ⟨r, hr⟩ : ∃ r, R[i]? = some r := ⟨_, List.getElem?_eq_getElem (by omega)⟩
  obtain ⟨h1, h2⟩ := a1 i _ r hx hr
  obtain ⟨h3, h4⟩ := h2 e he
  have hv : nxP R i e = if e < 4 ∧ (st x e).2 = true then (L.idxOf (st x e).1 : Int) else -1 := by
    unfold nxP
    simp only [List.getD, hr, h3, Option.getD_some]
  cases hs : (st x e).2 with
  | false =>
    rw [hs, if_neg (by simp)] at hv
    exact ⟨⟨fun _ => rfl, fun _ => by omega⟩, fun k => by cases k⟩
  | true =>
    have hm := h4 he hs
    have hlt := List.idxOf_lt_length_of_mem hm
    rw [hs, if_pos ⟨he, rfl⟩] at hv
    exact ⟨⟨fun _ => by omega, fun k => by cases k⟩, fun _ => ⟨_, hlt, hv, by rw [List.getElem?_eq_getElem hlt, List.getElem_idxOf hlt]⟩⟩

/-- The state behind a word, if it is allowed. -/
def runB (X : List (List Int)) : Nat → List Nat → Option Nat
  | s, [] => some s
  | s, e :: w => if nxP X s e < 0 then none else runB X (nxP X s e).toNat w
theorem runB_app (X : List (List Int)) : ∀ (w : List Nat) (s : Nat) (v : List Nat), runB X s (w ++ v) = (runB X s w).bind fun t => runB X t v
  | [], s, v => rfl
  | e :: w, s, v => by
    show (if nxP X s e < 0 then none else runB X (nxP X s e).toNat (w ++ v)) = (if nxP X s e < 0 then none else runB X (nxP X s e).toNat w).bind _
    by_cases h : nxP X s e < 0
    · rw [if_pos h, if_pos h]; rfl
    · rw [if_neg h, if_neg h]; exact runB_app X w _ v
/-- The minimal policy allows the same words. -/
theorem minL_run {X : List (List Int)} (ok : RectP X) {w : List Nat} (hw : ∀ e ∈ w, e < 4) : (runB (minL X) 0 w).isSome = (runB X 0 w).isSome := by
  have h00 : (0 : Int) ≤ 0 ∧ (0 : Int) < (X.length : Int) := by have := ok.lo; omega
  obtain ⟨M, R, hend⟩ := unf_end (stM_stays ok) h00 X.length 0 (by omega) (Nat.zero_le _)
  rw [← minL_is ok hend]
  have hA := hend.unfAt
  have hM : ∀ j x, M[j]? = some x → 0 ≤ x ∧ x < (X.length : Int) := fun j x hx => by
    obtain ⟨k, hk, _⟩ := hend
    have := unf_among (stM_stays ok) h00 k
    rw [hk] at this
    exact this.2 x (List.mem_of_getElem? hx)
  have key : ∀ (w : List Nat), (∀ e ∈ w, e < 4) → ∀ (j s : Nat) (x : Int), M[j]? = some x → s < X.length → sameB X s x.toNat = true → (runB R j w).isSome = (runB X s w).isSome := fun w => by
    induction w with
    | nil => intro _ j s x _ _ _; rfl
    | cons e w ih =>
      intro hw j s x hx hs hsame
      have he := hw e (List.mem_cons_self ..)
      have hxr := hM j x hx
      obtain ⟨y, rfl⟩ : ∃ y : Nat, x = y := ⟨x.toNat, by omega⟩
      rw [Int.toNat_natCast] at hsame
      obtain ⟨a, b⟩ := hA.nx j _ hx e he
      obtain ⟨c, d⟩ := same_next ok hs (by omega) he hsame
      show (if nxP R j e < 0 then none else runB R (nxP R j e).toNat w).isSome = (if nxP X s e < 0 then none else runB X (nxP X s e).toNat w).isSome
      by_cases hn : nxP X s e < 0
      · rw [if_pos hn, if_pos (a.2 (by rw [stM_no (c.1 hn)]))]
      · have hn2 : ¬ nxP X y e < 0 := fun k => hn (c.2 k)
        have hst := stM_yes hn2
        obtain ⟨j', h1, h2, h3⟩ := b (by rw [hst])
        have hn3 : ¬ nxP R j e < 0 := by omega
        rw [if_neg hn, if_neg hn3, h2, Int.toNat_natCast]
        rw [hst] at h3
        refine ih (fun e he => hw e (List.mem_cons_of_mem _ he)) j' _ _ h3 (ok.nx hs he hn) ?_
        rw [Int.toNat_natCast]
        have h4 := d hn
        obtain ⟨_, r2, _⟩ := rep_ok X X.length (nxP X y e).toNat
        exact eqB_trans h4 (eqB_symm r2)
  exact key w hw 0 0 0 hA.zero (by have := ok.lo; omega) (eqB_refl _ _ _)
/-- Where new items come from. -/
theorem evT_new (st : Int → Nat → Int × Bool) (x : Int) (L : List Int) : ∀ j, j ≤ 4 → ∀ i, L.length ≤ i → i < (evT st x L j).1.length → ∃ e, e < j ∧ (evT st x L j).2[e]? = some (i : Int)
  | 0, _, i, h1, h2 => by have : i < L.length := h2; omega
  | j + 1, hj, i, h1, h2 => by
    have ih := evT_new st x L j (by omega)
    have hl := (evT_rows st x L j (by omega)).1.1
    rw [evT] at h2 ⊢
    cases hv : (st x j).2 with
    | false =>
      rw [evS_no hv] at h2 ⊢
      obtain ⟨e, h3, h4⟩ := ih i h1 h2
      exact ⟨e, by omega, h4⟩
    | true =>
      rw [evS_yes hv] at h2 ⊢
      dsimp only at h2 ⊢
      by_cases hm : (st x j).1 ∈ (evT st x L j).1
      · rw [addL_old hm] at h2
        obtain ⟨e, h3, h4⟩ := ih i h1 h2
        exact ⟨e, by omega, by rw [List.getElem?_set_ne (by omega)]; exact h4⟩
      · rw [addL_new hm] at h2 ⊢
        by_cases hi : i < (evT st x L j).1.length
        · obtain ⟨e, h3, h4⟩ := ih i h1 hi
          exact ⟨e, by omega, by rw [List.getElem?_set_ne (by omega)]; exact h4⟩
        · have hie : i = (evT st x L j).1.length := by simp at h2; omega
          refine ⟨j, by omega, ?_⟩
          rw [List.getElem?_set_self (by omega), List.idxOf_append, if_neg hm, hie]
          simp
theorem unf_from (st : Int → Nat → Int × Bool) (x0 : Int) : ∀ k i, 0 < i → i < (unf st x0 k).1.length → ∃ j e, j < i ∧ e < 4 ∧ ∃ r, (unf st x0 k).2[j]? = some r ∧ r[e]? = some (i : Int)
  | 0, i, h1, h2 => by simp [unf] at h2; omega
  | k + 1, i, h1, h2 => by
    have ih := unf_from st x0 k
    rcases Nat.lt_or_ge k (unf st x0 k).1.length with h | h
    · have e1 : (unf st x0 k).1[k]? = some (unf st x0 k).1[k] := List.getElem?_eq_getElem h
      have hk := (unf_at st x0 k).2.2.2 (by omega)
      rw [unf_next e1] at h2 ⊢
      dsimp only at h2 ⊢
      by_cases hi : i < (unf st x0 k).1.length
      · obtain ⟨j, e, h3, h4, r, h5, h6⟩ := ih i h1 hi
        exact ⟨j, e, h3, h4, r, by rw [List.getElem?_append_left (List.getElem?_eq_some_iff.1 h5).1]; exact h5, h6⟩
      · obtain ⟨e, h3, h4⟩ := evT_new st _ _ 4 (Nat.le_refl _) i (by omega) h2
        exact ⟨k, e, by omega, h3, _, by rw [List.getElem?_append_right (by omega), hk, Nat.sub_self]; rfl, h4⟩
    · rw [unf_stop h] at h2 ⊢
      exact ih i h1 h2
/-- Each item is reached by a word. -/
theorem unf_word {st : Int → Nat → Int × Bool} {L : List Int} {R : List (List Int)} (h : UnfEnd st 0 L R) : ∀ i, i < L.length → ∃ w, (∀ e ∈ w, e < 4) ∧ runB R 0 w = some i := by
  obtain ⟨k, hk, _⟩ := h
  have hf := unf_from st 0 k
  rw [hk] at hf
  dsimp only at hf
  intro i
  induction i using Nat.strongRecOn with
  | ind i ih =>
    intro hi
    rcases Nat.eq_zero_or_pos i with rfl | hp
    · exact ⟨[], (fun e he => by cases he), rfl⟩
    · obtain ⟨j, e, h1, h2, r, h3, h4⟩ := hf i hp hi
      obtain ⟨w, h5, h6⟩ := ih j h1 (by omega)
      have hv : nxP R j e = i := by unfold nxP; simp [List.getD, h3, h4]
      refine ⟨w ++ [e], fun e' he' => ?_, ?_⟩
      · rcases List.mem_append.1 he' with h' | h'
        · exact h5 e' h'
        · simp at h'; subst h'; exact h2
      · rw [runB_app, h6]
        show (if nxP R j e < 0 then none else runB R (nxP R j e).toNat []) = some i
        rw [if_neg (by omega), hv, Int.toNat_natCast]; rfl

/-- A pair at which an event is allowed by one policy and not by the other (both: in either direction). -/
def hitB (p q : List (List Int)) (both : Bool) (x : Int) (e : Nat) : Bool :=
  (decide (0 ≤ nxP p (x / (q.length : Int)).toNat e) && decide (nxP q (x % (q.length : Int)).toNat e < 0)) || (both && decide (nxP p (x / (q.length : Int)).toNat e < 0) && decide (0 ≤ nxP q (x % (q.length : Int)).toNat e))
theorem stP_ok {p q : List (List Int)} {x : Int} {e : Nat} : (stP p q x e).2 = (decide (0 ≤ nxP p (x / (q.length : Int)).toNat e) && decide (0 ≤ nxP q (x % (q.length : Int)).toNat e)) := by
  unfold stP stR
  dsimp only
  by_cases h1 : nxP p (x / (q.length : Int)).toNat e < 0
  · rw [if_pos h1, decide_eq_false (p := 0 ≤ nxP p _ e) (by omega)]; rfl
  · rw [if_neg h1, decide_eq_true (p := 0 ≤ nxP p _ e) (by omega), Bool.true_and]
    by_cases h2 : nxP q (x % (q.length : Int)).toNat e < 0
    · rw [if_pos h2, decide_eq_false (p := 0 ≤ nxP q _ e) (by omega)]; rfl
    · rw [if_neg h2, decide_eq_true (p := 0 ≤ nxP q _ e) (by omega)]; rfl
/-- A policy is stricter exactly if no reached pair tells otherwise. -/
theorem stricter_iff {p q R : List (List Int)} {L : List Int} (okp : RectP p) (okq : RectP q) (h : UnfEnd (stP p q) 0 L R) : (minL R = minL p) ↔ ∀ x ∈ L, ∀ e, e < 4 → hitB p q false x e = false := by
  have hA := h.unfAt
  obtain ⟨okR, hRl, _⟩ := both_minL okp okq h
  have hql := okq.lo
  have hL : ∀ x ∈ L, 0 ≤ x ∧ x < ((p.length * q.length : Nat) : Int) := fun x hx => by
    obtain ⟨k, hk, _⟩ := h
    have := unf_among (stP_stays okp okq) (x0 := 0) (by have := Nat.mul_pos okp.lo okq.lo; omega) k
    rw [hk] at this
    exact this.2 x hx
  have hdiv : ∀ x ∈ L, 0 ≤ x / (q.length : Int) ∧ x / (q.length : Int) < (p.length : Int) := fun x hx => by
    have := hL x hx
    exact ⟨Int.ediv_nonneg this.1 (by omega), Int.ediv_lt_of_lt_mul (by omega) (by rw [← Int.natCast_mul]; exact this.2)⟩
  have hhit : ∀ x e, hitB p q false x e = (decide (0 ≤ nxP p (x / (q.length : Int)).toNat e) && decide (nxP q (x % (q.length : Int)).toNat e < 0)) := fun x e => by unfold hitB; simp
  obtain ⟨lx, hlx⟩ : ∃ lx : Nat → Nat, ∀ i, i < L.length → ∃ x, L[i]? = some x ∧ lx i = (x / (q.length : Int)).toNat := ⟨fun i => (L.getD i 0 / (q.length : Int)).toNat, fun i hi => ⟨L[i], List.getElem?_eq_getElem hi, by simp [List.getD, List.getElem?_eq_getElem hi]⟩⟩
  have hnext : ∀ i x e, L[i]? = some x → e < 4 → ¬ nxP R i e < 0 → (nxP R i e).toNat < L.length ∧ lx (nxP R i e).toNat = (nxP p (x / (q.length : Int)).toNat e).toNat ∧ ¬ nxP p (x / (q.length : Int)).toNat e < 0 ∧ ¬ nxP q (x % (q.length : Int)).toNat e < 0 := fun i x e hx he hn => by
    obtain ⟨a, b⟩ := hA.nx i x hx e he
    have hv : (stP p q x e).2 = true := by cases k : (stP p q x e).2 with | true => rfl | false => exact absurd (a.2 k) hn
    obtain ⟨j, h1, h2, h3⟩ := b hv
    have hv2 := hv
    rw [stP_ok] at hv2
    simp only [Bool.and_eq_true, decide_eq_true_eq] at hv2
    rw [h2, Int.toNat_natCast]
    obtain ⟨y, h4, h5⟩ := hlx j h1
    rw [h3] at h4
    obtain rfl := Option.some.inj h4
    have h6 := (stP_parts (p := p) okq (hL x (List.mem_of_getElem? hx)).1 he).1
    refine ⟨h1, ?_, by omega, by omega⟩
    rw [h5, h6, stR_yes (by omega)]
  constructor
  · intro hm x hx e he
    cases hb : hitB p q false x e with
    | false => rfl
    | true =>
      rw [hhit, Bool.and_eq_true, decide_eq_true_eq, decide_eq_true_eq] at hb
      obtain ⟨i, hi⟩ := List.getElem?_of_mem hx
      have hil := (List.getElem?_eq_some_iff.1 hi).1
      obtain ⟨w, hw, hr⟩ := unf_word h i hil
      -- the word leads p to the pair's first state
      have key : ∀ (w : List Nat), (∀ e ∈ w, e < 4) → ∀ j t, j < L.length → runB R j w = some t → runB p (lx j) w = some (lx t) ∧ t < L.length := fun w => by
        induction w with
        | nil => intro _ j t hj hr; obtain rfl : j = t := Option.some.inj hr; exact ⟨rfl, hj⟩
        | cons e w ih =>
          intro hw j t hj hr
          have he := hw e (List.mem_cons_self ..)
          obtain ⟨y, h1, h2⟩ := hlx j hj
          change (if nxP R j e < 0 then none else runB R (nxP R j e).toNat w) = some t at hr
          by_cases hn : nxP R j e < 0
          · rw [if_pos hn] at hr; cases hr
          · rw [if_neg hn] at hr
            obtain ⟨k1, k2, k3, k4⟩ := hnext j y e h1 he hn
            show (if nxP p (lx j) e < 0 then none else runB p (nxP p (lx j) e).toNat w) = some (lx t) ∧ _
            rw [h2, if_neg k3, ← k2]
            exact ih (fun e he => hw e (List.mem_cons_of_mem _ he)) _ t k1 hr
      have hl0 : lx 0 = 0 := by
        obtain ⟨y, h1, h2⟩ := hlx 0 (by have := (List.getElem?_eq_some_iff.1 hA.zero).1; omega)
        rw [hA.zero] at h1
        obtain rfl := Option.some.inj h1
        rw [h2, Int.zero_ediv]; rfl
      obtain ⟨k1, k2⟩ := key w hw 0 i (by omega) hr
      rw [hl0] at k1
      obtain ⟨y, h1, h2⟩ := hlx i hil
      rw [hi] at h1
      obtain rfl := Option.some.inj h1
      have hall : ∀ e' ∈ w ++ [e], e' < 4 := fun e' h' => by
        rcases List.mem_append.1 h' with h' | h'
        · exact hw e' h'
        · simp at h'; subst h'; exact he
      have m1 := minL_run okR hall
      have m2 := minL_run okp hall
      rw [hm, m2, runB_app, runB_app, k1, hr] at m1
      have hn : nxP R i e < 0 := by
        obtain ⟨a, _⟩ := hA.nx i x hi e he
        refine a.2 ?_
        rw [stP_ok, decide_eq_false (p := 0 ≤ nxP q _ e) (by omega), Bool.and_false]
      change (if nxP p (lx i) e < 0 then none else runB p (nxP p (lx i) e).toNat []).isSome = (if nxP R i e < 0 then none else runB R (nxP R i e).toNat []).isSome at m1
      rw [if_pos hn, h2, if_neg (by omega)] at m1
      cases m1
  · intro hno
    refine hom_minL okp okR lx (fun i hi => ?_) ?_ fun i e hi he => ?_
    · rw [hA.len] at hi
      obtain ⟨x, h1, h2⟩ := hlx i hi
      have := hdiv x (List.mem_of_getElem? h1)
      rw [h2]; omega
    · obtain ⟨y, h1, h2⟩ := hlx 0 (by have := (List.getElem?_eq_some_iff.1 hA.zero).1; omega)
      rw [hA.zero] at h1
      obtain rfl := Option.some.inj h1
      rw [h2, Int.zero_ediv]; rfl
    · rw [hA.len] at hi
      obtain ⟨x, h1, h2⟩ := hlx i hi
      obtain ⟨a, b⟩ := hA.nx i x h1 e he
      have hn := hno x (List.mem_of_getElem? h1) e he
      rw [hhit, Bool.and_eq_false_iff, decide_eq_false_iff_not, decide_eq_false_iff_not] at hn
      rw [h2]
      have hiff : nxP R i e < 0 ↔ nxP p (x / (q.length : Int)).toNat e < 0 := by
        rw [a, stP_ok, Bool.and_eq_false_iff, decide_eq_false_iff_not, decide_eq_false_iff_not]
        omega
      exact ⟨hiff, fun k => (hnext i x e h1 he (fun k' => k (hiff.1 k'))).2.1⟩
end Go.Proofs.Ytopijecdhjnipaa
