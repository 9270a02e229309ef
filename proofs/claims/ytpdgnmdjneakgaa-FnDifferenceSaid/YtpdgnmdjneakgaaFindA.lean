/-
  Several texts in one: StrP, FindP, FindM. Conditions: as each says.
-/
import Derived.Test.YtpdgnmdjneakgaaBothP
import Derived.Test.YtpdgnmdjneakgaaBothA
import Derived.Test.YtpdgnmdjneakgaaOwn64

/-! Words that policies allow: the minimal policy allows the same; a policy is stricter if no reached pair tells otherwise; the search for a word with its words. (pure) No conditions. -/
namespace Go.Proofs.Ytpdgnmdjneakgaa
set_option linter.unusedVariables false

/-- A map of states that keeps the steps gives the same minimal policy. -/
theorem hom_minL {P R : List (List Int)} (ok : RectP P) (okR : RectP R) (lx : Nat → Nat) (hlx : ∀ i, i < R.length → lx i < P.length) (hl0 : lx 0 = 0)
    (hstep : ∀ i e, i < R.length → e < 4 → (nxP R i e < 0 ↔ nxP P (lx i) e < 0) ∧ (¬ nxP P (lx i) e < 0 → lx (nxP R i e).toNat = (nxP P (lx i) e).toNat)) : minL R = minL P := by
  have h00 : (0 : Int) ≤ 0 ∧ (0 : Int) < (P.length : Int) := by have := ok.lo; omega
  have hRp := okR.lo
  have heq : ∀ t i j, i < R.length → j < R.length → eqB R t i j = eqB P t (lx i) (lx j) := fun t => by
    induction t with
    | zero => intro i j _ _; rfl
    | succ t ih =>
      intro i j hi hj
      rw [Bool.eq_iff_iff, eqB_succ, eqB_succ]
      constructor
      · intro h e he
        obtain ⟨p, q⟩ := h e he
        obtain ⟨i1, i2⟩ := hstep i e hi he
        obtain ⟨j1, j2⟩ := hstep j e hj he
        refine ⟨i1.symm.trans (p.trans j1), fun hn => ?_⟩
        have hn2 : ¬ nxP R i e < 0 := fun k => hn (i1.1 k)
        have hn4 : ¬ nxP R j e < 0 := fun k => hn2 (p.2 k)
        have hn3 : ¬ nxP P (lx j) e < 0 := fun k => hn4 (j1.2 k)
        have := q hn2
        rw [ih _ _ (okR.nx hi he hn2) (okR.nx hj he hn4), i2 hn, j2 hn3] at this
        exact this
      · intro h e he
        obtain ⟨p, q⟩ := h e he
        obtain ⟨i1, i2⟩ := hstep i e hi he
        obtain ⟨j1, j2⟩ := hstep j e hj he
        refine ⟨i1.trans (p.trans j1.symm), fun hn => ?_⟩
        have hn2 : ¬ nxP P (lx i) e < 0 := fun k => hn (i1.2 k)
        have hn3 : ¬ nxP P (lx j) e < 0 := fun k => hn2 (p.2 k)
        have hn4 : ¬ nxP R j e < 0 := fun k => hn3 (j1.1 k)
        rw [ih _ _ (okR.nx hi he hn) (okR.nx hj he hn4), i2 hn2, j2 hn3]
        exact q hn2
  have hsame : ∀ i j, i < R.length → j < R.length → sameB R i j = sameB P (lx i) (lx j) := fun i j hi hj => by
    have s1 := (settled_len okR).add okR P.length
    have s2 := (settled_len ok).add ok R.length
    rw [← same_of okR s1 hi hj, ← same_of ok s2 (hlx i hi) (hlx j hj), Nat.add_comm P.length R.length]
    exact heq _ i j hi hj
  have hsim := unf_sim (ρ := fun a b => ∃ i, i < R.length ∧ a = (rep R R.length i : Int) ∧ b = (rep P P.length (lx i) : Int)) (st := stM R) (st' := stM P) (x := 0) (y := 0)
    (by
      rintro a b a' b' ⟨i, hi, rfl, rfl⟩ ⟨j, hj, rfl, rfl⟩
      have := hsame i j hi hj
      have e1 : ((rep R R.length i : Int) = (rep R R.length j : Int)) ↔ sameB R i j = true := by rw [Int.ofNat_inj]; exact rep_iff
      have e2 : ((rep P P.length (lx i) : Int) = (rep P P.length (lx j) : Int)) ↔ sameB P (lx i) (lx j) = true := by rw [Int.ofNat_inj]; exact rep_iff
      rw [e1, e2, this])
    (by
      rintro a b e ⟨i, hi, rfl, rfl⟩ he
      obtain ⟨r1, r2, _⟩ := rep_ok R R.length i
      obtain ⟨p1, p2, _⟩ := rep_ok P P.length (lx i)
      have hli := hlx i hi
      rw [stM_same okR (a := rep R R.length i) (b := i) (by omega) (by omega) he r2, stM_same ok (a := rep P P.length (lx i)) (b := lx i) (by omega) hli he p2]
      obtain ⟨i1, i2⟩ := hstep i e hi he
      by_cases hn : nxP P (lx i) e < 0
      · rw [stM_no hn, stM_no (i1.2 hn)]
        exact ⟨rfl, fun k => by cases k⟩
      · have hn2 : ¬ nxP R i e < 0 := fun k => hn (i1.1 k)
        rw [stM_yes hn, stM_yes hn2]
        exact ⟨rfl, fun _ => ⟨_, okR.nx hi he hn2, rfl, by rw [i2 hn]⟩⟩)
    ⟨0, by omega, by rw [rep_nil]; rfl, by rw [hl0, rep_nil]; rfl⟩ (R.length + P.length)
  have hR0 : (0 : Int) ≤ 0 ∧ (0 : Int) < (R.length : Int) := by omega
  have e1 := unf_stay (unf_among (stM_stays okR) hR0 R.length).len P.length
  have e2 := unf_stay (unf_among (stM_stays ok) h00 P.length).len R.length
  have h3 := hsim.1
  rw [e1, Nat.add_comm R.length P.length, e2] at h3
  unfold minL
  exact h3

/-- All items are gone through at some time. -/
theorem unf_end {st : Int → Nat → Int × Bool} {N : Nat} (hs : Stays st N) {x0 : Int} (hx : 0 ≤ x0 ∧ x0 < (N : Int)) : ∀ d k, N ≤ k + d → k ≤ (unf st x0 k).1.length → ∃ L R, UnfEnd st x0 L R
  | 0, k, hd, hk => ⟨(unf st x0 k).1, (unf st x0 k).2, k, rfl, by have := (unf_among hs hx k).len; omega⟩
  | d + 1, k, hd, hk => by
    rcases Nat.lt_or_ge k (unf st x0 k).1.length with h | h
    · have e1 : (unf st x0 k).1[k]? = some (unf st x0 k).1[k] := List.getElem?_eq_getElem h
      refine unf_end hs hx d (k + 1) (by omega) ?_
      rw [unf_next e1]
      have := (evT_rows st (unf st x0 k).1[k] (unf st x0 k).1 4 (Nat.le_refl _)).2.length_le
      show k + 1 ≤ (evT st _ _ 4).1.length
      omega
    · exact ⟨(unf st x0 k).1, (unf st x0 k).2, k, rfl, by omega⟩

/-- What a row says of the next items, by their places. -/
structure UnfAt (st : Int → Nat → Int × Bool) (L : List Int) (R : List (List Int)) : Prop where
  len : R.length = L.length
  zero : L[0]? = some 0
  nx : ∀ i x, L[i]? = some x → ∀ e, e < 4 → (nxP R i e < 0 ↔ (st x e).2 = false) ∧ ((st x e).2 = true → ∃ j : Nat, j < L.length ∧ nxP R i e = j ∧ L[j]? = some (st x e).1)
theorem UnfEnd.unfAt {st : Int → Nat → Int × Bool} {L : List Int} {R : List (List Int)} (h : UnfEnd st 0 L R) : UnfAt st L R := by
  obtain ⟨k, hk, hkl⟩ := h
  obtain ⟨a1, a2, a3, a4⟩ := unf_at st 0 k
  rw [hk] at a1 a2 a3 a4
  dsimp only at a1 a2 a3 a4
  have hRL : R.length = L.length := by rw [a4 (by omega)]; exact hkl
  refine ⟨hRL, by obtain ⟨t, ht⟩ := a2; rw [← ht]; rfl, fun i x hx e he => ?_⟩
  have hi := (List.getElem?_eq_some_iff.1 hx).1
  obtain ⟨r, hr⟩ : ∃ r, R[i]? = some r := ⟨_, List.getElem?_eq_getElem (by omega)⟩
  obtain ⟨h1, h2⟩ := a1 i _ r hx hr
  obtain ⟨h3, h4⟩ := h2 e he
  have hv : nxP R i e = if e < 4 ∧ (st x e).2 = true then (L.idxOf (st x e).1 : Int) else -1 := by
    unfold nxP
    simp only [List.getD, hr, h3, Option.getD_some]
  cases hs : (st x e).2 with
  | false =>
    rw [hs, if_neg (by simp)] at hv
    exact ⟨⟨fun _ => rfl, fun _ => by omega⟩, fun k => by cases k⟩
  | true =>
    have hm := h4 he hs
    have hlt := List.idxOf_lt_length_of_mem hm
    rw [hs, if_pos ⟨he, rfl⟩] at hv
    exact ⟨⟨fun _ => by omega, fun k => by cases k⟩, fun _ => ⟨_, hlt, hv, by rw [List.getElem?_eq_getElem hlt, List.getElem_idxOf hlt]⟩⟩

/-- The state behind a word, if it is allowed. -/
def runB (X : List (List Int)) : Nat → List Nat → Option Nat
  | s, [] => some s
  | s, e :: w => if nxP X s e < 0 then none else runB X (nxP X s e).toNat w
theorem runB_app (X : List (List Int)) : ∀ (w : List Nat) (s : Nat) (v : List Nat), runB X s (w ++ v) = (runB X s w).bind fun t => runB X t v
  | [], s, v => rfl
  | e :: w, s, v => by
    show (if nxP X s e < 0 then none else runB X (nxP X s e).toNat (w ++ v)) = (if nxP X s e < 0 then none else runB X (nxP X s e).toNat w).bind _
    by_cases h : nxP X s e < 0
    · rw [if_pos h, if_pos h]; rfl
    · rw [if_neg h, if_neg h]; exact runB_app X w _ v
/-- The minimal policy allows the same words. -/
theorem minL_run {X : List (List Int)} (ok : RectP X) {w : List Nat} (hw : ∀ e ∈ w, e < 4) : (runB (minL X) 0 w).isSome = (runB X 0 w).isSome := by
  have h00 : (0 : Int) ≤ 0 ∧ (0 : Int) < (X.length : Int) := by have := ok.lo; omega
  obtain ⟨M, R, hend⟩ := unf_end (stM_stays ok) h00 X.length 0 (by omega) (Nat.zero_le _)
  rw [← minL_is ok hend]
  have hA := hend.unfAt
  have hM : ∀ j x, M[j]? = some x → 0 ≤ x ∧ x < (X.length : Int) := fun j x hx => by
    obtain ⟨k, hk, _⟩ := hend
    have := unf_among (stM_stays ok) h00 k
    rw [hk] at this
    exact this.2 x (List.mem_of_getElem? hx)
  have key : ∀ (w : List Nat), (∀ e ∈ w, e < 4) → ∀ (j s : Nat) (x : Int), M[j]? = some x → s < X.length → sameB X s x.toNat = true → (runB R j w).isSome = (runB X s w).isSome := fun w => by
    induction w with
    | nil => intro _ j s x _ _ _; rfl
    | cons e w ih =>
      intro hw j s x hx hs hsame
      have he := hw e (List.mem_cons_self ..)
      have hxr := hM j x hx
      obtain ⟨y, rfl⟩ : ∃ y : Nat, x = y := ⟨x.toNat, by omega⟩
      rw [Int.toNat_natCast] at hsame
      obtain ⟨a, b⟩ := hA.nx j _ hx e he
      obtain ⟨c, d⟩ := same_next ok hs (by omega) he hsame
      show (if nxP R j e < 0 then none else runB R (nxP R j e).toNat w).isSome = (if nxP X s e < 0 then none else runB X (nxP X s e).toNat w).isSome
      by_cases hn : nxP X s e < 0
      · rw [if_pos hn, if_pos (a.2 (by rw [stM_no (c.1 hn)]))]
      · have hn2 : ¬ nxP X y e < 0 := fun k => hn (c.2 k)
        have hst := stM_yes hn2
        obtain ⟨j', h1, h2, h3⟩ := b (by rw [hst])
        have hn3 : ¬ nxP R j e < 0 := by omega
        rw [if_neg hn, if_neg hn3, h2, Int.toNat_natCast]
        rw [hst] at h3
        refine ih (fun e he => hw e (List.mem_cons_of_mem _ he)) j' _ _ h3 (ok.nx hs he hn) ?_
        rw [Int.toNat_natCast]
        have h4 := d hn
        obtain ⟨_, r2, _⟩ := rep_ok X X.length (nxP X y e).toNat
        exact eqB_trans h4 (eqB_symm r2)
  exact key w hw 0 0 0 hA.zero (by have := ok.lo; omega) (eqB_refl _ _ _)
/-- Where new items come from. -/
theorem evT_new (st : Int → Nat → Int × Bool) (x : Int) (L : List Int) : ∀ j, j ≤ 4 → ∀ i, L.length ≤ i → i < (evT st x L j).1.length → ∃ e, e < j ∧ (evT st x L j).2[e]? = some (i : Int)
  | 0, _, i, h1, h2 => by have : i < L.length := h2; omega
  | j + 1, hj, i, h1, h2 => by
    have ih := evT_new st x L j (by omega)
    have hl := (evT_rows st x L j (by omega)).1.1
    rw [evT] at h2 ⊢
    cases hv : (st x j).2 with
    | false =>
      rw [evS_no hv] at h2 ⊢
      obtain ⟨e, h3, h4⟩ := ih i h1 h2
      exact ⟨e, by omega, h4⟩
    | true =>
      rw [evS_yes hv] at h2 ⊢
      dsimp only at h2 ⊢
      by_cases hm : (st x j).1 ∈ (evT st x L j).1
      · rw [addL_old hm] at h2
        obtain ⟨e, h3, h4⟩ := ih i h1 h2
        exact ⟨e, by omega, by rw [List.getElem?_set_ne (by omega)]; exact h4⟩
      · rw [addL_new hm] at h2 ⊢
        by_cases hi : i < (evT st x L j).1.length
        · obtain ⟨e, h3, h4⟩ := ih i h1 hi
          exact ⟨e, by omega, by rw [List.getElem?_set_ne (by omega)]; exact h4⟩
        · have hie : i = (evT st x L j).1.length := by simp at h2; omega
          refine ⟨j, by omega, ?_⟩
          rw [List.getElem?_set_self (by omega), List.idxOf_append, if_neg hm, hie]
          simp
theorem unf_from (st : Int → Nat → Int × Bool) (x0 : Int) : ∀ k i, 0 < i → i < (unf st x0 k).1.length → ∃ j e, j < i ∧ e < 4 ∧ ∃ r, (unf st x0 k).2[j]? = some r ∧ r[e]? = some (i : Int)
  | 0, i, h1, h2 => by simp [unf] at h2; omega
  | k + 1, i, h1, h2 => by
    have ih := unf_from st x0 k
    rcases Nat.lt_or_ge k (unf st x0 k).1.length with h | h
    · have e1 : (unf st x0 k).1[k]? = some (unf st x0 k).1[k] := List.getElem?_eq_getElem h
      have hk := (unf_at st x0 k).2.2.2 (by omega)
      rw [unf_next e1] at h2 ⊢
      dsimp only at h2 ⊢
      by_cases hi : i < (unf st x0 k).1.length
      · obtain ⟨j, e, h3, h4, r, h5, h6⟩ := ih i h1 hi
        exact ⟨j, e, h3, h4, r, by rw [List.getElem?_append_left (List.getElem?_eq_some_iff.1 h5).1]; exact h5, h6⟩
      · obtain ⟨e, h3, h4⟩ := evT_new st _ _ 4 (Nat.le_refl _) i (by omega) h2
        exact ⟨k, e, by omega, h3, _, by rw [List.getElem?_append_right (by omega), hk, Nat.sub_self]; rfl, h4⟩
    · rw [unf_stop h] at h2 ⊢
      exact ih i h1 h2
/-- Each item is reached by a word. -/
theorem unf_word {st : Int → Nat → Int × Bool} {L : List Int} {R : List (List Int)} (h : UnfEnd st 0 L R) : ∀ i, i < L.length → ∃ w, (∀ e ∈ w, e < 4) ∧ runB R 0 w = some i := by
  obtain ⟨k, hk, _⟩ := h
  have hf := unf_from st 0 k
  rw [hk] at hf
  dsimp only at hf
  intro i
  induction i using Nat.strongRecOn with
  | ind i ih =>
    intro hi
    rcases Nat.eq_zero_or_pos i with rfl | hp
    · exact ⟨[], (fun e he => by cases he), rfl⟩
    · obtain ⟨j, e, h1, h2, r, h3, h4⟩ := hf i hp hi
      obtain ⟨w, h5, h6⟩ := ih j h1 (by omega)
      have hv : nxP R j e = i := by unfold nxP; simp [List.getD, h3, h4]
      refine ⟨w ++ [e], fun e' he' => ?_, ?_⟩
      · rcases List.mem_append.1 he' with h' | h'
        · exact h5 e' h'
        · simp at h'; subst h'; exact h2
      · rw [runB_app, h6]
        show (if nxP R j e < 0 then none else runB R (nxP R j e).toNat []) = some i
        rw [if_neg (by omega), hv, Int.toNat_natCast]; rfl

/-- A pair at which an event is allowed by one policy and not by the other (both: in either direction). -/
def hitB (p q : List (List Int)) (both : Bool) (x : Int) (e : Nat) : Bool :=
  (decide (0 ≤ nxP p (x / (q.length : Int)).toNat e) && decide (nxP q (x % (q.length : Int)).toNat e < 0)) || (both && decide (nxP p (x / (q.length : Int)).toNat e < 0) && decide (0 ≤ nxP q (x % (q.length : Int)).toNat e))
theorem stP_ok {p q : List (List Int)} {x : Int} {e : Nat} : (stP p q x e).2 = (decide (0 ≤ nxP p (x / (q.length : Int)).toNat e) && decide (0 ≤ nxP q (x % (q.length : Int)).toNat e)) := by
  unfold stP stR
  dsimp only
  by_cases h1 : nxP p (x / (q.length : Int)).toNat e < 0
  · rw [if_pos h1, decide_eq_false (p := 0 ≤ nxP p _ e) (by omega)]; rfl
  · rw [if_neg h1, decide_eq_true (p := 0 ≤ nxP p _ e) (by omega), Bool.true_and]
    by_cases h2 : nxP q (x % (q.length : Int)).toNat e < 0
    · rw [if_pos h2, decide_eq_false (p := 0 ≤ nxP q _ e) (by omega)]; rfl
    · rw [if_neg h2, decide_eq_true (p := 0 ≤ nxP q _ e) (by omega)]; rfl
/-- A policy is stricter exactly if no reached pair tells otherwise. -/
theorem stricter_iff {p q R : List (List Int)} {L : List Int} (okp : RectP p) (okq : RectP q) (h : UnfEnd (stP p q) 0 L R) : (minL R = minL p) ↔ ∀ x ∈ L, ∀ e, e < 4 → hitB p q false x e = false := by
  have hA := h.unfAt
  obtain ⟨okR, hRl, _⟩ := both_minL okp okq h
  have hql := okq.lo
  have hL : ∀ x ∈ L, 0 ≤ x ∧ x < ((p.length * q.length : Nat) : Int) := fun x hx => by
    obtain ⟨k, hk, _⟩ := h
    have := unf_among (stP_stays okp okq) (x0 := 0) (by have := Nat.mul_pos okp.lo okq.lo; omega) k
    rw [hk] at this
    exact this.2 x hx
  have hdiv : ∀ x ∈ L, 0 ≤ x / (q.length : Int) ∧ x / (q.length : Int) < (p.length : Int) := fun x hx => by
    have := hL x hx
    exact ⟨Int.ediv_nonneg this.1 (by omega), Int.ediv_lt_of_lt_mul (by omega) (by rw [← Int.natCast_mul]; exact this.2)⟩
  have hhit : ∀ x e, hitB p q false x e = (decide (0 ≤ nxP p (x / (q.length : Int)).toNat e) && decide (nxP q (x % (q.length : Int)).toNat e < 0)) := fun x e => by unfold hitB; simp
  obtain ⟨lx, hlx⟩ : ∃ lx : Nat → Nat, ∀ i, i < L.length → ∃ x, L[i]? = some x ∧ lx i = (x / (q.length : Int)).toNat := ⟨fun i => (L.getD i 0 / (q.length : Int)).toNat, fun i hi => ⟨L[i], List.getElem?_eq_getElem hi, by simp [List.getD, List.getElem?_eq_getElem hi]⟩⟩
  have hnext : ∀ i x e, L[i]? = some x → e < 4 → ¬ nxP R i e < 0 → (nxP R i e).toNat < L.length ∧ lx (nxP R i e).toNat = (nxP p (x / (q.length : Int)).toNat e).toNat ∧ ¬ nxP p (x / (q.length : Int)).toNat e < 0 ∧ ¬ nxP q (x % (q.length : Int)).toNat e < 0 := fun i x e hx he hn => by
    obtain ⟨a, b⟩ := hA.nx i x hx e he
    have hv : (stP p q x e).2 = true := by cases k : (stP p q x e).2 with | true => rfl | false => exact absurd (a.2 k) hn
    obtain ⟨j, h1, h2, h3⟩ := b hv
    have hv2 := hv
    rw [stP_ok] at hv2
    simp only [Bool.and_eq_true, decide_eq_true_eq] at hv2
    rw [h2, Int.toNat_natCast]
    obtain ⟨y, h4, h5⟩ := hlx j h1
    rw [h3] at h4
    obtain rfl := Option.some.inj h4
    have h6 := (stP_parts (p := p) okq (hL x (List.mem_of_getElem? hx)).1 he).1
    refine ⟨h1, ?_, by omega, by omega⟩
    rw [h5, h6, stR_yes (by omega)]
  constructor
  · intro hm x hx e he
    cases hb : hitB p q false x e with
    | false => rfl
    | true =>
      rw [hhit, Bool.and_eq_true, decide_eq_true_eq, decide_eq_true_eq] at hb
      obtain ⟨i, hi⟩ := List.getElem?_of_mem hx
      have hil := (List.getElem?_eq_some_iff.1 hi).1
      obtain ⟨w, hw, hr⟩ := unf_word h i hil
      -- the word leads p to the pair's first state
      have key : ∀ (w : List Nat), (∀ e ∈ w, e < 4) → ∀ j t, j < L.length → runB R j w = some t → runB p (lx j) w = some (lx t) ∧ t < L.length := fun w => by
        induction w with
        | nil => intro _ j t hj hr; obtain rfl : j = t := Option.some.inj hr; exact ⟨rfl, hj⟩
        | cons e w ih =>
          intro hw j t hj hr
          have he := hw e (List.mem_cons_self ..)
          obtain ⟨y, h1, h2⟩ := hlx j hj
          change (if nxP R j e < 0 then none else runB R (nxP R j e).toNat w) = some t at hr
          by_cases hn : nxP R j e < 0
          · rw [if_pos hn] at hr; cases hr
          · rw [if_neg hn] at hr
            obtain ⟨k1, k2, k3, k4⟩ := hnext j y e h1 he hn
            show (if nxP p (lx j) e < 0 then none else runB p (nxP p (lx j) e).toNat w) = some (lx t) ∧ _
            rw [h2, if_neg k3, ← k2]
            exact ih (fun e he => hw e (List.mem_cons_of_mem _ he)) _ t k1 hr
      have hl0 : lx 0 = 0 := by
        obtain ⟨y, h1, h2⟩ := hlx 0 (by have := (List.getElem?_eq_some_iff.1 hA.zero).1; omega)
        rw [hA.zero] at h1
        obtain rfl := Option.some.inj h1
        rw [h2, Int.zero_ediv]; rfl
      obtain ⟨k1, k2⟩ := key w hw 0 i (by omega) hr
      rw [hl0] at k1
      obtain ⟨y, h1, h2⟩ := hlx i hil
      rw [hi] at h1
      obtain rfl := Option.some.inj h1
      have hall : ∀ e' ∈ w ++ [e], e' < 4 := fun e' h' => by
        rcases List.mem_append.1 h' with h' | h'
        · exact hw e' h'
        · simp at h'; subst h'; exact he
      have m1 := minL_run okR hall
      have m2 := minL_run okp hall
      rw [hm, m2, runB_app, runB_app, k1, hr] at m1
      have hn : nxP R i e < 0 := by
        obtain ⟨a, _⟩ := hA.nx i x hi e he
        refine a.2 ?_
        rw [stP_ok, decide_eq_false (p := 0 ≤ nxP q _ e) (by omega), Bool.and_false]
      change (if nxP p (lx i) e < 0 then none else runB p (nxP p (lx i) e).toNat []).isSome = (if nxP R i e < 0 then none else runB R (nxP R i e).toNat []).isSome at m1
      rw [if_pos hn, h2, if_neg (by omega)] at m1
      cases m1
  · intro hno
    refine hom_minL okp okR lx (fun i hi => ?_) ?_ fun i e hi he => ?_
    · rw [hA.len] at hi
      obtain ⟨x, h1, h2⟩ := hlx i hi
      have := hdiv x (List.mem_of_getElem? h1)
      rw [h2]; omega
    · obtain ⟨y, h1, h2⟩ := hlx 0 (by have := (List.getElem?_eq_some_iff.1 hA.zero).1; omega)
      rw [hA.zero] at h1
      obtain rfl := Option.some.inj h1
      rw [h2, Int.zero_ediv]; rfl
    · rw [hA.len] at hi
      obtain ⟨x, h1, h2⟩ := hlx i hi
      obtain ⟨a, b⟩ := hA.nx i x h1 e he
      have hn := hno x (List.mem_of_getElem? h1) e he
      rw [hhit, Bool.and_eq_false_iff, decide_eq_false_iff_not, decide_eq_false_iff_not] at hn
      rw [h2]
      have hiff : nxP R i e < 0 ↔ nxP p (x / (q.length : Int)).toNat e < 0 := by
        rw [a, stP_ok, Bool.and_eq_false_iff, decide_eq_false_iff_not, decide_eq_false_iff_not]
        omega
      exact ⟨hiff, fun k => (hnext i x e h1 he (fun k' => k (hiff.1 k'))).2.1⟩
end Go.Proofs.Ytpdgnmdjneakgaa

/-! The search for a word that policies tell apart: the items with their words, and the first hit. (pure) No conditions. -/
namespace Go.Proofs.Ytpdgnmdjneakgaa
set_option linter.unusedVariables false

def wS (st : Int → Nat → Int × Bool) (x : Int) (wd : List Int) (Q : List (Int × List Int)) (e : Nat) : List (Int × List Int) := if (st x e).2 = true ∧ (st x e).1 ∉ Q.map Prod.fst then Q ++ [((st x e).1, wd ++ [(e : Int)])] else Q
def wT (st : Int → Nat → Int × Bool) (x : Int) (wd : List Int) (Q : List (Int × List Int)) : Nat → List (Int × List Int)
  | 0 => Q
  | j + 1 => wS st x wd (wT st x wd Q j) j
/-- The items and their words behind k rounds. -/
def wunf (st : Int → Nat → Int × Bool) : Nat → List (Int × List Int)
  | 0 => [(0, [])]
  | k + 1 => match (wunf st k)[k]? with
    | some t => wT st t.1 t.2 (wunf st k) 4
    | none => wunf st k
section
variable {st : Int → Nat → Int × Bool}
theorem wS_no {x : Int} {wd : List Int} {Q : List (Int × List Int)} {e : Nat} (h : (st x e).2 = false ∨ (st x e).1 ∈ Q.map Prod.fst) : wS st x wd Q e = Q := if_neg (by rcases h with h | h; rw [h]; simp; exact fun k => k.2 h)
theorem wS_yes {x : Int} {wd : List Int} {Q : List (Int × List Int)} {e : Nat} (h : (st x e).2 = true) (h' : (st x e).1 ∉ Q.map Prod.fst) : wS st x wd Q e = Q ++ [((st x e).1, wd ++ [(e : Int)])] := if_pos ⟨h, h'⟩
theorem wS_pre (x : Int) (wd : List Int) (Q : List (Int × List Int)) (e : Nat) : Q <+: wS st x wd Q e := by
  unfold wS; split
  · exact List.prefix_append _ _
  · exact List.prefix_refl _
theorem wT_pre (x : Int) (wd : List Int) (Q : List (Int × List Int)) : ∀ j, Q <+: wT st x wd Q j
  | 0 => List.prefix_refl _
  | j + 1 => (wT_pre x wd Q j).trans (wS_pre _ _ _ _)
theorem wT_fst (x : Int) (wd : List Int) (Q : List (Int × List Int)) : ∀ j, (wT st x wd Q j).map Prod.fst = (evT st x (Q.map Prod.fst) j).1
  | 0 => rfl
  | j + 1 => by
    have ih := wT_fst x wd Q j
    rw [wT, evT]
    cases hv : (st x j).2 with
    | false => rw [wS_no (.inl hv), evS_no hv]; exact ih
    | true =>
      rw [evS_yes hv, ← ih]
      by_cases hm : (st x j).1 ∈ (wT st x wd Q j).map Prod.fst
      · rw [wS_no (.inr hm)]
        show _ = addL _ _
        rw [addL_old hm]
      · rw [wS_yes hv hm]
        show _ = addL _ _
        rw [addL_new hm, List.map_append]; rfl
theorem wunf_next {k : Nat} {t : Int × List Int} (h : (wunf st k)[k]? = some t) : wunf st (k + 1) = wT st t.1 t.2 (wunf st k) 4 := by rw [wunf, h]
theorem wunf_stop {k : Nat} (h : (wunf st k).length ≤ k) : wunf st (k + 1) = wunf st k := by rw [wunf, List.getElem?_eq_none h]
theorem wunf_fst : ∀ k, (wunf st k).map Prod.fst = (unf st 0 k).1
  | 0 => rfl
  | k + 1 => by
    have ih := wunf_fst k
    have hl : (wunf st k).length = (unf st 0 k).1.length := by rw [← ih, List.length_map]
    rcases Nat.lt_or_ge k (wunf st k).length with h | h
    · have e1 : (wunf st k)[k]? = some (wunf st k)[k] := List.getElem?_eq_getElem h
      have e2 : (unf st 0 k).1[k]? = some (wunf st k)[k].1 := by rw [← ih, List.getElem?_map, e1]; rfl
      rw [wunf_next e1, unf_next e2, wT_fst, ih]
    · rw [wunf_stop h, unf_stop (by omega)]; exact ih
theorem wunf_pre (k : Nat) : ∀ d, wunf st k <+: wunf st (k + d)
  | 0 => List.prefix_refl _
  | d + 1 => by
    refine (wunf_pre k d).trans ?_
    rw [← Nat.add_assoc]
    rcases Nat.lt_or_ge (k + d) (wunf st (k + d)).length with h | h
    · rw [wunf_next (List.getElem?_eq_getElem h)]; exact wT_pre _ _ _ _
    · rw [wunf_stop h]; exact List.prefix_refl _
theorem wunf_stay {k : Nat} (h : (wunf st k).length ≤ k) : ∀ d, wunf st (k + d) = wunf st k
  | 0 => rfl
  | d + 1 => by
    have ih := wunf_stay h d
    rw [← Nat.add_assoc, wunf_stop (by rw [ih]; omega), ih]
end

/-- The first hit. -/
def findQ (hit : Int → Nat → Bool) : List (Int × List Int) → Option (List Int)
  | [] => none
  | t :: Q => match (List.range 4).find? (hit t.1) with
    | some e => some (t.2 ++ [(e : Int)])
    | none => findQ hit Q
theorem find_first {f : Nat → Bool} {e : Nat} (he : e < 4) (h : f e = true) (hn : ∀ j, j < e → f j = false) : (List.range 4).find? f = some e := by
  rw [List.find?_eq_some_iff_append]
  refine ⟨h, List.range e, (List.range (4 - e - 1)).map (· + (e + 1)), ?_, fun a ha => by rw [hn a (List.mem_range.1 ha)]; rfl⟩
  have : e = 0 ∨ e = 1 ∨ e = 2 ∨ e = 3 := by omega
  rcases this with rfl | rfl | rfl | rfl <;> rfl
theorem find_none {f : Nat → Bool} (hn : ∀ j, j < 4 → f j = false) : (List.range 4).find? f = none := by
  rw [List.find?_eq_none]
  intro a ha
  rw [hn a (List.mem_range.1 ha)]; simp
theorem findQ_at {hit : Int → Nat → Bool} : ∀ {Q : List (Int × List Int)} {i e : Nat} {t : Int × List Int}, Q[i]? = some t → e < 4 → hit t.1 e = true → (∀ j, j < e → hit t.1 j = false) → (∀ j u, j < i → Q[j]? = some u → ∀ e, e < 4 → hit u.1 e = false) → findQ hit Q = some (t.2 ++ [(e : Int)])
  | [], i, e, t, h, _, _, _, _ => by simp at h
  | u :: Q, 0, e, t, h, he, hh, hn, _ => by
    obtain rfl : u = t := by simpa using h
    rw [findQ, find_first he hh hn]
  | u :: Q, i + 1, e, t, h, he, hh, hn, hb => by
    rw [findQ, find_none (fun j hj => hb 0 u (by omega) rfl j hj)]
    exact findQ_at (by simpa using h) he hh hn (fun j v hj hv => hb (j + 1) v (by omega) (by simpa using hv))
theorem findQ_none {hit : Int → Nat → Bool} : ∀ {Q : List (Int × List Int)}, (∀ u ∈ Q, ∀ e, e < 4 → hit u.1 e = false) → findQ hit Q = none
  | [], _ => rfl
  | u :: Q, h => by
    rw [findQ, find_none (fun j hj => h u (List.mem_cons_self ..) j hj)]
    exact findQ_none (fun v hv => h v (List.mem_cons_of_mem _ hv))
theorem findQ_some {hit : Int → Nat → Bool} : ∀ {Q : List (Int × List Int)}, findQ hit Q = none → ∀ u ∈ Q, ∀ e, e < 4 → hit u.1 e = false
  | [], _, u, hu, _, _ => by cases hu
  | v :: Q, h, u, hu, e, he => by
    rw [findQ] at h
    cases hf : (List.range 4).find? (hit v.1) with
    | some j => rw [hf] at h; cases h
    | none =>
      rw [hf] at h
      rcases List.mem_cons.1 hu with rfl | hu
      · have := List.find?_eq_none.1 hf e (List.mem_range.2 he)
        simpa using this
      · exact findQ_some h u hu e he
/-- The first of the shortest words that one policy allows and the other does not. -/
@[irreducible] def findP (p q : List (List Int)) (both : Bool) : Option (List Int) := findQ (hitB p q both) (wunf (stP p q) (p.length * q.length))
theorem findP_at {p q : List (List Int)} {both : Bool} {i e : Nat} {t : Int × List Int} (hi : i ≤ p.length * q.length) (h : (wunf (stP p q) i)[i]? = some t) (he : e < 4) (hh : hitB p q both t.1 e = true) (hn : ∀ j, j < e → hitB p q both t.1 j = false)
    (hb : ∀ j u, j < i → (wunf (stP p q) i)[j]? = some u → ∀ e, e < 4 → hitB p q both u.1 e = false) : findP p q both = some (t.2 ++ [(e : Int)]) := by
  unfold findP
  obtain ⟨d, hd⟩ := Nat.exists_eq_add_of_le hi
  obtain ⟨s, hs⟩ := wunf_pre (st := stP p q) i d
  have hl := (List.getElem?_eq_some_iff.1 h).1
  rw [hd, ← hs]
  refine findQ_at (by rw [List.getElem?_append_left hl]; exact h) he hh hn (fun j u hj hu => ?_)
  rw [List.getElem?_append_left (by omega)] at hu
  exact hb j u hj hu
theorem findP_none {p q : List (List Int)} {both : Bool} {i : Nat} (hi : i ≤ p.length * q.length) (hl : (wunf (stP p q) i).length ≤ i) (hb : ∀ j u, j < i → (wunf (stP p q) i)[j]? = some u → ∀ e, e < 4 → hitB p q both u.1 e = false) : findP p q both = none := by
  unfold findP
  obtain ⟨d, hd⟩ := Nat.exists_eq_add_of_le hi
  rw [hd, wunf_stay hl d]
  refine findQ_none fun u hu => ?_
  obtain ⟨j, hj⟩ := List.getElem?_of_mem hu
  exact hb j u (by have := (List.getElem?_eq_some_iff.1 hj).1; omega) hj
theorem wunf_len {p q : List (List Int)} (okp : RectP p) (okq : RectP q) (k : Nat) : (wunf (stP p q) k).length ≤ p.length * q.length := by
  have h0 : (0 : Int) ≤ 0 ∧ (0 : Int) < ((p.length * q.length : Nat) : Int) := by have := Nat.mul_pos okp.lo okq.lo; omega
  have := (unf_among (stP_stays okp okq) h0 k).len
  rw [← wunf_fst, List.length_map] at this
  exact this
/-- No word is found exactly if the policy is stricter. -/
theorem findP_stricter {p q R : List (List Int)} {L : List Int} (okp : RectP p) (okq : RectP q) (h : UnfEnd (stP p q) 0 L R) : (findP p q false).isNone = true ↔ minL R = minL p := by
  have hLQ : (wunf (stP p q) (p.length * q.length)).map Prod.fst = L := by
    have h0 : (0 : Int) ≤ 0 ∧ (0 : Int) < ((p.length * q.length : Nat) : Int) := by have := Nat.mul_pos okp.lo okq.lo; omega
    rw [wunf_fst]
    obtain ⟨k, h1, h2⟩ := h
    have hk : k ≤ p.length * q.length := by
      have := (unf_among (stP_stays okp okq) h0 k).len
      rw [h1] at this
      have : L.length ≤ _ := this
      omega
    obtain ⟨d, hd⟩ := Nat.exists_eq_add_of_le hk
    rw [hd, unf_stay (by rw [h1]; show L.length ≤ k; omega) d, h1]
  rw [stricter_iff okp okq h, Option.isNone_iff_eq_none]
  unfold findP
  constructor
  · intro hf x hx
    rw [← hLQ] at hx
    obtain ⟨u, hu, rfl⟩ := List.mem_map.1 hx
    exact findQ_some hf u hu
  · intro hx
    refine findQ_none fun u hu => hx u.1 ?_
    rw [← hLQ]
    exact List.mem_map.2 ⟨u, hu, rfl⟩
end Go.Proofs.Ytpdgnmdjneakgaa

/-! The model's search for a word that policies tell apart. Conditions: valid policies. -/
namespace Go.Proofs.Ytpdgnmdjneakgaa
set_option linter.unusedVariables false
set_option linter.unnecessarySimpa false
set_option linter.unusedSimpArgs false
open Go.RowKit

theorem wT_words {st : Int → Nat → Int × Bool} {x : Int} {wd : List Int} {Q : List (Int × List Int)} {k : Nat} (hQ : ∀ u ∈ Q, u.2.length ≤ k) (hw : wd.length < k) : ∀ j, ∀ u ∈ wT st x wd Q j, u.2.length ≤ k
  | 0, u, hu => hQ u hu
  | j + 1, u, hu => by
    have ih := wT_words (st := st) (x := x) hQ hw j
    rw [wT] at hu
    unfold wS at hu
    split at hu
    · rcases List.mem_append.1 hu with h | h
      · exact ih u h
      · simp at h; subst h; simp; omega
    · exact ih u hu
theorem wunf_words {st : Int → Nat → Int × Bool} : ∀ k, ∀ u ∈ wunf st k, u.2.length ≤ k
  | 0, u, hu => by simp [wunf] at hu; subst hu; simp
  | k + 1, u, hu => by
    have ih := wunf_words (st := st) k
    rcases Nat.lt_or_ge k (wunf st k).length with h | h
    · have e1 : (wunf st k)[k]? = some (wunf st k)[k] := List.getElem?_eq_getElem h
      rw [wunf_next e1] at hu
      exact wT_words (fun v hv => by have := ih v hv; omega) (by have := ih _ (List.getElem_mem h); omega) 4 u hu
    · rw [wunf_stop h] at hu
      have := ih u hu; omega
theorem stP_val {p q : List (List Int)} {x : Int} {e : Nat} (h1 : 0 ≤ nxP p (x / (q.length : Int)).toNat e) (h2 : 0 ≤ nxP q (x % (q.length : Int)).toNat e) : (stP p q x e).1 = nxP p (x / (q.length : Int)).toNat e * (q.length : Int) + nxP q (x % (q.length : Int)).toNat e := by
  unfold stP
  rw [stR_yes (by omega), stR_yes (by omega)]

/-- The cells of an item: the pair and the word. -/
def tri (κ : Int) (t : Int × (Value × List Int)) : List Value := [.int .i64 (t.1 / κ), .int .i64 (t.1 % κ), t.2.1]
theorem tri_at (κ : Int) : ∀ (T : List (Int × (Value × List Int))) (k : Nat) (t : Int × (Value × List Int)), T[k]? = some t → (T.flatMap (tri κ))[k * 3]? = some (.int .i64 (t.1 / κ)) ∧ (T.flatMap (tri κ))[k * 3 + 1]? = some (.int .i64 (t.1 % κ)) ∧ (T.flatMap (tri κ))[k * 3 + 2]? = some t.2.1
  | [], k, x, h => by simp at h
  | y :: L, 0, x, h => by
    obtain rfl : y = x := by simpa using h
    exact ⟨rfl, rfl, rfl⟩
  | y :: L, k + 1, x, h => by
    have ih := tri_at κ L k x (by simpa using h)
    have e1 : (k + 1) * 3 = k * 3 + 1 + 1 + 1 := by omega
    rw [e1]
    exact ih
/-- Which pairs have been seen. -/
def seenV (N : Nat) (M : List Int) : List Value := (List.range N).map fun y : Nat => Value.bool (decide ((y : Int) ∈ M))
theorem seenV_len (N : Nat) (M : List Int) : (seenV N M).length = N := by simp [seenV]
theorem seenV_at {N : Nat} {M : List Int} {y : Nat} (h : y < N) : (seenV N M)[y]? = some (.bool (decide ((y : Int) ∈ M))) := by simp [seenV, h]
theorem seenV_set {N : Nat} {M : List Int} {y : Nat} : (seenV N M).set y (.bool true) = seenV N (M ++ [(y : Int)]) := by
  apply List.ext_getElem?
  intro i
  by_cases e : y = i
  · subst e
    by_cases h : y < N
    · rw [List.getElem?_set_self (by rw [seenV_len]; exact h), seenV_at h]
      simp
    · rw [List.getElem?_eq_none (by rw [List.length_set, seenV_len]; omega), List.getElem?_eq_none (by rw [seenV_len]; omega)]
  · rw [List.getElem?_set_ne e]
    by_cases h : i < N
    · rw [seenV_at h, seenV_at h]
      have : ((i : Int) ∈ M ++ [(y : Int)]) ↔ (i : Int) ∈ M := by
        rw [List.mem_append, List.mem_singleton]
        exact ⟨fun k => k.elim id (fun k => absurd (Int.ofNat.inj k).symm e), .inl⟩
      simp only [this]
    · rw [List.getElem?_eq_none (by rw [seenV_len]; omega), List.getElem?_eq_none (by rw [seenV_len]; omega)]
theorem own_ne_any {w : World} {lo lo' n n' z z' : Nat} {e e' : TypeId} {v v' : Value} {xs xs' : List Value} (h : w.ownsRow lo e z v n xs) (h' : w.ownsRow lo' e' z' v' n' xs') (he : e ≠ e') : ∀ k, v.ownBlock = some k → v'.ownBlock ≠ some k := fun k hk hk' => by
  rcases h.2 with ⟨e1, _⟩ | ⟨g, cap, cur, e1, _, h3, _⟩
  · rw [e1] at hk; cases hk
  rcases h'.2 with ⟨e2, _⟩ | ⟨g', cap', cur', e2, _, h4, _⟩
  · rw [e2] at hk'; cases hk'
  rw [e1] at hk
  rw [e2] at hk'
  obtain rfl : g = k := Option.some.inj hk
  obtain rfl : g' = g := Option.some.inj hk'
  rw [h3] at h4
  injection h4 with h4
  injection h4 with _ h4 _
  exact he h4
theorem own_sliceQ {w : World} {lo n z : Nat} {e : TypeId} {v : Value} {xs : List Value} (h : w.ownsRow lo e z v n xs) : ∃ A c, v = .slice A n c ∧ True := by
  rcases h.2 with ⟨h1, h2⟩ | ⟨g, cap, cur, h1, _⟩
  · exact ⟨none, 0, by rw [h1, h2], trivial⟩
  · exact ⟨_, _, h1, trivial⟩
section
variable {wc W W1 W3 : World} {gs N y : Nat} {κ : Int} {T : List (Int × (Value × List Int))} {v v' vw : Value} {wd : List Int} {o : Obj}
end
theorem infoBQ : (Try.prog.info? 4).map (fun i => (i.zero, i.size, i.bytes)) = some (some (.bool false), 1, 1) := by kernel_rfl
theorem cells3_new (w : World) (t : TypeId) (x0 x1 x2 : Value) {g : Nat} (hg : g = w.heap.size) : ∀ (j : Nat) (u : Value), [x0, x1, x2][j]? = some u → (w.alloc (.cells #[x0, x1, x2] t)).cell? ((⟨g, 0, none⟩ : Addr).add j) = some u := fun j u hj => by
  subst hg
  have hbn : BlkIs (w.alloc (.cells #[x0, x1, x2] t)) w.heap.size t #[x0, x1, x2] := blk_new _ _ _ _ rfl
  have he : (⟨w.heap.size, 0, none⟩ : Addr).add j = ⟨w.heap.size, j, none⟩ := by cases j <;> simp [Addr.add]
  rw [he, hbn.cell j]
  simpa using hj

end Go.Proofs.Ytpdgnmdjneakgaa
