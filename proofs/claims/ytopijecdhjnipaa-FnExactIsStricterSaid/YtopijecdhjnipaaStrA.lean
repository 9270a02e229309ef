/-
  Several texts in one: StrP, FindP, FindM, IsSam, StrS. Conditions: as each says.
-/
import Derived.Test.YtopijecdhjnipaaBothP
import Derived.Test.YtopijecdhjnipaaBothA
import Derived.Test.YtopijecdhjnipaaOwn64
import Derived.Test.YtopijecdhjnipaaMinC

/-! Words that policies allow: the minimal policy allows the same; a policy is stricter if no reached pair tells otherwise; the search for a word with its words. (pure) No conditions. -/
namespace Go.Proofs.Ytopijecdhjnipaa
set_option linter.unusedVariables false

/-- A map of states that keeps the steps gives the same minimal policy. -/
theorem hom_minL {P R : List (List Int)} (ok : RectP P) (okR : RectP R) (lx : Nat → Nat) (hlx : ∀ i, i < R.length → lx i < P.length) (hl0 : lx 0 = 0)
    (hstep : ∀ i e, i < R.length → e < 4 → (nxP R i e < 0 ↔ nxP P (lx i) e < 0) ∧ (¬ nxP P (lx i) e < 0 → lx (nxP R i e).toNat = (nxP P (lx i) e).toNat)) : minL R = minL P := by
  have h00 : (0 : Int) ≤ 0 ∧ (0 : Int) < (P.length : Int) := by have := ok.lo; omega
  have hRp := okR.lo
  have heq : ∀ t i j, i < R.length → j < R.length → eqB R t i j = eqB P t (lx i) (lx j) := fun t => by
    induction t with
    | zero => intro i j _ _; rfl
    | succ t ih =>
      intro i j hi hj
      rw [Bool.eq_iff_iff, eqB_succ, eqB_succ]
      constructor
      · intro h e he
        obtain ⟨p, q⟩ := h e he
        obtain ⟨i1, i2⟩ := hstep i e hi he
        obtain ⟨j1, j2⟩ := hstep j e hj he
        refine ⟨i1.symm.trans (p.trans j1), fun hn => ?_⟩
        have hn2 : ¬ nxP R i e < 0 := fun k => hn (i1.1 k)
        have hn4 : ¬ nxP R j e < 0 := fun k => hn2 (p.2 k)
        have hn3 : ¬ nxP P (lx j) e < 0 := fun k => hn4 (j1.2 k)
        have := q hn2
        rw [ih _ _ (okR.nx hi he hn2) (okR.nx hj he hn4), i2 hn, j2 hn3] at this
        exact this
      · intro h e he
        obtain ⟨p, q⟩ := h e he
        obtain ⟨i1, i2⟩ := hstep i e hi he
        obtain ⟨j1, j2⟩ := hstep j e hj he
        refine ⟨i1.trans (p.trans j1.symm), fun hn => ?_⟩
        have hn2 : ¬ nxP P (lx i) e < 0 := fun k => hn (i1.2 k)
        have hn3 : ¬ nxP P (lx j) e < 0 := fun k => hn2 (p.2 k)
        have hn4 : ¬ nxP R j e < 0 := fun k => hn3 (j1.1 k)
        rw [ih _ _ (okR.nx hi he hn) (okR.nx hj he hn4), i2 hn2, j2 hn3]
        exact q hn2
  have hsame : ∀ i j, i < R.length → j < R.length → sameB R i j = sameB P (lx i) (lx j) := fun i j hi hj => by
    have s1 := (settled_len okR).add okR P.length
    have s2 := (settled_len ok).add ok R.length
    rw [← same_of okR s1 hi hj, ← same_of ok s2 (hlx i hi) (hlx j hj), Nat.add_comm P.length R.length]
    exact heq _ i j hi hj
  have hsim := unf_sim (ρ := fun a b => ∃ i, i < R.length ∧ a = (rep R R.length i : Int) ∧ b = (rep P P.length (lx i) : Int)) (st := stM R) (st' := stM P) (x := 0) (y := 0)
    (by
      rintro a b a' b' ⟨i, hi, rfl, rfl⟩ ⟨j, hj, rfl, rfl⟩
      have := hsame i j hi hj
      have e1 : ((rep R R.length i : Int) = (rep R R.length j : Int)) ↔ sameB R i j = true := by rw [Int.ofNat_inj]; exact rep_iff
      have e2 : ((rep P P.length (lx i) : Int) = (rep P P.length (lx j) : Int)) ↔ sameB P (lx i) (lx j) = true := by rw [Int.ofNat_inj]; exact rep_iff
      rw [e1, e2, this])
    (by
      rintro a b e ⟨i, hi, rfl, rfl⟩ he
      obtain ⟨r1, r2, _⟩ := rep_ok R R.length i
      obtain ⟨p1, p2, _⟩ := rep_ok P P.length (lx i)
      have hli := hlx i hi
      rw [stM_same okR (a := rep R R.length i) (b := i) (by omega) (by omega) he r2, stM_same ok (a := rep P P.length (lx i)) (b := lx i) (by omega) hli he p2]
      obtain ⟨i1, i2⟩ := hstep i e hi he
      by_cases hn : nxP P (lx i) e < 0
      · rw [stM_no hn, stM_no (i1.2 hn)]
        exact ⟨rfl, fun k => by cases k⟩
      · have hn2 : ¬ nxP R i e < 0 := fun k => hn (i1.1 k)
        rw [stM_yes hn, stM_yes hn2]
        exact ⟨rfl, fun _ => ⟨_, okR.nx hi he hn2, rfl, by rw [i2 hn]⟩⟩)
    ⟨0, by omega, by rw [rep_nil]; rfl, by rw [hl0, rep_nil]; rfl⟩ (R.length + P.length)
  have hR0 : (0 : Int) ≤ 0 ∧ (0 : Int) < (R.length : Int) := by omega
  have e1 := unf_stay (unf_among (stM_stays okR) hR0 R.length).len P.length
  have e2 := unf_stay (unf_among (stM_stays ok) h00 P.length).len R.length
  have h3 := hsim.1
  rw [e1, Nat.add_comm R.length P.length, e2] at h3
  unfold minL
  exact h3

/-- All items are gone through at some time. -/
theorem unf_end {st : Int → Nat → Int × Bool} {N : Nat} (hs : Stays st N) {x0 : Int} (hx : 0 ≤ x0 ∧ x0 < (N : Int)) : ∀ d k, N ≤ k + d → k ≤ (unf st x0 k).1.length → ∃ L R, UnfEnd st x0 L R
  | 0, k, hd, hk => ⟨(unf st x0 k).1, (unf st x0 k).2, k, rfl, by have := (unf_among hs hx k).len; omega⟩
  | d + 1, k, hd, hk => by
    rcases Nat.lt_or_ge k (unf st x0 k).1.length with h | h
    · have e1 : (unf st x0 k).1[k]? = some (unf st x0 k).1[k] := List.getElem?_eq_getElem h
      refine unf_end hs hx d (k + 1) (by omega) ?_
      rw [unf_next e1]
      have := (evT_rows st (unf st x0 k).1[k] (unf st x0 k).1 4 (Nat.le_refl _)).2.length_le
      show k + 1 ≤ (evT st _ _ 4).1.length
      omega
    · exact ⟨(unf st x0 k).1, (unf st x0 k).2, k, rfl, by omega⟩

/-- What a row says of the next items, by their places. -/
structure UnfAt (st : Int → Nat → Int × Bool) (L : List Int) (R : List (List Int)) : Prop where
  len : R.length = L.length
  zero : L[0]? = some 0
  nx : ∀ i x, L[i]? = some x → ∀ e, e < 4 → (nxP R i e < 0 ↔ (st x e).2 = false) ∧ ((st x e).2 = true → ∃ j : Nat, j < L.length ∧ nxP R i e = j ∧ L[j]? = some (st x e).1)
theorem UnfEnd.unfAt {st : Int → Nat → Int × Bool} {L : List Int} {R : List (List Int)} (h : UnfEnd st 0 L R) : UnfAt st L R := by
  obtain ⟨k, hk, hkl⟩ := h
  obtain ⟨a1, a2, a3, a4⟩ := unf_at st 0 k
  rw [hk] at a1 a2 a3 a4
  dsimp only at a1 a2 a3 a4
  have hRL : R.length = L.length := by rw [a4 (by omega)]; exact hkl
  refine ⟨hRL, by obtain ⟨t, ht⟩ := a2; rw [← ht]; rfl, fun i x hx e he => ?_⟩
  have hi := (List.getElem?_eq_some_iff.1 hx).1
  obtain ⟨r, hr⟩ : ∃ r, R[i]? = some r := ⟨_, List.getElem?_eq_getElem (by omega)⟩
  obtain ⟨h1, h2⟩ := a1 i _ r hx hr
  obtain ⟨h3, h4⟩ := h2 e he
  have hv : nxP R i e = if e < 4 ∧ (st x e).2 = true then (L.idxOf (st x e).1 : Int) else -1 := by
    unfold nxP
    simp only [List.getD, hr, h3, Option.getD_some]
  cases hs : (st x e).2 with
  | false =>
    rw [hs, if_neg (by simp)] at hv
    exact ⟨⟨fun _ => rfl, fun _ => by omega⟩, fun k => by cases k⟩
  | true =>
    have hm := h4 he hs
    have hlt := List.idxOf_lt_length_of_mem hm
    rw [hs, if_pos ⟨he, rfl⟩] at hv
    exact ⟨⟨fun _ => by omega, fun k => by cases k⟩, fun _ => ⟨_, hlt, hv, by rw [List.getElem?_eq_getElem hlt, List.getElem_idxOf hlt]⟩⟩

/-- The state behind a word, if it is allowed. -/
def runB (X : List (List Int)) : Nat → List Nat → Option Nat
  | s, [] => some s
  | s, e :: w => if nxP X s e < 0 then none else runB X (nxP X s e).toNat w
theorem runB_app (X : List (List Int)) : ∀ (w : List Nat) (s : Nat) (v : List Nat), runB X s (w ++ v) = (runB X s w).bind fun t => runB X t v
  | [], s, v => rfl
  | e :: w, s, v => by
    show (if nxP X s e < 0 then none else runB X (nxP X s e).toNat (w ++ v)) = (if nxP X s e < 0 then none else runB X (nxP X s e).toNat w).bind _
    by_cases h : nxP X s e < 0
    · rw [if_pos h, if_pos h]; rfl
    · rw [if_neg h, if_neg h]; exact runB_app X w _ v
/-- The minimal policy allows the same words. -/
theorem minL_run {X : List (List Int)} (ok : RectP X) {w : List Nat} (hw : ∀ e ∈ w, e < 4) : (runB (minL X) 0 w).isSome = (runB X 0 w).isSome := by
  have h00 : (0 : Int) ≤ 0 ∧ (0 : Int) < (X.length : Int) := by have := ok.lo; omega
  obtain ⟨M, R, hend⟩ := unf_end (stM_stays ok) h00 X.length 0 (by omega) (Nat.zero_le _)
  rw [← minL_is ok hend]
  have hA := hend.unfAt
  have hM : ∀ j x, M[j]? = some x → 0 ≤ x ∧ x < (X.length : Int) := fun j x hx => by
    obtain ⟨k, hk, _⟩ := hend
    have := unf_among (stM_stays ok) h00 k
    rw [hk] at this
    exact this.2 x (List.mem_of_getElem? hx)
  have key : ∀ (w : List Nat), (∀ e ∈ w, e < 4) → ∀ (j s : Nat) (x : Int), M[j]? = some x → s < X.length → sameB X s x.toNat = true → (runB R j w).isSome = (runB X s w).isSome := fun w => by
    induction w with
    | nil => intro _ j s x _ _ _; rfl
    | cons e w ih =>
      intro hw j s x hx hs hsame
      have he := hw e (List.mem_cons_self ..)
      have hxr := hM j x hx
      obtain ⟨y, rfl⟩ : ∃ y : Nat, x = y := ⟨x.toNat, by omega⟩
      rw [Int.toNat_natCast] at hsame
      obtain ⟨a, b⟩ := hA.nx j _ hx e he
      obtain ⟨c, d⟩ := same_next ok hs (by omega) he hsame
      show (if nxP R j e < 0 then none else runB R (nxP R j e).toNat w).isSome = (if nxP X s e < 0 then none else runB X (nxP X s e).toNat w).isSome
      by_cases hn : nxP X s e < 0
      · rw [if_pos hn, if_pos (a.2 (by rw [stM_no (c.1 hn)]))]
      · have hn2 : ¬ nxP X y e < 0 := fun k => hn (c.2 k)
        have hst := stM_yes hn2
        obtain ⟨j', h1, h2, h3⟩ := b (by rw [hst])
        have hn3 : ¬ nxP R j e < 0 := by omega
        rw [if_neg hn, if_neg hn3, h2, Int.toNat_natCast]
        rw [hst] at h3
        refine ih (fun e he => hw e (List.mem_cons_of_mem _ he)) j' _ _ h3 (ok.nx hs he hn) ?_
        rw [Int.toNat_natCast]
        have h4 := d hn
        obtain ⟨_, r2, _⟩ := rep_ok X X.length (nxP X y e).toNat
        exact eqB_trans h4 (eqB_symm r2)
  exact key w hw 0 0 0 hA.zero (by have := ok.lo; omega) (eqB_refl _ _ _)
/-- Where new items come from. -/
theorem evT_new (st : Int → Nat → Int × Bool) (x : Int) (L : List Int) : ∀ j, j ≤ 4 → ∀ i, L.length ≤ i → i < (evT st x L j).1.length → ∃ e, e < j ∧ (evT st x L j).2[e]? = some (i : Int)
  | 0, _, i, h1, h2 => by have : i < L.length := h2; omega
  | j + 1, hj, i, h1, h2 => by
    have ih := evT_new st x L j (by omega)
    have hl := (evT_rows st x L j (by omega)).1.1
    rw [evT] at h2 ⊢
    cases hv : (st x j).2 with
    | false =>
      rw [evS_no hv] at h2 ⊢
      obtain ⟨e, h3, h4⟩ := ih i h1 h2
      exact ⟨e, by omega, h4⟩
    | true =>
      rw [evS_yes hv] at h2 ⊢
      dsimp only at h2 ⊢
      by_cases hm : (st x j).1 ∈ (evT st x L j).1
      · rw [addL_old hm] at h2
        obtain ⟨e, h3, h4⟩ := ih i h1 h2
        exact ⟨e, by omega, by rw [List.getElem?_set_ne (by omega)]; exact h4⟩
      · rw [addL_new hm] at h2 ⊢
        by_cases hi : i < (evT st x L j).1.length
        · obtain ⟨e, h3, h4⟩ := ih i h1 hi
          exact ⟨e, by omega, by rw [List.getElem?_set_ne (by omega)]; exact h4⟩
        · have hie : i = (evT st x L j).1.length := by simp at h2; omega
          refine ⟨j, by omega, ?_⟩
          rw [List.getElem?_set_self (by omega), List.idxOf_append, if_neg hm, hie]
          simp
theorem unf_from (st : Int → Nat → Int × Bool) (x0 : Int) : ∀ k i, 0 < i → i < (unf st x0 k).1.length → ∃ j e, j < i ∧ e < 4 ∧ ∃ r, (unf st x0 k).2[j]? = some r ∧ r[e]? = some (i : Int)
  | 0, i, h1, h2 => by simp [unf] at h2; omega
  | k + 1, i, h1, h2 => by
    have ih := unf_from st x0 k
    rcases Nat.lt_or_ge k (unf st x0 k).1.length with h | h
    · have e1 : (unf st x0 k).1[k]? = some (unf st x0 k).1[k] := List.getElem?_eq_getElem h
      have hk := (unf_at st x0 k).2.2.2 (by omega)
      rw [unf_next e1] at h2 ⊢
      dsimp only at h2 ⊢
      by_cases hi : i < (unf st x0 k).1.length
      · obtain ⟨j, e, h3, h4, r, h5, h6⟩ := ih i h1 hi
        exact ⟨j, e, h3, h4, r, by rw [List.getElem?_append_left (List.getElem?_eq_some_iff.1 h5).1]; exact h5, h6⟩
      · obtain ⟨e, h3, h4⟩ := evT_new st _ _ 4 (Nat.le_refl _) i (by omega) h2
        exact ⟨k, e, by omega, h3, _, by rw [List.getElem?_append_right (by omega), hk, Nat.sub_self]; rfl, h4⟩
    · rw [unf_stop h] at h2 ⊢
      exact ih i h1 h2
/-- Each item is reached by a word. -/
theorem unf_word {st : Int → Nat → Int × Bool} {L : List Int} {R : List (List Int)} (h : UnfEnd st 0 L R) : ∀ i, i < L.length → ∃ w, (∀ e ∈ w, e < 4) ∧ runB R 0 w = some i := by
  obtain ⟨k, hk, _⟩ := h
  have hf := unf_from st 0 k
  rw [hk] at hf
  dsimp only at hf
  intro i
  induction i using Nat.strongRecOn with
  | ind i ih =>
    intro hi
    rcases Nat.eq_zero_or_pos i with rfl | hp
    · exact ⟨[], (fun e he => by cases he), rfl⟩
    · obtain ⟨j, e, h1, h2, r, h3, h4⟩ := hf i hp hi
      obtain ⟨w, h5, h6⟩ := ih j h1 (by omega)
      have hv : nxP R j e = i := by unfold nxP; simp [List.getD, h3, h4]
      refine ⟨w ++ [e], fun e' he' => ?_, ?_⟩
      · rcases List.mem_append.1 he' with h' | h'
        · exact h5 e' h'
        · simp at h'; subst h'; exact h2
      · rw [runB_app, h6]
        show (if nxP R j e < 0 then none else runB R (nxP R j e).toNat []) = some i
        rw [if_neg (by omega), hv, Int.toNat_natCast]; rfl

/-- A pair at which an event is allowed by one policy and not by the other (both: in either direction). -/
def hitB (p q : List (List Int)) (both : Bool) (x : Int) (e : Nat) : Bool :=
  (decide (0 ≤ nxP p (x / (q.length : Int)).toNat e) && decide (nxP q (x % (q.length : Int)).toNat e < 0)) || (both && decide (nxP p (x / (q.length : Int)).toNat e < 0) && decide (0 ≤ nxP q (x % (q.length : Int)).toNat e))
theorem stP_ok {p q : List (List Int)} {x : Int} {e : Nat} : (stP p q x e).2 = (decide (0 ≤ nxP p (x / (q.length : Int)).toNat e) && decide (0 ≤ nxP q (x % (q.length : Int)).toNat e)) := by
  unfold stP stR
  dsimp only
  by_cases h1 : nxP p (x / (q.length : Int)).toNat e < 0
  · rw [if_pos h1, decide_eq_false (p := 0 ≤ nxP p _ e) (by omega)]; rfl
  · rw [if_neg h1, decide_eq_true (p := 0 ≤ nxP p _ e) (by omega), Bool.true_and]
    by_cases h2 : nxP q (x % (q.length : Int)).toNat e < 0
    · rw [if_pos h2, decide_eq_false (p := 0 ≤ nxP q _ e) (by omega)]; rfl
    · rw [if_neg h2, decide_eq_true (p := 0 ≤ nxP q _ e) (by omega)]; rfl
/-- A policy is stricter exactly if no reached pair tells otherwise. -/
theorem stricter_iff {p q R : List (List Int)} {L : List Int} (okp : RectP p) (okq : RectP q) (h : UnfEnd (stP p q) 0 L R) : (minL R = minL p) ↔ ∀ x ∈ L, ∀ e, e < 4 → hitB p q false x e = false := by
  have hA := h.unfAt
  obtain ⟨okR, hRl, _⟩ := both_minL okp okq h
  have hql := okq.lo
  have hL : ∀ x ∈ L, 0 ≤ x ∧ x < ((p.length * q.length : Nat) : Int) := fun x hx => by
    obtain ⟨k, hk, _⟩ := h
    have := unf_among (stP_stays okp okq) (x0 := 0) (by have := Nat.mul_pos okp.lo okq.lo; omega) k
    rw [hk] at this
    exact this.2 x hx
  have hdiv : ∀ x ∈ L, 0 ≤ x / (q.length : Int) ∧ x / (q.length : Int) < (p.length : Int) := fun x hx => by
    have := hL x hx
    exact ⟨Int.ediv_nonneg this.1 (by omega), Int.ediv_lt_of_lt_mul (by omega) (by rw [← Int.natCast_mul]; exact this.2)⟩
  have hhit : ∀ x e, hitB p q false x e = (decide (0 ≤ nxP p (x / (q.length : Int)).toNat e) && decide (nxP q (x % (q.length : Int)).toNat e < 0)) := fun x e => by unfold hitB; simp
  obtain ⟨lx, hlx⟩ : ∃ lx : Nat → Nat, ∀ i, i < L.length → ∃ x, L[i]? = some x ∧ lx i = (x / (q.length : Int)).toNat := ⟨fun i => (L.getD i 0 / (q.length : Int)).toNat, fun i hi => ⟨L[i], List.getElem?_eq_getElem hi, by simp [List.getD, List.getElem?_eq_getElem hi]⟩⟩
  have hnext : ∀ i x e, L[i]? = some x → e < 4 → ¬ nxP R i e < 0 → (nxP R i e).toNat < L.length ∧ lx (nxP R i e).toNat = (nxP p (x / (q.length : Int)).toNat e).toNat ∧ ¬ nxP p (x / (q.length : Int)).toNat e < 0 ∧ ¬ nxP q (x % (q.length : Int)).toNat e < 0 := fun i x e hx he hn => by
    obtain ⟨a, b⟩ := hA.nx i x hx e he
    have hv : (stP p q x e).2 = true := by cases k : (stP p q x e).2 with | true => rfl | false => exact absurd (a.2 k) hn
    obtain ⟨j, h1, h2, h3⟩ := b hv
    have hv2 := hv
    rw [stP_ok] at hv2
    simp only [Bool.and_eq_true, decide_eq_true_eq] at hv2
    rw [h2, Int.toNat_natCast]
    obtain ⟨y, h4, h5⟩ := hlx j h1
    rw [h3] at h4
    obtain rfl := Option.some.inj h4
    have h6 := (stP_parts (p := p) okq (hL x (List.mem_of_getElem? hx)).1 he).1
    refine ⟨h1, ?_, by omega, by omega⟩
    rw [h5, h6, stR_yes (by omega)]
  constructor
  · intro hm x hx e he
    cases hb : hitB p q false x e with
    | false => rfl
    | true =>
      rw [hhit, Bool.and_eq_true, decide_eq_true_eq, decide_eq_true_eq] at hb
      obtain ⟨i, hi⟩ := List.getElem?_of_mem hx
      have hil := (List.getElem?_eq_some_iff.1 hi).1
      obtain ⟨w, hw, hr⟩ := unf_word h i hil
      -- the word leads p to the pair's first state
      have key : ∀ (w : List Nat), (∀ e ∈ w, e < 4) → ∀ j t, j < L.length → runB R j w = some t → runB p (lx j) w = some (lx t) ∧ t < L.length := fun w => by
        induction w with
        | nil => intro _ j t hj hr; obtain rfl : j = t := Option.some.inj hr; exact ⟨rfl, hj⟩
        | cons e w ih =>
          intro hw j t hj hr
          have he := hw e (List.mem_cons_self ..)
          obtain ⟨y, h1, h2⟩ := hlx j hj
          change (if nxP R j e < 0 then none else runB R (nxP R j e).toNat w) = some t at hr
          by_cases hn : nxP R j e < 0
          · rw [if_pos hn] at hr; cases hr
          · rw [if_neg hn] at hr
            obtain ⟨k1, k2, k3, k4⟩ := hnext j y e h1 he hn
            show (if nxP p (lx j) e < 0 then none else runB p (nxP p (lx j) e).toNat w) = some (lx t) ∧ _
            rw [h2, if_neg k3, ← k2]
            exact ih (fun e he => hw e (List.mem_cons_of_mem _ he)) _ t k1 hr
      have hl0 : lx 0 = 0 := by
        obtain ⟨y, h1, h2⟩ := hlx 0 (by have := (List.getElem?_eq_some_iff.1 hA.zero).1; omega)
        rw [hA.zero] at h1
        obtain rfl := Option.some.inj h1
        rw [h2, Int.zero_ediv]; rfl
      obtain ⟨k1, k2⟩ := key w hw 0 i (by omega) hr
      rw [hl0] at k1
      obtain ⟨y, h1, h2⟩ := hlx i hil
      rw [hi] at h1
      obtain rfl := Option.some.inj h1
      have hall : ∀ e' ∈ w ++ [e], e' < 4 := fun e' h' => by
        rcases List.mem_append.1 h' with h' | h'
        · exact hw e' h'
        · simp at h'; subst h'; exact he
      have m1 := minL_run okR hall
      have m2 := minL_run okp hall
      rw [hm, m2, runB_app, runB_app, k1, hr] at m1
      have hn : nxP R i e < 0 := by
        obtain ⟨a, _⟩ := hA.nx i x hi e he
        refine a.2 ?_
        rw [stP_ok, decide_eq_false (p := 0 ≤ nxP q _ e) (by omega), Bool.and_false]
      change (if nxP p (lx i) e < 0 then none else runB p (nxP p (lx i) e).toNat []).isSome = (if nxP R i e < 0 then none else runB R (nxP R i e).toNat []).isSome at m1
      rw [if_pos hn, h2, if_neg (by omega)] at m1
      cases m1
  · intro hno
    refine hom_minL okp okR lx (fun i hi => ?_) ?_ fun i e hi he => ?_
    · rw [hA.len] at hi
      obtain ⟨x, h1, h2⟩ := hlx i hi
      have := hdiv x (List.mem_of_getElem? h1)
      rw [h2]; omega
    · obtain ⟨y, h1, h2⟩ := hlx 0 (by have := (List.getElem?_eq_some_iff.1 hA.zero).1; omega)
      rw [hA.zero] at h1
      obtain rfl := Option.some.inj h1
      rw [h2, Int.zero_ediv]; rfl
    · rw [hA.len] at hi
      obtain ⟨x, h1, h2⟩ := hlx i hi
      obtain ⟨a, b⟩ := hA.nx i x h1 e he
      have hn := hno x (List.mem_of_getElem? h1) e he
      rw [hhit, Bool.and_eq_false_iff, decide_eq_false_iff_not, decide_eq_false_iff_not] at hn
      rw [h2]
      have hiff : nxP R i e < 0 ↔ nxP p (x / (q.length : Int)).toNat e < 0 := by
        rw [a, stP_ok, Bool.and_eq_false_iff, decide_eq_false_iff_not, decide_eq_false_iff_not]
        omega
      exact ⟨hiff, fun k => (hnext i x e h1 he (fun k' => k (hiff.1 k'))).2.1⟩
end Go.Proofs.Ytopijecdhjnipaa

/-! The search for a word that policies tell apart: the items with their words, and the first hit. (pure) No conditions. -/
namespace Go.Proofs.Ytopijecdhjnipaa
set_option linter.unusedVariables false

def wS (st : Int → Nat → Int × Bool) (x : Int) (wd : List Int) (Q : List (Int × List Int)) (e : Nat) : List (Int × List Int) := if (st x e).2 = true ∧ (st x e).1 ∉ Q.map Prod.fst then Q ++ [((st x e).1, wd ++ [(e : Int)])] else Q
def wT (st : Int → Nat → Int × Bool) (x : Int) (wd : List Int) (Q : List (Int × List Int)) : Nat → List (Int × List Int)
  | 0 => Q
  | j + 1 => wS st x wd (wT st x wd Q j) j
/-- The items and their words behind k rounds. -/
def wunf (st : Int → Nat → Int × Bool) : Nat → List (Int × List Int)
  | 0 => [(0, [])]
  | k + 1 => match (wunf st k)[k]? with
    | some t => wT st t.1 t.2 (wunf st k) 4
    | none => wunf st k
section
variable {st : Int → Nat → Int × Bool}
theorem wS_no {x : Int} {wd : List Int} {Q : List (Int × List Int)} {e : Nat} (h : (st x e).2 = false ∨ (st x e).1 ∈ Q.map Prod.fst) : wS st x wd Q e = Q := if_neg (by rcases h with h | h; rw [h]; simp; exact fun k => k.2 h)
theorem wS_yes {x : Int} {wd : List Int} {Q : List (Int × List Int)} {e : Nat} (h : (st x e).2 = true) (h' : (st x e).1 ∉ Q.map Prod.fst) : wS st x wd Q e = Q ++ [((st x e).1, wd ++ [(e : Int)])] := if_pos ⟨h, h'⟩
theorem wS_pre (x : Int) (wd : List Int) (Q : List (Int × List Int)) (e : Nat) : Q <+: wS st x wd Q e := by
  unfold wS; split
  · exact List.prefix_append _ _
  · exact List.prefix_refl _
theorem wT_pre (x : Int) (wd : List Int) (Q : List (Int × List Int)) : ∀ j, Q <+: wT st x wd Q j
  | 0 => List.prefix_refl _
  | j + 1 => (wT_pre x wd Q j).trans (wS_pre _ _ _ _)
theorem wT_fst (x : Int) (wd : List Int) (Q : List (Int × List Int)) : ∀ j, (wT st x wd Q j).map Prod.fst = (evT st x (Q.map Prod.fst) j).1
  | 0 => rfl
  | j + 1 => by
    have ih := wT_fst x wd Q j
    rw [wT, evT]
    cases hv : (st x j).2 with
    | false => rw [wS_no (.inl hv), evS_no hv]; exact ih
    | true =>
      rw [evS_yes hv, ← ih]
      by_cases hm : (st x j).1 ∈ (wT st x wd Q j).map Prod.fst
      · rw [wS_no (.inr hm)]
        show _ = addL _ _
        rw [addL_old hm]
      · rw [wS_yes hv hm]
        show _ = addL _ _
        rw [addL_new hm, List.map_append]; rfl
theorem wunf_next {k : Nat} {t : Int × List Int} (h : (wunf st k)[k]? = some t) : wunf st (k + 1) = wT st t.1 t.2 (wunf st k) 4 := by rw [wunf, h]
theorem wunf_stop {k : Nat} (h : (wunf st k).length ≤ k) : wunf st (k + 1) = wunf st k := by rw [wunf, List.getElem?_eq_none h]
theorem wunf_fst : ∀ k, (wunf st k).map Prod.fst = (unf st 0 k).1
  | 0 => rfl
  | k + 1 => by
    have ih := wunf_fst k
    have hl : (wunf st k).length = (unf st 0 k).1.length := by rw [← ih, List.length_map]
    rcases Nat.lt_or_ge k (wunf st k).length with h | h
    · have e1 : (wunf st k)[k]? = some (wunf st k)[k] := List.getElem?_eq_getElem h
      have e2 : (unf st 0 k).1[k]? = some (wunf st k)[k].1 := by rw [← ih, List.getElem?_map, e1]; rfl
      rw [wunf_next e1, unf_next e2, wT_fst, ih]
    · rw [wunf_stop h, unf_stop (by omega)]; exact ih
theorem wunf_pre (k : Nat) : ∀ d, wunf st k <+: wunf st (k + d)
  | 0 => List.prefix_refl _
  | d + 1 => by
    refine (wunf_pre k d).trans ?_
    rw [← Nat.add_assoc]
    rcases Nat.lt_or_ge (k + d) (wunf st (k + d)).length with h | h
    · rw [wunf_next (List.getElem?_eq_getElem h)]; exact wT_pre _ _ _ _
    · rw [wunf_stop h]; exact List.prefix_refl _
theorem wunf_stay {k : Nat} (h : (wunf st k).length ≤ k) : ∀ d, wunf st (k + d) = wunf st k
  | 0 => rfl
  | d + 1 => by
    have ih := wunf_stay h d
    rw [← Nat.add_assoc, wunf_stop (by rw [ih]; omega), ih]
end

/-- The first hit. -/
def findQ (hit : Int → Nat → Bool) : List (Int × List Int) → Option (List Int)
  | [] => none
  | t :: Q => match (List.range 4).find? (hit t.1) with
    | some e => some (t.2 ++ [(e : Int)])
    | none => findQ hit Q
theorem find_first {f : Nat → Bool} {e : Nat} (he : e < 4) (h : f e = true) (hn : ∀ j, j < e → f j = false) : (List.range 4).find? f = some e := by
  rw [List.find?_eq_some_iff_append]
  refine ⟨h, List.range e, (List.range (4 - e - 1)).map (· + (e + 1)), ?_, fun a ha => by rw [hn a (List.mem_range.1 ha)]; rfl⟩
  have : e = 0 ∨ e = 1 ∨ e = 2 ∨ e = 3 := by omega
  rcases this with rfl | rfl | rfl | rfl <;> rfl
theorem find_none {f : Nat → Bool} (hn : ∀ j, j < 4 → f j = false) : (List.range 4).find? f = none := by
  rw [List.find?_eq_none]
  intro a ha
  rw [hn a (List.mem_range.1 ha)]; simp
theorem findQ_at {hit : Int → Nat → Bool} : ∀ {Q : List (Int × List Int)} {i e : Nat} {t : Int × List Int}, Q[i]? = some t → e < 4 → hit t.1 e = true → (∀ j, j < e → hit t.1 j = false) → (∀ j u, j < i → Q[j]? = some u → ∀ e, e < 4 → hit u.1 e = false) → findQ hit Q = some (t.2 ++ [(e : Int)])
  | [], i, e, t, h, _, _, _, _ => by simp at h
  | u :: Q, 0, e, t, h, he, hh, hn, _ => by
    obtain rfl : u = t := by simpa using h
    rw [findQ, find_first he hh hn]
  | u :: Q, i + 1, e, t, h, he, hh, hn, hb => by
    rw [findQ, find_none (fun j hj => hb 0 u (by omega) rfl j hj)]
    exact findQ_at (by simpa using h) he hh hn (fun j v hj hv => hb (j + 1) v (by omega) (by simpa using hv))
theorem findQ_none {hit : Int → Nat → Bool} : ∀ {Q : List (Int × List Int)}, (∀ u ∈ Q, ∀ e, e < 4 → hit u.1 e = false) → findQ hit Q = none
  | [], _ => rfl
  | u :: Q, h => by
    rw [findQ, find_none (fun j hj => h u (List.mem_cons_self ..) j hj)]
    exact findQ_none (fun v hv => h v (List.mem_cons_of_mem _ hv))
theorem findQ_some {hit : Int → Nat → Bool} : ∀ {Q : List (Int × List Int)}, findQ hit Q = none → ∀ u ∈ Q, ∀ e, e < 4 → hit u.1 e = false
  | [], _, u, hu, _, _ => by cases hu
  | v :: Q, h, u, hu, e, he => by
    rw [findQ] at h
    cases hf : (List.range 4).find? (hit v.1) with
    | some j => rw [hf] at h; cases h
    | none =>
      rw [hf] at h
      rcases List.mem_cons.1 hu with rfl | hu
      · have := List.find?_eq_none.1 hf e (List.mem_range.2 he)
        simpa using this
      · exact findQ_some h u hu e he
/-- The first of the shortest words that one policy allows and the other does not. -/
@[irreducible] def findP (p q : List (List Int)) (both : Bool) : Option (List Int) := findQ (hitB p q both) (wunf (stP p q) (p.length * q.length))
theorem findP_at {p q : List (List Int)} {both : Bool} {i e : Nat} {t : Int × List Int} (hi : i ≤ p.length * q.length) (h : (wunf (stP p q) i)[i]? = some t) (he : e < 4) (hh : hitB p q both t.1 e = true) (hn : ∀ j, j < e → hitB p q both t.1 j = false)
    (hb : ∀ j u, j < i → (wunf (stP p q) i)[j]? = some u → ∀ e, e < 4 → hitB p q both u.1 e = false) : findP p q both = some (t.2 ++ [(e : Int)]) := by
  unfold findP
  obtain ⟨d, hd⟩ := Nat.exists_eq_add_of_le hi
  obtain ⟨s, hs⟩ := wunf_pre (st := stP p q) i d
  have hl := (List.getElem?_eq_some_iff.1 h).1
  rw [hd, ← hs]
  refine findQ_at (by rw [List.getElem?_append_left hl]; exact h) he hh hn (fun j u hj hu => ?_)
  rw [List.getElem?_append_left (by omega)] at hu
  exact hb j u hj hu
theorem findP_none {p q : List (List Int)} {both : Bool} {i : Nat} (hi : i ≤ p.length * q.length) (hl : (wunf (stP p q) i).length ≤ i) (hb : ∀ j u, j < i → (wunf (stP p q) i)[j]? = some u → ∀ e, e < 4 → hitB p q both u.1 e = false) : findP p q both = none := by
  unfold findP
  obtain ⟨d, hd⟩ := Nat.exists_eq_add_of_le hi
  rw [hd, wunf_stay hl d]
  refine findQ_none fun u hu => ?_
  obtain ⟨j, hj⟩ := List.getElem?_of_mem hu
  exact hb j u (by have := (List.getElem?_eq_some_iff.1 hj).1; omega) hj
theorem wunf_len {p q : List (List Int)} (okp : RectP p) (okq : RectP q) (k : Nat) : (wunf (stP p q) k).length ≤ p.length * q.length := by
  have h0 : (0 : Int) ≤ 0 ∧ (0 : Int) < ((p.length * q.length : Nat) : Int) := by have := Nat.mul_pos okp.lo okq.lo; omega
  have := (unf_among (stP_stays okp okq) h0 k).len
  rw [← wunf_fst, List.length_map] at this
  exact this
/-- No word is found exactly if the policy is stricter. -/
theorem findP_stricter {p q R : List (List Int)} {L : List Int} (okp : RectP p) (okq : RectP q) (h : UnfEnd (stP p q) 0 L R) : (findP p q false).isNone = true ↔ minL R = minL p := by
  have hLQ : (wunf (stP p q) (p.length * q.length)).map Prod.fst = L := by
    have h0 : (0 : Int) ≤ 0 ∧ (0 : Int) < ((p.length * q.length : Nat) : Int) := by have := Nat.mul_pos okp.lo okq.lo; omega
    rw [wunf_fst]
    obtain ⟨k, h1, h2⟩ := h
    have hk : k ≤ p.length * q.length := by
      have := (unf_among (stP_stays okp okq) h0 k).len
      rw [h1] at this
      have : L.length ≤ _ := this
      omega
    obtain ⟨d, hd⟩ := Nat.exists_eq_add_of_le hk
    rw [hd, unf_stay (by rw [h1]; show L.length ≤ k; omega) d, h1]
  rw [stricter_iff okp okq h, Option.isNone_iff_eq_none]
  unfold findP
  constructor
  · intro hf x hx
    rw [← hLQ] at hx
    obtain ⟨u, hu, rfl⟩ := List.mem_map.1 hx
    exact findQ_some hf u hu
  · intro hx
    refine findQ_none fun u hu => hx u.1 ?_
    rw [← hLQ]
    exact List.mem_map.2 ⟨u, hu, rfl⟩
end Go.Proofs.Ytopijecdhjnipaa

/-! The model's search for a word that policies tell apart. Conditions: valid policies. -/
namespace Go.Proofs.Ytopijecdhjnipaa
set_option linter.unusedVariables false
set_option linter.unnecessarySimpa false
set_option linter.unusedSimpArgs false
open Go.RowKit

theorem wT_words {st : Int → Nat → Int × Bool} {x : Int} {wd : List Int} {Q : List (Int × List Int)} {k : Nat} (hQ : ∀ u ∈ Q, u.2.length ≤ k) (hw : wd.length < k) : ∀ j, ∀ u ∈ wT st x wd Q j, u.2.length ≤ k
  | 0, u, hu => hQ u hu
  | j + 1, u, hu => by
    have ih := wT_words (st := st) (x := x) hQ hw j
    rw [wT] at hu
    unfold wS at hu
    split at hu
    · rcases List.mem_append.1 hu with h | h
      · exact ih u h
      · simp at h; subst h; simp; omega
    · exact ih u hu
theorem wunf_words {st : Int → Nat → Int × Bool} : ∀ k, ∀ u ∈ wunf st k, u.2.length ≤ k
  | 0, u, hu => by simp [wunf] at hu; subst hu; simp
  | k + 1, u, hu => by
    have ih := wunf_words (st := st) k
    rcases Nat.lt_or_ge k (wunf st k).length with h | h
    · have e1 : (wunf st k)[k]? = some (wunf st k)[k] := List.getElem?_eq_getElem h
      rw [wunf_next e1] at hu
      exact wT_words (fun v hv => by have := ih v hv; omega) (by have := ih _ (List.getElem_mem h); omega) 4 u hu
    · rw [wunf_stop h] at hu
      have := ih u hu; omega
theorem stP_val {p q : List (List Int)} {x : Int} {e : Nat} (h1 : 0 ≤ nxP p (x / (q.length : Int)).toNat e) (h2 : 0 ≤ nxP q (x % (q.length : Int)).toNat e) : (stP p q x e).1 = nxP p (x / (q.length : Int)).toNat e * (q.length : Int) + nxP q (x % (q.length : Int)).toNat e := by
  unfold stP
  rw [stR_yes (by omega), stR_yes (by omega)]

/-- The cells of an item: the pair and the word. -/
def tri (κ : Int) (t : Int × (Value × List Int)) : List Value := [.int .i64 (t.1 / κ), .int .i64 (t.1 % κ), t.2.1]
theorem tri_at (κ : Int) : ∀ (T : List (Int × (Value × List Int))) (k : Nat) (t : Int × (Value × List Int)), T[k]? = some t → (T.flatMap (tri κ))[k * 3]? = some (.int .i64 (t.1 / κ)) ∧ (T.flatMap (tri κ))[k * 3 + 1]? = some (.int .i64 (t.1 % κ)) ∧ (T.flatMap (tri κ))[k * 3 + 2]? = some t.2.1
  | [], k, x, h => by simp at h
  | y :: L, 0, x, h => by
    obtain rfl : y = x := by simpa using h
    exact ⟨rfl, rfl, rfl⟩
  | y :: L, k + 1, x, h => by
    have ih := tri_at κ L k x (by simpa using h)
    have e1 : (k + 1) * 3 = k * 3 + 1 + 1 + 1 := by omega
    rw [e1]
    exact ih
/-- Which pairs have been seen. -/
def seenV (N : Nat) (M : List Int) : List Value := (List.range N).map fun y : Nat => Value.bool (decide ((y : Int) ∈ M))
theorem seenV_len (N : Nat) (M : List Int) : (seenV N M).length = N := by simp [seenV]
theorem seenV_at {N : Nat} {M : List Int} {y : Nat} (h : y < N) : (seenV N M)[y]? = some (.bool (decide ((y : Int) ∈ M))) := by simp [seenV, h]
theorem seenV_set {N : Nat} {M : List Int} {y : Nat} : (seenV N M).set y (.bool true) = seenV N (M ++ [(y : Int)]) := by
  apply List.ext_getElem?
  intro i
  by_cases e : y = i
  · subst e
    by_cases h : y < N
    · rw [List.getElem?_set_self (by rw [seenV_len]; exact h), seenV_at h]
      simp
    · rw [List.getElem?_eq_none (by rw [List.length_set, seenV_len]; omega), List.getElem?_eq_none (by rw [seenV_len]; omega)]
  · rw [List.getElem?_set_ne e]
    by_cases h : i < N
    · rw [seenV_at h, seenV_at h]
      have : ((i : Int) ∈ M ++ [(y : Int)]) ↔ (i : Int) ∈ M := by
        rw [List.mem_append, List.mem_singleton]
        exact ⟨fun k => k.elim id (fun k => absurd (Int.ofNat.inj k).symm e), .inl⟩
      simp only [this]
    · rw [List.getElem?_eq_none (by rw [seenV_len]; omega), List.getElem?_eq_none (by rw [seenV_len]; omega)]
/-- What the search holds in memory: the items with their words' values, the seen pairs. -/
structure FW (wc : World) (gs : Nat) (κ : Int) (N : Nat) (T : List (Int × (Value × List Int))) (v : Value) (W : World) : Prop where
  rows : RowsO W wc.heap.size (T.map Prod.snd)
  work : W.ownsRow wc.heap.size 71 3 v T.length (T.flatMap (tri κ))
  seen : W.ownsRow wc.heap.size 4 1 (.slice (some ⟨gs, 0, none⟩) N N) N (seenV N (T.map Prod.fst))
  below : Below wc.heap.size wc W
theorem own_ne_any {w : World} {lo lo' n n' z z' : Nat} {e e' : TypeId} {v v' : Value} {xs xs' : List Value} (h : w.ownsRow lo e z v n xs) (h' : w.ownsRow lo' e' z' v' n' xs') (he : e ≠ e') : ∀ k, v.ownBlock = some k → v'.ownBlock ≠ some k := fun k hk hk' => by
  rcases h.2 with ⟨e1, _⟩ | ⟨g, cap, cur, e1, _, h3, _⟩
  · rw [e1] at hk; cases hk
  rcases h'.2 with ⟨e2, _⟩ | ⟨g', cap', cur', e2, _, h4, _⟩
  · rw [e2] at hk'; cases hk'
  rw [e1] at hk
  rw [e2] at hk'
  obtain rfl : g = k := Option.some.inj hk
  obtain rfl : g' = g := Option.some.inj hk'
  rw [h3] at h4
  injection h4 with h4
  injection h4 with _ h4 _
  exact he h4
theorem own_sliceQ {w : World} {lo n z : Nat} {e : TypeId} {v : Value} {xs : List Value} (h : w.ownsRow lo e z v n xs) : ∃ A c, v = .slice A n c ∧ True := by
  rcases h.2 with ⟨h1, h2⟩ | ⟨g, cap, cur, h1, _⟩
  · exact ⟨none, 0, by rw [h1, h2], trivial⟩
  · exact ⟨_, _, h1, trivial⟩
section
variable {wc W W1 W3 : World} {gs N y : Nat} {κ : Int} {T : List (Int × (Value × List Int))} {v v' vw : Value} {wd : List Int} {o : Obj}
theorem FW.keep (h : FW wc gs κ N T v W) (hb : Below W.heap.size W W1) : FW wc gs κ N T v W1 := ⟨h.rows.keep hb, own_below h.work hb, own_below h.seen hb, bon h.below hb⟩
/-- A pair more, with its word. -/
theorem FW.put (h : FW wc gs κ N T v W) (hb : Below W.heap.size W W1) (hw : W1.ownsRow W.heap.size 2 1 vw wd.length (wd.map ic))
    (hgrow : ((W1.setCell ⟨gs, y, none⟩ (.bool true)).alloc o).grownBy W3 v.ownBlock) (hown : W3.ownsRow wc.heap.size 71 3 v' (T.length + 1) (T.flatMap (tri κ) ++ [.int .i64 ((y : Int) / κ), .int .i64 ((y : Int) % κ), vw])) :
    FW wc gs κ N (T ++ [((y : Int), (vw, wd))]) v' W3 := by
  have hlo := h.below.size
  have r1 := h.rows.snoc hb hw hlo
  have s1 := own_below h.seen hb
  have k1 := own_below h.work hb
  have r2 := r1.other (only_set (w := W1) (g := gs) (i := y) (x := .bool true)) (fun i p hp k hk e => own_ne_any (r1.own i p hp) s1 (by decide) k hk e)
  have s2 := (s1.stored y (.bool true)).1
  have k2 := k1.kept (only_set (w := W1) (g := gs) (i := y) (x := .bool true)) (by
    cases e : v.ownBlock with
    | none => exact .inl rfl
    | some k => exact .inr (fun e' => own_ne_any k1 s1 (by decide) k e e'.symm))
  have hal := bnew (W1.setCell ⟨gs, y, none⟩ (.bool true)) o
  have r3 := r2.keep hal
  have s3 := own_below s2 hal
  have k3 := own_below k2 hal
  have r4 := r3.other hgrow (fun i p hp k hk e => own_ne_any (r3.own i p hp) k3 (by decide) k hk e)
  have s4 := s3.kept hgrow (.inr (fun e => own_ne_any s3 k3 (by decide) gs rfl e.symm))
  refine ⟨by rw [List.map_append]; exact r4, ?_, ?_, ?_⟩
  · rw [List.length_append, List.flatMap_append]; exact hown
  · rw [List.map_append]
    rw [seenV_set] at s4
    exact s4
  · have hgs := (h.seen.lt gs rfl).1
    exact (bon ((bon h.below hb).setCell (p := ⟨gs, y, none⟩) hgs (.bool true)) hal).grown hgrow (Nat.le_trans (Nat.le_trans hlo hb.size) (by simpa using hal.size)) (fun k hk => (k3.lt k hk).1)
end
theorem infoBQ : (Try.prog.info? 4).map (fun i => (i.zero, i.size, i.bytes)) = some (some (.bool false), 1, 1) := by kernel_rfl
theorem infoPQ : (Try.prog.info? 71).map (fun i => (i.zero, i.size, i.bytes)) = some (some (.agg #[.int .i64 0, .int .i64 0, .slice none 0 0]), 3, 40) := by kernel_rfl
theorem cells3_new (w : World) (t : TypeId) (x0 x1 x2 : Value) {g : Nat} (hg : g = w.heap.size) : ∀ (j : Nat) (u : Value), [x0, x1, x2][j]? = some u → (w.alloc (.cells #[x0, x1, x2] t)).cell? ((⟨g, 0, none⟩ : Addr).add j) = some u := fun j u hj => by
  subst hg
  have hbn : BlkIs (w.alloc (.cells #[x0, x1, x2] t)) w.heap.size t #[x0, x1, x2] := blk_new _ _ _ _ rfl
  have he : (⟨w.heap.size, 0, none⟩ : Addr).add j = ⟨w.heap.size, j, none⟩ := by cases j <;> simp [Addr.add]
  rw [he, hbn.cell j]
  simpa using hj

set_option maxRecDepth 100000 in
set_option maxHeartbeats 8000000 in
theorem l10Find_c (b o : Nat) (A : Option Addr) (n c B : Nat) (xs : List (List Int)) (b' o' : Nat) (A' : Option Addr) (m c' : Nat) (ys : List (List Int)) (both : Bool) (w : World) (p0 : w.cell? ⟨b, o, none⟩ = some (.slice A n c)) (h : InLL w B A n xs)
    (p1 : w.cell? ⟨b', o', none⟩ = some (.slice A' m c')) (h' : InLL w B A' m ys) (hB : B ≤ w.heap.size) (ok : PolOk xs) (ok' : PolOk ys) :
    Calls Try.prog 34 #[.pointer (some ⟨b, o, none⟩), .pointer (some ⟨b', o', none⟩), .bool both] w fun e w' => ∃ A2 c2, e = .returned (.tuple #[.slice A2 ((findP xs ys both).getD []).length c2, .bool (findP xs ys both).isSome]) ∧ OwnL w' w.heap.size w'.heap.size A2 ((findP xs ys both).getD []).length c2 ((findP xs ys both).getD []) ∧ Below w.heap.size w w' := by
  obtain ⟨i0, hi, hz0, hz1, hz2⟩ := info_parts info64
  obtain ⟨i1, hi', hz0', hz1', hz2'⟩ := info_parts infoBQ
  obtain ⟨i2, hi'', hz0'', hz1'', hz2''⟩ := info_parts infoPQ
  have hxn : xs.length = n := h.1
  have hym : ys.length = m := h'.1
  have hn1 := ok.lo
  have hn2 := ok.hi
  have hm1 := ok'.lo
  have hm2 := ok'.hi
  obtain ⟨N, hN⟩ : ∃ N, n * m = N := ⟨_, rfl⟩
  have hN2 : N ≤ 144 := by rw [← hN]; exact Nat.mul_le_mul (show n ≤ 12 by omega) (show m ≤ 12 by omega)
  have hN1 : 0 < N := by rw [← hN]; exact Nat.mul_pos (by omega) (by omega)
  have hmul : (n : Int) * (m : Int) = (N : Int) := by rw [← hN, Int.natCast_mul]
  have hwm : IntKind.i64.wrap ((n : Int) * (m : Int)) = (N : Int) := by rw [hmul]; exact IntWalk.i64_in _ (by omega)
  have HX := Lib.hid h
  have HY := Lib.hid h'
  have HOK := Lib.hid ok.rect
  have HOK' := Lib.hid ok'.rect
  have HN := Lib.hid hN
  have hst : Stays (stP xs ys) N := by have := stP_stays ok.rect ok'.rect; rwa [hxn, hym, hN] at this
  obtain ⟨F, hF⟩ : ∃ F, findP xs ys both = F := ⟨_, rfl⟩
  have HF := Lib.hid hF
  rw [hF]
  clear h h' ok ok' hN hF
  go_enter Try.func34, Try.ntmps34
  go_upto_region 4 with (at_make; refine wpList_make_full _ rfl _ _ 69 rfl w.heap.size 4 i1 (.bool false) 1 Try.underlying69 hi' hz0' hz1' .i64 .i64 _ _ N rfl rfl rfl rfl (by rw [hz2']; omega) (by unfold maxLen; omega) (Nat.le_refl _) ?_; intro w1 hown hgrow)
  have hb1 := (Below.refl w.heap.size w).grown hgrow (Nat.le_refl _) (fun _ h => by cases h)
  clear hgrow
  obtain ⟨gs, hgs⟩ : ∃ gs, w.heap.size = gs := ⟨_, rfl⟩
  have HGS := Lib.hid hgs
  have hs0 : w1.ownsRow w.heap.size 4 1 (.slice (some ⟨gs, 0, none⟩) N N) N (seenV N []) := by
    have e : (seenV N []) = List.replicate N (.bool false) := by
      apply List.ext_getElem (by simp [seenV])
      intro i h1 h2
      simp [seenV]
    rw [e, ← hgs]
    have e2 := hown
    rw [show (Value.bool false).cells = #[Value.bool false] from rfl, toList_madeCells_one, Nat.mul_one] at e2
    exact e2
  rw [hgs]
  clear hown hgs
  have hb2 := bnew w1 (.cells #[] 2)
  have hb3 := bnew (w1.alloc (.cells #[] 2)) (.cells #[.int .i64 0, .int .i64 0, .slice (some ⟨w1.heap.size, 0, none⟩) 0 0] 71)
  have hF0 : FW w gs (m : Int) N [] (.slice none 0 0) w1 := ⟨⟨(fun i p hp => by cases hp), (fun i j p q _ hp => by cases hp)⟩, World.ownsRow_nil _ _ _ _, hs0, hb1⟩
  have s3 := own_below (own_below hs0 hb2) hb3
  have c0 := s3.cellAt 0 (by omega)
  rw [seenV_at hN1] at c0
  have f0 := s3.frozenAt 0
  have hI0 : FW w gs (m : Int) N [(0, (.slice (some ⟨w1.heap.size, 0, none⟩) 0 0, []))] (.slice (some ⟨w1.heap.size + 1, 0, none⟩) 1 1) (((w1.alloc (.cells #[] 2)).alloc (.cells #[.int .i64 0, .int .i64 0, .slice (some ⟨w1.heap.size, 0, none⟩) 0 0] 71)).setCell ⟨gs, 0, none⟩ (.bool true)) := by
    have hgs1 := (hs0.lt gs rfl)
    have r1 := (hF0.rows.snoc (v := .slice (some ⟨w1.heap.size, 0, none⟩) 0 0) (zs := []) hb2 (own_empty w1 _) hb1.size).keep hb3
    have k1 : ((w1.alloc (.cells #[] 2)).alloc (.cells #[.int .i64 0, .int .i64 0, .slice (some ⟨w1.heap.size, 0, none⟩) 0 0] 71)).ownsRow w.heap.size 71 3 (.slice (some ⟨w1.heap.size + 1, 0, none⟩) 1 1) 1 [.int .i64 0, .int .i64 0, .slice (some ⟨w1.heap.size, 0, none⟩) 0 0] :=
      ⟨rfl, .inr ⟨w1.heap.size + 1, 1, #[.int .i64 0, .int .i64 0, .slice (some ⟨w1.heap.size, 0, none⟩) 0 0], rfl, by have := hb1.size; omega, by have := heap_alloc_new (w1.alloc (.cells #[] 2)) (.cells #[.int .i64 0, .int .i64 0, .slice (some ⟨w1.heap.size, 0, none⟩) 0 0] 71); simpa using this, Nat.le_refl _, by unfold maxLen; omega, rfl, rfl⟩⟩
    have g1 := only_set (w := (w1.alloc (.cells #[] 2)).alloc (.cells #[.int .i64 0, .int .i64 0, .slice (some ⟨w1.heap.size, 0, none⟩) 0 0] 71)) (g := gs) (i := 0) (x := .bool true)
    refine ⟨r1.other g1 (fun i p hp k hk e => own_ne_any (r1.own i p hp) s3 (by decide) k hk e), ?_, ?_, (bon (bon hb1 hb2) hb3).setCell (p := ⟨gs, 0, none⟩) hgs1.1 _⟩
    · have e : ([((0 : Int), (Value.slice (some ⟨w1.heap.size, 0, none⟩) 0 0, ([] : List Int)))].flatMap (tri (m : Int))) = [.int .i64 0, .int .i64 0, .slice (some ⟨w1.heap.size, 0, none⟩) 0 0] := by simp [tri]
      rw [e]
      exact k1.kept g1 (.inr (fun e => by have e' : w1.heap.size + 1 = gs := Option.some.inj e; omega))
    · have := (s3.stored 0 (.bool true)).1
      rw [seenV_set (M := []) (y := 0)] at this
      exact this
  clear hF0 hs0 s3 hb1 hb2 hb3
  have i9 : (0 : Int) < (N : Int) := by omega
  go_upto_region 6 with fail
  clear c0 f0
  generalize ((w1.alloc (.cells #[] 2)).alloc (.cells #[.int .i64 0, .int .i64 0, .slice (some ⟨w1.heap.size, 0, none⟩) 0 0] 71)).setCell ⟨gs, 0, none⟩ (.bool true) = W1 at hI0 ⊢
  obtain ⟨v0, hv0⟩ : ∃ v0 : Value, .slice (some ⟨w1.heap.size + 1, 0, none⟩) 1 1 = v0 := ⟨_, rfl⟩
  generalize (.slice (some ⟨w1.heap.size, 0, none⟩) 0 0 : Value) = vw0 at hI0 ⊢
  rw [hv0] at hI0 ⊢
  clear hv0
  have HST := Lib.hid hst
  clear hst
  go_loopw [10, 11, 12, 13, 14, 15, 16] (fun v i _ _ _ _ _ wr => ∃ (k : Nat) (T : List (Int × (Value × List Int))), i = .int .i64 k ∧ Hid (T.map (fun t => (t.1, t.2.2)) = wunf (stP xs ys) k) ∧ Hid (∀ j u, j < k → (wunf (stP xs ys) k)[j]? = some u → ∀ e, e < 4 → hitB xs ys both u.1 e = false) ∧ k ≤ T.length ∧ FW w gs (m : Int) N T v wr) (fun _ i _ _ _ _ _ _ => N + 1 - (intOf i).toNat)
  case atStart => exact ⟨0, [(0, (vw0, []))], rfl, rfl, (fun j u hj => by omega), Nat.zero_le _, hI0⟩
  case round =>
    clear hI0
    rename World => wa
    obtain ⟨k, T, rfl, HT, HNO, hk, hM⟩ := hrel
    have hTl : T.length ≤ N := by
      have := wunf_len HOK.out HOK'.out k
      rw [← HT.out, List.length_map, hxn, hym, HN.out] at this
      exact this
    have hwk := hM.work
    obtain ⟨tl, htl⟩ : ∃ tl, T.length = tl := ⟨_, rfl⟩
    rw [htl] at hwk hTl hk
    obtain ⟨Av, cv, rfl, _⟩ := own_sliceQ hwk
    by_cases hlt : k < tl
    · obtain ⟨t, ht⟩ : ∃ t, T[k]? = some t := ⟨_, List.getElem?_eq_getElem (by omega)⟩
      obtain ⟨x, vw, wd⟩ := t
      have hwo0 : wa.ownsRow w.heap.size 2 1 vw wd.length (wd.map ic) := hM.rows.own k (vw, wd) (by rw [List.getElem?_map, ht]; rfl)
      obtain ⟨wl, hwl⟩ : ∃ wl, wd.length = wl := ⟨_, rfl⟩
      have HWL := Lib.hid hwl
      rw [hwl] at hwo0
      clear hwl
      obtain ⟨Aw, cw, rfl, _⟩ := own_slice hwo0
      clear hwo0
      obtain ⟨gw, rfl⟩ : ∃ r, Av = some ⟨r, 0, none⟩ := by
        rcases hwk.2 with h' | ⟨r, cap, cur, e1, _⟩
        · have := h'.2; omega
        · injection e1 with e1; exact ⟨r, e1⟩
      obtain ⟨t0, t1, t2⟩ := tri_at (m : Int) T k _ ht
      dsimp only at t0 t1 t2
      have hfl : (T.flatMap (tri (m : Int))).length = tl * 3 := hwk.1
      have c0 := (hwk.cellAt (k * 3) (by omega)).trans t0
      have c1 := (hwk.cellAt (k * 3 + 1) (by omega)).trans t1
      have c2 := (hwk.cellAt (k * 3 + 2) (by omega)).trans t2
      clear t0 t1 t2
      have hu : (wunf (stP xs ys) k)[k]? = some (x, wd) := by rw [← HT.out, List.getElem?_map, ht]; rfl
      have hAm := unf_among HST.out (x0 := 0) (by omega) k
      have hxr : 0 ≤ x ∧ x < (N : Int) := by
        refine hAm.2 x ?_
        rw [← wunf_fst]
        exact List.mem_map.2 ⟨_, List.mem_of_getElem? hu, rfl⟩
      have hwl := wunf_words (st := stP xs ys) k _ (List.mem_of_getElem? hu)
      have hwl2 : wd.length ≤ 144 := by have : wd.length ≤ k := hwl; omega
      have HU := Lib.hid hu
      have HAM := Lib.hid hAm
      have d1 : 0 ≤ x / (m : Int) := Int.ediv_nonneg hxr.1 (by omega)
      have d2 : x / (m : Int) < (n : Int) := Int.ediv_lt_of_lt_mul (by omega) (by rw [hmul]; exact hxr.2)
      have d3 : 0 ≤ x % (m : Int) := Int.emod_nonneg _ (by omega)
      have d4 : x % (m : Int) < (m : Int) := Int.emod_lt_of_pos _ (by omega)
      obtain ⟨s, hs⟩ : ∃ s : Nat, x / (m : Int) = s := ⟨(x / (m : Int)).toNat, by omega⟩
      obtain ⟨r, hr⟩ : ∃ r : Nat, x % (m : Int) = r := ⟨(x % (m : Int)).toNat, by omega⟩
      rw [hs] at c0 d2
      rw [hr] at c1 d4
      have HSR : Hid ((x / (ys.length : Int)).toNat = s ∧ (x % (ys.length : Int)).toNat = r) := by rw [hym, hs, hr]; exact ⟨Int.toNat_natCast _, Int.toNat_natCast _⟩
      clear hs hr d1 d3 hu hAm hwl
      have hb8 := bnew wa (.cells #[.int .i64 (s : Int), .int .i64 (r : Int), .slice Aw wl cw] 71)
      have hX8 : BlkIs (wa.alloc (.cells #[.int .i64 (s : Int), .int .i64 (r : Int), .slice Aw wl cw] 71)) wa.heap.size 71 #[.int .i64 (s : Int), .int .i64 (r : Int), .slice Aw wl cw] := blk_new _ _ _ _ rfl
      have hM8 := hM.keep hb8
      have hvx : (Value.slice (some ⟨gw, 0, none⟩) tl cv).ownBlock ≠ some wa.heap.size := fun e => by have := (hwk.lt _ e).2; omega
      have i3 : (k : Int) < (tl : Int) := by omega
      have HTK := Lib.hid ht
      clear hM ht hwk htl hfl
      go_upto_region 10 with fail
      clear c0 c1 c2
      generalize wa.alloc (.cells #[.int .i64 (s : Int), .int .i64 (r : Int), .slice Aw wl cw] 71) = W8 at hX8 hM8 ⊢
      generalize wa.heap.size = gx at hX8 hvx ⊢
      obtain ⟨v8, hv8⟩ : ∃ v8 : Value, .slice (some ⟨gw, 0, none⟩) tl cv = v8 := ⟨_, rfl⟩
      rw [hv8] at hvx hM8 ⊢
      clear hv8 hb8
      go_loopw [10, 13, 14, 15, 16] (fun v j _ _ _ wr => ∃ (e : Nat) (T' : List (Int × (Value × List Int))), j = .int .i64 e ∧ e ≤ 4 ∧ Hid (T'.map (fun t => (t.1, t.2.2)) = wT (stP xs ys) x wd (wunf (stP xs ys) k) e) ∧ Hid (∀ j, j < e → hitB xs ys both x j = false) ∧ Hid (T'[k]? = some (x, (.slice Aw wl cw, wd))) ∧ FW w gs (m : Int) N T' v wr ∧ BlkIs wr gx 71 #[.int .i64 (s : Int), .int .i64 (r : Int), .slice Aw wl cw] ∧ v.ownBlock ≠ some gx) (fun _ j _ _ _ _ => 4 - (intOf j).toNat)
      case atStart => exact ⟨0, T, rfl, by omega, HT, (fun j hj => by omega), HTK, hM8, hX8, hvx⟩
      case round =>
        clear hM8 hX8 hvx
        rename World => wi
        obtain ⟨e, T', rfl, he, HT', HNE, HTK', hM, hX, hvx⟩ := hrel
        have hfst : T'.map Prod.fst = (evT (stP xs ys) x (unf (stP xs ys) 0 k).1 e).1 := by
          rw [← wunf_fst, ← wT_fst (wd := wd), ← HT'.out, List.map_map]; rfl
        have hAe := evT_among HST.out hxr HAM.out e he
        rw [← hfst] at hAe
        have hTl' : T'.length ≤ N := by have := hAe.1.len; rwa [List.length_map] at this
        have hwk := hM.work
        obtain ⟨tl', htl'⟩ : ∃ tl, T'.length = tl := ⟨_, rfl⟩
        rw [htl'] at hwk hTl'
        obtain ⟨Av, cv, rfl, _⟩ := own_sliceQ hwk
        have HTL' := Lib.hid htl'
        clear htl' hAe hfst
        by_cases he4 : e < 4
        · obtain ⟨b1, off1, A3, c3, b2, off2, rfl, u0, rfl, u1⟩ := (HX.out.next hM.below hB).cell_atR HOK.out (s := s) (e := e) (by omega) he4
          obtain ⟨b3, off3, A4, c4, b4, off4, rfl, v0, rfl, v1⟩ := (HY.out.next hM.below hB).cell_atR HOK'.out (s := r) (e := e) (by omega) he4
          have r0 := cell_next p0 hM.below
          have r1 := cell_next p1 hM.below
          have x0 := hX.cell 0
          have x1 := hX.cell 1
          have x2 := hX.cell 2
          simp at x0 x1 x2
          have i4 : (s : Int) < (n : Int) := d2
          have i5 : (r : Int) < (m : Int) := d4
          have i6 : (e : Int) < 4 := by omega
          have hwo : wi.ownsRow w.heap.size 2 1 (.slice Aw wl cw) wl (wd.map ic) := by have := hM.rows.own k (.slice Aw wl cw, wd) (by rw [List.getElem?_map, HTK'.out]; rfl); rw [show ((Value.slice Aw wl cw, wd) : Value × List Int).2.length = wl from HWL.out] at this; exact this
          have hwl3 : wl ≤ 144 := by have := HWL.out; omega
          have HOWN := Lib.hid (fun W (hb : Below wi.heap.size wi W) => l00Own_c Aw wl cw wi.heap.size wd W ((OwnL.of_own hwo).inn.next hb (Nat.le_refl _)) hb.size (by omega))
          have HHIT : Hid (hitB xs ys both x e = ((decide (0 ≤ nxP xs s e) && decide (nxP ys r e < 0)) || (both && decide (nxP xs s e < 0) && decide (0 ≤ nxP ys r e)))) := by
            show hitB xs ys both x e = _
            unfold hitB; rw [HSR.out.1, HSR.out.2]
          have HSOK : Hid ((stP xs ys x e).2 = (decide (0 ≤ nxP xs s e) && decide (0 ≤ nxP ys r e))) := by
            show _ = _
            rw [stP_ok, HSR.out.1, HSR.out.2]
          have HSV : Hid (0 ≤ nxP xs s e → 0 ≤ nxP ys r e → (stP xs ys x e).1 = nxP xs s e * (m : Int) + nxP ys r e) := by
            intro h1 h2
            have := stP_val (p := xs) (q := ys) (x := x) (e := e) (by rw [HSR.out.1]; exact h1) (by rw [HSR.out.2]; exact h2)
            rw [HSR.out.1, HSR.out.2, hym] at this
            exact this
          have HSTE := Lib.hid (HST.out x e hxr.1 hxr.2 he4)
          have HPARTS : Hid (0 ≤ nxP xs s e → 0 ≤ nxP ys r e → (stP xs ys x e).1 / (m : Int) = nxP xs s e ∧ (stP xs ys x e).1 % (m : Int) = nxP ys r e) := by
            intro h1 h2
            have := stP_parts (p := xs) (q := ys) HOK'.out (x := x) (e := e) hxr.1 he4
            rw [HSR.out.1, HSR.out.2, stR_yes (by omega), stR_yes (by omega), hym] at this
            exact this
          have hamax : nxP xs s e ≤ (n : Int) - 1 ∧ nxP ys r e ≤ (m : Int) - 1 := by
            obtain ⟨_, _, _, _, _, h1⟩ := HOK.out.at_ (s := s) (e := e) (by omega) he4
            obtain ⟨_, _, _, _, _, h2⟩ := HOK'.out.at_ (s := r) (e := e) (by omega) he4
            omega
          generalize nxP xs s e = a at u1 HHIT HSOK HSV HPARTS hamax
          generalize nxP ys r e = bb at v1 HHIT HSOK HSV HPARTS hamax
          have HM := Lib.hid hM
          have HXX := Lib.hid hX
          have hbel := hM.below.size
          have HNOS : Hid (∀ (W : World), Below wi.heap.size wi W → ((stP xs ys x e).2 = false ∨ (stP xs ys x e).1 ∈ T'.map Prod.fst) → hitB xs ys both x e = false → Hid (T'.map (fun t => (t.1, t.2.2)) = wT (stP xs ys) x wd (wunf (stP xs ys) k) (e + 1)) ∧ Hid (∀ j, j < e + 1 → hitB xs ys both x j = false) ∧ FW w gs (m : Int) N T' (.slice Av tl' cv) W ∧ BlkIs W gx 71 #[.int .i64 (s : Int), .int .i64 (r : Int), .slice Aw wl cw]) := fun W hb hno hh => by
            refine ⟨?_, fun j hj => ?_, HM.out.keep hb, HXX.out.next hb⟩
            · show _ = _
              rw [wT, wS_no, HT'.out]
              rcases hno with h1 | h1
              · exact .inl h1
              · refine .inr ?_
                rw [← HT'.out, List.map_map]; exact h1
            · rcases Nat.lt_or_ge j e with h1 | h1
              · exact HNE.out j h1
              · rw [show j = e by omega]; exact hh
          clear hM hX hwo hwk
          by_cases ha : a < 0
          · by_cases hb9 : bb < 0
            · have ka : ¬ 0 ≤ a := by omega
              have ka2 : decide (0 ≤ a) = false := decide_eq_false ka
              have ka3 : decide (a < 0) = true := decide_eq_true (by omega)
              have ka4 : a < 0 := by omega
              have kb : ¬ 0 ≤ bb := by omega
              have kb3 : decide (0 ≤ bb) = false := decide_eq_false kb
              have kb2 : decide (bb < 0) = true := decide_eq_true (by omega)
              have kb4 : bb < 0 := by omega
              cases both with
              | false =>
                have HSF : Hid ((stP xs ys x e).2 = false) := by show _ = _; rw [HSOK.out]; simp [ka2, kb3]
                have HHF : Hid (hitB xs ys false x e = false) := by show _ = _; rw [HHIT.out]; simp [ka2, ka3, kb2, kb3]
                clear HHIT HSOK HSV HPARTS hamax
                go_wp2_with fail
                go_quiet (fail)
                go_wp2_with fail
                go_quiet (fail)
                go_wp2_with fail
                refine (HOWN.out _ (below_drewN (Below.refl wi.heap.size wi) _)).mono ?_
                rintro v9 w2 ⟨A2, c2, rfl, hoL, hb2⟩
                have o2 : w2.ownsRow wi.heap.size 2 1 (.slice A2 wl c2) wl (wd.map ic) := own_less hoL.2.1 (below_drewN (Below.refl wi.heap.size wi) _).size
                have hbW2 : Below wi.heap.size wi w2 := bon (below_drewN (Below.refl wi.heap.size wi) _) hb2
                have hs2 := hbW2.size
                clear hoL hb2
                go_wp2_with (at_builtin; refine wpList_append_sep rfl _ _ 35 rfl wi.heap.size 2 i0 (.int .i64 0) 1 8 Try.underlying35 hi hz0 hz1 hz2 rfl (by decide) _ _ _ rfl (o2.alloc _) ⟨w2.heap.size, 0, none⟩ 1 1 [.int .i64 (e : Int)] rfl rfl (cell_one_new _ _ _) (by simp [Value.oneCell']) (by unfold maxLen; omega) (by omega) (by simp; omega) (by omega) ?_; intro g4 cap4 w4 hown4 hgrow4 hsep4; have hbW4 : Below wi.heap.size wi w4 := (bon hbW2 (bnew w2 (.cells #[.int .i64 (e : Int)] 2))).grown hgrow4 (by simp; omega) (fun k hk => (o2.lt k hk).1))
                go_roundw
                case rel =>
                  obtain ⟨q1, q2, q3, q4⟩ := HNOS.out w4 hbW4 (.inl HSF.out) HHF.out
                  exact ⟨e + 1, T', by go_num, by omega, q1, q2, HTK', q3, q4, hvx⟩
                case measure => simp [intOf]; omega
              | true =>
                have HSF : Hid ((stP xs ys x e).2 = false) := by show _ = _; rw [HSOK.out]; simp [ka2, kb3]
                have HHF : Hid (hitB xs ys true x e = false) := by show _ = _; rw [HHIT.out]; simp [ka2, ka3, kb2, kb3]
                clear HHIT HSOK HSV HPARTS hamax
                go_wp2_with fail
                go_quiet (fail)
                go_wp2_with fail
                go_quiet (fail)
                go_wp2_with fail
                refine (HOWN.out _ (below_drewN (Below.refl wi.heap.size wi) _)).mono ?_
                rintro v9 w2 ⟨A2, c2, rfl, hoL, hb2⟩
                have o2 : w2.ownsRow wi.heap.size 2 1 (.slice A2 wl c2) wl (wd.map ic) := own_less hoL.2.1 (below_drewN (Below.refl wi.heap.size wi) _).size
                have hbW2 : Below wi.heap.size wi w2 := bon (below_drewN (Below.refl wi.heap.size wi) _) hb2
                have hs2 := hbW2.size
                clear hoL hb2
                go_wp2_with (at_builtin; refine wpList_append_sep rfl _ _ 35 rfl wi.heap.size 2 i0 (.int .i64 0) 1 8 Try.underlying35 hi hz0 hz1 hz2 rfl (by decide) _ _ _ rfl (o2.alloc _) ⟨w2.heap.size, 0, none⟩ 1 1 [.int .i64 (e : Int)] rfl rfl (cell_one_new _ _ _) (by simp [Value.oneCell']) (by unfold maxLen; omega) (by omega) (by simp; omega) (by omega) ?_; intro g4 cap4 w4 hown4 hgrow4 hsep4; have hbW4 : Below wi.heap.size wi w4 := (bon hbW2 (bnew w2 (.cells #[.int .i64 (e : Int)] 2))).grown hgrow4 (by simp; omega) (fun k hk => (o2.lt k hk).1))
                go_roundw
                case rel =>
                  obtain ⟨q1, q2, q3, q4⟩ := HNOS.out w4 hbW4 (.inl HSF.out) HHF.out
                  exact ⟨e + 1, T', by go_num, by omega, q1, q2, HTK', q3, q4, hvx⟩
                case measure => simp [intOf]; omega
            · have ka : ¬ 0 ≤ a := by omega
              have ka2 : decide (0 ≤ a) = false := decide_eq_false ka
              have ka3 : decide (a < 0) = true := decide_eq_true (by omega)
              have ka4 : a < 0 := by omega
              have kb : 0 ≤ bb := by omega
              have kb3 : decide (0 ≤ bb) = true := decide_eq_true kb
              have kb2 : decide (bb < 0) = false := decide_eq_false (by omega)
              have kb4 : ¬ bb < 0 := by omega
              cases both with
              | false =>
                have HSF : Hid ((stP xs ys x e).2 = false) := by show _ = _; rw [HSOK.out]; simp [ka2, kb3]
                have HHF : Hid (hitB xs ys false x e = false) := by show _ = _; rw [HHIT.out]; simp [ka2, ka3, kb2, kb3]
                clear HHIT HSOK HSV HPARTS hamax
                go_wp2_with fail
                go_quiet (fail)
                go_wp2_with fail
                go_quiet (fail)
                go_wp2_with fail
                refine (HOWN.out _ (below_drewN (Below.refl wi.heap.size wi) _)).mono ?_
                rintro v9 w2 ⟨A2, c2, rfl, hoL, hb2⟩
                have o2 : w2.ownsRow wi.heap.size 2 1 (.slice A2 wl c2) wl (wd.map ic) := own_less hoL.2.1 (below_drewN (Below.refl wi.heap.size wi) _).size
                have hbW2 : Below wi.heap.size wi w2 := bon (below_drewN (Below.refl wi.heap.size wi) _) hb2
                have hs2 := hbW2.size
                clear hoL hb2
                go_wp2_with (at_builtin; refine wpList_append_sep rfl _ _ 35 rfl wi.heap.size 2 i0 (.int .i64 0) 1 8 Try.underlying35 hi hz0 hz1 hz2 rfl (by decide) _ _ _ rfl (o2.alloc _) ⟨w2.heap.size, 0, none⟩ 1 1 [.int .i64 (e : Int)] rfl rfl (cell_one_new _ _ _) (by simp [Value.oneCell']) (by unfold maxLen; omega) (by omega) (by simp; omega) (by omega) ?_; intro g4 cap4 w4 hown4 hgrow4 hsep4; have hbW4 : Below wi.heap.size wi w4 := (bon hbW2 (bnew w2 (.cells #[.int .i64 (e : Int)] 2))).grown hgrow4 (by simp; omega) (fun k hk => (o2.lt k hk).1))
                go_roundw
                case rel =>
                  obtain ⟨q1, q2, q3, q4⟩ := HNOS.out w4 hbW4 (.inl HSF.out) HHF.out
                  exact ⟨e + 1, T', by go_num, by omega, q1, q2, HTK', q3, q4, hvx⟩
                case measure => simp [intOf]; omega
              | true =>
                have HFS : Hid (F = some (wd ++ [(e : Int)])) := by
                  show F = _
                  rw [← HF.out]
                  exact findP_at (i := k) (t := (x, wd)) (by rw [hxn, hym, HN.out]; omega) HU.out he4 (by rw [HHIT.out]; simp [ka2, ka3, kb2, kb3]) HNE.out HNO.out
                clear HNOS HHIT HSOK HSV HPARTS hamax
                go_wp2_with fail
                go_quiet (fail)
                go_wp2_with fail
                go_quiet (fail)
                go_wp2_with fail
                refine (HOWN.out _ (below_drewN (Below.refl wi.heap.size wi) _)).mono ?_
                rintro v9 w2 ⟨A2, c2, rfl, hoL, hb2⟩
                have o2 : w2.ownsRow wi.heap.size 2 1 (.slice A2 wl c2) wl (wd.map ic) := own_less hoL.2.1 (below_drewN (Below.refl wi.heap.size wi) _).size
                have hbW2 : Below wi.heap.size wi w2 := bon (below_drewN (Below.refl wi.heap.size wi) _) hb2
                have hs2 := hbW2.size
                clear hoL hb2
                go_wp2_with (at_builtin; refine wpList_append_sep rfl _ _ 35 rfl wi.heap.size 2 i0 (.int .i64 0) 1 8 Try.underlying35 hi hz0 hz1 hz2 rfl (by decide) _ _ _ rfl (o2.alloc _) ⟨w2.heap.size, 0, none⟩ 1 1 [.int .i64 (e : Int)] rfl rfl (cell_one_new _ _ _) (by simp [Value.oneCell']) (by unfold maxLen; omega) (by omega) (by simp; omega) (by omega) ?_; intro g4 cap4 w4 hown4 hgrow4 hsep4; have hbW4 : Below wi.heap.size wi w4 := (bon hbW2 (bnew w2 (.cells #[.int .i64 (e : Int)] 2))).grown hgrow4 (by simp; omega) (fun k hk => (o2.lt k hk).1))
                go_ret2
                have hFs := HFS.out
                subst hFs
                have e9 : ((some (wd ++ [(e : Int)])).getD []).length = wl + 1 := by have := HWL.out; simp [this]
                have h9 : w4.ownsRow wi.heap.size 2 1 (.slice (some ⟨g4, 0, none⟩) (wl + 1) cap4) (wl + 1) ((wd ++ [(e : Int)]).map ic) := by rw [List.map_append]; exact hown4
                refine ⟨some ⟨g4, 0, none⟩, cap4, ?_, ?_, bon HM.out.below hbW4⟩
                · rw [e9]; rfl
                · rw [e9]; exact (OwnL.of_own h9).less hbel
          · by_cases hb9 : bb < 0
            · have ka : 0 ≤ a := by omega
              have ka2 : decide (0 ≤ a) = true := decide_eq_true ka
              have ka3 : decide (a < 0) = false := decide_eq_false (by omega)
              have ka4 : ¬ a < 0 := by omega
              have kb : ¬ 0 ≤ bb := by omega
              have kb3 : decide (0 ≤ bb) = false := decide_eq_false kb
              have kb2 : decide (bb < 0) = true := decide_eq_true (by omega)
              have kb4 : bb < 0 := by omega
              have HFS : Hid (F = some (wd ++ [(e : Int)])) := by
                show F = _
                rw [← HF.out]
                exact findP_at (i := k) (t := (x, wd)) (by rw [hxn, hym, HN.out]; omega) HU.out he4 (by rw [HHIT.out]; simp [ka2, ka3, kb2, kb3]) HNE.out HNO.out
              clear HNOS HHIT HSOK HSV HPARTS hamax
              go_wp2_with fail
              go_quiet (fail)
              go_wp2_with fail
              go_quiet (fail)
              go_wp2_with fail
              refine (HOWN.out _ (below_drewN (Below.refl wi.heap.size wi) _)).mono ?_
              rintro v9 w2 ⟨A2, c2, rfl, hoL, hb2⟩
              have o2 : w2.ownsRow wi.heap.size 2 1 (.slice A2 wl c2) wl (wd.map ic) := own_less hoL.2.1 (below_drewN (Below.refl wi.heap.size wi) _).size
              have hbW2 : Below wi.heap.size wi w2 := bon (below_drewN (Below.refl wi.heap.size wi) _) hb2
              have hs2 := hbW2.size
              clear hoL hb2
              go_wp2_with (at_builtin; refine wpList_append_sep rfl _ _ 35 rfl wi.heap.size 2 i0 (.int .i64 0) 1 8 Try.underlying35 hi hz0 hz1 hz2 rfl (by decide) _ _ _ rfl (o2.alloc _) ⟨w2.heap.size, 0, none⟩ 1 1 [.int .i64 (e : Int)] rfl rfl (cell_one_new _ _ _) (by simp [Value.oneCell']) (by unfold maxLen; omega) (by omega) (by simp; omega) (by omega) ?_; intro g4 cap4 w4 hown4 hgrow4 hsep4; have hbW4 : Below wi.heap.size wi w4 := (bon hbW2 (bnew w2 (.cells #[.int .i64 (e : Int)] 2))).grown hgrow4 (by simp; omega) (fun k hk => (o2.lt k hk).1))
              go_ret2
              have hFs := HFS.out
              subst hFs
              have e9 : ((some (wd ++ [(e : Int)])).getD []).length = wl + 1 := by have := HWL.out; simp [this]
              have h9 : w4.ownsRow wi.heap.size 2 1 (.slice (some ⟨g4, 0, none⟩) (wl + 1) cap4) (wl + 1) ((wd ++ [(e : Int)]).map ic) := by rw [List.map_append]; exact hown4
              refine ⟨some ⟨g4, 0, none⟩, cap4, ?_, ?_, bon HM.out.below hbW4⟩
              · rw [e9]; rfl
              · rw [e9]; exact (OwnL.of_own h9).less hbel
            · have ka : 0 ≤ a := by omega
              have ka2 : decide (0 ≤ a) = true := decide_eq_true ka
              have ka3 : decide (a < 0) = false := decide_eq_false (by omega)
              have ka4 : ¬ a < 0 := by omega
              have kb : 0 ≤ bb := by omega
              have kb3 : decide (0 ≤ bb) = true := decide_eq_true kb
              have kb2 : decide (bb < 0) = false := decide_eq_false (by omega)
              have kb4 : ¬ bb < 0 := by omega
              cases both with
              | false =>
                have hv : (stP xs ys x e).2 = true := by rw [HSOK.out]; simp [ka2, kb3]
                obtain ⟨y0, y1⟩ := HSTE.out hv
                have hsv := HSV.out ka kb
                obtain ⟨y, hy⟩ : ∃ y : Nat, (stP xs ys x e).1 = y := ⟨(stP xs ys x e).1.toNat, by omega⟩
                have hyN : y < N := by omega
                have hpa := HPARTS.out ka kb
                have hm0 : 0 ≤ a * (m : Int) := Int.mul_nonneg ka (by omega)
                rw [hy] at hsv hpa
                have e6 : IntKind.i64.wrap (a * (m : Int)) = a * (m : Int) := IntWalk.i64_in _ (by omega)
                have e7 : IntKind.i64.wrap (a * (m : Int) + bb) = (y : Int) := by rw [← hsv]; exact IntWalk.i64_in _ (by omega)
                have i8 : (y : Int) < (N : Int) := by omega
                have HHF : Hid (hitB xs ys false x e = false) := by show _ = _; rw [HHIT.out]; simp [ka2, ka3, kb2, kb3]
                have HV := Lib.hid hv
                have HYY := Lib.hid hy
                have HPA := Lib.hid hpa
                clear hv hsv hpa y0 y1 hy hm0 HHIT HSOK HSV HPARTS HSTE hamax
                by_cases hmem : (y : Int) ∈ T'.map Prod.fst
                · have hdec : decide ((y : Int) ∈ T'.map Prod.fst) = true := decide_eq_true hmem
                  have HMEM := Lib.hid hmem
                  have HDEC := Lib.hid hdec
                  clear hmem hdec
                  go_wp2_with fail
                  go_quiet (fail)
                  go_wp2_with fail
                  go_quiet (fail)
                  go_wp2_with fail
                  refine (HOWN.out _ (below_drewN (Below.refl wi.heap.size wi) _)).mono ?_
                  rintro v9 w2 ⟨A2, c2, rfl, hoL, hb2⟩
                  have o2 : w2.ownsRow wi.heap.size 2 1 (.slice A2 wl c2) wl (wd.map ic) := own_less hoL.2.1 (below_drewN (Below.refl wi.heap.size wi) _).size
                  have hbW2 : Below wi.heap.size wi w2 := bon (below_drewN (Below.refl wi.heap.size wi) _) hb2
                  have hs2 := hbW2.size
                  clear hoL hb2
                  go_wp2_with (at_builtin; refine wpList_append_sep rfl _ _ 35 rfl wi.heap.size 2 i0 (.int .i64 0) 1 8 Try.underlying35 hi hz0 hz1 hz2 rfl (by decide) _ _ _ rfl (o2.alloc _) ⟨w2.heap.size, 0, none⟩ 1 1 [.int .i64 (e : Int)] rfl rfl (cell_one_new _ _ _) (by simp [Value.oneCell']) (by unfold maxLen; omega) (by omega) (by simp; omega) (by omega) ?_; intro g4 cap4 w4 hown4 hgrow4 hsep4; have hbW4 : Below wi.heap.size wi w4 := (bon hbW2 (bnew w2 (.cells #[.int .i64 (e : Int)] 2))).grown hgrow4 (by simp; omega) (fun k hk => (o2.lt k hk).1); have s4 := own_below HM.out.seen hbW4; have c9 := s4.cellAt y (by omega); rw [seenV_at hyN, HDEC.out] at c9; have f9 := s4.frozenAt y)
                  go_roundw
                  case rel =>
                    obtain ⟨q1, q2, q3, q4⟩ := HNOS.out w4 hbW4 (.inr (by rw [HYY.out]; exact HMEM.out)) HHF.out
                    exact ⟨e + 1, T', by go_num, by omega, q1, q2, HTK', q3, q4, hvx⟩
                  case measure => simp [intOf]; omega
                · have hdec : decide ((y : Int) ∈ T'.map Prod.fst) = false := decide_eq_false hmem
                  have HMEM := Lib.hid hmem
                  have HDEC := Lib.hid hdec
                  clear hmem hdec
                  go_wp2_with fail
                  go_quiet (fail)
                  go_wp2_with fail
                  go_quiet (fail)
                  go_wp2_with fail
                  refine (HOWN.out _ (below_drewN (Below.refl wi.heap.size wi) _)).mono ?_
                  rintro v9 w2 ⟨A2, c2, rfl, hoL, hb2⟩
                  have o2 : w2.ownsRow wi.heap.size 2 1 (.slice A2 wl c2) wl (wd.map ic) := own_less hoL.2.1 (below_drewN (Below.refl wi.heap.size wi) _).size
                  have hbW2 : Below wi.heap.size wi w2 := bon (below_drewN (Below.refl wi.heap.size wi) _) hb2
                  have hs2 := hbW2.size
                  clear hoL hb2
                  go_wp2_with (first | (at_builtin; refine wpList_append_sep rfl _ _ 35 rfl wi.heap.size 2 i0 (.int .i64 0) 1 8 Try.underlying35 hi hz0 hz1 hz2 rfl (by decide) _ _ _ rfl (o2.alloc _) ⟨w2.heap.size, 0, none⟩ 1 1 [.int .i64 (e : Int)] rfl rfl (cell_one_new _ _ _) (by simp [Value.oneCell']) (by unfold maxLen; omega) (by omega) (by simp; omega) (by omega) ?_; intro g4 cap4 w4 hown4 hgrow4 hsep4; have hbW4 : Below wi.heap.size wi w4 := (bon hbW2 (bnew w2 (.cells #[.int .i64 (e : Int)] 2))).grown hgrow4 (by simp; omega) (fun k hk => (o2.lt k hk).1); have s4 := own_below HM.out.seen hbW4; have c9 := s4.cellAt y (by omega); rw [seenV_at hyN, HDEC.out] at c9; have f9 := s4.frozenAt y; have k5 := (own_below HM.out.work hbW4).kept (only_set (w := w4) (g := gs) (i := y) (x := .bool true)) (.inr (fun e => own_ne_any s4 (own_below HM.out.work hbW4) (by decide) gs rfl e)); rw [HTL'.out] at k5; have hs4 := hbW4.size) | (at_builtin; refine wpList_append_sep rfl _ _ 72 rfl w.heap.size 71 i2 (.agg #[.int .i64 0, .int .i64 0, .slice none 0 0]) 3 40 Try.underlying72 hi'' hz0'' hz1'' hz2'' rfl (by decide) _ _ _ rfl (k5.alloc _) ⟨w4.heap.size, 0, none⟩ 1 1 [.int .i64 a, .int .i64 bb, .slice (some ⟨g4, 0, none⟩) (wl + 1) cap4] rfl rfl (cells3_new _ _ _ _ _ (by simp)) (by simp [Value.oneCell']) (by unfold maxLen; omega) (by omega) (by simp; omega) (by omega) ?_; intro g6 cap6 w6 hown6 hgrow6 hsep6))
                  go_roundw
                  case rel =>
                    have hxs := (HXX.out.next hbW4).far (g' := gs) (fun e => own_ne_blkQ s4 (HXX.out.next hbW4) (by decide) (congrArg some e.symm)) y (.bool true)
                    have hx6 := (hxs.next (bnew (w4.setCell ⟨gs, y, none⟩ (.bool true)) (.cells #[.int .i64 a, .int .i64 bb, .slice (some ⟨g4, 0, none⟩) (wl + 1) cap4] 71))).by_grown hgrow6 hvx
                    have hgl := (HXX.out.next hbW4).lt
                    have hput := HM.out.put (y := y) (vw := .slice (some ⟨g4, 0, none⟩) (wl + 1) cap4) (wd := wd ++ [(e : Int)]) hbW4 (by have := HWL.out; rw [List.length_append, this, List.map_append]; exact hown4) hgrow6 (by rw [HTL'.out, HPA.out.1, HPA.out.2]; exact hown6)
                    refine ⟨e + 1, T' ++ [((y : Int), (.slice (some ⟨g4, 0, none⟩) (wl + 1) cap4, wd ++ [(e : Int)]))], by go_num, by omega, ?_, ?_, ?_, hput, hx6, ?_⟩
                    · show _ = _
                      rw [wT, wS_yes HV.out (by rw [← HT'.out, List.map_map, HYY.out]; exact HMEM.out), List.map_append, HT'.out, HYY.out]; rfl
                    · intro j hj
                      rcases Nat.lt_or_ge j e with h1 | h1
                      · exact HNE.out j h1
                      · rw [show j = e by omega]; exact HHF.out
                    · show (T' ++ _)[k]? = _
                      rw [List.getElem?_append_left (List.getElem?_eq_some_iff.1 HTK'.out).1]; exact HTK'.out
                    · intro h9
                      obtain rfl : g6 = gx := Option.some.inj h9
                      rcases hsep6 with h' | h'
                      · exact hvx h'.symm
                      · simp at h'; omega
                  case measure => simp [intOf]; omega
              | true =>
                have hv : (stP xs ys x e).2 = true := by rw [HSOK.out]; simp [ka2, kb3]
                obtain ⟨y0, y1⟩ := HSTE.out hv
                have hsv := HSV.out ka kb
                obtain ⟨y, hy⟩ : ∃ y : Nat, (stP xs ys x e).1 = y := ⟨(stP xs ys x e).1.toNat, by omega⟩
                have hyN : y < N := by omega
                have hpa := HPARTS.out ka kb
                have hm0 : 0 ≤ a * (m : Int) := Int.mul_nonneg ka (by omega)
                rw [hy] at hsv hpa
                have e6 : IntKind.i64.wrap (a * (m : Int)) = a * (m : Int) := IntWalk.i64_in _ (by omega)
                have e7 : IntKind.i64.wrap (a * (m : Int) + bb) = (y : Int) := by rw [← hsv]; exact IntWalk.i64_in _ (by omega)
                have i8 : (y : Int) < (N : Int) := by omega
                have HHF : Hid (hitB xs ys true x e = false) := by show _ = _; rw [HHIT.out]; simp [ka2, ka3, kb2, kb3]
                have HV := Lib.hid hv
                have HYY := Lib.hid hy
                have HPA := Lib.hid hpa
                clear hv hsv hpa y0 y1 hy hm0 HHIT HSOK HSV HPARTS HSTE hamax
                by_cases hmem : (y : Int) ∈ T'.map Prod.fst
                · have hdec : decide ((y : Int) ∈ T'.map Prod.fst) = true := decide_eq_true hmem
                  have HMEM := Lib.hid hmem
                  have HDEC := Lib.hid hdec
                  clear hmem hdec
                  go_wp2_with fail
                  go_quiet (fail)
                  go_wp2_with fail
                  go_quiet (fail)
                  go_wp2_with fail
                  refine (HOWN.out _ (below_drewN (Below.refl wi.heap.size wi) _)).mono ?_
                  rintro v9 w2 ⟨A2, c2, rfl, hoL, hb2⟩
                  have o2 : w2.ownsRow wi.heap.size 2 1 (.slice A2 wl c2) wl (wd.map ic) := own_less hoL.2.1 (below_drewN (Below.refl wi.heap.size wi) _).size
                  have hbW2 : Below wi.heap.size wi w2 := bon (below_drewN (Below.refl wi.heap.size wi) _) hb2
                  have hs2 := hbW2.size
                  clear hoL hb2
                  go_wp2_with (at_builtin; refine wpList_append_sep rfl _ _ 35 rfl wi.heap.size 2 i0 (.int .i64 0) 1 8 Try.underlying35 hi hz0 hz1 hz2 rfl (by decide) _ _ _ rfl (o2.alloc _) ⟨w2.heap.size, 0, none⟩ 1 1 [.int .i64 (e : Int)] rfl rfl (cell_one_new _ _ _) (by simp [Value.oneCell']) (by unfold maxLen; omega) (by omega) (by simp; omega) (by omega) ?_; intro g4 cap4 w4 hown4 hgrow4 hsep4; have hbW4 : Below wi.heap.size wi w4 := (bon hbW2 (bnew w2 (.cells #[.int .i64 (e : Int)] 2))).grown hgrow4 (by simp; omega) (fun k hk => (o2.lt k hk).1); have s4 := own_below HM.out.seen hbW4; have c9 := s4.cellAt y (by omega); rw [seenV_at hyN, HDEC.out] at c9; have f9 := s4.frozenAt y)
                  go_roundw
                  case rel =>
                    obtain ⟨q1, q2, q3, q4⟩ := HNOS.out w4 hbW4 (.inr (by rw [HYY.out]; exact HMEM.out)) HHF.out
                    exact ⟨e + 1, T', by go_num, by omega, q1, q2, HTK', q3, q4, hvx⟩
                  case measure => simp [intOf]; omega
                · have hdec : decide ((y : Int) ∈ T'.map Prod.fst) = false := decide_eq_false hmem
                  have HMEM := Lib.hid hmem
                  have HDEC := Lib.hid hdec
                  clear hmem hdec
                  go_wp2_with fail
                  go_quiet (fail)
                  go_wp2_with fail
                  go_quiet (fail)
                  go_wp2_with fail
                  refine (HOWN.out _ (below_drewN (Below.refl wi.heap.size wi) _)).mono ?_
                  rintro v9 w2 ⟨A2, c2, rfl, hoL, hb2⟩
                  have o2 : w2.ownsRow wi.heap.size 2 1 (.slice A2 wl c2) wl (wd.map ic) := own_less hoL.2.1 (below_drewN (Below.refl wi.heap.size wi) _).size
                  have hbW2 : Below wi.heap.size wi w2 := bon (below_drewN (Below.refl wi.heap.size wi) _) hb2
                  have hs2 := hbW2.size
                  clear hoL hb2
                  go_wp2_with (first | (at_builtin; refine wpList_append_sep rfl _ _ 35 rfl wi.heap.size 2 i0 (.int .i64 0) 1 8 Try.underlying35 hi hz0 hz1 hz2 rfl (by decide) _ _ _ rfl (o2.alloc _) ⟨w2.heap.size, 0, none⟩ 1 1 [.int .i64 (e : Int)] rfl rfl (cell_one_new _ _ _) (by simp [Value.oneCell']) (by unfold maxLen; omega) (by omega) (by simp; omega) (by omega) ?_; intro g4 cap4 w4 hown4 hgrow4 hsep4; have hbW4 : Below wi.heap.size wi w4 := (bon hbW2 (bnew w2 (.cells #[.int .i64 (e : Int)] 2))).grown hgrow4 (by simp; omega) (fun k hk => (o2.lt k hk).1); have s4 := own_below HM.out.seen hbW4; have c9 := s4.cellAt y (by omega); rw [seenV_at hyN, HDEC.out] at c9; have f9 := s4.frozenAt y; have k5 := (own_below HM.out.work hbW4).kept (only_set (w := w4) (g := gs) (i := y) (x := .bool true)) (.inr (fun e => own_ne_any s4 (own_below HM.out.work hbW4) (by decide) gs rfl e)); rw [HTL'.out] at k5; have hs4 := hbW4.size) | (at_builtin; refine wpList_append_sep rfl _ _ 72 rfl w.heap.size 71 i2 (.agg #[.int .i64 0, .int .i64 0, .slice none 0 0]) 3 40 Try.underlying72 hi'' hz0'' hz1'' hz2'' rfl (by decide) _ _ _ rfl (k5.alloc _) ⟨w4.heap.size, 0, none⟩ 1 1 [.int .i64 a, .int .i64 bb, .slice (some ⟨g4, 0, none⟩) (wl + 1) cap4] rfl rfl (cells3_new _ _ _ _ _ (by simp)) (by simp [Value.oneCell']) (by unfold maxLen; omega) (by omega) (by simp; omega) (by omega) ?_; intro g6 cap6 w6 hown6 hgrow6 hsep6))
                  go_roundw
                  case rel =>
                    have hxs := (HXX.out.next hbW4).far (g' := gs) (fun e => own_ne_blkQ s4 (HXX.out.next hbW4) (by decide) (congrArg some e.symm)) y (.bool true)
                    have hx6 := (hxs.next (bnew (w4.setCell ⟨gs, y, none⟩ (.bool true)) (.cells #[.int .i64 a, .int .i64 bb, .slice (some ⟨g4, 0, none⟩) (wl + 1) cap4] 71))).by_grown hgrow6 hvx
                    have hgl := (HXX.out.next hbW4).lt
                    have hput := HM.out.put (y := y) (vw := .slice (some ⟨g4, 0, none⟩) (wl + 1) cap4) (wd := wd ++ [(e : Int)]) hbW4 (by have := HWL.out; rw [List.length_append, this, List.map_append]; exact hown4) hgrow6 (by rw [HTL'.out, HPA.out.1, HPA.out.2]; exact hown6)
                    refine ⟨e + 1, T' ++ [((y : Int), (.slice (some ⟨g4, 0, none⟩) (wl + 1) cap4, wd ++ [(e : Int)]))], by go_num, by omega, ?_, ?_, ?_, hput, hx6, ?_⟩
                    · show _ = _
                      rw [wT, wS_yes HV.out (by rw [← HT'.out, List.map_map, HYY.out]; exact HMEM.out), List.map_append, HT'.out, HYY.out]; rfl
                    · intro j hj
                      rcases Nat.lt_or_ge j e with h1 | h1
                      · exact HNE.out j h1
                      · rw [show j = e by omega]; exact HHF.out
                    · show (T' ++ _)[k]? = _
                      rw [List.getElem?_append_left (List.getElem?_eq_some_iff.1 HTK'.out).1]; exact HTK'.out
                    · intro h9
                      obtain rfl : g6 = gx := Option.some.inj h9
                      rcases hsep6 with h' | h'
                      · exact hvx h'.symm
                      · simp at h'; omega
                  case measure => simp [intOf]; omega
        · obtain rfl : e = 4 := by omega
          have HNX : Hid (T'.map (fun t => (t.1, t.2.2)) = wunf (stP xs ys) (k + 1)) := by
            show _ = _
            rw [wunf_next HU.out]; exact HT'.out
          have HNB : Hid (∀ j u, j < k + 1 → (wunf (stP xs ys) (k + 1))[j]? = some u → ∀ e, e < 4 → hitB xs ys both u.1 e = false) := by
            intro j u hj hu
            obtain ⟨z, hz⟩ := wunf_pre (st := stP xs ys) k 1
            rw [← hz, List.getElem?_append_left (by have := (List.getElem?_eq_some_iff.1 HU.out).1; omega)] at hu
            rcases Nat.lt_or_ge j k with h1 | h1
            · exact HNO.out j u h1 hu
            · rw [show j = k by omega, HU.out] at hu
              obtain rfl := Option.some.inj hu
              exact fun e he => HNE.out e he
          have hkl : k + 1 ≤ T'.length := by have := (List.getElem?_eq_some_iff.1 HTK'.out).1; omega
          have HM := Lib.hid hM
          clear hM hX
          go_wp2_with fail
          go_roundw
          case rel => exact ⟨k + 1, T', by go_num, HNX, HNB, hkl, HM.out⟩
          case measure => simp [intOf]; omega
    · obtain rfl : k = tl := by omega
      have HNF : Hid (F = none) := by
        show F = none
        rw [← HF.out]
        refine findP_none (i := k) (by rw [hxn, hym, HN.out]; exact hTl) ?_ HNO.out
        rw [← HT.out, List.length_map]; omega
      have hbel := hM.below
      have i3 : ¬ (k : Int) < (k : Int) := by omega
      clear hM hwk htl
      go_wp2_with fail
      go_ret2
      have hnone := HNF.out
      subst hnone
      exact ⟨none, 0, rfl, own_nil _ _, hbel⟩
end Go.Proofs.Ytopijecdhjnipaa

/-! slices.Equal at numbers, slices.EqualFunc at rows, and policies that are the same. Conditions: at most 1000 rows. -/
namespace Go.Proofs.Ytopijecdhjnipaa
set_option linter.unusedVariables false
open Go.RowKit

theorem take_eq_next {α : Type} {xs ys : List α} {k : Nat} {x : α} (h : xs.take k = ys.take k) (hx : xs[k]? = some x) (hy : ys[k]? = some x) : xs.take (k + 1) = ys.take (k + 1) := by
  rw [List.take_add_one, List.take_add_one, h, hx, hy]
set_option maxRecDepth 100000 in
set_option maxHeartbeats 2000000 in
theorem equal64_c (A : Option Addr) (n c B : Nat) (xs : List Int) (A' : Option Addr) (m c' B' : Nat) (ys : List Int) (w : World) (h : InL w B A n xs) (h' : InL w B' A' m ys) (hn : n ≤ 1000) (hm : m ≤ 1000) :
    Calls Try.prog 53 #[.slice A n c, .slice A' m c'] w fun e w' => e = .returned (.bool (decide (xs = ys))) ∧ ∃ d, w' = w.drewN d := by
  have hl := Lib.hid h.1
  have hl' := Lib.hid h'.1
  have HX := Lib.hid h
  have HY := Lib.hid h'
  obtain ⟨D, hD⟩ : ∃ D, decide (xs = ys) = D := ⟨_, rfl⟩
  have HD := Lib.hid hD
  rw [hD]
  clear h h' hD
  by_cases hnm : n = m
  · have r1 : (((n : Int) == (m : Int)) : Bool) = true := by simp [hnm]
    have i0 : (n : Int) = (m : Int) := by omega
    have HNM := Lib.hid hnm
    clear hnm
    go_enter Try.func53, Try.ntmps53
    go_wp2_with fail
    go_loopw [5, 13] (fun _ i wr => ∃ (j d : Nat), j ≤ n ∧ i = .int .i64 j ∧ wr = w.drewN d ∧ Hid (xs.take j = ys.take j)) (fun _ i _ => n - (intOf i).toNat)
    case atStart => exact ⟨0, 0, Nat.zero_le _, rfl, rfl, rfl⟩
    case round =>
      obtain ⟨j, d, hj, rfl, rfl, HE⟩ := hrel
      by_cases hlt : j < n
      · obtain ⟨b, off, x, rfl, hb, hx, hc⟩ := HX.out.2.int_at (k := j) (by have := hl.out; omega)
        obtain ⟨b2, off2, y, rfl, hb2, hy, hc2⟩ := HY.out.2.int_at (k := j) (by have := hl'.out; have := HNM.out; omega)
        have i1 : (j : Int) < (n : Int) := by omega
        have i2 : (j : Int) < (m : Int) := by omega
        by_cases e : x = y
        · have q1 : (x == y) = true := by simp [e]
          subst e
          have HE2 := Lib.hid (take_eq_next HE.out hx hy)
          clear hx hy
          go_wp2_with fail
          go_quiet (fail)
          go_wp2_with fail
          go_roundw
          case rel => exact ⟨j + 1, _, by omega, by go_num, by first | rfl | exact (World.drewN_drewN _ _ _), HE2.out⟩
          case measure => simp [intOf]; omega
        · have q1 : (x == y) = false := by simpa using e
          have HF : Hid (D = false) := by
            show D = false
            rw [← HD.out, decide_eq_false_iff_not]
            intro k; rw [k, hy] at hx; exact e (Option.some.inj hx).symm
          clear hx hy e
          go_wp2_with fail
          go_quiet (fail)
          go_wp2_with fail
          go_ret
          exact ⟨ret_bool HF.out.symm, by first | exact ⟨_, rfl⟩ | exact ⟨_, World.drewN_drewN _ _ _⟩⟩
      · have HF : Hid (D = true) := by
          show D = true
          rw [← HD.out, decide_eq_true_eq]
          have := HE.out
          rwa [List.take_of_length_le (by have := hl.out; omega), List.take_of_length_le (by have := hl'.out; have := HNM.out; omega)] at this
        have i1 : ¬ (j : Int) < (n : Int) := by omega
        go_wp2_with fail
        go_ret
        exact ⟨ret_bool HF.out.symm, by first | exact ⟨_, rfl⟩ | exact ⟨0, rfl⟩⟩
  · have r1 : (((n : Int) == (m : Int)) : Bool) = false := by simp; omega
    have i0 : ¬ (n : Int) = (m : Int) := by omega
    have HF : Hid (D = false) := by
      show D = false
      rw [← HD.out, decide_eq_false_iff_not]
      intro k; have := hl.out; have := hl'.out; rw [k] at *; omega
    clear hnm
    go_enter Try.func53, Try.ntmps53
    go_wp2_with fail
    go_ret
    exact ⟨ret_bool HF.out.symm, by first | exact ⟨_, rfl⟩ | exact ⟨0, rfl⟩⟩

set_option maxRecDepth 100000 in
set_option maxHeartbeats 2000000 in
theorem equalF_c (A : Option Addr) (n c B : Nat) (xs : List (List Int)) (A' : Option Addr) (m c' B' : Nat) (ys : List (List Int)) (w : World) (h : InLL w B A n xs) (h' : InLL w B' A' m ys) (hn : n ≤ 1000) (hm : m ≤ 1000) (hx4 : ∀ r ∈ xs, r.length = 4) (hy4 : ∀ r ∈ ys, r.length = 4) (hB : B ≤ w.heap.size) (hB' : B' ≤ w.heap.size) :
    Calls Try.prog 52 #[.slice A n c, .slice A' m c', .func (.func 53) #[] #[]] w fun e w' => e = .returned (.bool (decide (xs = ys))) ∧ ∃ d, w' = w.drewN d := by
  have hl := Lib.hid h.1
  have hl' := Lib.hid h'.1
  have HX := Lib.hid h
  have HY := Lib.hid h'
  obtain ⟨D, hD⟩ : ∃ D, decide (xs = ys) = D := ⟨_, rfl⟩
  have HD := Lib.hid hD
  rw [hD]
  clear h h' hD
  by_cases hnm : n = m
  · have r1 : (((n : Int) == (m : Int)) : Bool) = true := by simp [hnm]
    have i0 : (n : Int) = (m : Int) := by omega
    have HNM := Lib.hid hnm
    clear hnm
    go_enter Try.func52, Try.ntmps52
    go_wp2_with fail
    go_loopw [7, 8, 9, 17] (fun _ _ _ i wr => ∃ (j d : Nat), j ≤ n ∧ i = .int .i64 j ∧ wr = w.drewN d ∧ Hid (xs.take j = ys.take j)) (fun _ _ _ i _ => n - (intOf i).toNat)
    case atStart => exact ⟨0, 0, Nat.zero_le _, rfl, rfl, rfl⟩
    case round =>
      obtain ⟨j, d, hj, rfl, rfl, HE⟩ := hrel
      have hbd : Below w.heap.size w (w.drewN d) := below_drewN (Below.refl _ _) _
      by_cases hlt : j < n
      · obtain ⟨b, off, x, rfl, hb, hx, A0, n0, c0, hc, hin⟩ := (HX.out.next hbd hB).at_ hlt
        obtain ⟨b2, off2, y, rfl, hb2, hy, A1, n1, c1, hc2, hin2⟩ := (HY.out.next hbd hB').at_ (k := j) (by have := HNM.out; omega)
        have i1 : (j : Int) < (n : Int) := by omega
        have i2 : (j : Int) < (m : Int) := by have := HNM.out; omega
        obtain rfl : n0 = 4 := by have := hx4 x (List.mem_of_getElem? hx); have := hin.1; omega
        obtain rfl : n1 = 4 := by have := hy4 y (List.mem_of_getElem? hy); have := hin2.1; omega
        have HEQ0 := equal64_c A0 4 c0 _ x A1 4 c1 _ y (w.drewN d) hin hin2 (by omega) (by omega)
        by_cases e : x = y
        · subst e
          rw [decide_eq_true rfl] at HEQ0
          have HEQ := Lib.hid HEQ0
          have HE2 := Lib.hid (take_eq_next HE.out hx hy)
          clear hx hy HEQ0 hin hin2
          go_wp2_with fail
          refine HEQ.out.mono ?_
          rintro v w2 ⟨rfl, d2, rfl⟩
          go_wp2_with fail
          go_roundw
          case rel => exact ⟨j + 1, _, by omega, by go_num, by first | rfl | exact (World.drewN_drewN _ _ _), HE2.out⟩
          case measure => simp [intOf]; omega
        · rw [decide_eq_false e] at HEQ0
          have HEQ := Lib.hid HEQ0
          have HF : Hid (D = false) := by
            show D = false
            rw [← HD.out, decide_eq_false_iff_not]
            intro k; rw [k, hy] at hx; exact e (Option.some.inj hx).symm
          clear hx hy HEQ0 hin hin2 e
          go_wp2_with fail
          refine HEQ.out.mono ?_
          rintro v w2 ⟨rfl, d2, rfl⟩
          go_wp2_with fail
          go_ret
          exact ⟨ret_bool HF.out.symm, by first | exact ⟨_, rfl⟩ | exact ⟨_, World.drewN_drewN _ _ _⟩⟩
      · have HF : Hid (D = true) := by
          show D = true
          rw [← HD.out, decide_eq_true_eq]
          have := HE.out
          rwa [List.take_of_length_le (by have := hl.out; omega), List.take_of_length_le (by have := hl'.out; have := HNM.out; omega)] at this
        have i1 : ¬ (j : Int) < (n : Int) := by omega
        go_wp2_with fail
        go_ret
        exact ⟨ret_bool HF.out.symm, by first | exact ⟨_, rfl⟩ | exact ⟨0, rfl⟩⟩
  · have r1 : (((n : Int) == (m : Int)) : Bool) = false := by simp; omega
    have i0 : ¬ (n : Int) = (m : Int) := by omega
    have HF : Hid (D = false) := by
      show D = false
      rw [← HD.out, decide_eq_false_iff_not]
      intro k; have := hl.out; have := hl'.out; rw [k] at *; omega
    clear hnm
    go_enter Try.func52, Try.ntmps52
    go_wp2_with fail
    go_ret
    exact ⟨ret_bool HF.out.symm, by first | exact ⟨_, rfl⟩ | exact ⟨0, rfl⟩⟩

set_option maxRecDepth 100000 in
set_option maxHeartbeats 2000000 in
theorem isSame_c (A : Option Addr) (n c B : Nat) (xs : List (List Int)) (A' : Option Addr) (m c' B' : Nat) (ys : List (List Int)) (w : World) (h : InLL w B A n xs) (h' : InLL w B' A' m ys) (hn : n ≤ 1000) (hm : m ≤ 1000) (hx4 : ∀ r ∈ xs, r.length = 4) (hy4 : ∀ r ∈ ys, r.length = 4) (hB : B ≤ w.heap.size) (hB' : B' ≤ w.heap.size) :
    Calls Try.prog 35 #[.agg #[.slice A n c], .agg #[.slice A' m c']] w fun e w' => e = .returned (.bool (decide (xs = ys))) ∧ Below w.heap.size w w' := by
  have hbb := bon (bnew w (.cells #[.slice A n c] 26)) (bnew _ (.cells #[.slice A' m c'] 26))
  have HE := Lib.hid (equalF_c A n c B xs A' m c' B' ys _ (h.next hbb hB) (h'.next hbb hB') hn hm hx4 hy4 (Nat.le_trans hB hbb.size) (Nat.le_trans hB' hbb.size))
  have p0 : ((w.alloc (.cells #[.slice A n c] 26)).alloc (.cells #[.slice A' m c'] 26)).cell? ⟨w.heap.size, 0, none⟩ = some (.slice A n c) := cell_next (by simp) (bnew _ _)
  clear h h'
  generalize decide (xs = ys) = D at HE ⊢
  go_enter Try.func35, Try.ntmps35
  go_wp2_with fail
  refine HE.out.mono ?_
  rintro v w2 ⟨rfl, d2, rfl⟩
  go_wp2_with fail
  go_ret
  exact ⟨rfl, below_drewN hbb _⟩
end Go.Proofs.Ytopijecdhjnipaa

/-! IsStricter: the model and the program. Conditions: at most 2^20 rows and numbers. -/
namespace Go.Proofs.Ytopijecdhjnipaa
set_option linter.unusedVariables false
open Go.RowKit

def strR (xs ys : List (List Int)) : Bool := polB xs && (polB ys && (findP xs ys false).isNone)
theorem strR_one {xs ys : List (List Int)} (h : polB xs = false) : strR xs ys = false := by unfold strR; rw [h]; rfl
theorem strR_two {xs ys : List (List Int)} (h : polB ys = false) : strR xs ys = false := by unfold strR; rw [h]; simp
theorem strR_yes {xs ys : List (List Int)} (h : polB xs = true) (h' : polB ys = true) : strR xs ys = (findP xs ys false).isNone := by unfold strR; rw [h, h']; rfl

set_option maxRecDepth 100000 in
set_option maxHeartbeats 4000000 in
theorem specStr_c (A : Option Addr) (n c : Nat) (A' : Option Addr) (m c' B : Nat) (xs ys : List (List Int)) (w : World) (h : InLL w B A n xs) (h' : InLL w B A' m ys) (hB : B ≤ w.heap.size) (hn : n ≤ 1048576) (hm : m ≤ 1048576) :
    Calls Try.prog 16 #[.agg #[.slice A n c], .agg #[.slice A' m c']] w fun e w' => e = .returned (.bool (strR xs ys)) ∧ Below w.heap.size w w' := by
  have hb0 := bnew w (.cells #[.slice A n c] 26)
  have hb1 := bnew (w.alloc (.cells #[.slice A n c] 26)) (.cells #[.slice A' m c'] 26)
  have hbb := bon hb0 hb1
  have hP : BlkIs ((w.alloc (.cells #[.slice A n c] 26)).alloc (.cells #[.slice A' m c'] 26)) w.heap.size 26 #[.slice A n c] := (blk_new _ _ _ _ rfl).next hb1
  have hQ : BlkIs ((w.alloc (.cells #[.slice A n c] 26)).alloc (.cells #[.slice A' m c'] 26)) (w.heap.size + 1) 26 #[.slice A' m c'] := blk_new _ _ _ _ (by simp)
  have HX := Lib.hid (h.next hbb hB)
  have HY := Lib.hid (h'.next hbb hB)
  have hB2 := Nat.le_trans hB hbb.size
  clear h h' hb0 hb1
  obtain ⟨W, hW⟩ : ∃ W, (w.alloc (.cells #[.slice A n c] 26)).alloc (.cells #[.slice A' m c'] 26) = W := ⟨_, rfl⟩
  rw [hW] at hP hQ hbb HX HY hB2
  have HWW := Lib.hid hW
  clear hW
  have p0 : W.cell? ⟨w.heap.size, 0, none⟩ = some (.slice A n c) := hP.cell 0
  have q0 : W.cell? ⟨w.heap.size + 1, 0, none⟩ = some (.slice A' m c') := hQ.cell 0
  have HS1 := l10Is_c w.heap.size 0 A n c B xs _ p0 HX.out hn
  have HS2 := l10Is_c (w.heap.size + 1) 0 A' m c' B ys _ q0 HY.out hm
  cases hv : polB xs with
  | false =>
    have HN := Lib.hid (strR_one (ys := ys) hv)
    rw [HN.out]
    rw [hv] at HS1
    have HS := Lib.hid HS1
    clear hv HS1 HS2
    go_enter Try.func16, Try.ntmps16
    go_upto_region 1 with fail
    rw [HWW.out]
    go_wp2_with fail
    refine HS.out.mono ?_
    rintro v w1 ⟨rfl, rfl⟩
    go_wp2_with fail
    go_ret
    exact ⟨rfl, hbb⟩
  | true =>
    rw [hv] at HS1
    have HS := Lib.hid HS1
    clear HS1
    cases hu : polB ys with
    | false =>
      have HN := Lib.hid (strR_two (xs := xs) hu)
      rw [HN.out]
      rw [hu] at HS2
      have HT := Lib.hid HS2
      clear hv hu HS2
      go_enter Try.func16, Try.ntmps16
      go_upto_region 1 with fail
      rw [HWW.out]
      go_wp2_with fail
      refine HS.out.mono ?_
      rintro v w1 ⟨rfl, rfl⟩
      go_wp2_with fail
      refine HT.out.mono ?_
      rintro v w1 ⟨rfl, rfl⟩
      go_wp2_with fail
      go_ret
      exact ⟨rfl, hbb⟩
    | true =>
      rw [hu] at HS2
      have HT := Lib.hid HS2
      have HFI := Lib.hid (l10Find_c w.heap.size 0 A n c B xs (w.heap.size + 1) 0 A' m c' ys false W p0 HX.out q0 HY.out hB2 (polOk_of hv) (polOk_of hu))
      rw [strR_yes hv hu]
      have hno : (findP xs ys false).isNone = !(findP xs ys false).isSome := by cases findP xs ys false <;> rfl
      rw [hno]
      clear hno
      generalize findP xs ys false = F at HFI ⊢
      obtain ⟨fs, hfs⟩ : ∃ fs, F.isSome = fs := ⟨_, rfl⟩
      rw [hfs] at HFI ⊢
      clear hv hu HS2 hfs
      go_enter Try.func16, Try.ntmps16
      go_upto_region 1 with fail
      rw [HWW.out]
      go_wp2_with fail
      refine HS.out.mono ?_
      rintro v w1 ⟨rfl, rfl⟩
      go_wp2_with fail
      refine HT.out.mono ?_
      rintro v w1 ⟨rfl, rfl⟩
      go_wp2_with fail
      refine HFI.out.mono ?_
      rintro v w2 ⟨A2, c2, rfl, _, hb2⟩
      go_wp2_with fail
      go_ret
      exact ⟨rfl, bon hbb hb2⟩

set_option maxRecDepth 100000 in
set_option maxHeartbeats 4000000 in
theorem implStr_c (A : Option Addr) (n c : Nat) (A' : Option Addr) (m c' B : Nat) (xs ys : List (List Int)) (w : World) (h : InLL w B A n xs) (h' : InLL w B A' m ys) (hB : B ≤ w.heap.size) (hn : n ≤ 1048576) (hm : m ≤ 1048576) (hea : ∀ x ∈ xs, x.length ≤ 1048576) (hea' : ∀ x ∈ ys, x.length ≤ 1048576) :
    Calls Try.prog 17 #[.agg #[.slice A n c], .agg #[.slice A' m c']] w fun e w' => e = .returned (.bool (strR xs ys)) ∧ Below w.heap.size w w' := by
  have hb0 := bnew w (.cells #[.slice A n c] 26)
  have hb1 := bnew (w.alloc (.cells #[.slice A n c] 26)) (.cells #[.slice A' m c'] 26)
  have hbb := bon hb0 hb1
  have hP : BlkIs ((w.alloc (.cells #[.slice A n c] 26)).alloc (.cells #[.slice A' m c'] 26)) w.heap.size 26 #[.slice A n c] := (blk_new _ _ _ _ rfl).next hb1
  have hQ : BlkIs ((w.alloc (.cells #[.slice A n c] 26)).alloc (.cells #[.slice A' m c'] 26)) (w.heap.size + 1) 26 #[.slice A' m c'] := blk_new _ _ _ _ (by simp)
  have HX := Lib.hid (h.next hbb hB)
  have HY := Lib.hid (h'.next hbb hB)
  have hB2 := Nat.le_trans hB hbb.size
  clear h h' hb0 hb1
  obtain ⟨W, hW⟩ : ∃ W, (w.alloc (.cells #[.slice A n c] 26)).alloc (.cells #[.slice A' m c'] 26) = W := ⟨_, rfl⟩
  rw [hW] at hP hQ hbb HX HY hB2
  have HWW := Lib.hid hW
  clear hW
  have p0 : W.cell? ⟨w.heap.size, 0, none⟩ = some (.slice A n c) := hP.cell 0
  have HS1 := implPolicy_c A n c B xs _ HX.out hB2 hn hea
  have HS2 := Lib.hid (fun W1 (hb : Below W.heap.size W W1) => implPolicy_c A' m c' B ys W1 (HY.out.next hb hB2) (Nat.le_trans hB2 hb.size) hm hea')
  cases hv : polB xs with
  | false =>
    have HN := Lib.hid (strR_one (ys := ys) hv)
    rw [HN.out]
    rw [hv] at HS1
    have HS := Lib.hid HS1
    clear hv HS1 HS2
    go_enter Try.func17, Try.ntmps17
    go_upto_region 1 with fail
    rw [HWW.out]
    go_wp2_with fail
    refine HS.out.mono ?_
    rintro v w1 ⟨rfl, hb1⟩
    go_wp2_with fail
    go_ret
    exact ⟨rfl, bon hbb hb1⟩
  | true =>
    rw [hv] at HS1
    have HS := Lib.hid HS1
    clear HS1
    cases hu : polB ys with
    | false =>
      have HN := Lib.hid (strR_two (xs := xs) hu)
      rw [HN.out]
      rw [hu] at HS2
      clear hv hu
      go_enter Try.func17, Try.ntmps17
      go_upto_region 1 with fail
      rw [HWW.out]
      go_wp2_with fail
      refine HS.out.mono ?_
      rintro v w1 ⟨rfl, hb1⟩
      have q0 := (hQ.next hb1).cell 0
      simp at q0
      have HT := Lib.hid (HS2.out w1 hb1)
      clear HS2
      go_wp2_with fail
      refine HT.out.mono ?_
      rintro v w2 ⟨rfl, hb2⟩
      go_wp2_with fail
      go_ret
      exact ⟨rfl, bon (bon hbb hb1) hb2⟩
    | true =>
      rw [hu] at HS2
      have HOK := Lib.hid (polOk_of hv)
      have HOK' := Lib.hid (polOk_of hu)
      have hxn : xs.length = n := HX.out.1
      have hym : ys.length = m := HY.out.1
      have HPR := Lib.hid (fun W1 (hb : Below W.heap.size W W1) => product_c A n c A' m c' B xs ys W1 (HX.out.next hb hB2) (HY.out.next hb hB2) (Nat.le_trans hB2 hb.size) HOK.out HOK'.out)
      have HBM := Lib.hid (fun L R (h : UnfEnd (stP xs ys) 0 L R) => both_minL HOK.out.rect HOK'.out.rect h)
      have HSI := Lib.hid (fun L R (h : UnfEnd (stP xs ys) 0 L R) => findP_stricter HOK.out.rect HOK'.out.rect h)
      have hN2 : xs.length * ys.length ≤ 144 := Nat.mul_le_mul (show xs.length ≤ 12 from HOK.out.hi) (show ys.length ≤ 12 from HOK'.out.hi)
      have hn12 : n ≤ 12 := by have := HOK.out.hi; omega
      rw [strR_yes hv hu]
      obtain ⟨F, hF⟩ : ∃ F, (findP xs ys false).isNone = F := ⟨_, rfl⟩
      rw [hF] at HSI ⊢
      clear hv hu hF
      go_enter Try.func17, Try.ntmps17
      go_upto_region 1 with fail
      rw [HWW.out]
      go_wp2_with fail
      refine HS.out.mono ?_
      rintro v w1 ⟨rfl, hb1⟩
      have q0 := (hQ.next hb1).cell 0
      simp at q0
      have HT := Lib.hid (HS2.out w1 hb1)
      clear HS2 p0
      go_wp2_with fail
      refine HT.out.mono ?_
      rintro v w2 ⟨rfl, hb2⟩
      have hb12 := bon hb1 hb2
      have p0 := (hP.next hb12).cell 0
      have q1 := (hQ.next hb12).cell 0
      simp at p0 q1
      have HPC := Lib.hid (HPR.out w2 hb12)
      clear q0 HPR HT
      go_wp2_with fail
      refine HPC.out.mono ?_
      rintro v w3 ⟨L, Q, Aq, cq, rsq, A2, c2, rfl, hend, hpq, _, hb3⟩
      obtain ⟨okQ, hQl, hQm⟩ := HBM.out L Q hend
      have hsi := HSI.out L Q hend
      have hFD : decide (minL Q = minL xs) = F := by
        cases F with
        | false => rw [decide_eq_false_iff_not]; intro k; exact absurd (hsi.2 k) (by simp)
        | true => rw [decide_eq_true_eq]; exact hsi.1 rfl
      have HFD := Lib.hid hFD
      have hb4 := bnew w3 (.cells #[.slice Aq Q.length cq] 26)
      have hb03 := bon (bon (bon hbb hb12) hb3) hb4
      have d9 : (w3.alloc (.cells #[.slice Aq Q.length cq] 26)).cell? ⟨w3.heap.size, 0, none⟩ = some (.slice Aq Q.length cq) := by simp
      have d8 := cell_next (cell_next p0 hb3) hb4
      have hm4 := (minL_small okQ)
      have hm5 := (minL_small HOK.out.rect)
      have HMQ := Lib.hid (fun x (hx : Below (w3.alloc (.cells #[.slice Aq Q.length cq] 26)).drew.heap.size (w3.alloc (.cells #[.slice Aq Q.length cq] 26)).drew x) => minimal_c Aq Q.length cq _ Q x ((hpq.inn.next hb4 (Nat.le_refl _)).call hb4.size hx) (le_call hb4.size hx) okQ (by omega))
      have HMP := Lib.hid (fun x (hx : Below (w3.alloc (.cells #[.slice Aq Q.length cq] 26)).drew.heap.size (w3.alloc (.cells #[.slice Aq Q.length cq] 26)).drew x) => minimal_c A n c B xs x (((HX.out.next hb12 hB2).next hb3 (Nat.le_trans hB2 hb12.size) |>.next hb4 (Nat.le_trans (Nat.le_trans hB2 hb12.size) hb3.size)).call (Nat.le_trans (Nat.le_trans (Nat.le_trans hB2 hb12.size) hb3.size) hb4.size) hx) (le_call (Nat.le_trans (Nat.le_trans (Nat.le_trans hB2 hb12.size) hb3.size) hb4.size) hx) HOK.out.rect (by omega))
      have HSM := Lib.hid (fun x A1 c1 A2 c2 B1 B2 (h1 : InLL x B1 A1 (minL Q).length (minL Q)) (h2 : InLL x B2 A2 (minL xs).length (minL xs)) (hb1 : B1 ≤ x.heap.size) (hb2 : B2 ≤ x.heap.size) => isSame_c A1 (minL Q).length c1 B1 (minL Q) A2 (minL xs).length c2 B2 (minL xs) x h1 h2 (by omega) (by omega) hm4.2 hm5.2 hb1 hb2)
      rw [hFD] at HSM
      clear hend hpq HBM hQm okQ HPC p0 q1 hsi HSI hm4 hm5 hFD
      generalize minL Q = V1 at HMQ HSM
      generalize minL xs = V2 at HMP HSM
      go_wp2_with fail
      generalize w3.alloc (.cells #[.slice Aq Q.length cq] 26) = W3 at HMQ HMP hb03 d9 d8 ⊢
      go_region_held3 (fun w' => w'.cell? ⟨w3.heap.size, 0, none⟩ = some (.slice Aq Q.length cq) ∧ w'.cell? ⟨w.heap.size, 0, none⟩ = some (.slice A n c))
        (first | go_keep | exact ⟨cell_on d9 hbm, cell_on d8 hbm⟩ | exact ⟨cell_on2 d9 hbm hbp, cell_on2 d8 hbm hbp⟩ | exact ⟨cell_on d9 hbp, cell_on d8 hbp⟩ | exact ⟨cell_on2 d9 hbp hbm, cell_on2 d8 hbp hbm⟩ | exact ⟨cell_next (cell_on2 d9 hbm hbp) hb9, cell_next (cell_on2 d8 hbm hbp) hb9⟩ | exact ⟨cell_next (cell_on2 d9 hbp hbm) hb9, cell_next (cell_on2 d8 hbp hbm) hb9⟩ | fail "none keeps")
        (first
          | (go_at_call_of 28 Aq; with_reducible refine (HMQ.out _ (by with_reducible repeat' (first | exact Below.refl _ _ | exact hbp | fail))).mono ?_; rintro e v1 ⟨Am, cm, rfl, ⟨rsm, hpm⟩, hbm⟩)
          | (go_at_call_of 28 A; with_reducible refine (HMP.out _ (by with_reducible repeat' (first | exact Below.refl _ _ | exact hbm | fail))).mono ?_; rintro e v2 ⟨Ap, cp, rfl, ⟨rsp, hpp⟩, hbp⟩)
          | (go_at_call 35; with_reducible refine (HSM.out _ _ _ _ _ _ _ (hpm.inn.next hbp (Nat.le_refl _)) hpp.inn hbp.size (Nat.le_refl _)).mono ?_; rintro e v3 ⟨rfl, hb9⟩)
          | (go_at_call 35; with_reducible refine (HSM.out _ _ _ _ _ _ _ hpm.inn (hpp.inn.next hbm (Nat.le_refl _)) (Nat.le_refl _) hbm.size).mono ?_; rintro e v3 ⟨rfl, hb9⟩)
          | fail "no arm")
      all_goals (go_wp2_with fail; go_ret; first | exact ⟨rfl, bon (bon (bon hb03 (bstep hbm)) hbp) hb9⟩ | exact ⟨rfl, bon (bon (bon hb03 (bstep hbp)) hbm) hb9⟩ | fail "no end")
end Go.Proofs.Ytopijecdhjnipaa
