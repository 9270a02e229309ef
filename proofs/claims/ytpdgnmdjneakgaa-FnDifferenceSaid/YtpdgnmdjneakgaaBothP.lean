/-
  Pairs of states: the step of both policies, the policy of all pairs, and that the reached pairs have the same minimal policy. (pure) No conditions.
-/
import Derived.Test.YtpdgnmdjneakgaaMinQ
import Derived.Test.YtpdgnmdjneakgaaPolS
namespace Go.Proofs.Ytpdgnmdjneakgaa
set_option linter.unusedVariables false

/-- Two lists of items, related one by one. -/
def Rel (ρ : Int → Int → Prop) : List Int → List Int → Prop
  | [], [] => True
  | a :: L, b :: M => ρ a b ∧ Rel ρ L M
  | _, _ => False
section
variable {ρ : Int → Int → Prop} (inj : ∀ a b a' b', ρ a b → ρ a' b' → (a = a' ↔ b = b'))
theorem Rel.len : ∀ {L M : List Int}, Rel ρ L M → L.length = M.length
  | [], [], _ => rfl
  | a :: L, b :: M, h => by have := Rel.len h.2; simp [this]
  | [], b :: M, h => h.elim
  | a :: L, [], h => h.elim
theorem Rel.app : ∀ {L M : List Int} {a b : Int}, Rel ρ L M → ρ a b → Rel ρ (L ++ [a]) (M ++ [b])
  | [], [], a, b, _, h => ⟨h, trivial⟩
  | a :: L, b :: M, _, _, h, h' => ⟨h.1, Rel.app h.2 h'⟩
  | [], b :: M, _, _, h, _ => h.elim
  | a :: L, [], _, _, h, _ => h.elim
theorem Rel.at_ : ∀ {L M : List Int} {k : Nat} {a b : Int}, Rel ρ L M → L[k]? = some a → M[k]? = some b → ρ a b
  | [], [], k, a, b, _, h, _ => by simp at h
  | a :: L, b :: M, 0, x, y, h, h1, h2 => by
    obtain rfl : a = x := by simpa using h1
    obtain rfl : b = y := by simpa using h2
    exact h.1
  | a :: L, b :: M, k + 1, x, y, h, h1, h2 => Rel.at_ h.2 (by simpa using h1) (by simpa using h2)
  | [], b :: M, _, _, _, h, _, _ => h.elim
  | a :: L, [], _, _, _, h, _, _ => h.elim
include inj
theorem Rel.mem : ∀ {L M : List Int} {a b : Int}, Rel ρ L M → ρ a b → (a ∈ L ↔ b ∈ M)
  | [], [], a, b, _, _ => by simp
  | x :: L, y :: M, a, b, h, h' => by
    have := Rel.mem h.2 h'
    have e := inj _ _ _ _ h' h.1
    simp [this, e]
  | [], b :: M, _, _, h, _ => h.elim
  | a :: L, [], _, _, h, _ => h.elim
theorem Rel.idx : ∀ {L M : List Int} {a b : Int}, Rel ρ L M → ρ a b → L.idxOf a = M.idxOf b
  | [], [], a, b, _, _ => rfl
  | x :: L, y :: M, a, b, h, h' => by
    have := Rel.idx h.2 h'
    have e := inj _ _ _ _ h.1 h'
    rw [List.idxOf_cons, List.idxOf_cons, this]
    by_cases k : x = a
    · obtain rfl := k
      obtain rfl := e.1 rfl
      rw [show (x == x) = true from beq_iff_eq.2 rfl, show (y == y) = true from beq_iff_eq.2 rfl]
    · have k2 : ¬ y = b := fun k' => k (e.2 k')
      rw [show (x == a) = false from beq_eq_false_iff_ne.2 k, show (y == b) = false from beq_eq_false_iff_ne.2 k2]
  | [], b :: M, _, _, h, _ => h.elim
  | a :: L, [], _, _, h, _ => h.elim
theorem Rel.add {L M : List Int} {a b : Int} (h : Rel ρ L M) (h' : ρ a b) : Rel ρ (addL a L) (addL b M) := by
  by_cases k : a ∈ L
  · rw [addL_old k, addL_old ((Rel.mem inj h h').1 k)]; exact h
  · rw [addL_new k, addL_new (fun k' => k ((Rel.mem inj h h').2 k'))]; exact h.app h'
variable {st st' : Int → Nat → Int × Bool} (hs : ∀ a b e, ρ a b → e < 4 → (st a e).2 = (st' b e).2 ∧ ((st a e).2 = true → ρ (st a e).1 (st' b e).1))
include hs
theorem evT_sim {L M : List Int} {a b : Int} (h : Rel ρ L M) (h' : ρ a b) : ∀ j, j ≤ 4 → (evT st a L j).2 = (evT st' b M j).2 ∧ Rel ρ (evT st a L j).1 (evT st' b M j).1
  | 0, _ => ⟨rfl, h⟩
  | j + 1, hj => by
    obtain ⟨i1, i2⟩ := evT_sim h h' j (by omega)
    obtain ⟨s1, s2⟩ := hs a b j h' (by omega)
    rw [evT, evT]
    cases hv : (st a j).2 with
    | false =>
      rw [evS_no hv, evS_no (by rw [← s1]; exact hv)]
      exact ⟨i1, i2⟩
    | true =>
      have r := s2 hv
      have ra := Rel.add inj i2 r
      rw [evS_yes hv, evS_yes (by rw [← s1]; exact hv)]
      exact ⟨by rw [i1, Rel.idx inj ra r], ra⟩
theorem unf_sim {x y : Int} (h0 : ρ x y) : ∀ k, (unf st x k).2 = (unf st' y k).2 ∧ Rel ρ (unf st x k).1 (unf st' y k).1
  | 0 => ⟨rfl, h0, trivial⟩
  | k + 1 => by
    obtain ⟨i1, i2⟩ := unf_sim h0 k
    have hl := i2.len
    rcases Nat.lt_or_ge k (unf st x k).1.length with h | h
    · have e1 : (unf st x k).1[k]? = some (unf st x k).1[k] := List.getElem?_eq_getElem h
      have e2 : (unf st' y k).1[k]? = some ((unf st' y k).1[k]'(by omega)) := List.getElem?_eq_getElem (by omega)
      obtain ⟨j1, j2⟩ := evT_sim inj hs i2 (i2.at_ e1 e2) 4 (Nat.le_refl _)
      rw [unf_next e1, unf_next e2]
      exact ⟨by rw [i1, j1], j2⟩
    · rw [unf_stop h, unf_stop (by omega)]
      exact ⟨i1, i2⟩
end

/-- What the rows say: the places of the next items. -/
def RowsAt (st : Int → Nat → Int × Bool) (L : List Int) (x : Int) (r : List Int) (m : Nat) : Prop :=
  r.length = 4 ∧ ∀ e, e < 4 → r[e]? = some (if e < m ∧ (st x e).2 = true then (L.idxOf (st x e).1 : Int) else -1) ∧ (e < m → (st x e).2 = true → (st x e).1 ∈ L)
theorem RowsAt.more {st : Int → Nat → Int × Bool} {L M : List Int} {x : Int} {r : List Int} {m : Nat} (h : RowsAt st L x r m) (hp : L <+: M) : RowsAt st M x r m := by
  refine ⟨h.1, fun e he => ?_⟩
  obtain ⟨h1, h2⟩ := h.2 e he
  refine ⟨?_, fun k k' => hp.subset (h2 k k')⟩
  rw [h1]
  by_cases hc : e < m ∧ (st x e).2 = true
  · rw [if_pos hc, if_pos hc, idxOf_pre hp (h2 hc.1 hc.2)]
  · rw [if_neg hc, if_neg hc]
theorem addL_mem (x : Int) (L : List Int) : x ∈ addL x L := by
  by_cases h : x ∈ L
  · rw [addL_old h]; exact h
  · rw [addL_new h]; simp
theorem evT_rows (st : Int → Nat → Int × Bool) (x : Int) (L : List Int) : ∀ j, j ≤ 4 → RowsAt st (evT st x L j).1 x (evT st x L j).2 j ∧ L <+: (evT st x L j).1
  | 0, _ => ⟨⟨rfl, fun e he => ⟨by
      have : e = 0 ∨ e = 1 ∨ e = 2 ∨ e = 3 := by omega
      rcases this with rfl | rfl | rfl | rfl <;> simp [evT], fun h => by omega⟩⟩, List.prefix_refl _⟩
  | j + 1, hj => by
    obtain ⟨ih, ip⟩ := evT_rows st x L j (by omega)
    rw [evT]
    cases hv : (st x j).2 with
    | false =>
      rw [evS_no hv]
      refine ⟨⟨ih.1, fun e he => ?_⟩, ip⟩
      obtain ⟨h1, h2⟩ := ih.2 e he
      by_cases k : e = j
      · subst k
        rw [h1, if_neg (by omega), if_neg (by rw [hv]; simp)]
        exact ⟨rfl, fun _ h => by rw [hv] at h; cases h⟩
      · refine ⟨?_, fun a b => h2 (by omega) b⟩
        rw [h1]
        by_cases hc : e < j ∧ (st x e).2 = true
        · rw [if_pos hc, if_pos ⟨by omega, hc.2⟩]
        · rw [if_neg hc, if_neg (fun h => hc ⟨by omega, h.2⟩)]
    | true =>
      rw [evS_yes hv]
      have hp := addL_pre (st x j).1 (evT st x L j).1
      have im := ih.more hp
      refine ⟨⟨by simpa using ih.1, fun e he => ?_⟩, ip.trans hp⟩
      obtain ⟨h1, h2⟩ := im.2 e he
      by_cases k : e = j
      · subst k
        refine ⟨?_, fun _ _ => addL_mem _ _⟩
        show ((evT st x L e).2.set e _)[e]? = _
        rw [List.getElem?_set_self (by rw [ih.1]; exact he), if_pos ⟨by omega, hv⟩]
      · refine ⟨?_, fun a b => h2 (by omega) b⟩
        show ((evT st x L j).2.set j _)[e]? = _
        rw [List.getElem?_set_ne (fun h => k h.symm), h1]
        by_cases hc : e < j ∧ (st x e).2 = true
        · rw [if_pos hc, if_pos ⟨by omega, hc.2⟩]
        · rw [if_neg hc, if_neg (fun h => hc ⟨by omega, h.2⟩)]
theorem unf_at (st : Int → Nat → Int × Bool) (x0 : Int) : ∀ k, (∀ (i : Nat) (x : Int) (r : List Int), (unf st x0 k).1[i]? = some x → (unf st x0 k).2[i]? = some r → RowsAt st (unf st x0 k).1 x r 4) ∧ [x0] <+: (unf st x0 k).1 ∧ (unf st x0 k).2.length ≤ (unf st x0 k).1.length ∧ (k ≤ (unf st x0 k).1.length → (unf st x0 k).2.length = k)
  | 0 => ⟨fun i x r _ h => by simp [unf] at h, List.prefix_refl _, by simp [unf], fun _ => rfl⟩
  | k + 1 => by
    obtain ⟨h1, h2, h3, h4⟩ := unf_at st x0 k
    rcases Nat.lt_or_ge k (unf st x0 k).1.length with h | h
    · have e1 : (unf st x0 k).1[k]? = some (unf st x0 k).1[k] := List.getElem?_eq_getElem h
      obtain ⟨r1, r2⟩ := evT_rows st (unf st x0 k).1[k] (unf st x0 k).1 4 (Nat.le_refl _)
      have hk := h4 (by omega)
      rw [unf_next e1]
      refine ⟨fun i x r hx hr => ?_, h2.trans r2, ?_, fun _ => by simp [hk]⟩
      · show RowsAt st (evT st (unf st x0 k).1[k] (unf st x0 k).1 4).1 x r 4
        dsimp only at hx hr
        by_cases hi : i < k
        · rw [List.getElem?_append_left (by omega)] at hr
          obtain ⟨t, ht⟩ := r2
          rw [← ht, List.getElem?_append_left (by omega)] at hx
          rw [← ht]
          exact (h1 i x r hx hr).more (List.prefix_append _ _)
        · have hil := (List.getElem?_eq_some_iff.1 hr).1
          have hie : i = k := by simp at hil; omega
          subst hie
          rw [List.getElem?_append_right (by omega), hk, Nat.sub_self] at hr
          obtain rfl : _ = r := by simpa using hr
          obtain ⟨t, ht⟩ := r2
          rw [← ht, List.getElem?_append_left (by omega), e1] at hx
          obtain rfl := Option.some.inj hx
          exact r1
      · have := r2.length_le
        simp; omega
    · have hs := unf_stop h
      rw [hs]
      refine ⟨h1, h2, h3, fun hle => ?_⟩
      omega

/-- The step of a policy, by numbers. -/
def stU (P : List (List Int)) (x : Int) (e : Nat) : Int × Bool := stR P x.toNat e
theorem stU_stays {P : List (List Int)} (ok : RectP P) : Stays (stU P) P.length := fun x e h0 h1 he hv => by
  unfold stU at hv ⊢
  by_cases h : nxP P x.toNat e < 0
  · rw [stR_no h] at hv; cases hv
  · rw [stR_yes h]
    have := ok.nx (s := x.toNat) (by omega) he h
    constructor
    · show (0 : Int) ≤ nxP P x.toNat e; omega
    · show nxP P x.toNat e < _; omega

/-- What is reached from the first state has the same minimal policy. -/
theorem reached_minL {P R : List (List Int)} {L : List Int} (ok : RectP P) (h : UnfEnd (stU P) 0 L R) : RectP R ∧ R.length ≤ P.length ∧ minL R = minL P := by
  have h00 : (0 : Int) ≤ 0 ∧ (0 : Int) < (P.length : Int) := by have := ok.lo; omega
  obtain ⟨k, hk, hkl⟩ := h
  have hAm := unf_among (stU_stays ok) h00 k
  obtain ⟨a1, a2, a3, a4⟩ := unf_at (stU P) 0 k
  rw [hk] at hAm a1 a2 a3 a4
  dsimp only at hAm a1 a2 a3 a4
  have hRL : R.length = L.length := by rw [a4 (by omega)]; exact hkl
  have hLN := hAm.len
  have hL0 : L[0]? = some 0 := by obtain ⟨t, ht⟩ := a2; rw [← ht]; rfl
  have hLp : 1 ≤ L.length := by have := (List.getElem?_eq_some_iff.1 hL0).1; omega
  -- the rows
  have hrow : ∀ i, i < L.length → ∃ x : Nat, L[i]? = some (x : Int) ∧ x < P.length ∧ ∀ e, e < 4 → (nxP R i e < 0 ↔ nxP P x e < 0) ∧ (¬ nxP P x e < 0 → ∃ i' : Nat, i' < L.length ∧ nxP R i e = i' ∧ L[i']? = some (nxP P x e)) := fun i hi => by
    have e1 : L[i]? = some L[i] := List.getElem?_eq_getElem hi
    have hm := hAm.2 _ (List.getElem_mem hi)
    obtain ⟨r, hr⟩ : ∃ r, R[i]? = some r := ⟨_, List.getElem?_eq_getElem (by omega)⟩
    obtain ⟨h1, h2⟩ := a1 i _ r e1 hr
    refine ⟨(L[i]).toNat, by rw [e1]; exact congrArg some (by omega), by omega, fun e he => ?_⟩
    obtain ⟨h3, h4⟩ := h2 e he
    have hv : nxP R i e = if e < 4 ∧ (stU P L[i] e).2 = true then (L.idxOf (stU P L[i] e).1 : Int) else -1 := by
      unfold nxP
      simp only [List.getD, hr, h3, Option.getD_some]
    by_cases hn : nxP P (L[i]).toNat e < 0
    · have hs : (stU P L[i] e).2 = false := by unfold stU; rw [stR_no hn]
      rw [hv, if_neg (by rw [hs]; simp)]
      exact ⟨⟨fun _ => hn, fun _ => by omega⟩, fun k => absurd hn k⟩
    · have hs : stU P L[i] e = (nxP P (L[i]).toNat e, true) := by unfold stU; rw [stR_yes hn]
      have hmm := h4 he (by rw [hs])
      rw [hs] at hmm hv
      dsimp only at hmm hv
      rw [if_pos ⟨he, rfl⟩] at hv
      have hlt := List.idxOf_lt_length_of_mem hmm
      rw [hv]
      refine ⟨⟨fun k => by omega, fun k => absurd k hn⟩, fun _ => ⟨_, hlt, rfl, ?_⟩⟩
      rw [List.getElem?_eq_getElem hlt, List.getElem_idxOf hlt]
  have okR : RectP R := by
    refine ⟨by omega, fun r hr => ?_, fun r hr z hz => ?_⟩
    · obtain ⟨i, hi⟩ := List.getElem?_of_mem hr
      have hil := (List.getElem?_eq_some_iff.1 hi).1
      exact (a1 i _ r (List.getElem?_eq_getElem (by omega)) hi).1
    · obtain ⟨i, hi⟩ := List.getElem?_of_mem hr
      have hil := (List.getElem?_eq_some_iff.1 hi).1
      obtain ⟨h1, h2⟩ := a1 i _ r (List.getElem?_eq_getElem (by omega)) hi
      obtain ⟨e, he⟩ := List.getElem?_of_mem hz
      have hel := (List.getElem?_eq_some_iff.1 he).1
      obtain ⟨h3, h4⟩ := h2 e (by omega)
      rw [he] at h3
      obtain rfl := (Option.some.inj h3).symm
      split
      · rename_i hc
        have := List.idxOf_lt_length_of_mem (h4 hc.1 hc.2)
        omega
      · omega
  refine ⟨okR, by omega, ?_⟩
  -- the states' numbers
  obtain ⟨lx, hlx⟩ : ∃ lx : Nat → Nat, ∀ i, i < L.length → L[i]? = some (lx i : Int) ∧ lx i < P.length := ⟨fun i => (L.getD i 0).toNat, fun i hi => by
    obtain ⟨x, h1, h2, _⟩ := hrow i hi
    have : L.getD i 0 = (x : Int) := by simp [List.getD, h1]
    dsimp only
    rw [this, Int.toNat_natCast]
    exact ⟨h1, h2⟩⟩
  have hstep : ∀ i e, i < L.length → e < 4 → (nxP R i e < 0 ↔ nxP P (lx i) e < 0) ∧ (¬ nxP P (lx i) e < 0 → (nxP R i e).toNat < L.length ∧ lx (nxP R i e).toNat = (nxP P (lx i) e).toNat) := fun i e hi he => by
    obtain ⟨x, h1, h2, h3⟩ := hrow i hi
    have hx : x = lx i := by have := (hlx i hi).1; rw [h1] at this; have := Option.some.inj this; omega
    subst hx
    obtain ⟨p, q⟩ := h3 e he
    refine ⟨p, fun hn => ?_⟩
    obtain ⟨i', k1, k2, k3⟩ := q hn
    rw [k2, Int.toNat_natCast]
    have := (hlx i' k1).1
    rw [k3] at this
    have := Option.some.inj this
    exact ⟨k1, by omega⟩
  have heq : ∀ t i j, i < L.length → j < L.length → eqB R t i j = eqB P t (lx i) (lx j) := fun t => by
    induction t with
    | zero => intro i j _ _; rfl
    | succ t ih =>
      intro i j hi hj
      rw [Bool.eq_iff_iff, eqB_succ, eqB_succ]
      constructor
      · intro h e he
        obtain ⟨p, q⟩ := h e he
        obtain ⟨i1, i2⟩ := hstep i e hi he
        obtain ⟨j1, j2⟩ := hstep j e hj he
        refine ⟨i1.symm.trans (p.trans j1), fun hn => ?_⟩
        have hn2 : ¬ nxP R i e < 0 := fun k => hn (i1.1 k)
        have hn3 : ¬ nxP P (lx j) e < 0 := fun k => hn2 (p.2 (j1.2 k))
        have := q hn2
        rw [ih _ _ (i2 hn).1 (j2 hn3).1, (i2 hn).2, (j2 hn3).2] at this
        exact this
      · intro h e he
        obtain ⟨p, q⟩ := h e he
        obtain ⟨i1, i2⟩ := hstep i e hi he
        obtain ⟨j1, j2⟩ := hstep j e hj he
        refine ⟨i1.trans (p.trans j1.symm), fun hn => ?_⟩
        have hn2 : ¬ nxP P (lx i) e < 0 := fun k => hn (i1.2 k)
        have hn3 : ¬ nxP P (lx j) e < 0 := fun k => hn2 (p.2 k)
        rw [ih _ _ (i2 hn2).1 (j2 hn3).1, (i2 hn2).2, (j2 hn3).2]
        exact q hn2
  have hsame : ∀ i j, i < L.length → j < L.length → sameB R i j = sameB P (lx i) (lx j) := fun i j hi hj => by
    have s1 := (settled_len okR).add okR P.length
    have s2 := (settled_len ok).add ok R.length
    rw [← same_of okR s1 (by omega) (by omega), ← same_of ok s2 (hlx i hi).2 (hlx j hj).2, Nat.add_comm P.length R.length]
    exact heq _ i j hi hj
  have hl0 : lx 0 = 0 := by have := (hlx 0 (by omega)).1; rw [hL0] at this; have := Option.some.inj this; omega
  have hsim := unf_sim (ρ := fun a b => ∃ i, i < L.length ∧ a = (rep R R.length i : Int) ∧ b = (rep P P.length (lx i) : Int)) (st := stM R) (st' := stM P) (x := 0) (y := 0)
    (by
      rintro a b a' b' ⟨i, hi, rfl, rfl⟩ ⟨j, hj, rfl, rfl⟩
      have := hsame i j hi hj
      have e1 : ((rep R R.length i : Int) = (rep R R.length j : Int)) ↔ sameB R i j = true := by rw [Int.ofNat_inj]; exact rep_iff
      have e2 : ((rep P P.length (lx i) : Int) = (rep P P.length (lx j) : Int)) ↔ sameB P (lx i) (lx j) = true := by rw [Int.ofNat_inj]; exact rep_iff
      rw [e1, e2, this])
    (by
      rintro a b e ⟨i, hi, rfl, rfl⟩ he
      obtain ⟨r1, r2, _⟩ := rep_ok R R.length i
      obtain ⟨p1, p2, _⟩ := rep_ok P P.length (lx i)
      have hli := (hlx i hi).2
      rw [stM_same okR (a := rep R R.length i) (b := i) (by omega) (by omega) he r2, stM_same ok (a := rep P P.length (lx i)) (b := lx i) (by omega) hli he p2]
      obtain ⟨i1, i2⟩ := hstep i e hi he
      by_cases hn : nxP P (lx i) e < 0
      · rw [stM_no hn, stM_no (i1.2 hn)]
        exact ⟨rfl, fun k => by cases k⟩
      · have hn2 : ¬ nxP R i e < 0 := fun k => hn (i1.1 k)
        rw [stM_yes hn, stM_yes hn2]
        exact ⟨rfl, fun _ => ⟨_, (i2 hn).1, rfl, by rw [(i2 hn).2]⟩⟩)
    ⟨0, by omega, by rw [rep_nil]; rfl, by rw [hl0, rep_nil]; rfl⟩ (R.length + P.length)
  have hR0 : (0 : Int) ≤ 0 ∧ (0 : Int) < (R.length : Int) := by omega
  have e1 := unf_stay (unf_among (stM_stays okR) hR0 R.length).len P.length
  have e2 := unf_stay (unf_among (stM_stays ok) h00 P.length).len R.length
  have h3 := hsim.1
  rw [e1, Nat.add_comm R.length P.length, e2] at h3
  unfold minL
  exact h3

/-- The step of a pair. -/
def stP (p q : List (List Int)) (x : Int) (e : Nat) : Int × Bool :=
  ((stR p (x / (q.length : Int)).toNat e).1 * (q.length : Int) + (stR q (x % (q.length : Int)).toNat e).1, (stR p (x / (q.length : Int)).toNat e).2 && (stR q (x % (q.length : Int)).toNat e).2)
/-- A number of the policy of all pairs. -/
def boE (p q : List (List Int)) (i e : Nat) : Int := if nxP p (i / q.length) e < 0 ∨ nxP q (i % q.length) e < 0 then -1 else nxP p (i / q.length) e * (q.length : Int) + nxP q (i % q.length) e
def boR (p q : List (List Int)) (i : Nat) : List Int := (List.range 4).map (boE p q i)
/-- The policy of all pairs. -/
def bothL (p q : List (List Int)) : List (List Int) := (List.range (p.length * q.length)).map (boR p q)
theorem bothL_len (p q : List (List Int)) : (bothL p q).length = p.length * q.length := by simp [bothL]
theorem pair_lt {a b i : Nat} (h : i < a * b) : i / b < a ∧ i % b < b := by
  have hb : 0 < b := by rcases Nat.eq_zero_or_pos b with e | e; subst e; simp at h; exact e
  exact ⟨(Nat.div_lt_iff_lt_mul hb).2 h, Nat.mod_lt _ hb⟩
theorem bothL_nx {p q : List (List Int)} {i e : Nat} (hi : i < p.length * q.length) (he : e < 4) : nxP (bothL p q) i e = boE p q i e := by
  have e1 : (bothL p q).getD i [] = boR p q i := by simp [bothL, List.getD, hi]
  unfold nxP
  rw [e1]
  simp [boR, List.getD, he]
theorem mul_le_pair {x y a b : Int} (hx : 0 ≤ x ∧ x ≤ a - 1) (hy : 0 ≤ y ∧ y ≤ b - 1) : 0 ≤ x * b + y ∧ x * b + y ≤ a * b - 1 := by
  have hb : 0 ≤ b := by omega
  have h1 : 0 ≤ x * b := Int.mul_nonneg hx.1 hb
  have h2 : x * b ≤ (a - 1) * b := Int.mul_le_mul_of_nonneg_right hx.2 hb
  have h3 : (a - 1) * b = a * b - b := by rw [Int.sub_mul, Int.one_mul]
  omega
theorem boE_in {p q : List (List Int)} (okp : RectP p) (okq : RectP q) {i e : Nat} (hi : i < p.length * q.length) (he : e < 4) : -1 ≤ boE p q i e ∧ boE p q i e ≤ ((p.length * q.length : Nat) : Int) - 1 := by
  obtain ⟨h1, h2⟩ := pair_lt hi
  obtain ⟨_, _, _, _, a1, a2⟩ := okp.at_ h1 he
  obtain ⟨_, _, _, _, b1, b2⟩ := okq.at_ h2 he
  unfold boE
  split
  · have : 0 < p.length * q.length := by omega
    omega
  · rename_i h
    have := mul_le_pair (x := nxP p (i / q.length) e) (y := nxP q (i % q.length) e) (a := p.length) (b := q.length) ⟨by omega, a2⟩ ⟨by omega, b2⟩
    rw [Int.natCast_mul]
    omega
theorem bothL_rect {p q : List (List Int)} (okp : RectP p) (okq : RectP q) : RectP (bothL p q) := by
  refine ⟨?_, fun r hr => ?_, fun r hr z hz => ?_⟩
  · rw [bothL_len]; exact Nat.mul_pos okp.lo okq.lo
  · obtain ⟨i, _, rfl⟩ := List.mem_map.1 hr
    simp [boR]
  · obtain ⟨i, hi, rfl⟩ := List.mem_map.1 hr
    obtain ⟨e, he, rfl⟩ := List.mem_map.1 hz
    rw [bothL_len]
    exact boE_in okp okq (List.mem_range.1 hi) (List.mem_range.1 he)
theorem cast_div (x n : Nat) : ((x : Int) / (n : Int)).toNat = x / n := by rw [← Int.natCast_ediv, Int.toNat_natCast]
theorem cast_mod (x n : Nat) : ((x : Int) % (n : Int)).toNat = x % n := by rw [← Int.natCast_emod, Int.toNat_natCast]
theorem stP_is {p q : List (List Int)} {x e : Nat} (hx : x < p.length * q.length) (he : e < 4) : (stP p q (x : Int) e).2 = (stU (bothL p q) (x : Int) e).2 ∧ ((stP p q (x : Int) e).2 = true → (stP p q (x : Int) e).1 = (stU (bothL p q) (x : Int) e).1) := by
  unfold stP stU
  rw [cast_div, cast_mod, Int.toNat_natCast]
  have hn := bothL_nx (p := p) (q := q) hx he
  by_cases h1 : nxP p (x / q.length) e < 0
  · have hb : boE p q x e = -1 := if_pos (.inl h1)
    rw [stR_no h1, stR_no (show nxP (bothL p q) x e < 0 by omega)]
    exact ⟨rfl, fun k => by cases k⟩
  · by_cases h2 : nxP q (x % q.length) e < 0
    · have hb : boE p q x e = -1 := if_pos (.inr h2)
      rw [stR_yes h1, stR_no h2, stR_no (show nxP (bothL p q) x e < 0 by omega)]
      exact ⟨rfl, fun k => by cases k⟩
    · have hb : boE p q x e = _ := if_neg (by omega)
      have h3 : 0 ≤ nxP p (x / q.length) e * (q.length : Int) := Int.mul_nonneg (by omega) (by omega)
      rw [stR_yes h1, stR_yes h2, stR_yes (show ¬ nxP (bothL p q) x e < 0 by omega)]
      exact ⟨rfl, fun _ => by dsimp only; rw [hn, hb]⟩
theorem stP_stays {p q : List (List Int)} (okp : RectP p) (okq : RectP q) : Stays (stP p q) (p.length * q.length) := fun x e h0 h1 he hv => by
  obtain ⟨k, rfl⟩ : ∃ k : Nat, x = k := ⟨x.toNat, by omega⟩
  obtain ⟨a, b⟩ := stP_is (p := p) (q := q) (x := k) (by omega) he
  rw [b hv]
  have := stU_stays (bothL_rect okp okq) (k : Int) e h0 (by rw [bothL_len]; exact h1) he (by rw [← a]; exact hv)
  rwa [bothL_len] at this
/-- The parts of a pair's step. -/
theorem stP_parts {p q : List (List Int)} (okq : RectP q) {x : Int} {e : Nat} (h0 : 0 ≤ x) (he : e < 4) : (stP p q x e).1 / (q.length : Int) = (stR p (x / (q.length : Int)).toNat e).1 ∧ (stP p q x e).1 % (q.length : Int) = (stR q (x % (q.length : Int)).toNat e).1 := by
  have hl := okq.lo
  have hm : 0 ≤ x % (q.length : Int) := Int.emod_nonneg _ (by omega)
  have hm2 : x % (q.length : Int) < (q.length : Int) := Int.emod_lt_of_pos _ (by omega)
  have hq : 0 ≤ (stR q (x % (q.length : Int)).toNat e).1 ∧ (stR q (x % (q.length : Int)).toNat e).1 < (q.length : Int) := by
    by_cases h : nxP q (x % (q.length : Int)).toNat e < 0
    · rw [stR_no h]; exact ⟨Int.le_refl _, by omega⟩
    · rw [stR_yes h]
      obtain ⟨_, _, _, _, _, h2⟩ := okq.at_ (s := (x % (q.length : Int)).toNat) (e := e) (by omega) he
      exact ⟨by dsimp only; omega, by dsimp only; omega⟩
  unfold stP
  dsimp only
  constructor
  · rw [Int.add_comm, Int.add_mul_ediv_right _ _ (by omega), Int.ediv_eq_zero_of_lt hq.1 hq.2, Int.zero_add]
  · rw [Int.add_comm, Int.add_mul_emod_self_right, Int.emod_eq_of_lt hq.1 hq.2]
theorem unfP_is {p q : List (List Int)} (okp : RectP p) (okq : RectP q) (k : Nat) : unf (stP p q) 0 k = unf (stU (bothL p q)) 0 k := by
  have hp : 0 < p.length * q.length := Nat.mul_pos okp.lo okq.lo
  obtain ⟨h1, h2⟩ := unf_sim (ρ := fun a b => a = b ∧ 0 ≤ a ∧ a < ((p.length * q.length : Nat) : Int)) (st := stP p q) (st' := stU (bothL p q)) (x := 0) (y := 0)
    (by rintro a b a' b' ⟨rfl, _⟩ ⟨rfl, _⟩; exact Iff.rfl)
    (by
      rintro a b e ⟨rfl, h0, h1⟩ he
      obtain ⟨x, rfl⟩ : ∃ x : Nat, a = x := ⟨a.toNat, by omega⟩
      obtain ⟨h2, h3⟩ := stP_is (p := p) (q := q) (x := x) (e := e) (by omega) he
      exact ⟨h2, fun hv => ⟨h3 hv, stP_stays okp okq _ e h0 h1 he hv⟩⟩)
    ⟨rfl, Int.le_refl _, by omega⟩ k
  refine Prod.ext (List.ext_getElem h2.len fun i a b => ?_) h1
  exact (h2.at_ (List.getElem?_eq_getElem a) (List.getElem?_eq_getElem b)).1
/-- The policy that both allow, by the reached pairs. -/
theorem both_minL {p q R : List (List Int)} {L : List Int} (okp : RectP p) (okq : RectP q) (h : UnfEnd (stP p q) 0 L R) : RectP R ∧ R.length ≤ p.length * q.length ∧ minL R = minL (bothL p q) := by
  obtain ⟨k, h1, h2⟩ := h
  rw [unfP_is okp okq] at h1
  have := reached_minL (bothL_rect okp okq) ⟨k, h1, h2⟩
  rwa [bothL_len] at this
end Go.Proofs.Ytpdgnmdjneakgaa
