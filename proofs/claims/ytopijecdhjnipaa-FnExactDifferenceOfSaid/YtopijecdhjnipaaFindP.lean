/-
  The search for a word that policies tell apart: the items with their words, and the first hit. (pure) No conditions.
-/
import Derived.Test.YtopijecdhjnipaaStrP
namespace Go.Proofs.Ytopijecdhjnipaa
set_option linter.unusedVariables false

def wS (st : Int → Nat → Int × Bool) (x : Int) (wd : List Int) (Q : List (Int × List Int)) (e : Nat) : List (Int × List Int) := if (st x e).2 = true ∧ (st x e).1 ∉ Q.map Prod.fst then Q ++ [((st x e).1, wd ++ [(e : Int)])] else Q
def wT (st : Int → Nat → Int × Bool) (x : Int) (wd : List Int) (Q : List (Int × List Int)) : Nat → List (Int × List Int)
  | 0 => Q
  | j + 1 => wS st x wd (wT st x wd Q j) j
/-- The items and their words behind k rounds. -/
def wunf (st : Int → Nat → Int × Bool) : Nat → List (Int × List Int)
  | 0 => [(0, [])]
  | k + 1 => match (wunf st k)[k]? with
    | some t => wT st t.1 t.2 (wunf st k) 4
    | none => wunf st k
section
variable {st : Int → Nat → Int × Bool}
theorem wS_no {x : Int} {wd : List Int} {Q : List (Int × List Int)} {e : Nat} (h : (st x e).2 = false ∨ (st x e).1 ∈ Q.map Prod.fst) : wS st x wd Q e = Q := if_neg (by rcases h with h | h; rw [h]; simp; exact fun k => k.2 h)
theorem wS_yes {x : Int} {wd : List Int} {Q : List (Int × List Int)} {e : Nat} (h : (st x e).2 = true) (h' : (st x e).1 ∉ Q.map Prod.fst) : wS st x wd Q e = Q ++ [((st x e).1, wd ++ [(e : Int)])] := if_pos ⟨h, h'⟩
theorem wS_pre (x : Int) (wd : List Int) (Q : List (Int × List Int)) (e : Nat) : Q <+: wS st x wd Q e := by
  unfold wS; split
  · exact List.prefix_append _ _
  · exact List.prefix_refl _
theorem wT_pre (x : Int) (wd : List Int) (Q : List (Int × List Int)) : ∀ j, Q <+: wT st x wd Q j
  | 0 => List.prefix_refl _
  | j + 1 => (wT_pre x wd Q j).trans (wS_pre _ _ _ _)
theorem wT_fst (x : Int) (wd : List Int) (Q : List (Int × List Int)) : ∀ j, (wT st x wd Q j).map Prod.fst = (evT st x (Q.map Prod.fst) j).1
  | 0 => rfl
  | j + 1 => by
    have ih := wT_fst x wd Q j
    rw [wT, evT]
    cases hv : (st x j).2 with
    | false => rw [wS_no (.inl hv), evS_no hv]; exact ih
    | true =>
      rw [evS_yes hv, ← ih]
      by_cases hm : (st x j).1 ∈ (wT st x wd Q j).map Prod.fst
      · rw [wS_no (.inr hm)]
        show _ = addL _ _
        rw [addL_old hm]
      · rw [wS_yes hv hm]
        show _ = addL _ _
        rw [addL_new hm, List.map_append]; rfl
theorem wunf_next {k : Nat} {t : Int × List Int} (h : (wunf st k)[k]? = some t) : wunf st (k + 1) = wT st t.1 t.2 (wunf st k) 4 := by rw [wunf, h]
theorem wunf_stop {k : Nat} (h : (wunf st k).length ≤ k) : wunf st (k + 1) = wunf st k := by rw [wunf, List.getElem?_eq_none h]
theorem wunf_fst : ∀ k, (wunf st k).map Prod.fst = (unf st 0 k).1
  | 0 => rfl
  | k + 1 => by
    have ih := wunf_fst k
    have hl : (wunf st k).length = (unf st 0 k).1.length := by rw [← ih, List.length_map]
    rcases Nat.lt_or_ge k (wunf st k).length with h | h
    · have e1 : (wunf st k)[k]? = some (wunf st k)[k] := List.getElem?_eq_getElem h
      have e2 : (unf st 0 k).1[k]? = some (wunf st k)[k].1 := by rw [← ih, List.getElem?_map, e1]; rfl
      rw [wunf_next e1, unf_next e2, wT_fst, ih]
    · rw [wunf_stop h, unf_stop (by omega)]; exact ih
theorem wunf_pre (k : Nat) : ∀ d, wunf st k <+: wunf st (k + d)
  | 0 => List.prefix_refl _
  | d + 1 => by
    refine (wunf_pre k d).trans ?_
    rw [← Nat.add_assoc]
    rcases Nat.lt_or_ge (k + d) (wunf st (k + d)).length with h | h
    · rw [wunf_next (List.getElem?_eq_getElem h)]; exact wT_pre _ _ _ _
    · rw [wunf_stop h]; exact List.prefix_refl _
theorem wunf_stay {k : Nat} (h : (wunf st k).length ≤ k) : ∀ d, wunf st (k + d) = wunf st k
  | 0 => rfl
  | d + 1 => by
    have ih := wunf_stay h d
    rw [← Nat.add_assoc, wunf_stop (by rw [ih]; omega), ih]
end

/-- The first hit. -/
def findQ (hit : Int → Nat → Bool) : List (Int × List Int) → Option (List Int)
  | [] => none
  | t :: Q => match (List.range 4).find? (hit t.1) with
    | some e => some (t.2 ++ [(e : Int)])
    | none => findQ hit Q
theorem find_first {f : Nat → Bool} {e : Nat} (he : e < 4) (h : f e = true) (hn : ∀ j, j < e → f j = false) : (List.range 4).find? f = some e := by
  rw [List.find?_eq_some_iff_append]
  refine ⟨h, List.range e, (List.range (4 - e - 1)).map (· + (e + 1)), ?_, fun a ha => by rw [hn a (List.mem_range.1 ha)]; rfl⟩
  have : e = 0 ∨ e = 1 ∨ e = 2 ∨ e = 3 := by omega
  rcases this with rfl | rfl | rfl | rfl <;> rfl
theorem find_none {f : Nat → Bool} (hn : ∀ j, j < 4 → f j = false) : (List.range 4).find? f = none := by
  rw [List.find?_eq_none]
  intro a ha
  rw [hn a (List.mem_range.1 ha)]; simp
theorem findQ_at {hit : Int → Nat → Bool} : ∀ {Q : List (Int × List Int)} {i e : Nat} {t : Int × List Int}, Q[i]? = some t → e < 4 → hit t.1 e = true → (∀ j, j < e → hit t.1 j = false) → (∀ j u, j < i → Q[j]? = some u → ∀ e, e < 4 → hit u.1 e = false) → findQ hit Q = some (t.2 ++ [(e : Int)])
  | [], i, e, t, h, _, _, _, _ => by simp at h
  | u :: Q, 0, e, t, h, he, hh, hn, _ => by
    obtain rfl : u = t := by simpa using h
    rw [findQ, find_first he hh hn]
  | u :: Q, i + 1, e, t, h, he, hh, hn, hb => by
    rw [findQ, find_none (fun j hj => hb 0 u (by omega) rfl j hj)]
    exact findQ_at (by simpa using h) he hh hn (fun j v hj hv => hb (j + 1) v (by omega) (by simpa using hv))
theorem findQ_none {hit : Int → Nat → Bool} : ∀ {Q : List (Int × List Int)}, (∀ u ∈ Q, ∀ e, e < 4 → hit u.1 e = false) → findQ hit Q = none
  | [], _ => rfl
  | u :: Q, h => by
    rw [findQ, find_none (fun j hj => h u (List.mem_cons_self ..) j hj)]
    exact findQ_none (fun v hv => h v (List.mem_cons_of_mem _ hv))
theorem findQ_some {hit : Int → Nat → Bool} : ∀ {Q : List (Int × List Int)}, findQ hit Q = none → ∀ u ∈ Q, ∀ e, e < 4 → hit u.1 e = false
  | [], _, u, hu, _, _ => by cases hu
  | v :: Q, h, u, hu, e, he => by
    rw [findQ] at h
    cases hf : (List.range 4).find? (hit v.1) with
    | some j => rw [hf] at h; cases h
    | none =>
      rw [hf] at h
      rcases List.mem_cons.1 hu with rfl | hu
      · have := List.find?_eq_none.1 hf e (List.mem_range.2 he)
        simpa using this
      · exact findQ_some h u hu e he
/-- The first of the shortest words that one policy allows and the other does not. -/
@[irreducible] def findP (p q : List (List Int)) (both : Bool) : Option (List Int) := findQ (hitB p q both) (wunf (stP p q) (p.length * q.length))
theorem findP_at {p q : List (List Int)} {both : Bool} {i e : Nat} {t : Int × List Int} (hi : i ≤ p.length * q.length) (h : (wunf (stP p q) i)[i]? = some t) (he : e < 4) (hh : hitB p q both t.1 e = true) (hn : ∀ j, j < e → hitB p q both t.1 j = false)
    (hb : ∀ j u, j < i → (wunf (stP p q) i)[j]? = some u → ∀ e, e < 4 → hitB p q both u.1 e = false) : findP p q both = some (t.2 ++ [(e : Int)]) := by
  unfold findP
  obtain ⟨d, hd⟩ := Nat.exists_eq_add_of_le hi
  obtain ⟨s, hs⟩ := wunf_pre (st := stP p q) i d
  have hl := (List.getElem?_eq_some_iff.1 h).1
  rw [hd, ← hs]
  refine findQ_at (by rw [List.getElem?_append_left hl]; exact h) he hh hn (fun j u hj hu => ?_)
  rw [List.getElem?_append_left (by omega)] at hu
  exact hb j u hj hu
theorem findP_none {p q : List (List Int)} {both : Bool} {i : Nat} (hi : i ≤ p.length * q.length) (hl : (wunf (stP p q) i).length ≤ i) (hb : ∀ j u, j < i → (wunf (stP p q) i)[j]? = some u → ∀ e, e < 4 → hitB p q both u.1 e = false) : findP p q both = none := by
  unfold findP
  obtain ⟨d, hd⟩ := Nat.exists_eq_add_of_le hi
  rw [hd, wunf_stay hl d]
  refine findQ_none fun u hu => ?_
  obtain ⟨j, hj⟩ := List.getElem?_of_mem hu
  exact hb j u (by have := (List.getElem?_eq_some_iff.1 hj).1; omega) hj
theorem wunf_len {p q : List (List Int)} (okp : RectP p) (okq : RectP q) (k : Nat) : (wunf (stP p q) k).length ≤ p.length * q.length := by
  have h0 : (0 : Int) ≤ 0 ∧ (0 : Int) < ((p.length * q.length : Nat) : Int) := by have := Nat.mul_pos okp.lo okq.lo; omega
  have := (unf_among (stP_stays okp okq) h0 k).len
  rw [← wunf_fst, List.length_map] at this
  exact this
/-- No word is found exactly if the policy is stricter. -/
theorem findP_stricter {p q R : List (List Int)} {L : List Int} (okp : RectP p) (okq : RectP q) (h : UnfEnd (stP p q) 0 L R) : (findP p q false).isNone = true ↔ minL R = minL p := by
  have hLQ : (wunf (stP p q) (p.length * q.length)).map Prod.fst = L := by
    have h0 : (0 : Int) ≤ 0 ∧ (0 : Int) < ((p.length * q.length : Nat) : Int) := by have := Nat.mul_pos okp.lo okq.lo; omega
    rw [wunf_fst]
    obtain ⟨k, h1, h2⟩ := h
    have hk : k ≤ p.length * q.length := by
      have := (unf_among (stP_stays okp okq) h0 k).len
      rw [h1] at this
      have : L.length ≤ _ := this
      omega
    obtain ⟨d, hd⟩ := Nat.exists_eq_add_of_le hk
    rw [hd, unf_stay (by rw [h1]; show L.length ≤ k; omega) d, h1]
  rw [stricter_iff okp okq h, Option.isNone_iff_eq_none]
  unfold findP
  constructor
  · intro hf x hx
    rw [← hLQ] at hx
    obtain ⟨u, hu, rfl⟩ := List.mem_map.1 hx
    exact findQ_some hf u hu
  · intro hx
    refine findQ_none fun u hu => hx u.1 ?_
    rw [← hLQ]
    exact List.mem_map.2 ⟨u, hu, rfl⟩
end Go.Proofs.Ytopijecdhjnipaa
