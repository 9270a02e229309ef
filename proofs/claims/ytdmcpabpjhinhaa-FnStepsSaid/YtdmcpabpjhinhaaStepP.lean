/-
  A step of code, told by numbers: how it stops and what it makes of the variables, the cells, the stack and the place; how the program's machine of twenty numbers stands for these. No conditions.
-/
import Derived.Test.YtdmcpabpjhinhaaEffP
namespace Go.Proofs.Ytdmcpabpjhinhaa
set_option linter.unusedVariables false
open Go.RowKit

def wideP (x : Int) : Prop := -10000000000000000 ≤ x ∧ x ≤ 10000000000000000
def intP (x : Int) : Prop := -1000000000 ≤ x ∧ x ≤ 1000000000
/-- The numbers that a step pops, or 0. -/
def topR (op : Int) (st : List Int) : Int := if popB op = 0 then 0 else st.getD (st.length - 1) 0
def undR (op : Int) (st : List Int) : Int := if popB op = 2 then st.getD (st.length - 2) 0 else 0
def absR (x : Int) : Int := if x < -x then -x else x
def farR (n a : Int) : Prop := a ≠ 0 ∧ absR n > 10000000000000000 / absR a
instance (n a : Int) : Decidable (farR n a) := by unfold farR; infer_instance
instance (n : Int) : Decidable (wideP n) := by unfold wideP; infer_instance
instance (n : Int) : Decidable (intP n) := by unfold intP; infer_instance
def cellStop (op : Int) (st : List Int) : Prop := (op = 7 ∧ ¬ (0 ≤ topR op st ∧ topR op st ≤ 7)) ∨ (op = 8 ∧ ¬ (0 ≤ undR op st ∧ undR op st ≤ 7))
def rangeStop (op a : Int) (st : List Int) : Prop := (op = 3 ∧ ¬ wideP (topR op st + undR op st)) ∨ (op = 4 ∧ farR (topR op st) a) ∨ ((op = 2 ∨ op = 8) ∧ ¬ intP (topR op st))
instance (op : Int) (st : List Int) : Decidable (cellStop op st) := by unfold cellStop; infer_instance
instance (op a : Int) (st : List Int) : Decidable (rangeStop op a st) := by unfold rangeStop; infer_instance
/-- How an operation for which the stack fits stops: 0 if it doesn't. -/
def outO (op a : Int) (st : List Int) : Int :=
  if op = 11 then 6 else if cellStop op st then 2 else if rangeStop op a st then 4 else if op = 10 ∧ topR op st < 0 then 3 else 0
def restR (op : Int) (st : List Int) : List Int := st.take (st.length - (popB op).toNat)
def varsO (op a : Int) (vs st : List Int) : List Int := if op = 2 then vs.set a.toNat (topR op st) else vs
def cellsO (op : Int) (zs st : List Int) : List Int := if op = 8 then zs.set (undR op st).toNat (topR op st) else zs
def newO (op a : Int) (vs zs st : List Int) : Int := if op = 0 then a else if op = 1 then vs.getD a.toNat 0 else if op = 3 then topR op st + undR op st else if op = 4 then topR op st * a else zs.getD (topR op st).toNat 0
def stO (op a : Int) (vs zs st : List Int) : List Int := if pushB op = 1 then restR op st ++ [newO op a vs zs st] else restR op st
def atO (op a : Int) (st : List Int) (p : Int) : Int := if op = 5 ∨ (op = 6 ∧ topR op st < 0) then a else p + 1

/-- A valid state, stack and place. -/
structure CfV (vs zs st : List Int) (p : Int) : Prop where
  lv : vs.length = 4
  lz : zs.length = 8
  ls : st.length ≤ 6
  iv : ∀ x ∈ vs, intP x
  iz : ∀ x ∈ zs, intP x
  ws : ∀ x ∈ st, wideP x
  p0 : 0 ≤ p
  p1 : p ≤ 80
/-- The machine L stands for a config. -/
structure Rep (L vs zs st : List Int) (p : Int) : Prop where
  len : L.length = 20
  v : ∀ i, i < 4 → L[i]? = vs[i]?
  z : ∀ i, i < 8 → L[4 + i]? = zs[i]?
  s : ∀ i, i < st.length → L[12 + i]? = st[i]?
  h : L[18]? = some (st.length : Int)
  a : L[19]? = some p

theorem Rep.push {L vs zs st : List Int} {p : Int} (r : Rep L vs zs st p) (n : Int) (h5 : st.length ≤ 5) : Rep ((L.set (12 + st.length) n).set 18 ((st.length : Int) + 1)) vs zs (st ++ [n]) p := by
  have hl := r.len
  refine ⟨by simp [r.len], ?_, ?_, ?_, ?_, ?_⟩
  · intro i hi; rw [List.getElem?_set_ne (by omega), List.getElem?_set_ne (by omega)]; exact r.v i hi
  · intro i hi; rw [List.getElem?_set_ne (by omega), List.getElem?_set_ne (by omega)]; exact r.z i hi
  · intro i hi
    rw [List.length_append, List.length_singleton] at hi
    rw [List.getElem?_set_ne (by omega)]
    by_cases e : i = st.length
    · subst e; rw [List.getElem?_set_self (by omega)]; simp
    · rw [List.getElem?_set_ne (by omega), List.getElem?_append_left (by omega)]; exact r.s i (by omega)
  · rw [List.getElem?_set_self (by rw [List.length_set]; omega)]; simp
  · rw [List.getElem?_set_ne (by omega), List.getElem?_set_ne (by omega)]; exact r.a
theorem Rep.pop {L vs zs st : List Int} {p : Int} (r : Rep L vs zs st p) (h : Nat) (hh : h ≤ st.length) (h6 : st.length ≤ 6) : Rep (L.set 18 (h : Int)) vs zs (st.take h) p := by
  have hl := r.len
  have hm : (st.take h).length = h := by rw [List.length_take]; omega
  refine ⟨by simp [r.len], ?_, ?_, ?_, ?_, ?_⟩
  · intro i hi; rw [List.getElem?_set_ne (by omega)]; exact r.v i hi
  · intro i hi; rw [List.getElem?_set_ne (by omega)]; exact r.z i hi
  · intro i hi
    rw [hm] at hi
    rw [List.getElem?_set_ne (by omega), r.s i (by omega), List.getElem?_take_of_lt (by omega)]
  · rw [List.getElem?_set_self (by omega), hm]
  · rw [List.getElem?_set_ne (by omega)]; exact r.a
theorem Rep.var {L vs zs st : List Int} {p : Int} (r : Rep L vs zs st p) (k : Nat) (x : Int) (hk : k < 4) (hv : vs.length = 4) : Rep (L.set k x) (vs.set k x) zs st p := by
  have hl := r.len
  refine ⟨by simp [r.len], ?_, ?_, ?_, ?_, ?_⟩
  · intro i hi
    by_cases e : i = k
    · subst e; rw [List.getElem?_set_self (by omega), List.getElem?_set_self (by omega)]
    · rw [List.getElem?_set_ne (by omega), List.getElem?_set_ne (by omega)]; exact r.v i hi
  · intro i hi; rw [List.getElem?_set_ne (by omega)]; exact r.z i hi
  · intro i hi; rw [List.getElem?_set_ne (by omega)]; exact r.s i hi
  · rw [List.getElem?_set_ne (by omega)]; exact r.h
  · rw [List.getElem?_set_ne (by omega)]; exact r.a
theorem Rep.cell {L vs zs st : List Int} {p : Int} (r : Rep L vs zs st p) (k : Nat) (x : Int) (hk : k < 8) (hz : zs.length = 8) : Rep (L.set (4 + k) x) vs (zs.set k x) st p := by
  have hl := r.len
  refine ⟨by simp [r.len], ?_, ?_, ?_, ?_, ?_⟩
  · intro i hi; rw [List.getElem?_set_ne (by omega)]; exact r.v i hi
  · intro i hi
    by_cases e : i = k
    · subst e; rw [List.getElem?_set_self (by omega), List.getElem?_set_self (by omega)]
    · rw [List.getElem?_set_ne (by omega), List.getElem?_set_ne (by omega)]; exact r.z i hi
  · intro i hi; rw [List.getElem?_set_ne (by omega)]; exact r.s i hi
  · rw [List.getElem?_set_ne (by omega)]; exact r.h
  · rw [List.getElem?_set_ne (by omega)]; exact r.a
theorem Rep.place {L vs zs st : List Int} {p : Int} (r : Rep L vs zs st p) (q : Int) (hs : st.length ≤ 6) : Rep (L.set 19 q) vs zs st q := by
  have hl := r.len
  refine ⟨by simp [r.len], ?_, ?_, ?_, ?_, ?_⟩
  · intro i hi; rw [List.getElem?_set_ne (by omega)]; exact r.v i hi
  · intro i hi; rw [List.getElem?_set_ne (by omega)]; exact r.z i hi
  · intro i hi; rw [List.getElem?_set_ne (by omega)]; exact r.s i hi
  · rw [List.getElem?_set_ne (by omega)]; exact r.h
  · rw [List.getElem?_set_self (by omega)]
theorem getD_of {l : List Int} {i : Nat} {x : Int} (h : l[i]? = some x) : l.getD i 0 = x := by rw [List.getD_eq_getElem?_getD, h]; rfl
theorem some_getD {l : List Int} {i : Nat} (h : i < l.length) : l[i]? = some (l.getD i 0) := by rw [List.getElem?_eq_getElem h, getD_of (List.getElem?_eq_getElem h)]
theorem mem_getD {l : List Int} {i : Nat} (h : i < l.length) : l.getD i 0 ∈ l := List.mem_of_getElem? (some_getD h)
theorem fitB_parts {op h : Int} (e : fitB op h = true) : popB op ≤ h ∧ h ≤ 6 + popB op - pushB op := by
  unfold fitB at e
  simpa using e
theorem fitB_no {op h : Int} (e : fitB op h = false) : ¬ (popB op ≤ h ∧ h ≤ 6 + popB op - pushB op) := by
  unfold fitB at e
  simp at e
  omega
theorem popB_le (op : Int) : (popB op).toNat ≤ 2 := by have := popB_02 op; omega
theorem set_mem {l : List Int} {k : Nat} {v : Int} {P : Int → Prop} (h : ∀ x ∈ l, P x) (hv : P v) : ∀ x ∈ l.set k v, P x := by
  intro x hx
  rcases List.mem_or_eq_of_mem_set hx with hx | rfl
  · exact h x hx
  · exact hv
theorem topR_mem {op : Int} {st : List Int} (hp : popB op ≠ 0) (hs : popB op ≤ (st.length : Int)) : topR op st ∈ st := by
  unfold topR; rw [if_neg hp]; have := popB_02 op; exact mem_getD (by omega)
theorem absR_nn (x : Int) : 0 ≤ absR x := by unfold absR; split <;> omega
/-- A step that doesn't stop keeps a config valid. -/
theorem CfV.step {op a p : Int} {vs zs st : List Int} (v : CfV vs zs st p) (hi : instrB op a = true) (hf : fitB op (st.length : Int) = true) (ho : outO op a st = 0) (hp : p < 80) : CfV (varsO op a vs st) (cellsO op zs st) (stO op a vs zs st) (atO op a st p) := by
  have hfp := fitB_parts hf
  have hp2 := popB_02 op
  have hq2 := pushB_01 op
  have hii := instrB_parts hi
  have hl : (restR op st).length = st.length - (popB op).toNat := by unfold restR; rw [List.length_take]; omega
  have hr : ∀ x ∈ restR op st, wideP x := fun x hx => v.ws x (List.mem_of_mem_take hx)
  have hw : ∀ x, intP x → wideP x := fun x h => ⟨by have := h.1; omega, by have := h.2; omega⟩
  have hv := v.lv
  have hz := v.lz
  have hno : ¬ cellStop op st ∧ ¬ rangeStop op a st := by
    unfold outO at ho
    split at ho; · omega
    split at ho; · omega
    split at ho; · omega
    rename_i h1 h2; exact ⟨h1, h2⟩
  have hnew : pushB op = 1 → wideP (newO op a vs zs st) := by
    intro hpb
    unfold newO
    split
    · rename_i e; subst e
      have := hii.2.2; simp [loB, hiB] at this
      exact ⟨by omega, by omega⟩
    split
    · rename_i e; subst e
      have := hii.2.2; simp [loB, hiB] at this
      exact hw _ (v.iv _ (mem_getD (by omega)))
    split
    · rename_i e; subst e
      exact Decidable.byContradiction fun h => hno.2 (.inl ⟨rfl, h⟩)
    split
    · rename_i e; subst e
      have hnf : ¬ farR (topR 4 st) a := fun h => hno.2 (.inr (.inl ⟨rfl, h⟩))
      by_cases ha : a = 0
      · subst ha; rw [Int.mul_zero]; exact ⟨by omega, by omega⟩
      · have h1 : ¬ absR (topR 4 st) > 10000000000000000 / absR a := fun h => hnf ⟨ha, h⟩
        have h2 : 1 ≤ absR a := by unfold absR; split <;> omega
        have h3 : absR (topR 4 st) ≤ 10000000000000000 / absR a := by omega
        have h4 : absR (topR 4 st) * absR a ≤ 10000000000000000 := by
          have := Int.mul_le_of_le_ediv (by omega) h3
          omega
        generalize topR 4 st = t at *
        unfold absR at h4
        split at h4 <;> split at h4 <;> (try simp only [Int.neg_mul, Int.mul_neg, Int.neg_neg] at h4) <;> refine ⟨?_, ?_⟩
        · have : 0 ≤ (-t) * (-a) := Int.mul_nonneg (by omega) (by omega)
          simp only [Int.neg_mul, Int.mul_neg, Int.neg_neg] at this; omega
        · omega
        · omega
        · have : 0 ≤ (-t) * a := Int.mul_nonneg (by omega) (by omega)
          simp only [Int.neg_mul] at this; omega
        · omega
        · have : 0 ≤ t * (-a) := Int.mul_nonneg (by omega) (by omega)
          simp only [Int.mul_neg] at this; omega
        · have : 0 ≤ t * a := Int.mul_nonneg (by omega) (by omega)
          omega
        · omega
    · rename_i e0 e1 e3 e4
      have e7 : op = 7 := by unfold pushB at hpb; split at hpb <;> omega
      subst e7
      have hc : 0 ≤ topR 7 st ∧ topR 7 st ≤ 7 := Decidable.byContradiction fun h => hno.1 (.inl ⟨rfl, h⟩)
      exact hw _ (v.iz _ (mem_getD (by omega)))
  have hint : (op = 2 ∨ op = 8) → intP (topR op st) := fun e => Decidable.byContradiction fun h => hno.2 (.inr (.inr ⟨e, h⟩))
  refine ⟨?_, ?_, ?_, ?_, ?_, ?_, ?_, ?_⟩
  · unfold varsO; split <;> simp [v.lv]
  · unfold cellsO; split <;> simp [v.lz]
  · unfold stO; split <;> simp only [List.length_append, List.length_singleton, hl] <;> omega
  · unfold varsO; split
    · exact set_mem v.iv (hint (.inl (by assumption)))
    · exact v.iv
  · unfold cellsO; split
    · exact set_mem v.iz (hint (.inr (by assumption)))
    · exact v.iz
  · unfold stO; split
    · intro x hx
      rcases List.mem_append.1 hx with hx | hx
      · exact hr x hx
      · obtain rfl : x = newO op a vs zs st := by simpa using hx
        exact hnew (by assumption)
    · exact hr
  · unfold atO; split
    · have := hii.2.2.1; unfold loB at this; split at this <;> rename_i e _ <;> omega
    · have := v.p0; omega
  · unfold atO; split
    · rename_i e
      have := hii.2.2.2; unfold hiB at this
      have e' : op = 5 ∨ op = 6 := by rcases e with e | e <;> omega
      rcases e' with rfl | rfl <;> simp at this <;> omega
    · omega
end Go.Proofs.Ytdmcpabpjhinhaa
