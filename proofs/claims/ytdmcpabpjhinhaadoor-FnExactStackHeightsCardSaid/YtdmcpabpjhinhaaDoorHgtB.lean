/-
  What the program's sweeps at stackBehind keep: every good list of heights agrees. Conditions: valid code.
-/
import Derived.Test.YtdmcpabpjhinhaaDoorSprB
namespace Go.Proofs.YtdmcpabpjhinhaaDoor
set_option linter.unusedVariables false
open Go.RowKit

structure HgtI (xs : List (Int × Int)) (K : List Int) : Prop where
  len : K.length = 81
  zero : K.getD 0 0 = 0
  low : ∀ i : Nat, i < 81 → K.getD i 0 = -1 ∨ (0 ≤ K.getD i 0 ∧ K.getD i 0 ≤ 6)
  under : ∀ G, GoodH xs G → ∀ i : Nat, i < 81 → K.getD i 0 ≠ -1 → i < xs.length ∧ G[i]? = some (K.getD i 0)
theorem getD_setH {L : List Int} {k i : Nat} {h : Int} (hk : k < L.length) : (L.set k h).getD i 0 = if k = i then h else L.getD i 0 := by
  rw [List.getD_eq_getElem?_getD, List.getElem?_set]
  split
  · rename_i e
    simp
  · rw [← List.getD_eq_getElem?_getD]
theorem opN_is {xs : List (Int × Int)} {k : Nat} {x : Int × Int} (hx : xs[k]? = some x) : opN xs k = x.1 := by unfold opN; rw [List.getD_eq_getElem?_getD, hx]; rfl
theorem tgtN_is {xs : List (Int × Int)} {k : Nat} {x : Int × Int} (hx : xs[k]? = some x) : tgtN xs k = tgt1 x.1 x.2 k := by unfold tgtN; rw [List.getD_eq_getElem?_getD, hx]; rfl
theorem fitB_fitH {xs : List (Int × Int)} {k : Nat} {x : Int × Int} {h : Int} (hx : xs[k]? = some x) : fitB x.1 h = true ↔ fitH xs k h := by
  unfold fitB fitH hgB
  rw [opN_is hx]
  simp
  omega
theorem HgtI.init {xs : List (Int × Int)} (hn : 1 ≤ xs.length) : HgtI xs heights0 := by
  have hz : ∀ i : Nat, i < 81 → heights0.getD i 0 = if i = 0 then 0 else -1 := fun i hi => by
    cases i with
    | zero => rfl
    | succ i =>
      unfold heights0
      rw [List.getD_cons_succ, List.getD_eq_getElem?_getD, List.getElem?_replicate, if_pos (by omega)]
      rfl
  refine ⟨heights0_len, rfl, fun i hi => ?_, fun G hG i hi hne => ?_⟩
  · rw [hz i hi]; split <;> omega
  · rw [hz i hi] at hne ⊢
    by_cases e : i = 0
    · subst e; exact ⟨by omega, hG.zero⟩
    · rw [if_neg e] at hne; exact absurd rfl hne
theorem hgtI_on {xs : List (Int × Int)} (hc : codeB xs = true) : GoesOr xs (HgtI xs) (∀ G, ¬ GoodH xs G) := by
  have hl := (codeB_parts hc).2.1
  refine ⟨fun k x K hx hI hne => ⟨?_, fun hf G hG => ?_⟩, fun k x K hx hI hne hf t ht L hL hE => ⟨fun h1 => ?_, fun h1 G hG => ?_⟩⟩
  · have hk : k < xs.length := (List.getElem?_eq_some_iff.1 hx).1
    rcases hI.low k (by omega) with e | e
    · exact absurd e hne
    · omega
  · have hk : k < xs.length := (List.getElem?_eq_some_iff.1 hx).1
    obtain ⟨_, e⟩ := hI.under G hG k (by omega) hne
    have h0 : 0 ≤ K.getD k 0 := by rcases hI.low k (by omega) with e | e; exact absurd e hne; exact e.1
    have := (fitB_fitH hx).2 (hG.step k _ e h0).1
    rw [hf] at this; cases this
  all_goals
    have hk : k < xs.length := (List.getElem?_eq_some_iff.1 hx).1
    obtain ⟨t0, t1⟩ := tgt_in hc k x hx t ht
    have h0 : 0 ≤ K.getD k 0 := by rcases hI.low k (by omega) with e | e; exact absurd e hne; exact e.1
    have hstep : ∀ G, GoodH xs G → t < xs.length ∧ G[t.toNat]? = some (K.getD k 0 - popB x.1 + pushB x.1) := fun G hG => by
      have := (hG.step k _ (hI.under G hG k (by omega) hne).2 h0).2 t (by rw [tgtN_is hx]; exact ht)
      unfold hgB at this
      rw [opN_is hx] at this
      exact this
    have hfh := (fitB_fitH hx).1 hf
    have hge := hfh.ge
    have hle := hfh.2
    unfold hgB at hge hle
    rw [opN_is hx] at hge hle
  · have htl : t.toNat < L.length := by rw [hL.len]; omega
    refine ⟨by rw [List.length_set]; exact hL.len, ?_, fun i hi => ?_, fun G hG i hi hn2 => ?_⟩
    · rw [getD_setH htl]
      split
      · rename_i e
        rw [e, hL.zero] at h1
        rcases h1 with h1 | h1 <;> omega
      · exact hL.zero
    · rw [getD_setH htl]
      split
      · right; omega
      · exact hL.low i hi
    · rw [getD_setH htl] at hn2 ⊢
      split at hn2
      · rename_i e
        rw [if_pos e]
        obtain ⟨a, b⟩ := hstep G hG
        rw [← e]
        exact ⟨by omega, b⟩
      · rename_i e
        rw [if_neg e]
        exact hL.under G hG i hi hn2
  · obtain ⟨a, b⟩ := hL.under G hG t.toNat (by omega) (fun e => h1 (.inl e))
    obtain ⟨c, d⟩ := hstep G hG
    rw [b] at d
    exact h1 (.inr (Option.some.inj d))
/-- A height behind the code: no good list. -/
theorem none_of_spr {xs : List (Int × Int)} {K : List Int} (h : HgtI xs K) {i : Nat} (hi : i < 81) (hn : xs.length ≤ i) (hne : K.getD i 0 ≠ -1) : ∀ G, ¬ GoodH xs G :=
  fun G hG => by have := (h.under G hG i hi hne).1; omega
/-- No height behind the code: the least list. -/
theorem least_of_spr {xs : List (Int × Int)} {K : List Int} (hc : codeB xs = true) (h : SprTo xs bhH (HgtI xs) K) (hall : ∀ i : Nat, xs.length ≤ i → i < 81 → K.getD i 0 = -1) : LeastH xs (K.take xs.length) := by
  have hl := (codeB_parts hc).2.1
  have hl1 := (codeB_parts hc).1
  have hat : ∀ i : Nat, i < xs.length → (K.take xs.length)[i]? = some (K.getD i 0) := fun i hi => by
    rw [List.getElem?_take_of_lt hi, List.getD_eq_getElem?_getD, List.getElem?_eq_getElem (by rw [h.len]; omega)]; rfl
  have hlen : (K.take xs.length).length = xs.length := by rw [List.length_take, h.len]; omega
  refine leastH_of hlen (by rw [hat 0 (by omega), h.inv.zero]) (fun z hz => ?_) (fun G hG k a hk ha => ?_) (fun k a hk ha => ?_)
  · obtain ⟨i, hi, e⟩ := List.mem_iff_getElem.1 hz
    have h1 := hat i (by omega)
    rw [List.getElem?_eq_getElem hi, e] at h1
    have h2 := Option.some.inj h1
    rcases h.inv.low i (by omega) with q | q <;> omega
  · have hkl : k < xs.length := by have := (List.getElem?_eq_some_iff.1 hk).1; omega
    rw [hat k hkl] at hk
    have e := Option.some.inj hk
    have := (h.inv.under G hG k (by omega) (by omega)).2
    rw [e] at this; exact this
  · have hkl : k < xs.length := by have := (List.getElem?_eq_some_iff.1 hk).1; omega
    rw [hat k hkl] at hk
    have e := Option.some.inj hk
    have hx : xs[k]? = some xs[k] := List.getElem?_eq_getElem hkl
    obtain ⟨g, hb, ht⟩ := h.closed k _ hkl hx (by omega)
    rw [e] at hb
    unfold bhH at hb
    by_cases hf : fitB xs[k].1 a = true
    · rw [if_pos hf] at hb
      have hg := Option.some.inj hb
      have hfh := (fitB_fitH hx).1 hf
      have hge := hfh.ge
      have hgb : hgB xs k a = g := by unfold hgB; rw [opN_is hx]; exact hg
      refine ⟨hfh, fun t htt => ?_⟩
      rw [tgtN_is hx] at htt
      obtain ⟨t0, t1⟩ := tgt_in hc k _ hx t htt
      have hv := ht t htt
      have htn : t.toNat < xs.length := by
        rcases Nat.lt_or_ge t.toNat xs.length with q | q
        · exact q
        · have := hall t.toNat q (by omega); omega
      exact ⟨by omega, by rw [hat t.toNat htn, hv, hgb]⟩
    · rw [if_neg hf] at hb; cases hb
end Go.Proofs.YtdmcpabpjhinhaaDoor
