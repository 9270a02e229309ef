/-
  Whether the facts of a start hold in a state: HoldsAt of both. Conditions: at most 2^20 elements, terms, coefficients and numbers; the table elementForms holds what the program's text lays.
-/
import Derived.Test.YthgegomccbpgeaaDoorStartS
namespace Go.Proofs.YthgegomccbpgeaaDoor
set_option linter.unusedVariables false
open Go.RowKit

/-- Values, padded with zeros. -/
def padV (zs : List Int) : List Int := zs ++ List.replicate 6 0
theorem padV_get (zs : List Int) (k : Nat) : (padV zs).getD k 0 = zs.getD k 0 := by
  unfold padV
  rw [List.getD_eq_getElem?_getD, List.getD_eq_getElem?_getD]
  by_cases h : k < zs.length
  · rw [List.getElem?_append_left h]
  · rw [List.getElem?_append_right (by omega), List.getElem?_eq_none (l := zs) (by omega), List.getElem?_replicate]
    split <;> rfl
theorem padV_vals {zs : List Int} (hl : zs.length = 4) (hb : BigV zs) : valsB (padV zs) = true := by
  have hlen : (padV zs).length = 10 := by unfold padV; simp [hl]
  rw [valsB_is hlen]
  unfold btw
  rw [decide_eq_true_eq]
  intro z hz
  obtain ⟨k, hk⟩ := List.getElem?_of_mem hz
  have h1 := padV_get zs k
  rw [List.getD_eq_getElem?_getD, hk] at h1
  have := hb k
  rw [← h1] at this
  exact this

/-- Whether the facts of a start hold in a state, and whether both are valid. -/
def hatR (ts : List (Int × List Int)) (xs : List S8) (us : List (Int × List Int)) (s : Int) (zs ys : List Int) : Bool × Bool := if (startR ts xs us s).2 = true ∧ stB zs ys = true then (hsB (startR ts xs us s).1 zs, true) else (false, false)
theorem hatR_yes {ts us : List (Int × List Int)} {xs : List S8} {s : Int} {zs ys : List Int} (h : (startR ts xs us s).2 = true) (k : stB zs ys = true) : hatR ts xs us s zs ys = (hsB (startR ts xs us s).1 zs, true) := if_pos ⟨h, k⟩
theorem hatR_no {ts us : List (Int × List Int)} {xs : List S8} {s : Int} {zs ys : List Int} (h : (startR ts xs us s).2 = false) : hatR ts xs us s zs ys = (false, false) := if_neg (by rw [h]; simp)
theorem hatR_no2 {ts us : List (Int × List Int)} {xs : List S8} {s : Int} {zs ys : List Int} (h : stB zs ys = false) : hatR ts xs us s zs ys = (false, false) := if_neg (by rw [h]; simp)
theorem startR_ok {ts us : List (Int × List Int)} {xs : List S8} {s : Int} (h : progB ts xs us = true) (hs : -1 ≤ s ∧ s < (loopsU xs xs.length).length) : (startR ts xs us s).2 = true := by
  unfold startR
  rw [if_pos ⟨h, hs⟩]

theorem allV_small {ts : List (Int × List Int)} (h1 : ts.length ≤ 6) (h2 : ∀ t ∈ ts, tmB t = true ∧ t.2.length ≤ 4) : allV 14 ts = true := by
  unfold allV ovB
  rw [decide_eq_true (p := ts.length ≤ 14) (by omega), Bool.and_true]
  exact decide_eq_true (fun t ht => by rw [(h2 t ht).1, decide_eq_true (h2 t ht).2]; rfl)
theorem totT_small : ∀ {ts : List (Int × List Int)}, (∀ t ∈ ts, t.2.length ≤ 4) → totT ts ≤ 4 * ts.length
  | [], _ => by simp [totT]
  | t :: ts, h => by
    have ih := totT_small (ts := ts) (fun u hu => h u (List.mem_cons_of_mem _ hu))
    have := h t List.mem_cons_self
    unfold totT at ih ⊢
    simp only [List.map_cons, List.sum_cons, List.length_cons]
    omega
end Go.Proofs.YthgegomccbpgeaaDoor
