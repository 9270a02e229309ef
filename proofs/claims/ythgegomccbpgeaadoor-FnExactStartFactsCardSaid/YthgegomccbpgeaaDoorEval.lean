/-
  What a term is for values. Conditions: at most 2^20 coefficients and values.
-/
import Derived.Test.YthgegomccbpgeaaDoorValid
import Derived.Test.YthgegomccbpgeaaDoorSum
import Derived.Test.YthgegomccbpgeaaDoorMakeS
import Derived.Test.YthgegomccbpgeaaDoorSpecT1
import Derived.BigQuiet
import Derived.Deep.QuietTactic
namespace Go.Proofs.YthgegomccbpgeaaDoor
open Go.RowKit

/-- Ten numbers from -1000000000 to 1000000000. -/
def valsB (vs : List Int) : Bool := decide (vs.length = 10) && btw (-1000000000) 1000000000 vs
theorem valsB_len {vs : List Int} (h : vs.length ≠ 10) : valsB vs = false := by unfold valsB; rw [decide_eq_false h]; rfl
theorem valsB_btw {vs : List Int} (h : btw (-1000000000) 1000000000 vs = false) : valsB vs = false := by unfold valsB; rw [h]; simp
theorem valsB_is {vs : List Int} (h : vs.length = 10) : valsB vs = btw (-1000000000) 1000000000 vs := by unfold valsB; rw [decide_eq_true h]; rfl
theorem valsB_parts {vs : List Int} (h : valsB vs = true) : vs.length = 10 ∧ ∀ z ∈ vs, -1000000000 ≤ z ∧ z ≤ 1000000000 := by
  unfold valsB at h
  simp only [Bool.and_eq_true, decide_eq_true_eq] at h
  exact ⟨h.1, btw_in h.2⟩
theorem vals_at {vs : List Int} (h : valsB vs = true) (k : Nat) : -1000000000 ≤ vs.getD k 0 ∧ vs.getD k 0 ≤ 1000000000 := by
  by_cases h0 : vs.getD k 0 = 0
  · omega
  · exact (valsB_parts h).2 _ (getD_mem h0)
theorem evTo_bound {t : Int × List Int} {vs : List Int} (ht : tmB t = true) (hv : valsB vs = true) : ∀ k : Nat, -(1000000 + (k : Int) * 1000000000000000) ≤ evTo t vs k ∧ evTo t vs k ≤ 1000000 + (k : Int) * 1000000000000000
  | 0 => by have := (tmB_parts ht).2.1; simp only [evTo]; omega
  | k + 1 => by
    have ih := evTo_bound ht hv k
    have a := getD_small ht k
    have b := vals_at hv k
    have p := prod9_le a.1 a.2 b.1 b.2
    simp only [evTo]
    omega

def evalR (t : Int × List Int) (vs : List Int) : Int × Bool := if tmB t = true ∧ valsB vs = true then (evTo t vs t.2.length, true) else (0, false)
theorem evalR_yes {t : Int × List Int} {vs : List Int} (h : tmB t = true) (g : valsB vs = true) : evalR t vs = (evTo t vs t.2.length, true) := if_pos ⟨h, g⟩
theorem evalR_no {t : Int × List Int} {vs : List Int} (h : tmB t = false) : evalR t vs = (0, false) := if_neg (by rw [h]; simp)
theorem evalR_no2 {t : Int × List Int} {vs : List Int} (h : valsB vs = false) : evalR t vs = (0, false) := if_neg (by rw [h]; simp)

end Go.Proofs.YthgegomccbpgeaaDoor
