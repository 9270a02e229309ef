/-
  Valid states: the model's test and the program's. Conditions: at most 2^20 numbers.
-/
import Derived.Test.YthgegomccbpgeaaDoorStK
namespace Go.Proofs.YthgegomccbpgeaaDoor
set_option linter.unusedVariables false
open Go.RowKit

/-- So many numbers from -1000000000 to 1000000000. -/
def numsB (k : Nat) (vs : List Int) : Bool := decide (vs.length = k) && btw (-1000000000) 1000000000 vs
theorem numsB_len {k : Nat} {vs : List Int} (h : vs.length ≠ k) : numsB k vs = false := by unfold numsB; rw [decide_eq_false h]; rfl
theorem numsB_btw {k : Nat} {vs : List Int} (h : btw (-1000000000) 1000000000 vs = false) : numsB k vs = false := by unfold numsB; rw [h]; simp
theorem numsB_is {k : Nat} {vs : List Int} (h : vs.length = k) : numsB k vs = btw (-1000000000) 1000000000 vs := by unfold numsB; rw [decide_eq_true h]; rfl
theorem numsB_parts {k : Nat} {vs : List Int} (h : numsB k vs = true) : vs.length = k ∧ ∀ z ∈ vs, -1000000000 ≤ z ∧ z ≤ 1000000000 := by
  unfold numsB at h
  simp only [Bool.and_eq_true, decide_eq_true_eq] at h
  exact ⟨h.1, btw_in h.2⟩
/-- A valid state. -/
def stB (zs ys : List Int) : Bool := numsB 4 zs && numsB 8 ys
theorem stB_no {zs ys : List Int} (h : numsB 4 zs = false) : stB zs ys = false := by unfold stB; rw [h]; rfl
theorem stB_no2 {zs ys : List Int} (h : numsB 8 ys = false) : stB zs ys = false := by unfold stB; rw [h]; simp
theorem stB_is {zs ys : List Int} (h : numsB 4 zs = true) : stB zs ys = numsB 8 ys := by unfold stB; rw [h]; rfl

end Go.Proofs.YthgegomccbpgeaaDoor
