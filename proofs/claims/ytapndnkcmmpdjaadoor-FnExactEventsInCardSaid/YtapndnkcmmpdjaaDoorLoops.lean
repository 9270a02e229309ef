/-
  The loops of a body: what the model's l04Loops and the program's LoopsOf give. Conditions: at most 2^20 elements, terms and coefficients; the table elementForms holds what the program's text lays.
-/
import Derived.Test.YtapndnkcmmpdjaaDoorPgmV
import Derived.Test.YtapndnkcmmpdjaaDoorAppend
import Derived.Deep.Cut
namespace Go.Proofs.YtapndnkcmmpdjaaDoor
set_option linter.unusedVariables false
open Go.RowKit

/-- The indices of the loops among the first j elements. -/
def loopsU (xs : List S8) (j : Nat) : List Int := ((List.range j).filter fun i => (xs[i]?.map S8.k) == some 8).map fun i => ((i : Nat) : Int)
theorem loopsU_yes {xs : List S8} {j : Nat} {x : S8} (hx : xs[j]? = some x) (hk : x.k = 8) : loopsU xs (j + 1) = loopsU xs j ++ [(j : Int)] := by
  unfold loopsU
  rw [List.range_succ, List.filter_append, List.map_append]
  simp [hx, hk]
theorem loopsU_no {xs : List S8} {j : Nat} {x : S8} (hx : xs[j]? = some x) (hk : ¬ x.k = 8) : loopsU xs (j + 1) = loopsU xs j := by
  unfold loopsU
  rw [List.range_succ, List.filter_append, List.map_append]
  simp [hx, hk]
theorem loopsU_len (xs : List S8) (j : Nat) : (loopsU xs j).length ≤ j := by
  unfold loopsU
  rw [List.length_map]
  exact Nat.le_trans (List.length_filter_le _ _) (by simp)
theorem loopsU_in {xs : List S8} {j : Nat} {z : Int} (h : z ∈ loopsU xs j) : ∃ i : Nat, z = i ∧ i < j ∧ ∃ x, xs[i]? = some x ∧ x.k = 8 := by
  unfold loopsU at h
  obtain ⟨i, hi, rfl⟩ := List.mem_map.1 h
  obtain ⟨h1, h2⟩ := List.mem_filter.1 hi
  refine ⟨i, rfl, by simpa using h1, ?_⟩
  cases hx : xs[i]? with
  | none => rw [hx] at h2; simp at h2
  | some x => rw [hx] at h2; exact ⟨x, rfl, by simpa using h2⟩
theorem loop_step {base : Nat} {v' : Value} {w1 : World} {zs : List Int} {x : Int} (h : w1.ownsRow base 2 1 v' (zs.length + 1) (zs.map ic ++ [Value.int .i64 x])) :
    w1.ownsRow base 2 1 v' (zs ++ [x]).length ((zs ++ [x]).map ic) := by
  simpa [ic] using h

/-- The loops of a program, and whether it is valid. -/
def loopsR (ts : List (Int × List Int)) (xs : List S8) (us : List (Int × List Int)) : List Int × Bool := if progB ts xs us = true then (loopsU xs xs.length, true) else ([], false)
theorem loopsR_yes {ts us : List (Int × List Int)} {xs : List S8} (h : progB ts xs us = true) : loopsR ts xs us = (loopsU xs xs.length, true) := if_pos h
theorem loopsR_no {ts us : List (Int × List Int)} {xs : List S8} (h : progB ts xs us = false) : loopsR ts xs us = ([], false) := if_neg (by rw [h]; simp)

end Go.Proofs.YtapndnkcmmpdjaaDoor
