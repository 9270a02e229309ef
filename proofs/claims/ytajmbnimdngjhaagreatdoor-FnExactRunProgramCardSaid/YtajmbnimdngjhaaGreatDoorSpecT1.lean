/-
  The model's OppositeOf, AddTerms, ScaleTerm. Conditions: at most 2^20 coefficients.
-/
import Derived.Test.YtajmbnimdngjhaaGreatDoorOppS
namespace Go.Proofs.YtajmbnimdngjhaaGreatDoor
open Go.RowKit
theorem cell_new (w : World) (cs : Array Value) (t : TypeId) (i : Nat) (v : Value) (h : cs[i]? = some v) : (w.alloc (.cells cs t)).cell? ⟨w.heap.size, i, none⟩ = some v :=
  (cell_of_row _ _ i _ _ _ (heap_alloc_new w _)).trans h
theorem fro_new (w : World) (cs : Array Value) (t : TypeId) (i : Nat) : (w.alloc (.cells cs t)).frozen? ⟨w.heap.size, i, none⟩ = false := by simp
/-- The opposite of a term, and whether there is one. -/
def oppR (t : Int × List Int) : (Int × List Int) × Bool := if tmB t = true then mkL (-1 * t.1 + -1 * 1) (ten (lin t (-1) (1, []) (-1))) else ((0, []), false)
theorem oppR_yes {t : Int × List Int} (h : tmB t = true) : oppR t = mkL (-1 * t.1 + -1 * 1) (ten (lin t (-1) (1, []) (-1))) := if_pos h
theorem oppR_no {t : Int × List Int} (h : tmB t = false) : oppR t = ((0, []), false) := if_neg (by rw [h]; simp)
/-- The sum of two terms, and whether there is one. -/
def addR (t u : Int × List Int) : (Int × List Int) × Bool := if tmB t = true ∧ tmB u = true then mkL (1 * t.1 + 1 * u.1) (ten (lin t 1 u 1)) else ((0, []), false)
theorem addR_yes {t u : Int × List Int} (h : tmB t = true) (k : tmB u = true) : addR t u = mkL (1 * t.1 + 1 * u.1) (ten (lin t 1 u 1)) := if_pos ⟨h, k⟩
theorem addR_no0 {t u : Int × List Int} (h : tmB t = false) : addR t u = ((0, []), false) := if_neg (by rw [h]; simp)
theorem addR_no1 {t u : Int × List Int} (h : tmB u = false) : addR t u = ((0, []), false) := if_neg (by rw [h]; simp)
/-- A multiple of a term, and whether there is one. -/
def scaleR (t : Int × List Int) (k : Int) : (Int × List Int) × Bool := if tmB t = true ∧ -1000000 ≤ k ∧ k ≤ 1000000 then mkL (k * t.1 + 0 * 0) (ten (lin t k (0, []) 0)) else ((0, []), false)
theorem scaleR_yes {t : Int × List Int} {k : Int} (h : tmB t = true) (k1 : -1000000 ≤ k) (k2 : k ≤ 1000000) : scaleR t k = mkL (k * t.1 + 0 * 0) (ten (lin t k (0, []) 0)) := if_pos ⟨h, k1, k2⟩
theorem scaleR_no0 {t : Int × List Int} {k : Int} (h : tmB t = false) : scaleR t k = ((0, []), false) := if_neg (by rw [h]; simp)
theorem scaleR_no1 {t : Int × List Int} {k : Int} (h : ¬ (-1000000 ≤ k ∧ k ≤ 1000000)) : scaleR t k = ((0, []), false) := if_neg (fun a => h a.2)

end Go.Proofs.YtajmbnimdngjhaaGreatDoor
