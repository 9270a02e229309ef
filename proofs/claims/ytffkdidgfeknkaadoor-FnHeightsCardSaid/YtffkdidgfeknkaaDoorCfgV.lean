/-
  Valid configs: the model's test and the program's. Conditions: at most 2^20 numbers.
-/
import Derived.Test.YtffkdidgfeknkaaDoorCfg
namespace Go.Proofs.YtffkdidgfeknkaaDoor
set_option linter.unusedVariables false
open Go.RowKit

/-- A valid config. -/
def cfgB (zs ys xs : List Int) (a : Int) : Bool := stB zs ys && ((decide (0 ≤ a) && decide (a ≤ 80)) && (decide (xs.length ≤ 6) && btw (-10000000000000000) 10000000000000000 xs))
theorem cfgB_st {zs ys xs : List Int} {a : Int} (h : stB zs ys = false) : cfgB zs ys xs a = false := by unfold cfgB; rw [h]; rfl
theorem cfgB_at {zs ys xs : List Int} {a : Int} (h : (decide (0 ≤ a) && decide (a ≤ 80)) = false) : cfgB zs ys xs a = false := by unfold cfgB; rw [h]; simp
theorem cfgB_len {zs ys xs : List Int} {a : Int} (h : ¬ xs.length ≤ 6) : cfgB zs ys xs a = false := by unfold cfgB; rw [decide_eq_false h]; simp
theorem cfgB_btw {zs ys xs : List Int} {a : Int} (h : btw (-10000000000000000) 10000000000000000 xs = false) : cfgB zs ys xs a = false := by unfold cfgB; rw [h]; simp
theorem cfgB_is {zs ys xs : List Int} {a : Int} (h : stB zs ys = true) (h1 : (decide (0 ≤ a) && decide (a ≤ 80)) = true) (h2 : xs.length ≤ 6) : cfgB zs ys xs a = btw (-10000000000000000) 10000000000000000 xs := by unfold cfgB; rw [h, h1, decide_eq_true h2]; rfl
/-- A valid config beside valid code. -/
def vcfB (cs : List (Int × Int)) (zs ys xs : List Int) (a : Int) : Bool := codeB cs && cfgB zs ys xs a
theorem vcfB_no {cs : List (Int × Int)} {zs ys xs : List Int} {a : Int} (h : codeB cs = false) : vcfB cs zs ys xs a = false := by unfold vcfB; rw [h]; rfl
theorem vcfB_is {cs : List (Int × Int)} {zs ys xs : List Int} {a : Int} (h : codeB cs = true) : vcfB cs zs ys xs a = cfgB zs ys xs a := by unfold vcfB; rw [h]; rfl

end Go.Proofs.YtffkdidgfeknkaaDoor
