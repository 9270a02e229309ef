/-
  The model's StackHeights. Conditions: at most 2^20 instructions.
-/
import Derived.Test.YtffkdidgfeknkaaGreatDoorHgtM
namespace Go.Proofs.YtffkdidgfeknkaaGreatDoor
set_option linter.unusedVariables false
open Go.RowKit

theorem hgtR_cases {xs : List (Int × Int)} {out : List Int} {ok : Bool} (hc : codeB xs = true) (h1 : ok = true → LeastH xs out) (h2 : ok = false → ∀ K, ¬ GoodH xs K) : hgtR xs = if ok = true then (out, true) else ([], false) := by
  cases ok with
  | true => rw [if_pos rfl]; exact hgtR_yes hc (h1 rfl)
  | false => rw [if_neg (by simp)]; exact hgtR_no (h2 rfl)

end Go.Proofs.YtffkdidgfeknkaaGreatDoor
