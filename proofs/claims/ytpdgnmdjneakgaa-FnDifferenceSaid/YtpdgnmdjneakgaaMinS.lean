/-
  The model's MinimalPolicy. Conditions: at most 2^20 rows.
-/
import Derived.Test.YtpdgnmdjneakgaaMinM
import Derived.Test.YtpdgnmdjneakgaaPolV
namespace Go.Proofs.Ytpdgnmdjneakgaa
set_option linter.unusedVariables false
open Go.RowKit

def minR (xs : List (List Int)) : List (List Int) × Bool := if polB xs = true then (minL xs, true) else ([], false)
theorem minR_no {xs : List (List Int)} (h : polB xs = false) : minR xs = ([], false) := if_neg (by rw [h]; simp)
theorem minR_yes {xs : List (List Int)} (h : polB xs = true) : minR xs = (minL xs, true) := if_pos h
theorem inLL_nil (w : World) (B : Nat) : InLL w B none 0 [] := ⟨rfl, fun j x hx => by simp at hx⟩

theorem totLL_four {R : List (List Int)} (h : ∀ r ∈ R, r.length = 4) : totLL R = 4 * R.length := by
  induction R with
  | nil => rfl
  | cons t ts ih => rw [totLL_cons, ih (fun r hr => h r (List.mem_cons_of_mem _ hr)), h t List.mem_cons_self, List.length_cons]; omega
theorem minL_small {xs : List (List Int)} (ok : RectP xs) : (minL xs).length ≤ xs.length ∧ ∀ r ∈ minL xs, r.length = 4 := by
  have h0 : (0 : Int) ≤ 0 ∧ (0 : Int) < (xs.length : Int) := by have := ok.lo; omega
  unfold minL
  exact ⟨unf_len _ _ _, unf_rows (stM_stays ok) h0 _⟩
theorem minR_small (xs : List (List Int)) : (minR xs).1.length ≤ 12 ∧ totLL (minR xs).1 ≤ 48 := by
  cases h : polB xs with
  | false => rw [minR_no h]; exact ⟨by simp, by simp [totLL]⟩
  | true =>
    have ok := polOk_of h
    obtain ⟨a, b⟩ := minL_small ok.rect
    have := ok.hi
    rw [minR_yes h]
    refine ⟨by show (minL xs).length ≤ 12; omega, ?_⟩
    show totLL (minL xs) ≤ 48
    rw [totLL_four b]; omega
end Go.Proofs.Ytpdgnmdjneakgaa
