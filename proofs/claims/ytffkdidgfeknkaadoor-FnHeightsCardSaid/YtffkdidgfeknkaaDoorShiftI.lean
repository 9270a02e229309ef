/-
  Code with greater places: the program's. Conditions: at most 1000 instructions.
-/
import Derived.Test.YtffkdidgfeknkaaDoorShift
namespace Go.Proofs.YtffkdidgfeknkaaDoor
set_option linter.unusedVariables false
open Go.RowKit

set_option maxRecDepth 100000 in
set_option maxHeartbeats 1000000 in
theorem hasPlace_c (p q : Int) (w : World) :
    Calls Tryd.prog 56 #[.agg #[.int .i64 p, .int .i64 q]] w fun e w' => e = .returned (.bool (decide (p = 5 ∨ p = 6))) ∧ Below w.heap.size w w' := by
  have hb0 := bnew w (.cells #[.int .i64 p, .int .i64 q] 87)
  by_cases h5 : p = 5
  · rw [decide_eq_true (.inl h5)]
    have e5 : (p == 5) = true := by simp [h5]
    clear h5
    go_enter Tryd.func56, Tryd.ntmps56
    go_wp2_with fail
    go_ret
    exact ⟨rfl, hb0⟩
  · have e5 : (p == 5) = false := by simp [h5]
    by_cases h6 : p = 6
    · rw [decide_eq_true (.inr h6)]
      have e6 : (p == 6) = true := by simp [h6]
      clear h5 h6
      go_enter Tryd.func56, Tryd.ntmps56
      go_wp2_with fail
      go_ret
      exact ⟨rfl, hb0⟩
    · rw [decide_eq_false (fun h => h.elim h5 h6)]
      have e6 : (p == 6) = false := by simp [h6]
      clear h5 h6
      go_enter Tryd.func56, Tryd.ntmps56
      go_wp2_with fail
      go_ret
      exact ⟨rfl, hb0⟩

end Go.Proofs.YtffkdidgfeknkaaDoor
