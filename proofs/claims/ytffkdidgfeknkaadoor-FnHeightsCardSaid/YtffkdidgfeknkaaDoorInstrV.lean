/-
  Valid instructions and code: the model's test and the program's. Conditions: at most 2^20 instructions.
-/
import Derived.Test.YtffkdidgfeknkaaDoorInstrL
import Derived.Test.YtffkdidgfeknkaaDoorBunA
namespace Go.Proofs.YtffkdidgfeknkaaDoor
set_option linter.unusedVariables false
open Go.RowKit

set_option maxRecDepth 100000 in
theorem isBetween_i (n a c : Int) (w : World) : Calls Tryd.prog 62 #[.int .i64 n, .int .i64 a, .int .i64 c] w fun e w' => e = .returned (.bool (decide (a ≤ n) && decide (n ≤ c))) ∧ w = w' := by
  by_cases z : a ≤ n
  · by_cases y : n ≤ c
    · rw [decide_eq_true z, decide_eq_true y]
      go_enter Tryd.func62, Tryd.ntmps62
      go_wp2_with fail
      go_ret
      exact ⟨ret_bool (by first | rfl | (simp; done) | (simp [z, y]; done)), rfl⟩
    · rw [decide_eq_true z, decide_eq_false y]
      go_enter Tryd.func62, Tryd.ntmps62
      go_wp2_with fail
      go_ret
      exact ⟨ret_bool (by first | (simp; done) | (simp [y]; done)), rfl⟩
  · rw [decide_eq_false z]
    go_enter Tryd.func62, Tryd.ntmps62
    go_wp2_with fail
    go_ret
    exact ⟨ret_bool (by first | (simp; done) | (simp [z]; done)), rfl⟩
theorem instrB_0 (a : Int) : instrB 0 a = (decide (-1000000 ≤ a) && decide (a ≤ 1000000)) := (instrB_in (op := 0) (by decide) (by decide)).trans (Bool.decide_and (-1000000 ≤ a) (a ≤ 1000000))
theorem instrB_1 (a : Int) : instrB 1 a = (decide (0 ≤ a) && decide (a ≤ 3)) := (instrB_in (op := 1) (by decide) (by decide)).trans (Bool.decide_and (0 ≤ a) (a ≤ 3))
theorem instrB_2 (a : Int) : instrB 2 a = (decide (0 ≤ a) && decide (a ≤ 3)) := (instrB_in (op := 2) (by decide) (by decide)).trans (Bool.decide_and (0 ≤ a) (a ≤ 3))
theorem instrB_3 (a : Int) : instrB 3 a = (a == 0) := by
  unfold instrB loB hiB
  by_cases h : a = 0
  · subst h; rfl
  · rw [decide_eq_false (by simp; omega)]; exact (by simpa using h : (a == 0) = false).symm
theorem instrB_4 (a : Int) : instrB 4 a = (decide (-1000000 ≤ a) && decide (a ≤ 1000000)) := (instrB_in (op := 4) (by decide) (by decide)).trans (Bool.decide_and (-1000000 ≤ a) (a ≤ 1000000))
theorem instrB_5 (a : Int) : instrB 5 a = (decide (0 ≤ a) && decide (a ≤ 79)) := (instrB_in (op := 5) (by decide) (by decide)).trans (Bool.decide_and (0 ≤ a) (a ≤ 79))
theorem instrB_6 (a : Int) : instrB 6 a = (decide (0 ≤ a) && decide (a ≤ 79)) := (instrB_in (op := 6) (by decide) (by decide)).trans (Bool.decide_and (0 ≤ a) (a ≤ 79))
theorem instrB_7 (a : Int) : instrB 7 a = (a == 0) := by
  unfold instrB loB hiB
  by_cases h : a = 0
  · subst h; rfl
  · rw [decide_eq_false (by simp; omega)]; exact (by simpa using h : (a == 0) = false).symm
theorem instrB_8 (a : Int) : instrB 8 a = (a == 0) := by
  unfold instrB loB hiB
  by_cases h : a = 0
  · subst h; rfl
  · rw [decide_eq_false (by simp; omega)]; exact (by simpa using h : (a == 0) = false).symm
theorem instrB_9 (a : Int) : instrB 9 a = (decide (0 ≤ a) && decide (a ≤ 3)) := (instrB_in (op := 9) (by decide) (by decide)).trans (Bool.decide_and (0 ≤ a) (a ≤ 3))
theorem instrB_10 (a : Int) : instrB 10 a = (a == 0) := by
  unfold instrB loB hiB
  by_cases h : a = 0
  · subst h; rfl
  · rw [decide_eq_false (by simp; omega)]; exact (by simpa using h : (a == 0) = false).symm
theorem instrB_11 (a : Int) : instrB 11 a = (a == 0) := by
  unfold instrB loB hiB
  by_cases h : a = 0
  · subst h; rfl
  · rw [decide_eq_false (by simp; omega)]; exact (by simpa using h : (a == 0) = false).symm

end Go.Proofs.YtffkdidgfeknkaaDoor
