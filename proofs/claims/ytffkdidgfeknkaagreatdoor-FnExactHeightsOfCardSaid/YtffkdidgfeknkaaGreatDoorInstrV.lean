/-
  Valid instructions and code: the model's test and the program's. Conditions: at most 2^20 instructions.
-/
import Derived.Test.YtffkdidgfeknkaaGreatDoorInstrL
import Derived.Test.YtffkdidgfeknkaaGreatDoorBunB
namespace Go.Proofs.YtffkdidgfeknkaaGreatDoor
set_option linter.unusedVariables false
open Go.RowKit

set_option maxRecDepth 100000 in
theorem l00In_i (n a c : Int) (w : World) : Calls Tryz.prog 52 #[.int .i64 n, .int .i64 a, .int .i64 c] w fun e w' => e = .returned (.bool (decide (a ≤ n) && decide (n ≤ c))) ∧ w = w' := by
  by_cases z : a ≤ n
  · by_cases y : n ≤ c
    · rw [decide_eq_true z, decide_eq_true y]
      go_enter Tryz.func52, Tryz.ntmps52
      go_wp2_with fail
      go_ret
      exact ⟨ret_bool (by first | rfl | (simp; done) | (simp [z, y]; done)), rfl⟩
    · rw [decide_eq_true z, decide_eq_false y]
      go_enter Tryz.func52, Tryz.ntmps52
      go_wp2_with fail
      go_ret
      exact ⟨ret_bool (by first | (simp; done) | (simp [y]; done)), rfl⟩
  · rw [decide_eq_false z]
    go_enter Tryz.func52, Tryz.ntmps52
    go_wp2_with fail
    go_ret
    exact ⟨ret_bool (by first | (simp; done) | (simp [z]; done)), rfl⟩
set_option maxRecDepth 100000 in
theorem isBetween_i (n a c : Int) (w : World) : Calls Tryz.prog 84 #[.int .i64 n, .int .i64 a, .int .i64 c] w fun e w' => e = .returned (.bool (decide (a ≤ n) && decide (n ≤ c))) ∧ w = w' := by
  by_cases z : a ≤ n
  · by_cases y : n ≤ c
    · rw [decide_eq_true z, decide_eq_true y]
      go_enter Tryz.func84, Tryz.ntmps84
      go_wp2_with fail
      go_ret
      exact ⟨ret_bool (by first | rfl | (simp; done) | (simp [z, y]; done)), rfl⟩
    · rw [decide_eq_true z, decide_eq_false y]
      go_enter Tryz.func84, Tryz.ntmps84
      go_wp2_with fail
      go_ret
      exact ⟨ret_bool (by first | (simp; done) | (simp [y]; done)), rfl⟩
  · rw [decide_eq_false z]
    go_enter Tryz.func84, Tryz.ntmps84
    go_wp2_with fail
    go_ret
    exact ⟨ret_bool (by first | (simp; done) | (simp [z]; done)), rfl⟩
theorem l02Number_i (n : Int) (w : World) : Calls Tryz.prog 94 #[.int .i64 n] w fun e w' => e = .returned (.bool (decide (-1000000 ≤ n) && decide (n ≤ 1000000))) ∧ w = w' := by
  go_enter Tryz.func94, Tryz.ntmps94
  go_wp2_with fail
  refine (l00In_i n (-1000000) 1000000 w).mono ?_
  rintro e w1 ⟨rfl, rfl⟩
  go_wp2_with fail
  go_ret
  exact ⟨rfl, rfl⟩
theorem instrB_0 (a : Int) : instrB 0 a = (decide (-1000000 ≤ a) && decide (a ≤ 1000000)) := (instrB_in (op := 0) (by decide) (by decide)).trans (Bool.decide_and (-1000000 ≤ a) (a ≤ 1000000))
theorem instrB_1 (a : Int) : instrB 1 a = (decide (0 ≤ a) && decide (a ≤ 3)) := (instrB_in (op := 1) (by decide) (by decide)).trans (Bool.decide_and (0 ≤ a) (a ≤ 3))
theorem instrB_2 (a : Int) : instrB 2 a = (decide (0 ≤ a) && decide (a ≤ 3)) := (instrB_in (op := 2) (by decide) (by decide)).trans (Bool.decide_and (0 ≤ a) (a ≤ 3))
theorem instrB_3 (a : Int) : instrB 3 a = (a == 0) := by
  unfold instrB loB hiB
  by_cases h : a = 0
  · subst h; rfl
  · rw [decide_eq_false (by simp; omega)]; exact (by simpa using h : (a == 0) = false).symm
theorem instrB_4 (a : Int) : instrB 4 a = (decide (-1000000 ≤ a) && decide (a ≤ 1000000)) := (instrB_in (op := 4) (by decide) (by decide)).trans (Bool.decide_and (-1000000 ≤ a) (a ≤ 1000000))
theorem instrB_5 (a : Int) : instrB 5 a = (decide (0 ≤ a) && decide (a ≤ 79)) := (instrB_in (op := 5) (by decide) (by decide)).trans (Bool.decide_and (0 ≤ a) (a ≤ 79))
theorem instrB_6 (a : Int) : instrB 6 a = (decide (0 ≤ a) && decide (a ≤ 79)) := (instrB_in (op := 6) (by decide) (by decide)).trans (Bool.decide_and (0 ≤ a) (a ≤ 79))
theorem instrB_7 (a : Int) : instrB 7 a = (a == 0) := by
  unfold instrB loB hiB
  by_cases h : a = 0
  · subst h; rfl
  · rw [decide_eq_false (by simp; omega)]; exact (by simpa using h : (a == 0) = false).symm
theorem instrB_8 (a : Int) : instrB 8 a = (a == 0) := by
  unfold instrB loB hiB
  by_cases h : a = 0
  · subst h; rfl
  · rw [decide_eq_false (by simp; omega)]; exact (by simpa using h : (a == 0) = false).symm
theorem instrB_9 (a : Int) : instrB 9 a = (decide (0 ≤ a) && decide (a ≤ 3)) := (instrB_in (op := 9) (by decide) (by decide)).trans (Bool.decide_and (0 ≤ a) (a ≤ 3))
theorem instrB_10 (a : Int) : instrB 10 a = (a == 0) := by
  unfold instrB loB hiB
  by_cases h : a = 0
  · subst h; rfl
  · rw [decide_eq_false (by simp; omega)]; exact (by simpa using h : (a == 0) = false).symm
theorem instrB_11 (a : Int) : instrB 11 a = (a == 0) := by
  unfold instrB loB hiB
  by_cases h : a = 0
  · subst h; rfl
  · rw [decide_eq_false (by simp; omega)]; exact (by simpa using h : (a == 0) = false).symm

set_option maxRecDepth 100000 in
set_option maxHeartbeats 1000000 in
theorem l07Instr_c (op a : Int) (w : World) :
    Calls Tryz.prog 81 #[.agg #[.int .i64 op, .int .i64 a]] w fun e w' => e = .returned (.bool (instrB op a)) ∧ Below w.heap.size w w' := by
  have hb0 := bnew w (.cells #[.int .i64 op, .int .i64 a] 92)
  by_cases h : 0 ≤ op ∧ op ≤ 11
  · have hc : op = 0 ∨ op = 1 ∨ op = 2 ∨ op = 3 ∨ op = 4 ∨ op = 5 ∨ op = 6 ∨ op = 7 ∨ op = 8 ∨ op = 9 ∨ op = 10 ∨ op = 11 := by omega
    clear h
    rcases hc with rfl | rfl | rfl | rfl | rfl | rfl | rfl | rfl | rfl | rfl | rfl | rfl
    · have HV := Lib.hid (instrB_0 a)
      go_enter Tryz.func81, Tryz.ntmps81
      go_wp2_with fail
      refine (l02Number_i a _).mono ?_
      rintro e w1 ⟨rfl, rfl⟩
      go_wp2_with fail
      go_ret
      exact ⟨ret_bool HV.out.symm, hb0⟩
    · have HV := Lib.hid (instrB_1 a)
      go_enter Tryz.func81, Tryz.ntmps81
      go_wp2_with fail
      refine (l00In_i a 0 3 _).mono ?_
      rintro e w1 ⟨rfl, rfl⟩
      go_wp2_with fail
      go_ret
      exact ⟨ret_bool HV.out.symm, hb0⟩
    · have HV := Lib.hid (instrB_2 a)
      go_enter Tryz.func81, Tryz.ntmps81
      go_wp2_with fail
      refine (l00In_i a 0 3 _).mono ?_
      rintro e w1 ⟨rfl, rfl⟩
      go_wp2_with fail
      go_ret
      exact ⟨ret_bool HV.out.symm, hb0⟩
    · have HV := Lib.hid (instrB_3 a)
      go_enter Tryz.func81, Tryz.ntmps81
      go_wp2_with fail
      go_ret
      exact ⟨ret_bool HV.out.symm, hb0⟩
    · have HV := Lib.hid (instrB_4 a)
      go_enter Tryz.func81, Tryz.ntmps81
      go_wp2_with fail
      refine (l02Number_i a _).mono ?_
      rintro e w1 ⟨rfl, rfl⟩
      go_wp2_with fail
      go_ret
      exact ⟨ret_bool HV.out.symm, hb0⟩
    · have HV := Lib.hid (instrB_5 a)
      go_enter Tryz.func81, Tryz.ntmps81
      go_wp2_with fail
      refine (l00In_i a 0 79 _).mono ?_
      rintro e w1 ⟨rfl, rfl⟩
      go_wp2_with fail
      go_ret
      exact ⟨ret_bool HV.out.symm, hb0⟩
    · have HV := Lib.hid (instrB_6 a)
      go_enter Tryz.func81, Tryz.ntmps81
      go_wp2_with fail
      refine (l00In_i a 0 79 _).mono ?_
      rintro e w1 ⟨rfl, rfl⟩
      go_wp2_with fail
      go_ret
      exact ⟨ret_bool HV.out.symm, hb0⟩
    · have HV := Lib.hid (instrB_7 a)
      go_enter Tryz.func81, Tryz.ntmps81
      go_wp2_with fail
      go_ret
      exact ⟨ret_bool HV.out.symm, hb0⟩
    · have HV := Lib.hid (instrB_8 a)
      go_enter Tryz.func81, Tryz.ntmps81
      go_wp2_with fail
      go_ret
      exact ⟨ret_bool HV.out.symm, hb0⟩
    · have HV := Lib.hid (instrB_9 a)
      go_enter Tryz.func81, Tryz.ntmps81
      go_wp2_with fail
      refine (l00In_i a 0 3 _).mono ?_
      rintro e w1 ⟨rfl, rfl⟩
      go_wp2_with fail
      go_ret
      exact ⟨ret_bool HV.out.symm, hb0⟩
    · have HV := Lib.hid (instrB_10 a)
      go_enter Tryz.func81, Tryz.ntmps81
      go_wp2_with fail
      go_ret
      exact ⟨ret_bool HV.out.symm, hb0⟩
    · have HV := Lib.hid (instrB_11 a)
      go_enter Tryz.func81, Tryz.ntmps81
      go_wp2_with fail
      go_ret
      exact ⟨ret_bool HV.out.symm, hb0⟩
  · have HV := Lib.hid (instrB_out (a := a) h)
    have e0 : (op == 0) = false := by simp; omega
    have e1 : (op == 1) = false := by simp; omega
    have e2 : (op == 2) = false := by simp; omega
    have e3 : (op == 3) = false := by simp; omega
    have e4 : (op == 4) = false := by simp; omega
    have e5 : (op == 5) = false := by simp; omega
    have e6 : (op == 6) = false := by simp; omega
    have e7 : (op == 7) = false := by simp; omega
    have e8 : (op == 8) = false := by simp; omega
    have e9 : (op == 9) = false := by simp; omega
    have e10 : (op == 10) = false := by simp; omega
    have e11 : (op == 11) = false := by simp; omega
    clear h
    go_enter Tryz.func81, Tryz.ntmps81
    go_wp2_with fail
    go_ret
    exact ⟨ret_bool HV.out.symm, hb0⟩

end Go.Proofs.YtffkdidgfeknkaaGreatDoor
