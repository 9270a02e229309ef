/-
  Several texts in one: InstrV, Ops, Form, OverI. Conditions: as each says.
-/
import Derived.Test.YtffkdidgfeknkaaGreatDoorInstrL
import Derived.Test.YtffkdidgfeknkaaGreatDoorBunB
import Derived.Laws.EntriesVeiled
import Derived.Deep.WholeRow
import Derived.Great.BuildSlice
import Derived.Test.YtffkdidgfeknkaaGreatDoorBunC
import Derived.Test.YtffkdidgfeknkaaGreatDoorTermsC

/-! Valid instructions and code: the model's test and the program's. Conditions: at most 2^20 instructions. -/
namespace Go.Proofs.YtffkdidgfeknkaaGreatDoor
set_option linter.unusedVariables false
open Go.RowKit

set_option maxRecDepth 100000 in
theorem l00In_i (n a c : Int) (w : World) : Calls Tryz.prog 52 #[.int .i64 n, .int .i64 a, .int .i64 c] w fun e w' => e = .returned (.bool (decide (a ≤ n) && decide (n ≤ c))) ∧ w = w' := by
  by_cases z : a ≤ n
  · by_cases y : n ≤ c
    · rw [decide_eq_true z, decide_eq_true y]
      go_enter Tryz.func52, Tryz.ntmps52
      go_wp2_with fail
      go_ret
      exact ⟨ret_bool (by first | rfl | (simp; done) | (simp [z, y]; done)), rfl⟩
    · rw [decide_eq_true z, decide_eq_false y]
      go_enter Tryz.func52, Tryz.ntmps52
      go_wp2_with fail
      go_ret
      exact ⟨ret_bool (by first | (simp; done) | (simp [y]; done)), rfl⟩
  · rw [decide_eq_false z]
    go_enter Tryz.func52, Tryz.ntmps52
    go_wp2_with fail
    go_ret
    exact ⟨ret_bool (by first | (simp; done) | (simp [z]; done)), rfl⟩
set_option maxRecDepth 100000 in
theorem isBetween_i (n a c : Int) (w : World) : Calls Tryz.prog 84 #[.int .i64 n, .int .i64 a, .int .i64 c] w fun e w' => e = .returned (.bool (decide (a ≤ n) && decide (n ≤ c))) ∧ w = w' := by
  by_cases z : a ≤ n
  · by_cases y : n ≤ c
    · rw [decide_eq_true z, decide_eq_true y]
      go_enter Tryz.func84, Tryz.ntmps84
      go_wp2_with fail
      go_ret
      exact ⟨ret_bool (by first | rfl | (simp; done) | (simp [z, y]; done)), rfl⟩
    · rw [decide_eq_true z, decide_eq_false y]
      go_enter Tryz.func84, Tryz.ntmps84
      go_wp2_with fail
      go_ret
      exact ⟨ret_bool (by first | (simp; done) | (simp [y]; done)), rfl⟩
  · rw [decide_eq_false z]
    go_enter Tryz.func84, Tryz.ntmps84
    go_wp2_with fail
    go_ret
    exact ⟨ret_bool (by first | (simp; done) | (simp [z]; done)), rfl⟩
theorem l02Number_i (n : Int) (w : World) : Calls Tryz.prog 94 #[.int .i64 n] w fun e w' => e = .returned (.bool (decide (-1000000 ≤ n) && decide (n ≤ 1000000))) ∧ w = w' := by
  go_enter Tryz.func94, Tryz.ntmps94
  go_wp2_with fail
  refine (l00In_i n (-1000000) 1000000 w).mono ?_
  rintro e w1 ⟨rfl, rfl⟩
  go_wp2_with fail
  go_ret
  exact ⟨rfl, rfl⟩
theorem instrB_0 (a : Int) : instrB 0 a = (decide (-1000000 ≤ a) && decide (a ≤ 1000000)) := (instrB_in (op := 0) (by decide) (by decide)).trans (Bool.decide_and (-1000000 ≤ a) (a ≤ 1000000))
theorem instrB_1 (a : Int) : instrB 1 a = (decide (0 ≤ a) && decide (a ≤ 3)) := (instrB_in (op := 1) (by decide) (by decide)).trans (Bool.decide_and (0 ≤ a) (a ≤ 3))
theorem instrB_2 (a : Int) : instrB 2 a = (decide (0 ≤ a) && decide (a ≤ 3)) := (instrB_in (op := 2) (by decide) (by decide)).trans (Bool.decide_and (0 ≤ a) (a ≤ 3))
theorem instrB_3 (a : Int) : instrB 3 a = (a == 0) := by
  unfold instrB loB hiB
  by_cases h : a = 0
  · subst h; rfl
  · rw [decide_eq_false (by simp; omega)]; exact (by simpa using h : (a == 0) = false).symm
theorem instrB_4 (a : Int) : instrB 4 a = (decide (-1000000 ≤ a) && decide (a ≤ 1000000)) := (instrB_in (op := 4) (by decide) (by decide)).trans (Bool.decide_and (-1000000 ≤ a) (a ≤ 1000000))
theorem instrB_5 (a : Int) : instrB 5 a = (decide (0 ≤ a) && decide (a ≤ 79)) := (instrB_in (op := 5) (by decide) (by decide)).trans (Bool.decide_and (0 ≤ a) (a ≤ 79))
theorem instrB_6 (a : Int) : instrB 6 a = (decide (0 ≤ a) && decide (a ≤ 79)) := (instrB_in (op := 6) (by decide) (by decide)).trans (Bool.decide_and (0 ≤ a) (a ≤ 79))
theorem instrB_7 (a : Int) : instrB 7 a = (a == 0) := by
  unfold instrB loB hiB
  by_cases h : a = 0
  · subst h; rfl
  · rw [decide_eq_false (by simp; omega)]; exact (by simpa using h : (a == 0) = false).symm
theorem instrB_8 (a : Int) : instrB 8 a = (a == 0) := by
  unfold instrB loB hiB
  by_cases h : a = 0
  · subst h; rfl
  · rw [decide_eq_false (by simp; omega)]; exact (by simpa using h : (a == 0) = false).symm
theorem instrB_9 (a : Int) : instrB 9 a = (decide (0 ≤ a) && decide (a ≤ 3)) := (instrB_in (op := 9) (by decide) (by decide)).trans (Bool.decide_and (0 ≤ a) (a ≤ 3))
theorem instrB_10 (a : Int) : instrB 10 a = (a == 0) := by
  unfold instrB loB hiB
  by_cases h : a = 0
  · subst h; rfl
  · rw [decide_eq_false (by simp; omega)]; exact (by simpa using h : (a == 0) = false).symm
theorem instrB_11 (a : Int) : instrB 11 a = (a == 0) := by
  unfold instrB loB hiB
  by_cases h : a = 0
  · subst h; rfl
  · rw [decide_eq_false (by simp; omega)]; exact (by simpa using h : (a == 0) = false).symm

set_option maxRecDepth 100000 in
set_option maxHeartbeats 1000000 in
theorem l07Instr_c (op a : Int) (w : World) :
    Calls Tryz.prog 81 #[.agg #[.int .i64 op, .int .i64 a]] w fun e w' => e = .returned (.bool (instrB op a)) ∧ Below w.heap.size w w' := by
  have hb0 := bnew w (.cells #[.int .i64 op, .int .i64 a] 92)
  by_cases h : 0 ≤ op ∧ op ≤ 11
  · have hc : op = 0 ∨ op = 1 ∨ op = 2 ∨ op = 3 ∨ op = 4 ∨ op = 5 ∨ op = 6 ∨ op = 7 ∨ op = 8 ∨ op = 9 ∨ op = 10 ∨ op = 11 := by omega
    clear h
    rcases hc with rfl | rfl | rfl | rfl | rfl | rfl | rfl | rfl | rfl | rfl | rfl | rfl
    · have HV := Lib.hid (instrB_0 a)
      go_enter Tryz.func81, Tryz.ntmps81
      go_wp2_with fail
      refine (l02Number_i a _).mono ?_
      rintro e w1 ⟨rfl, rfl⟩
      go_wp2_with fail
      go_ret
      exact ⟨ret_bool HV.out.symm, hb0⟩
    · have HV := Lib.hid (instrB_1 a)
      go_enter Tryz.func81, Tryz.ntmps81
      go_wp2_with fail
      refine (l00In_i a 0 3 _).mono ?_
      rintro e w1 ⟨rfl, rfl⟩
      go_wp2_with fail
      go_ret
      exact ⟨ret_bool HV.out.symm, hb0⟩
    · have HV := Lib.hid (instrB_2 a)
      go_enter Tryz.func81, Tryz.ntmps81
      go_wp2_with fail
      refine (l00In_i a 0 3 _).mono ?_
      rintro e w1 ⟨rfl, rfl⟩
      go_wp2_with fail
      go_ret
      exact ⟨ret_bool HV.out.symm, hb0⟩
    · have HV := Lib.hid (instrB_3 a)
      go_enter Tryz.func81, Tryz.ntmps81
      go_wp2_with fail
      go_ret
      exact ⟨ret_bool HV.out.symm, hb0⟩
    · have HV := Lib.hid (instrB_4 a)
      go_enter Tryz.func81, Tryz.ntmps81
      go_wp2_with fail
      refine (l02Number_i a _).mono ?_
      rintro e w1 ⟨rfl, rfl⟩
      go_wp2_with fail
      go_ret
      exact ⟨ret_bool HV.out.symm, hb0⟩
    · have HV := Lib.hid (instrB_5 a)
      go_enter Tryz.func81, Tryz.ntmps81
      go_wp2_with fail
      refine (l00In_i a 0 79 _).mono ?_
      rintro e w1 ⟨rfl, rfl⟩
      go_wp2_with fail
      go_ret
      exact ⟨ret_bool HV.out.symm, hb0⟩
    · have HV := Lib.hid (instrB_6 a)
      go_enter Tryz.func81, Tryz.ntmps81
      go_wp2_with fail
      refine (l00In_i a 0 79 _).mono ?_
      rintro e w1 ⟨rfl, rfl⟩
      go_wp2_with fail
      go_ret
      exact ⟨ret_bool HV.out.symm, hb0⟩
    · have HV := Lib.hid (instrB_7 a)
      go_enter Tryz.func81, Tryz.ntmps81
      go_wp2_with fail
      go_ret
      exact ⟨ret_bool HV.out.symm, hb0⟩
    · have HV := Lib.hid (instrB_8 a)
      go_enter Tryz.func81, Tryz.ntmps81
      go_wp2_with fail
      go_ret
      exact ⟨ret_bool HV.out.symm, hb0⟩
    · have HV := Lib.hid (instrB_9 a)
      go_enter Tryz.func81, Tryz.ntmps81
      go_wp2_with fail
      refine (l00In_i a 0 3 _).mono ?_
      rintro e w1 ⟨rfl, rfl⟩
      go_wp2_with fail
      go_ret
      exact ⟨ret_bool HV.out.symm, hb0⟩
    · have HV := Lib.hid (instrB_10 a)
      go_enter Tryz.func81, Tryz.ntmps81
      go_wp2_with fail
      go_ret
      exact ⟨ret_bool HV.out.symm, hb0⟩
    · have HV := Lib.hid (instrB_11 a)
      go_enter Tryz.func81, Tryz.ntmps81
      go_wp2_with fail
      go_ret
      exact ⟨ret_bool HV.out.symm, hb0⟩
  · have HV := Lib.hid (instrB_out (a := a) h)
    have e0 : (op == 0) = false := by simp; omega
    have e1 : (op == 1) = false := by simp; omega
    have e2 : (op == 2) = false := by simp; omega
    have e3 : (op == 3) = false := by simp; omega
    have e4 : (op == 4) = false := by simp; omega
    have e5 : (op == 5) = false := by simp; omega
    have e6 : (op == 6) = false := by simp; omega
    have e7 : (op == 7) = false := by simp; omega
    have e8 : (op == 8) = false := by simp; omega
    have e9 : (op == 9) = false := by simp; omega
    have e10 : (op == 10) = false := by simp; omega
    have e11 : (op == 11) = false := by simp; omega
    clear h
    go_enter Tryz.func81, Tryz.ntmps81
    go_wp2_with fail
    go_ret
    exact ⟨ret_bool HV.out.symm, hb0⟩

end Go.Proofs.YtffkdidgfeknkaaGreatDoor

/-! The table of operations that the program builds. No conditions. -/
namespace Go.Proofs.YtffkdidgfeknkaaGreatDoor
set_option linter.unusedVariables false
open Go.RowKit

def opsV : Array Value := #[.string ⟨#[112, 117, 115, 104]⟩, .int .i64 (-1000000), .int .i64 1000000, .int .i64 0, .int .i64 1, .func (Fn.func 99) #[] #[], .string ⟨#[108, 111, 97, 100]⟩, .int .i64 0, .int .i64 3, .int .i64 0, .int .i64 1, .func (Fn.func 100) #[] #[], .string ⟨#[115, 116, 111, 114, 101]⟩, .int .i64 0, .int .i64 3, .int .i64 1, .int .i64 0, .func (Fn.func 101) #[] #[], .string ⟨#[97, 100, 100]⟩, .int .i64 0, .int .i64 0, .int .i64 2, .int .i64 1, .func (Fn.func 102) #[] #[], .string ⟨#[115, 99, 97, 108, 101]⟩, .int .i64 (-1000000), .int .i64 1000000, .int .i64 1, .int .i64 1, .func (Fn.func 103) #[] #[], .string ⟨#[106, 117, 109, 112]⟩, .int .i64 0, .int .i64 79, .int .i64 0, .int .i64 0, .func (Fn.func 104) #[] #[], .string ⟨#[116, 101, 115, 116]⟩, .int .i64 0, .int .i64 79, .int .i64 1, .int .i64 0, .func (Fn.func 105) #[] #[], .string ⟨#[103, 101, 116]⟩, .int .i64 0, .int .i64 0, .int .i64 1, .int .i64 1, .func (Fn.func 106) #[] #[], .string ⟨#[112, 117, 116]⟩, .int .i64 0, .int .i64 0, .int .i64 2, .int .i64 0, .func (Fn.func 107) #[] #[], .string ⟨#[101, 109, 105, 116]⟩, .int .i64 0, .int .i64 3, .int .i64 0, .int .i64 0, .func (Fn.func 108) #[] #[], .string ⟨#[99, 104, 101, 99, 107]⟩, .int .i64 0, .int .i64 0, .int .i64 1, .int .i64 0, .func (Fn.func 109) #[] #[], .string ⟨#[104, 97, 108, 116]⟩, .int .i64 0, .int .i64 0, .int .i64 0, .int .i64 0, .func (Fn.func 110) #[] #[]]
theorem results_cell_one {fn : Func} {p : Tmp} {ty : TypeId} (h : fn.results = #[.cell p ty]) (tmps : Array Value) (P : Program) (w : World) :
    (results fn tmps).run P w = ((asAddr (tmps.getD p undef)).run P w).andThen fun a w₁ => (loadVar ty a).run P w₁ := by
  simp only [results, h]
  simp [Sem.run_bind, Result.andThen]
theorem results_ops (w : World) (c : Array Value) (hi : (Tryz.prog.info? 138).map (·.size) = some c.size) (tmps : Array Value) (ht : tmps.getD 0 undef = .pointer (some ⟨w.heap.size, 0, none⟩)) :
    (results Tryz.f95 tmps).run Tryz.prog (w.alloc (.cells c 138)) = .ok (.agg c) (w.alloc (.cells c 138)) := by
  rw [results_cell_one rfl, ht]
  simp [asAddr, Result.andThen]
  exact run_loadVar_new (P := Tryz.prog) w 138 c 12 126 Tryz.underlying138 hi

set_option maxRecDepth 100000 in
set_option maxHeartbeats 4000000 in
theorem operations_c (w : World) :
    Calls Tryz.prog 95 #[] w fun e w' => e = .returned (.agg opsV) ∧ Below w.heap.size w w' := by
  have hk : (Tryz.prog.info? 138).map (·.size) = some opsV.size := by kernel_rfl
  go_enter Tryz.func95, Tryz.ntmps95
  go_wp2_with (first
    | (refine wpList_buildTo rfl 138 _ rfl (some 13) rfl opsV (by kernel_rfl) ?_)
    | (refine wpList_store_rowTo rfl 138 _ _ rfl rfl w.heap.size opsV rfl rfl 138 _ (heap_alloc_last w _) hk (by kernel_rfl) (by kernel_rfl) ?_; rw [World.setRow_alloc_new]))
  exact bodyPost_ret (results_ops w opsV hk _ rfl) rfl ⟨rfl, bnew _ _⟩
end Go.Proofs.YtffkdidgfeknkaaGreatDoor

/-! The row of an operation, and the program's ValidInstr and ValidCode. Conditions: at most 2^20 instructions. -/
namespace Go.Proofs.YtffkdidgfeknkaaGreatDoor
set_option linter.unusedVariables false
open Go.RowKit

theorem set_far7 {w : World} {b o g i : Nat} {u v : Value} (hne : b ≠ g) (hc : w.cell? ⟨b, o, none⟩ = some v) : (w.setCell ⟨g, i, none⟩ u).cell? ⟨b, o, none⟩ = some v :=
  (World.cell?_of_block (a := ⟨b, o, none⟩) (Below.heap_setCell w ⟨g, i, none⟩ u b hne)).trans hc
def nmB (op : Int) : ByteArray := if op = 0 then ⟨#[112, 117, 115, 104]⟩ else if op = 1 then ⟨#[108, 111, 97, 100]⟩ else if op = 2 then ⟨#[115, 116, 111, 114, 101]⟩ else if op = 3 then ⟨#[97, 100, 100]⟩ else if op = 4 then ⟨#[115, 99, 97, 108, 101]⟩ else if op = 5 then ⟨#[106, 117, 109, 112]⟩ else if op = 6 then ⟨#[116, 101, 115, 116]⟩ else if op = 7 then ⟨#[103, 101, 116]⟩ else if op = 8 then ⟨#[112, 117, 116]⟩ else if op = 9 then ⟨#[101, 109, 105, 116]⟩ else if op = 10 then ⟨#[99, 104, 101, 99, 107]⟩ else ⟨#[104, 97, 108, 116]⟩
def efB (op : Int) : Nat := if op = 0 then 99 else if op = 1 then 100 else if op = 2 then 101 else if op = 3 then 102 else if op = 4 then 103 else if op = 5 then 104 else if op = 6 then 105 else if op = 7 then 106 else if op = 8 then 107 else if op = 9 then 108 else if op = 10 then 109 else 110
/-- The row of an operation. -/
def opV (op : Int) : Array Value := #[.string (nmB op), .int .i64 (loB op), .int .i64 (hiB op), .int .i64 (popB op), .int .i64 (pushB op), .func (Fn.func (efB op)) #[] #[]]

theorem ix0 (w : World) : (Instr.index 138 (.agg opsV) (.int .i64 0)).run Tryz.prog w = .ok (.agg (opV 0)) w := by kernel_rfl
theorem ix1 (w : World) : (Instr.index 138 (.agg opsV) (.int .i64 1)).run Tryz.prog w = .ok (.agg (opV 1)) w := by kernel_rfl
theorem ix2 (w : World) : (Instr.index 138 (.agg opsV) (.int .i64 2)).run Tryz.prog w = .ok (.agg (opV 2)) w := by kernel_rfl
theorem ix3 (w : World) : (Instr.index 138 (.agg opsV) (.int .i64 3)).run Tryz.prog w = .ok (.agg (opV 3)) w := by kernel_rfl
theorem ix4 (w : World) : (Instr.index 138 (.agg opsV) (.int .i64 4)).run Tryz.prog w = .ok (.agg (opV 4)) w := by kernel_rfl
theorem ix5 (w : World) : (Instr.index 138 (.agg opsV) (.int .i64 5)).run Tryz.prog w = .ok (.agg (opV 5)) w := by kernel_rfl
theorem ix6 (w : World) : (Instr.index 138 (.agg opsV) (.int .i64 6)).run Tryz.prog w = .ok (.agg (opV 6)) w := by kernel_rfl
theorem ix7 (w : World) : (Instr.index 138 (.agg opsV) (.int .i64 7)).run Tryz.prog w = .ok (.agg (opV 7)) w := by kernel_rfl
theorem ix8 (w : World) : (Instr.index 138 (.agg opsV) (.int .i64 8)).run Tryz.prog w = .ok (.agg (opV 8)) w := by kernel_rfl
theorem ix9 (w : World) : (Instr.index 138 (.agg opsV) (.int .i64 9)).run Tryz.prog w = .ok (.agg (opV 9)) w := by kernel_rfl
theorem ix10 (w : World) : (Instr.index 138 (.agg opsV) (.int .i64 10)).run Tryz.prog w = .ok (.agg (opV 10)) w := by kernel_rfl
theorem ix11 (w : World) : (Instr.index 138 (.agg opsV) (.int .i64 11)).run Tryz.prog w = .ok (.agg (opV 11)) w := by kernel_rfl
theorem index_ops (op : Int) (h : 0 ≤ op ∧ op ≤ 11) (w : World) : (Instr.index 138 (.agg opsV) (.int .i64 op)).run Tryz.prog w = .ok (.agg (opV op)) w := by
  have hc : op = 0 ∨ op = 1 ∨ op = 2 ∨ op = 3 ∨ op = 4 ∨ op = 5 ∨ op = 6 ∨ op = 7 ∨ op = 8 ∨ op = 9 ∨ op = 10 ∨ op = 11 := by omega
  clear h
  rcases hc with rfl | rfl | rfl | rfl | rfl | rfl | rfl | rfl | rfl | rfl | rfl | rfl
  · exact ix0 w
  · exact ix1 w
  · exact ix2 w
  · exact ix3 w
  · exact ix4 w
  · exact ix5 w
  · exact ix6 w
  · exact ix7 w
  · exact ix8 w
  · exact ix9 w
  · exact ix10 w
  · exact ix11 w

set_option maxRecDepth 100000 in
set_option maxHeartbeats 4000000 in
theorem form_c (op a : Int) (w : World) (h : 0 ≤ op ∧ op ≤ 11) :
    Calls Tryz.prog 87 #[.agg #[.int .i64 op, .int .i64 a]] w fun e w' => e = .returned (.agg (opV op)) ∧ Below w.heap.size w w' := by
  have hix := index_ops op h
  have hb0 : Below w.heap.size w ((w.alloc (.cells #[.int .i64 op, .int .i64 a] 92)).alloc (.cells #[.string ⟨#[]⟩, .int .i64 0, .int .i64 0, .int .i64 0, .int .i64 0, .nilFunc] 126)) := bon (bnew _ _) (bnew _ _)
  have hX : BlkIs ((w.alloc (.cells #[.int .i64 op, .int .i64 a] 92)).alloc (.cells #[.string ⟨#[]⟩, .int .i64 0, .int .i64 0, .int .i64 0, .int .i64 0, .nilFunc] 126)) (w.heap.size + 1) 126 #[.string ⟨#[]⟩, .int .i64 0, .int .i64 0, .int .i64 0, .int .i64 0, .nilFunc] := blk_new _ _ _ _ (by simp)
  have p0 : ((w.alloc (.cells #[.int .i64 op, .int .i64 a] 92)).alloc (.cells #[.string ⟨#[]⟩, .int .i64 0, .int .i64 0, .int .i64 0, .int .i64 0, .nilFunc] 126)).cell? ⟨w.heap.size, 0, none⟩ = some (.int .i64 op) := by simp
  have hsz : ((w.alloc (.cells #[.int .i64 op, .int .i64 a] 92)).alloc (.cells #[.string ⟨#[]⟩, .int .i64 0, .int .i64 0, .int .i64 0, .int .i64 0, .nilFunc] 126)).heap.size = w.heap.size + 2 := by simp
  have hne : w.heap.size ≠ w.heap.size + 1 := by omega
  go_enter Tryz.func87, Tryz.ntmps87
  go_wp2_with fail
  generalize (w.alloc (.cells #[.int .i64 op, .int .i64 a] 92)).alloc (.cells #[.string ⟨#[]⟩, .int .i64 0, .int .i64 0, .int .i64 0, .int .i64 0, .nilFunc] 126) = W at hb0 hX p0 hsz ⊢
  have HO := Lib.hid (operations_c W.drew)
  have HX := Lib.hid (show BlkIs W.drew (w.heap.size + 1) 126 #[.string ⟨#[]⟩, .int .i64 0, .int .i64 0, .int .i64 0, .int .i64 0, .nilFunc] from hX)
  have HV : Hid (opV op = #[.string (nmB op), .int .i64 (loB op), .int .i64 (hiB op), .int .i64 (popB op), .int .i64 (pushB op), .func (Fn.func (efB op)) #[] #[]]) := rfl
  rw [HV.out] at hix
  clear hX
  go_region_held3 (fun w' => w'.cell? ⟨w.heap.size, 0, none⟩ = some (.int .i64 op))
    (first | go_keep | exact cell_on p0 hb1 | exact set_far7 hne (set_far7 hne (set_far7 hne (set_far7 hne (set_far7 hne (set_far7 hne (cell_on p0 hb1)))))) | fail "keep")
    (first | (go_at_call 95; refine HO.out.mono ?_; rintro e w1 ⟨rfl, hb1⟩; have hX1 := HX.out.next hb1; have z0 := hX1.cell 0; have z1 := hX1.cell 1; have z2 := hX1.cell 2; have z3 := hX1.cell 3; have z4 := hX1.cell 4; have z5 := hX1.cell 5; have f0 := hX1.frozen 0; have f1 := hX1.frozen 1; have f2 := hX1.frozen 2; have f3 := hX1.frozen 3; have f4 := hX1.frozen 4; have f5 := hX1.frozen 5; simp at z0 z1 z2 z3 z4 z5) | fail "arm")
  have hX2 := (((((hX1.set 0 (.string (nmB op))).set 1 (.int .i64 (loB op))).set 2 (.int .i64 (hiB op))).set 3 (.int .i64 (popB op))).set 4 (.int .i64 (pushB op))).set 5 (.func (Fn.func (efB op)) #[] #[])
  simp at hX2
  have r0 := hX2.cell 0
  have r1 := hX2.cell 1
  have r2 := hX2.cell 2
  have r3 := hX2.cell 3
  have r4 := hX2.cell 4
  have r5 := hX2.cell 5
  simp at r0 r1 r2 r3 r4 r5
  have ho : Out (w.heap.size + 1) (w.heap.size + 2) w1 ((((((w1.setCell ⟨w.heap.size + 1, 0, none⟩ (.string (nmB op))).setCell ⟨w.heap.size + 1, 1, none⟩ (.int .i64 (loB op))).setCell ⟨w.heap.size + 1, 2, none⟩ (.int .i64 (hiB op))).setCell ⟨w.heap.size + 1, 3, none⟩ (.int .i64 (popB op))).setCell ⟨w.heap.size + 1, 4, none⟩ (.int .i64 (pushB op))).setCell ⟨w.heap.size + 1, 5, none⟩ (.func (Fn.func (efB op)) #[] #[])) := out_set (out_set (out_set (out_set (out_set (out_set (Out.refl _ _ _) (by omega)) (by omega)) (by omega)) (by omega)) (by omega)) (by omega)
  have hb01 := bon hb0 (bstep hb1)
  have hs1 := (bstep hb1).size
  go_wp2_with fail
  refine bodyPost_ret (v := .agg (opV op)) (by rw [HV.out]; simp [results, Tryz.results87, go_sem, r0, r1, r2, r3, r4, r5]) rfl ?_
  exact ⟨rfl, hb01.trans (ho.below (by omega) hb01.size)⟩

set_option maxRecDepth 100000 in
set_option maxHeartbeats 2000000 in
theorem implInstr_c (op a : Int) (w : World) :
    Calls Tryz.prog 85 #[.agg #[.int .i64 op, .int .i64 a]] w fun e w' => e = .returned (.bool (instrB op a)) ∧ Below w.heap.size w w' := by
  have hb0 := bnew w (.cells #[.int .i64 op, .int .i64 a] 92)
  have hP : BlkIs (w.alloc (.cells #[.int .i64 op, .int .i64 a] 92)) w.heap.size 92 #[.int .i64 op, .int .i64 a] := blk_new _ _ _ _ rfl
  have p0 : (w.alloc (.cells #[.int .i64 op, .int .i64 a] 92)).cell? ⟨w.heap.size, 0, none⟩ = some (.int .i64 op) := hP.cell 0
  have p1 : (w.alloc (.cells #[.int .i64 op, .int .i64 a] 92)).cell? ⟨w.heap.size, 1, none⟩ = some (.int .i64 a) := hP.cell 1
  have HB := Lib.hid (isBetween_i op 0 11)
  by_cases h : 0 ≤ op ∧ op ≤ 11
  · have HV := Lib.hid ((instrB_in (a := a) h.1 h.2).trans (Bool.decide_and (loB op ≤ a) (a ≤ hiB op)))
    have e0 : (decide (0 ≤ op) && decide (op ≤ 11)) = true := by simp [h]
    rw [e0] at HB
    have HF := Lib.hid (form_c op a (w.alloc (.cells #[.int .i64 op, .int .i64 a] 92)) h)
    clear h e0
    go_enter Tryz.func85, Tryz.ntmps85
    go_wp2_with fail
    generalize w.alloc (.cells #[.int .i64 op, .int .i64 a] 92) = W at hb0 hP p0 p1 HF ⊢
    refine (HB.out W).mono ?_
    rintro e w1 ⟨rfl, rfl⟩
    go_wp2_with fail
    refine HF.out.mono ?_
    rintro e w2 ⟨rfl, hb2⟩
    have hP2 := hP.next hb2
    have q1 : (w2.alloc (.cells (opV op) 126)).cell? ⟨w.heap.size, 1, none⟩ = some (.int .i64 a) := by have := (hP2.next (bnew w2 (.cells (opV op) 126))).cell 1; simpa using this
    have hR : BlkIs (w2.alloc (.cells (opV op) 126)) w2.heap.size 126 (opV op) := blk_new _ _ _ _ rfl
    have r1 : (w2.alloc (.cells (opV op) 126)).cell? ⟨w2.heap.size, 1, none⟩ = some (.int .i64 (loB op)) := hR.cell 1
    have r2 : (w2.alloc (.cells (opV op) 126)).cell? ⟨w2.heap.size, 2, none⟩ = some (.int .i64 (hiB op)) := hR.cell 2
    have hb02 := bon (bon hb0 hb2) (bnew w2 (.cells (opV op) 126))
    unfold opV at q1 r1 r2 hb02 ⊢
    go_wp2_with fail
    refine (isBetween_i a (loB op) (hiB op) _).mono ?_
    rintro e w3 ⟨rfl, rfl⟩
    go_wp2_with fail
    go_ret
    exact ⟨ret_bool HV.out.symm, hb02⟩
  · have HV := Lib.hid (instrB_out (a := a) h)
    have e0 : (decide (0 ≤ op) && decide (op ≤ 11)) = false := by simpa using h
    rw [e0] at HB
    clear h e0
    go_enter Tryz.func85, Tryz.ntmps85
    go_wp2_with fail
    refine (HB.out _).mono ?_
    rintro e w1 ⟨rfl, rfl⟩
    go_wp2_with fail
    go_ret
    exact ⟨ret_bool HV.out.symm, hb0⟩

set_option maxRecDepth 100000 in
set_option maxHeartbeats 2000000 in
theorem l07Is_c (A : Option Addr) (n c B : Nat) (xs : List (Int × Int)) (w : World) (h : InC w B A n xs) (hB : B ≤ w.heap.size) (hn : n ≤ 1048576) :
    Calls Tryz.prog 50 #[.slice A n c] w fun e w' => e = .returned (.bool (codeB xs)) ∧ Below w.heap.size w w' := by
  have hlen := Lib.hid h.1
  go_enter Tryz.func50, Tryz.ntmps50
  go_wp2_with fail
  go_loopw [3] (fun i wr => ∃ k : Nat, k ≤ n ∧ i = .int .i64 k ∧ Hid (∀ x ∈ xs.take k, instrB x.1 x.2 = true) ∧ Below w.heap.size w wr) (fun i _ => n - (intOf i).toNat)
  case atStart => exact ⟨0, Nat.zero_le _, rfl, by intro x hx; simp at hx, Below.refl _ _⟩
  case round =>
    obtain ⟨k, hk, rfl, ha, hbel⟩ := hrel
    have hsz := hbel.size
    by_cases hlt : k < n
    · obtain ⟨b, off, x, rfl, hb, hx, q0, q1⟩ := (h.next hbel hB).at_ hlt
      have HI := l07Instr_c x.1 x.2 wr
      cases hv : instrB x.1 x.2 with
      | true =>
        have HS := Lib.hid (codeB_step ha.out hx hv)
        rw [hv] at HI
        have HI' := Lib.hid HI
        clear HI hv hx
        go_wp2_with fail
        refine HI'.out.mono ?_
        rintro e w1 ⟨rfl, hb1⟩
        go_wp2_with fail
        go_roundw
        case rel => exact ⟨k + 1, by omega, by go_num, HS, bon hbel hb1⟩
        case measure => simp [intOf]; omega
      | false =>
        have HS := Lib.hid (codeB_no hx hv)
        rw [hv] at HI
        have HI' := Lib.hid HI
        clear HI hv hx
        go_wp2_with fail
        refine HI'.out.mono ?_
        rintro e w1 ⟨rfl, hb1⟩
        go_wp2_with fail
        go_ret
        exact ⟨ret_bool HS.out.symm, bon hbel hb1⟩
    · have HV : Hid (codeB xs = (decide (1 ≤ (n : Int)) && decide ((n : Int) ≤ 80))) := by
        show _ = _
        rw [codeB_is ha.out (by have := hlen.out; omega), hlen.out, Bool.decide_and]
        congr 1 <;> (congr 1; simp; try omega)
      go_wp2_with fail
      refine (l00In_i n 1 80 _).mono ?_
      rintro e w1 ⟨rfl, rfl⟩
      go_wp2_with fail
      go_ret
      exact ⟨ret_bool HV.out.symm, hbel⟩
set_option maxRecDepth 100000 in
set_option maxHeartbeats 2000000 in
theorem implCode_c (A : Option Addr) (n c B : Nat) (xs : List (Int × Int)) (w : World) (h : InC w B A n xs) (hB : B ≤ w.heap.size) (hn : n ≤ 1048576) :
    Calls Tryz.prog 57 #[.slice A n c] w fun e w' => e = .returned (.bool (codeB xs)) ∧ Below w.heap.size w w' := by
  have hlen := Lib.hid h.1
  have HB := Lib.hid (isBetween_i (n : Int) 1 80)
  by_cases hs : 1 ≤ n ∧ n ≤ 80
  · have e0 : (decide (1 ≤ (n : Int)) && decide ((n : Int) ≤ 80)) = true := by simp; omega
    rw [e0] at HB
    clear e0
    go_enter Tryz.func57, Tryz.ntmps57
    go_wp2_with fail
    refine (HB.out w).mono ?_
    rintro e w1 ⟨rfl, rfl⟩
    go_wp2_with fail
    go_loopw [11] (fun i wr => ∃ k : Nat, k ≤ n ∧ i = .int .i64 k ∧ Hid (∀ x ∈ xs.take k, instrB x.1 x.2 = true) ∧ Below w.heap.size w wr) (fun i _ => n - (intOf i).toNat)
    case atStart => exact ⟨0, Nat.zero_le _, rfl, by intro x hx; simp at hx, Below.refl _ _⟩
    case round =>
      obtain ⟨k, hk, rfl, ha, hbel⟩ := hrel
      have hsz := hbel.size
      by_cases hlt : k < n
      · obtain ⟨b, off, x, rfl, hb, hx, q0, q1⟩ := (h.next hbel hB).at_ hlt
        have hb0 := bnew wr (.cells #[.int .i64 x.1, .int .i64 x.2] 92)
        have HI := implInstr_c x.1 x.2 (wr.alloc (.cells #[.int .i64 x.1, .int .i64 x.2] 92))
        cases hv : instrB x.1 x.2 with
        | true =>
          have HS := Lib.hid (codeB_step ha.out hx hv)
          rw [hv] at HI
          have HI' := Lib.hid HI
          clear HI hv hx
          go_wp2_with fail
          refine HI'.out.mono ?_
          rintro e w1 ⟨rfl, hb1⟩
          go_wp2_with fail
          go_roundw
          case rel => exact ⟨k + 1, by omega, by go_num, HS, bon (bon hbel hb0) hb1⟩
          case measure => simp [intOf]; omega
        | false =>
          have HS := Lib.hid (codeB_no hx hv)
          rw [hv] at HI
          have HI' := Lib.hid HI
          clear HI hv hx
          go_wp2_with fail
          refine HI'.out.mono ?_
          rintro e w1 ⟨rfl, hb1⟩
          go_wp2_with fail
          go_ret
          exact ⟨ret_bool HS.out.symm, bon (bon hbel hb0) hb1⟩
      · have HV : Hid (codeB xs = true) := by
          show _ = _
          rw [codeB_is ha.out (by have := hlen.out; omega), hlen.out, decide_eq_true hs]
        go_wp2_with fail
        go_ret
        exact ⟨ret_bool HV.out.symm, hbel⟩
  · have e0 : (decide (1 ≤ (n : Int)) && decide ((n : Int) ≤ 80)) = false := by simp; omega
    have HV : Hid (codeB xs = false) := codeB_len (by rw [hlen.out]; exact hs)
    rw [e0] at HB
    clear e0
    go_enter Tryz.func57, Tryz.ntmps57
    go_wp2_with fail
    refine (HB.out w).mono ?_
    rintro e w1 ⟨rfl, rfl⟩
    go_wp2_with fail
    go_ret
    exact ⟨ret_bool HV.out.symm, Below.refl _ _⟩
end Go.Proofs.YtffkdidgfeknkaaGreatDoor

/-! Terms over the variables, in the program. Conditions: at most 2^20 terms and coefficients. -/
namespace Go.Proofs.YtffkdidgfeknkaaGreatDoor
set_option linter.unusedVariables false
open Go.RowKit

set_option maxRecDepth 100000 in
set_option maxHeartbeats 1000000 in
theorem isOver_c (c0 : Int) (A : Option Addr) (n c B : Nat) (zs : List Int) (w : World) (h : InL w B A n zs) (hB : B ≤ w.heap.size) (hn : n ≤ 1048576) :
    Calls Tryz.prog 89 #[.agg #[.int .i64 c0, .slice A n c]] w fun e w' => e = .returned (.bool (overB (c0, zs))) ∧ Below w.heap.size w w' := by
  have hb0 := bnew w (.cells #[.int .i64 c0, .slice A n c] 93)
  have p1 : (w.alloc (.cells #[.int .i64 c0, .slice A n c] 93)).cell? ⟨w.heap.size, 1, none⟩ = some (.slice A n c) := by simp
  have HI := Lib.hid (implValid_c c0 A n c B zs _ (h.next hb0 hB).2 (Nat.le_trans hB hb0.size) h.1 hn)
  have hlen := Lib.hid h.1
  clear h
  obtain ⟨bt, HT⟩ : ∃ x, Hid (tmB (c0, zs) = x) := ⟨_, rfl⟩
  have HV : Hid (overB (c0, zs) = (bt && decide ((n : Int) ≤ 4))) := by show _ = _; unfold overB; rw [HT.out]; show (bt && decide (zs.length ≤ 4)) = _; rw [hlen.out]; congr 1; rw [Bool.eq_iff_iff]; simp; omega
  rw [HV.out]
  rw [HT.out] at HI
  clear HV HT
  go_enter Tryz.func89, Tryz.ntmps89
  go_wp2_with fail
  generalize w.alloc (.cells #[.int .i64 c0, .slice A n c] 93) = W at hb0 p1 HI ⊢
  refine HI.out.mono ?_
  rintro e w1 ⟨rfl, hb1⟩
  have P1 := cell_next p1 hb1
  cases bt
  · go_wp2_with fail
    go_ret
    exact ⟨rfl, bon hb0 hb1⟩
  · go_wp2_with fail
    go_ret
    exact ⟨ret_bool (by simp), bon hb0 hb1⟩

set_option maxRecDepth 100000 in
set_option maxHeartbeats 1000000 in
theorem areOver_c (A : Option Addr) (n c B : Nat) (ts : List (Int × List Int)) (most : Nat) (w : World) (h : InTS w B A n ts) (hB : B ≤ w.heap.size) (he : totT ts ≤ 1048576) (hm : most ≤ 1000) :
    Calls Tryz.prog 64 #[.slice A n c, .int .i64 (most : Int)] w fun e w' => e = .returned (.bool (oversB most ts)) ∧ Below w.heap.size w w' := by
  have hlen := Lib.hid h.1
  by_cases hbig : most < n
  · have HN := Lib.hid (oversB_long (m := most) (ts := ts) (by rw [hlen.out]; exact hbig))
    go_enter Tryz.func64, Tryz.ntmps64
    go_wp2_with fail
    go_ret
    exact ⟨ret_bool HN.out.symm, Below.refl _ _⟩
  · go_enter Tryz.func64, Tryz.ntmps64
    go_wp2_with fail
    go_loopw [6, 13] (fun _ i wr => ∃ k : Nat, k ≤ n ∧ i = .int .i64 k ∧ Hid (∀ u ∈ ts.take k, overB u = true) ∧ Below w.heap.size w wr) (fun _ i _ => n - (intOf i).toNat)
    case atStart => exact ⟨0, Nat.zero_le _, rfl, fun u hu => by simp at hu, Below.refl _ _⟩
    case round =>
      obtain ⟨k, hk, rfl, ha, hbel⟩ := hrel
      have hsz := hbel.size
      by_cases hlt : k < n
      · obtain ⟨b, off, A', n', c', t, rfl, hb, ht, hc0, hc1, hin⟩ := (h.next hbel hB).at_ hlt
        have hmx := totT_mem (List.mem_of_getElem? ht)
        rw [hin.1] at hmx
        have HI := Lib.hid (fun (o : Obj) => isOver_c t.1 A' n' c' B t.2 (wr.alloc o) (hin.next (bnew wr o) (by omega)) (Nat.le_trans (by omega) (bnew wr o).size) (by omega))
        cases hv : overB t with
        | true =>
          have HS := Lib.hid (all_succ ha.out ht hv)
          have HV : Hid (overB (t.1, t.2) = true) := hv
          rw [HV.out] at HI
          clear hin ht hv hmx
          go_wp2_with fail
          refine (HI.out _).mono ?_
          rintro e w1 ⟨rfl, hb1⟩
          go_wp2_with fail
          go_roundw
          case rel => exact ⟨k + 1, by omega, by go_num, HS, bon (bon hbel (bnew _ _)) hb1⟩
          case measure => simp [intOf]; omega
        | false =>
          have HN := Lib.hid (oversB_no (m := most) ht hv)
          have HV : Hid (overB (t.1, t.2) = false) := hv
          rw [HV.out] at HI
          clear hin ht hv hmx
          go_wp2_with fail
          refine (HI.out _).mono ?_
          rintro e w1 ⟨rfl, hb1⟩
          go_wp2_with fail
          go_ret
          exact ⟨ret_bool HN.out.symm, bon (bon hbel (bnew _ _)) hb1⟩
      · have HY : Hid (oversB most ts = true) := oversB_is (fun t ht => ha.out t (by rw [List.take_of_length_le (by rw [hlen.out]; omega)]; exact ht)) (by rw [hlen.out]; omega)
        go_wp2_with fail
        go_ret
        exact ⟨ret_bool HY.out.symm, hbel⟩

end Go.Proofs.YtffkdidgfeknkaaGreatDoor
