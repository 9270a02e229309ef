/-
  A call of a function value; the functions of the operations. No conditions.
-/
import Derived.Test.YtffkdidgfeknkaaDoorEffA
namespace Go.Proofs.YtffkdidgfeknkaaDoor
set_option linter.unusedVariables false

theorem callEf0 (args : Array Value) (w : World) : (callFunc (efB 0) args).run Tryd.prog w = .ok (.enter (efB 0) args) w := by kernel_rfl
theorem callEf1 (args : Array Value) (w : World) : (callFunc (efB 1) args).run Tryd.prog w = .ok (.enter (efB 1) args) w := by kernel_rfl
theorem callEf2 (args : Array Value) (w : World) : (callFunc (efB 2) args).run Tryd.prog w = .ok (.enter (efB 2) args) w := by kernel_rfl
theorem callEf3 (args : Array Value) (w : World) : (callFunc (efB 3) args).run Tryd.prog w = .ok (.enter (efB 3) args) w := by kernel_rfl
theorem callEf4 (args : Array Value) (w : World) : (callFunc (efB 4) args).run Tryd.prog w = .ok (.enter (efB 4) args) w := by kernel_rfl
theorem callEf5 (args : Array Value) (w : World) : (callFunc (efB 5) args).run Tryd.prog w = .ok (.enter (efB 5) args) w := by kernel_rfl
theorem callEf6 (args : Array Value) (w : World) : (callFunc (efB 6) args).run Tryd.prog w = .ok (.enter (efB 6) args) w := by kernel_rfl
theorem callEf7 (args : Array Value) (w : World) : (callFunc (efB 7) args).run Tryd.prog w = .ok (.enter (efB 7) args) w := by kernel_rfl
theorem callEf8 (args : Array Value) (w : World) : (callFunc (efB 8) args).run Tryd.prog w = .ok (.enter (efB 8) args) w := by kernel_rfl
theorem callEf9 (args : Array Value) (w : World) : (callFunc (efB 9) args).run Tryd.prog w = .ok (.enter (efB 9) args) w := by kernel_rfl
theorem callEf10 (args : Array Value) (w : World) : (callFunc (efB 10) args).run Tryd.prog w = .ok (.enter (efB 10) args) w := by kernel_rfl
theorem callEf11 (args : Array Value) (w : World) : (callFunc (efB 11) args).run Tryd.prog w = .ok (.enter (efB 11) args) w := by kernel_rfl
theorem callFunc_ef (op : Int) (h : 0 ≤ op ∧ op ≤ 11) (args : Array Value) (w : World) : (callFunc (efB op) args).run Tryd.prog w = .ok (.enter (efB op) args) w := by
  have hc : op = 0 ∨ op = 1 ∨ op = 2 ∨ op = 3 ∨ op = 4 ∨ op = 5 ∨ op = 6 ∨ op = 7 ∨ op = 8 ∨ op = 9 ∨ op = 10 ∨ op = 11 := by omega
  clear h
  rcases hc with rfl | rfl | rfl | rfl | rfl | rfl | rfl | rfl | rfl | rfl | rfl | rfl
  · exact callEf0 args w
  · exact callEf1 args w
  · exact callEf2 args w
  · exact callEf3 args w
  · exact callEf4 args w
  · exact callEf5 args w
  · exact callEf6 args w
  · exact callEf7 args w
  · exact callEf8 args w
  · exact callEf9 args w
  · exact callEf10 args w
  · exact callEf11 args w
end Go.Proofs.YtffkdidgfeknkaaDoor
