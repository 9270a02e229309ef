/-
  States, two lists of numbers: what one that came in reads as; how the law counts, copies and compares them. Conditions: at most 2^20 numbers.
-/
import Derived.Test.YtffkdidgfeknkaaGreatDoorBlk
namespace Go.Proofs.YtffkdidgfeknkaaGreatDoor
set_option linter.unusedVariables false
open Go.RowKit Go.ChangeShapes Go.WideShapes Go.Deep Go.Joins

section
variable {H : Type} {enc : TypeId × Value → H} {w : World} {held : Bool}
end

set_option maxRecDepth 100000 in
theorem szInt64S_k (A : Option Addr) (n c : Nat) (left : Int) (w : World) (hl0 : 0 ≤ left) (hl1 : left ≤ 1048576) (hn : n ≤ maxLen) :
    Calls Tryz.prog 80 #[.slice A n c, .int .i64 left] w fun e w' => e = .returned (.int .i64 (szv left n)) ∧ w = w' := by
  unfold maxLen at hn
  rcases Int.lt_or_le left n with h | h
  · have HV := Lib.hid (szv_no h)
    have h1 : left - (n : Int) < 0 := by omega
    clear h
    go_enter Tryz.func80, Tryz.ntmps80
    go_wp2
    go_ret
    exact ⟨ret_int HV.out.symm, rfl⟩
  · have HV := Lib.hid (szv_yes h)
    have h1 : 0 ≤ left - (n : Int) := by omega
    clear h
    go_enter Tryz.func80, Tryz.ntmps80
    go_wp2
    go_ret
    exact ⟨ret_int HV.out.symm, rfl⟩

end Go.Proofs.YtffkdidgfeknkaaGreatDoor
