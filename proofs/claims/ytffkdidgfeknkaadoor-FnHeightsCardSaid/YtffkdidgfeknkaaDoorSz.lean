/-
  How much a term holds, as the law counts it. Conditions: what is left is at most 2^20.
-/
import Derived.Test.YtffkdidgfeknkaaDoorTm
namespace Go.Proofs.YtffkdidgfeknkaaDoor
open Go.RowKit

/-- What is left behind n numbers; -1 if that is less than none. -/
def szv (left : Int) (n : Nat) : Int := if (n : Int) ≤ left then left - n else -1
theorem szv_yes {left : Int} {n : Nat} (h : (n : Int) ≤ left) : szv left n = left - n := if_pos h
theorem szv_no {left : Int} {n : Nat} (h : left < (n : Int)) : szv left n = -1 := if_neg (by omega)
theorem ret_int {k : IntKind} {a b : Int} (h : a = b) : Ending.returned (.int k a) = .returned (.int k b) := by rw [h]

end Go.Proofs.YtffkdidgfeknkaaDoor
