/-
  How much a term holds, as the law counts it. Conditions: what is left is at most 2^20.
-/
import Derived.Test.YtajmbnimdngjhaaGreatDoorTm
namespace Go.Proofs.YtajmbnimdngjhaaGreatDoor
open Go.RowKit

/-- What is left behind n numbers; -1 if that is less than none. -/
def szv (left : Int) (n : Nat) : Int := if (n : Int) ≤ left then left - n else -1
theorem szv_yes {left : Int} {n : Nat} (h : (n : Int) ≤ left) : szv left n = left - n := if_pos h
theorem szv_no {left : Int} {n : Nat} (h : left < (n : Int)) : szv left n = -1 := if_neg (by omega)
theorem ret_int {k : IntKind} {a b : Int} (h : a = b) : Ending.returned (.int k a) = .returned (.int k b) := by rw [h]

set_option maxRecDepth 100000 in
theorem szTerm_c (c0 : Int) (A : Option Addr) (n c : Nat) (left : Int) (w : World) (hl0 : 0 ≤ left) (hl1 : left ≤ 1048576) (hn : n ≤ maxLen) :
    Calls Tryz.prog 63 #[.agg #[.int .i64 c0, .slice A n c], .int .i64 left] w fun e w' => e = .returned (.int .i64 (szv left n)) ∧ Below w.heap.size w w' := by
  unfold maxLen at hn
  rcases Int.lt_or_le left n with h | h
  · have HV := Lib.hid (szv_no h)
    have h1 : left - (n : Int) < 0 := by omega
    clear h
    go_enter Tryz.func63, Tryz.ntmps63
    go_wp2
    go_ret
    exact ⟨ret_int HV.out.symm, (Below.refl _ _).alloc (Nat.le_refl _) _⟩
  · have HV := Lib.hid (szv_yes h)
    have h1 : 0 ≤ left - (n : Int) := by omega
    clear h
    go_enter Tryz.func63, Tryz.ntmps63
    go_wp2
    go_ret
    exact ⟨ret_int HV.out.symm, (Below.refl _ _).alloc (Nat.le_refl _) _⟩
end Go.Proofs.YtajmbnimdngjhaaGreatDoor
