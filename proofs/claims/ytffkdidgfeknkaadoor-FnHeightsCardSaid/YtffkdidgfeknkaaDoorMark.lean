/-
  How the law looks for shared memory: it writes numbers that rise into a result, and looks whether they are still there. Conditions: at most 2^20 numbers.
-/
import Derived.Test.YtffkdidgfeknkaaDoorEq
import Derived.Maps.AppendAt
namespace Go.Proofs.YtffkdidgfeknkaaDoor
open Go.RowKit

/-- n numbers that rise from k on. -/
def rise (k : Int) (n : Nat) : List Int := (List.range n).map fun i => k + (i : Nat)
theorem rise_len (k : Int) (n : Nat) : (rise k n).length = n := by simp [rise]
theorem rise_at {k : Int} {n i : Nat} (h : i < n) : (rise k n)[i]? = some (k + (i : Nat)) := by simp [rise, h]

/-- What the row holds when i cells have been written. -/
def marked (k : Int) (i : Nat) (xs : List Value) : List Value := (rise k i).map ic ++ xs.drop i
theorem marked_zero (k : Int) (xs : List Value) : marked k 0 xs = xs := by simp [marked, rise]
theorem marked_succ {k : Int} {i : Nat} {xs : List Value} (h : i < xs.length) : (marked k i xs).set i (.int .i64 (k + (i : Nat))) = marked k (i + 1) xs := by
  have hl : ((rise k i).map ic).length = i := by rw [List.length_map, rise_len]
  unfold marked
  rw [List.set_append_right _ _ (by omega), hl, Nat.sub_self, List.drop_eq_getElem_cons h, List.set_cons_zero]
  simp [rise, List.range_succ, ic]
theorem marked_end {k : Int} {xs : List Value} : marked k xs.length xs = (rise k xs.length).map ic := by simp [marked]
theorem marked_len {k : Int} {i : Nat} {xs : List Value} (h : i ≤ xs.length) : (marked k i xs).length = xs.length := by
  simp [marked, rise_len]; omega

end Go.Proofs.YtffkdidgfeknkaaDoor
