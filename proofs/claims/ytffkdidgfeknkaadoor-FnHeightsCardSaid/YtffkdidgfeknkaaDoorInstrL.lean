/-
  What the law does with lists of instructions: it counts, copies, compares them, writes numbers that rise, and looks for them. Conditions: at most 2^20 instructions.
-/
import Derived.Test.YtffkdidgfeknkaaDoorInstr
namespace Go.Proofs.YtffkdidgfeknkaaDoor
set_option linter.unusedVariables false
open Go.RowKit

theorem infoInstr : (Tryd.prog.info? 87).map (fun i => (i.zero, i.size, i.bytes)) = some (some (.agg #[.int .i64 0, .int .i64 0]), 2, 16) := by kernel_rfl

/-- The first k pairs lie in a row. -/
def LaidC (ys : List Value) (k : Nat) (xs : List (Int × Int)) : Prop := ∀ j x, j < k → xs[j]? = some x → ys[j * 2]? = some (.int .i64 x.1) ∧ ys[j * 2 + 1]? = some (.int .i64 x.2)
theorem laidC_step {ys : List Value} {k n : Nat} {xs : List (Int × Int)} {x : Int × Int} (h : LaidC ys k xs) (hl : ys.length = n * 2) (hk : k < n) (hx : xs[k]? = some x) : LaidC ((ys.set (k * 2) (.int .i64 x.1)).set (k * 2 + 1) (.int .i64 x.2)) (k + 1) xs := by
  intro j y hj hy
  by_cases e : j = k
  · subst e
    obtain rfl : x = y := by rw [hx] at hy; exact Option.some.inj hy
    exact ⟨by rw [List.getElem?_set_ne (by omega), List.getElem?_set_self (by omega)], by rw [List.getElem?_set_self (by rw [List.length_set]; omega)]⟩
  · obtain ⟨h1, h2⟩ := h j y (by omega) hy
    exact ⟨by rw [List.getElem?_set_ne (by omega), List.getElem?_set_ne (by omega), h1], by rw [List.getElem?_set_ne (by omega), List.getElem?_set_ne (by omega), h2]⟩
theorem laidC_end {ys : List Value} {n : Nat} {xs : List (Int × Int)} (h : LaidC ys n xs) (hl : ys.length = n * 2) (hn : xs.length = n) : ys = flatC xs := by
  apply List.ext_getElem?
  intro j
  rcases Nat.lt_or_ge j (n * 2) with hj | hj
  · have hi : j / 2 < xs.length := by omega
    have hx : xs[j / 2]? = some xs[j / 2] := List.getElem?_eq_getElem hi
    obtain ⟨h1, h2⟩ := h (j / 2) _ (by omega) hx
    obtain ⟨f1, f2⟩ := flatC_at hx
    rcases Nat.mod_two_eq_zero_or_one j with e | e
    · rw [show j / 2 * 2 = j by omega] at h1 f1
      rw [h1, f1]
    · rw [show j / 2 * 2 + 1 = j by omega] at h2 f2
      rw [h2, f2]
  · rw [List.getElem?_eq_none (by omega), List.getElem?_eq_none (by rw [flatC_len]; omega)]

/-- Pairs of numbers that rise. -/
def riseC (k : Int) (n : Nat) : List (Int × Int) := (List.range n).map fun i => (k + 2 * (i : Nat), k + 2 * (i : Nat) + 1)
theorem riseC_len (k : Int) (n : Nat) : (riseC k n).length = n := by simp [riseC]
theorem riseC_at {k : Int} {n i : Nat} (h : i < n) : (riseC k n)[i]? = some (k + 2 * (i : Nat), k + 2 * (i : Nat) + 1) := by simp [riseC, h]
def mixC (k : Int) (i : Nat) (xs : List (Int × Int)) : List (Int × Int) := riseC k i ++ xs.drop i
theorem mixC_zero (k : Int) (xs : List (Int × Int)) : mixC k 0 xs = xs := by simp [mixC, riseC]
theorem mixC_end {k : Int} {n : Nat} {xs : List (Int × Int)} (h : xs.length = n) : mixC k n xs = riseC k n := by subst h; simp [mixC]
theorem mixC_len {k : Int} {i : Nat} {xs : List (Int × Int)} (h : i ≤ xs.length) : (mixC k i xs).length = xs.length := by simp [mixC, riseC_len]; omega
theorem mixC_at {k : Int} {i : Nat} {xs : List (Int × Int)} {x : Int × Int} (h : xs[i]? = some x) : (mixC k i xs)[i]? = some x := by
  unfold mixC
  rw [List.getElem?_append_right (by rw [riseC_len]; omega), riseC_len, Nat.sub_self, List.getElem?_drop, Nat.add_zero, h]
theorem mixC_succ {k : Int} {i : Nat} {xs : List (Int × Int)} (h : i < xs.length) : (mixC k i xs).set i (k + 2 * (i : Nat), k + 2 * (i : Nat) + 1) = mixC k (i + 1) xs := by
  unfold mixC
  rw [List.set_append_right _ _ (by rw [riseC_len]; omega), riseC_len, Nat.sub_self, List.drop_eq_getElem_cons h, List.set_cons_zero]
  simp [riseC, List.range_succ]

end Go.Proofs.YtffkdidgfeknkaaDoor
