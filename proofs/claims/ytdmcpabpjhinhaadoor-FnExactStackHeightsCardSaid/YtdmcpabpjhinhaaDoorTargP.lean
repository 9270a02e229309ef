/-
  The places behind an instruction: pure. No conditions.
-/
import Derived.Test.YtdmcpabpjhinhaaDoorShiftP
import Derived.Test.YtdmcpabpjhinhaaDoorPutM
namespace Go.Proofs.YtdmcpabpjhinhaaDoor
set_option linter.unusedVariables false

def tgt1 (op a k : Int) : List Int := if op = 11 then [] else if op = 5 then [a] else if op = 6 then putR a [k + 1] else [k + 1]
theorem tgt1_halt (a k : Int) : tgt1 11 a k = [] := rfl
theorem tgt1_jump (a k : Int) : tgt1 5 a k = [a] := rfl
theorem tgt1_test (a k : Int) : tgt1 6 a k = putR a [k + 1] := rfl
theorem tgt1_else {op a k : Int} (h : op ≠ 11) (h5 : op ≠ 5) (h6 : op ≠ 6) : tgt1 op a k = [k + 1] := by unfold tgt1; rw [if_neg h, if_neg h5, if_neg h6]
theorem putR_one (x y : Int) : putR x [y] = if x < y then [x, y] else if x = y then [y] else [y, x] := by
  unfold putR putTo putTo
  simp only [List.length_cons, List.length_nil, List.getD_cons_zero]
  by_cases h : x < y
  · have h1 : x ≤ y := by omega
    simp [h, h1]
  · by_cases e : x = y
    · subst e; simp
    · have h1 : ¬ x ≤ y := by omega
      simp [h, e, h1]
theorem putR_one_mem (x y z : Int) : z ∈ putR x [y] ↔ z = y ∨ z = x := by
  rw [putR_one]
  split
  · simp [or_comm]
  · split
    · rename_i h e; subst e; simp
    · simp
theorem putR_one_rise (x y : Int) : (putR x [y]).Pairwise (· < ·) := by
  rw [putR_one]
  split
  · rename_i h; simp [h]
  · split
    · simp
    · simp; omega
theorem tgt1_len (op a k : Int) : (tgt1 op a k).length ≤ 2 := by
  unfold tgt1
  split
  · simp
  · split
    · simp
    · split
      · rw [putR_one]; split
        · simp
        · split <;> simp
      · simp
def tgtR (xs : List (Int × Int)) (k : Int) : List Int × Bool := if codeB xs = true ∧ (0 ≤ k ∧ k ≤ (xs.length : Int) - 1) then (tgt1 (xs.getD k.toNat (0, 0)).1 (xs.getD k.toNat (0, 0)).2 k, true) else ([], false)
theorem tgtR_no1 {xs : List (Int × Int)} {k : Int} (h : codeB xs = false) : tgtR xs k = ([], false) := if_neg (by rw [h]; simp)
theorem tgtR_no2 {xs : List (Int × Int)} {k : Int} (h : ¬ (0 ≤ k ∧ k ≤ (xs.length : Int) - 1)) : tgtR xs k = ([], false) := if_neg (fun e => h e.2)
theorem tgtR_yes {xs : List (Int × Int)} {k : Nat} {x : Int × Int} (h : codeB xs = true) (hx : xs[k]? = some x) : tgtR xs (k : Int) = (tgt1 x.1 x.2 k, true) := by
  have hl := (List.getElem?_eq_some_iff.1 hx).1
  unfold tgtR
  rw [if_pos ⟨h, by omega, by omega⟩, Int.toNat_natCast, List.getD_eq_getElem?_getD, hx]
  rfl
theorem tgtR_len (xs : List (Int × Int)) (k : Int) : (tgtR xs k).1.length ≤ 2 := by
  unfold tgtR
  split
  · exact tgt1_len _ _ _
  · simp
end Go.Proofs.YtdmcpabpjhinhaaDoor
