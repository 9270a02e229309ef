/-
  Code with greater places, joined code: pure. No conditions.
-/
import Derived.Test.YtdmcpabpjhinhaaDoorInstrB
namespace Go.Proofs.YtdmcpabpjhinhaaDoor
set_option linter.unusedVariables false

/-- An instruction whose place is greater. -/
def shi1 (by_ : Int) (x : Int × Int) : Int × Int := if x.1 = 5 ∨ x.1 = 6 then (x.1, x.2 + by_) else x
theorem shi1_yes {b : Int} {x : Int × Int} (h : x.1 = 5 ∨ x.1 = 6) : shi1 b x = (x.1, x.2 + b) := if_pos h
theorem shi1_no {b : Int} {x : Int × Int} (h : ¬ (x.1 = 5 ∨ x.1 = 6)) : shi1 b x = x := if_neg h
def shiL (xs : List (Int × Int)) (b : Int) : List (Int × Int) := xs.map (shi1 b)
theorem shiL_len (xs : List (Int × Int)) (b : Int) : (shiL xs b).length = xs.length := by simp [shiL]
def shiR (xs : List (Int × Int)) (b : Int) : List (Int × Int) × Bool := if codeB xs = true ∧ (0 ≤ b ∧ b ≤ 80) ∧ codeB (shiL xs b) = true then (shiL xs b, true) else ([], false)
theorem shiR_no1 {xs : List (Int × Int)} {b : Int} (h : codeB xs = false) : shiR xs b = ([], false) := if_neg (by rw [h]; simp)
theorem shiR_no2 {xs : List (Int × Int)} {b : Int} (h : ¬ (0 ≤ b ∧ b ≤ 80)) : shiR xs b = ([], false) := if_neg (fun e => h e.2.1)
theorem shiR_no3 {xs : List (Int × Int)} {b : Int} (h : codeB (shiL xs b) = false) : shiR xs b = ([], false) := if_neg (by rw [h]; simp)
theorem shiR_yes {xs : List (Int × Int)} {b : Int} (h : codeB xs = true) (h1 : 0 ≤ b ∧ b ≤ 80) (h2 : codeB (shiL xs b) = true) : shiR xs b = (shiL xs b, true) := if_pos ⟨h, h1, h2⟩
theorem shiR_len (xs : List (Int × Int)) (b : Int) : (shiR xs b).1.length ≤ 80 := by
  unfold shiR
  split
  · rename_i h; have := (codeB_parts h.1).2.1; rw [shiL_len]; exact this
  · simp
/-- A list whose first k elements have been turned. -/
def turned (f : Int × Int → Int × Int) (xs : List (Int × Int)) (k : Nat) : List (Int × Int) := (xs.take k).map f ++ xs.drop k
theorem turned_zero (f : Int × Int → Int × Int) (xs : List (Int × Int)) : turned f xs 0 = xs := by simp [turned]
theorem turned_all (f : Int × Int → Int × Int) {xs : List (Int × Int)} {k : Nat} (h : xs.length ≤ k) : turned f xs k = xs.map f := by unfold turned; rw [List.take_of_length_le h, List.drop_eq_nil_of_le h, List.append_nil]
theorem turned_len (f : Int × Int → Int × Int) (xs : List (Int × Int)) (k : Nat) : (turned f xs k).length = xs.length := by simp [turned]; omega
theorem turned_at (f : Int × Int → Int × Int) {xs : List (Int × Int)} {k : Nat} {x : Int × Int} (h : xs[k]? = some x) : (turned f xs k)[k]? = some x := by
  have hl := (List.getElem?_eq_some_iff.1 h).1
  unfold turned
  rw [List.getElem?_append_right (by simp; omega), List.getElem?_drop]
  simp [Nat.min_eq_left (Nat.le_of_lt hl), h]
theorem turned_succ (f : Int × Int → Int × Int) {xs : List (Int × Int)} {k : Nat} {x : Int × Int} (h : xs[k]? = some x) : (turned f xs k).set k (f x) = turned f xs (k + 1) := by
  have hl := (List.getElem?_eq_some_iff.1 h).1
  have hx : xs[k] = x := (List.getElem?_eq_some_iff.1 h).2
  unfold turned
  rw [List.set_append_right _ _ (by simp; omega), List.drop_eq_getElem_cons hl]
  have e : k - ((xs.take k).map f).length = 0 := by simp; omega
  rw [e, List.set_cons_zero, List.take_add_one, h]
  simp
theorem turned_same (f : Int × Int → Int × Int) {xs : List (Int × Int)} {k : Nat} {x : Int × Int} (h : xs[k]? = some x) (hf : f x = x) : turned f xs k = turned f xs (k + 1) := by
  rw [← turned_succ f h, hf]
  have h1 := turned_at f h
  apply List.ext_getElem?
  intro j
  by_cases e : j = k
  · subst e; rw [h1, List.getElem?_set_self (by have := (List.getElem?_eq_some_iff.1 h1).1; exact this)]
  · rw [List.getElem?_set_ne (by omega)]
/-- An instruction whose halt has become a jump. -/
def joi1 (n : Int) (x : Int × Int) : Int × Int := if x.1 = 11 then (5, n) else x
theorem joi1_yes {n : Int} {x : Int × Int} (h : x.1 = 11) : joi1 n x = (5, n) := if_pos h
theorem joi1_no {n : Int} {x : Int × Int} (h : ¬ x.1 = 11) : joi1 n x = x := if_neg h
def joiL (xs ys : List (Int × Int)) : List (Int × Int) := xs.map (joi1 xs.length) ++ shiL ys xs.length
theorem joiL_len (xs ys : List (Int × Int)) : (joiL xs ys).length = xs.length + ys.length := by simp [joiL, shiL]
def joiR (xs ys : List (Int × Int)) : List (Int × Int) × Bool := if codeB xs = true ∧ codeB ys = true ∧ codeB (joiL xs ys) = true then (joiL xs ys, true) else ([], false)
theorem joiR_no1 {xs ys : List (Int × Int)} (h : codeB xs = false) : joiR xs ys = ([], false) := if_neg (by rw [h]; simp)
theorem joiR_no2 {xs ys : List (Int × Int)} (h : codeB ys = false) : joiR xs ys = ([], false) := if_neg (by rw [h]; simp)
theorem joiR_no3 {xs ys : List (Int × Int)} (h : codeB (joiL xs ys) = false) : joiR xs ys = ([], false) := if_neg (by rw [h]; simp)
theorem joiR_yes {xs ys : List (Int × Int)} (h : codeB xs = true) (h1 : codeB ys = true) (h2 : codeB (joiL xs ys) = true) : joiR xs ys = (joiL xs ys, true) := if_pos ⟨h, h1, h2⟩
theorem joiR_len (xs ys : List (Int × Int)) : (joiR xs ys).1.length ≤ 160 := by
  unfold joiR
  split
  · rename_i h; have := (codeB_parts h.1).2.1; have := (codeB_parts h.2.1).2.1; rw [joiL_len]; omega
  · simp
/-- The argument of a valid instruction. -/
theorem instrB_arg {op a : Int} (h : instrB op a = true) : -1000000 ≤ a ∧ a ≤ 1000000 := by
  have hp := instrB_parts h
  have h1 : -1000000 ≤ loB op := by unfold loB; split <;> omega
  have h2 : hiB op ≤ 1000000 := by unfold hiB; split <;> (try split) <;> (try split) <;> omega
  omega
end Go.Proofs.YtdmcpabpjhinhaaDoor
