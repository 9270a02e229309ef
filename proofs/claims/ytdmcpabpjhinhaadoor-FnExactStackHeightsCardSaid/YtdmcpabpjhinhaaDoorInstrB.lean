/-
  Valid instructions and code, told by numbers. No conditions.
-/
import Derived.Test.YtdmcpabpjhinhaaDoorBase
namespace Go.Proofs.YtdmcpabpjhinhaaDoor
set_option linter.unusedVariables false
open Go.RowKit

/-- The bounds of an operation's argument, how many numbers it pops and pushes. -/
def loB (op : Int) : Int := if op = 0 ∨ op = 4 then -1000000 else 0
def hiB (op : Int) : Int := if op = 0 ∨ op = 4 then 1000000 else if op = 1 ∨ op = 2 ∨ op = 9 then 3 else if op = 5 ∨ op = 6 then 79 else 0
def popB (op : Int) : Int := if op = 2 ∨ op = 4 ∨ op = 6 ∨ op = 7 ∨ op = 10 then 1 else if op = 3 ∨ op = 8 then 2 else 0
def pushB (op : Int) : Int := if op = 0 ∨ op = 1 ∨ op = 3 ∨ op = 4 ∨ op = 7 then 1 else 0
def instrB (op a : Int) : Bool := decide (0 ≤ op ∧ op ≤ 11 ∧ loB op ≤ a ∧ a ≤ hiB op)
theorem instrB_out {op a : Int} (h : ¬ (0 ≤ op ∧ op ≤ 11)) : instrB op a = false := decide_eq_false (fun e => h ⟨e.1, e.2.1⟩)
theorem instrB_in {op a : Int} (h0 : 0 ≤ op) (h1 : op ≤ 11) : instrB op a = decide (loB op ≤ a ∧ a ≤ hiB op) := by
  unfold instrB
  by_cases h : loB op ≤ a ∧ a ≤ hiB op
  · rw [decide_eq_true h, decide_eq_true ⟨h0, h1, h⟩]
  · rw [decide_eq_false h, decide_eq_false (fun e => h e.2.2)]
theorem instrB_parts {op a : Int} (h : instrB op a = true) : 0 ≤ op ∧ op ≤ 11 ∧ loB op ≤ a ∧ a ≤ hiB op := of_decide_eq_true h
theorem instrB_cases {op a : Int} (h : instrB op a = true) : op = 0 ∨ op = 1 ∨ op = 2 ∨ op = 3 ∨ op = 4 ∨ op = 5 ∨ op = 6 ∨ op = 7 ∨ op = 8 ∨ op = 9 ∨ op = 10 ∨ op = 11 := by
  have := instrB_parts h
  omega
/-- Valid code. -/
def codeB (xs : List (Int × Int)) : Bool := decide (1 ≤ xs.length ∧ xs.length ≤ 80 ∧ ∀ x ∈ xs, instrB x.1 x.2 = true)
theorem codeB_len {xs : List (Int × Int)} (h : ¬ (1 ≤ xs.length ∧ xs.length ≤ 80)) : codeB xs = false := decide_eq_false (fun e => h ⟨e.1, e.2.1⟩)
theorem codeB_no {xs : List (Int × Int)} {k : Nat} {x : Int × Int} (hx : xs[k]? = some x) (h : instrB x.1 x.2 = false) : codeB xs = false := decide_eq_false (fun e => by
  have := e.2.2 x (List.mem_of_getElem? hx)
  rw [h] at this; cases this)
theorem codeB_is {xs : List (Int × Int)} {k : Nat} (h : ∀ x ∈ xs.take k, instrB x.1 x.2 = true) (hk : xs.length ≤ k) : codeB xs = decide (1 ≤ xs.length ∧ xs.length ≤ 80) := by
  rw [List.take_of_length_le hk] at h
  unfold codeB
  by_cases e : 1 ≤ xs.length ∧ xs.length ≤ 80
  · rw [decide_eq_true e, decide_eq_true ⟨e.1, e.2, h⟩]
  · rw [decide_eq_false e, decide_eq_false (fun q => e ⟨q.1, q.2.1⟩)]
theorem codeB_step {xs : List (Int × Int)} {k : Nat} {x : Int × Int} (h : ∀ x ∈ xs.take k, instrB x.1 x.2 = true) (hx : xs[k]? = some x) (hv : instrB x.1 x.2 = true) : ∀ x ∈ xs.take (k + 1), instrB x.1 x.2 = true := by
  intro y hy
  rw [List.take_add_one, hx] at hy
  rcases List.mem_append.1 hy with hy | hy
  · exact h y hy
  · obtain rfl : y = x := by simpa using hy
    exact hv
theorem codeB_parts {xs : List (Int × Int)} (h : codeB xs = true) : 1 ≤ xs.length ∧ xs.length ≤ 80 ∧ ∀ x ∈ xs, instrB x.1 x.2 = true := of_decide_eq_true h
theorem codeB_at {xs : List (Int × Int)} (h : codeB xs = true) {k : Nat} {x : Int × Int} (hx : xs[k]? = some x) : instrB x.1 x.2 = true := (codeB_parts h).2.2 x (List.mem_of_getElem? hx)
end Go.Proofs.YtdmcpabpjhinhaaDoor
