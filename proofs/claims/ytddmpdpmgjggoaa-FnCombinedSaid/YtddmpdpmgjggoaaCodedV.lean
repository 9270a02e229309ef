/-
  Lists that can be coded, and what the program's areCoded gives. Conditions: at most 2^20 numbers.
-/
import Derived.Test.YtddmpdpmgjggoaaEq
import Derived.Test.YtddmpdpmgjggoaaTmB
import Derived.Test.YtddmpdpmgjggoaaValid
namespace Go.Proofs.Ytddmpdpmgjggoaa
open Go.RowKit

/-- Numbers that can be coded. -/
def InC (z : Int) : Prop := -1000000000000000 ≤ z ∧ z ≤ 1000000000000000
instance : DecidablePred InC := fun z => by unfold InC; infer_instance
def codedB (zs : List Int) : Bool := decide (∀ z ∈ zs, InC z) && decide (zs.length ≤ 100)
theorem all_take_succ {zs : List Int} {k : Nat} {x : Int} (h : ∀ z ∈ zs.take k, InC z) (hx : zs[k]? = some x) (h1 : -1000000000000000 ≤ x) (h2 : x ≤ 1000000000000000) : ∀ z ∈ zs.take (k + 1), InC z := by
  intro z hz
  rw [List.take_add_one, hx] at hz
  simp only [Option.toList, List.mem_append, List.mem_singleton] at hz
  rcases hz with hz | rfl
  · exact h z hz
  · exact ⟨h1, h2⟩
theorem coded_no {zs : List Int} {k : Nat} {x : Int} (hx : zs[k]? = some x) (h : ¬ (-1000000000000000 ≤ x ∧ x ≤ 1000000000000000)) : codedB zs = false := by
  unfold codedB
  rw [decide_eq_false (fun a => h (a x (List.mem_of_getElem? hx)))]
  rfl
theorem coded_yes {zs : List Int} {k : Nat} (h : ∀ z ∈ zs.take k, InC z) (hk : zs.length ≤ k) : codedB zs = decide (zs.length ≤ 100) := by
  rw [List.take_of_length_le hk] at h
  unfold codedB
  rw [decide_eq_true h]
  rfl
theorem coded_in {zs : List Int} (h : codedB zs = true) : ∀ z ∈ zs, InC z := by
  unfold codedB at h
  rw [Bool.and_eq_true] at h
  exact of_decide_eq_true h.1

theorem coded_btw {zs : List Int} (hl : zs.length ≤ 100) : codedB zs = btw (-1000000000000000) 1000000000000000 zs := by
  unfold codedB btw
  rw [decide_eq_true hl, Bool.and_true]
  rfl
theorem coded_long {zs : List Int} (hl : ¬ zs.length ≤ 100) : codedB zs = false := by unfold codedB; rw [decide_eq_false hl]; simp

end Go.Proofs.Ytddmpdpmgjggoaa
