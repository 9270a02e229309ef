/-
  Terms over variables: what the model's l03Term and l03Terms give. Conditions: at most 2^20 terms and coefficients.
-/
import Derived.Test.YtglbkbdljjaioaaGreatValid
import Derived.Test.YtglbkbdljjaioaaGreatTermsK
namespace Go.Proofs.YtglbkbdljjaioaaGreat
set_option linter.unusedVariables false
open Go.RowKit

/-- A valid term over variables alone. -/
def overB (t : Int × List Int) : Bool := tmB t && decide (t.2.length ≤ 4)
theorem overB_no {t : Int × List Int} (h : tmB t = false) : overB t = false := by unfold overB; rw [h]; rfl
theorem overB_long {t : Int × List Int} (h : 4 < t.2.length) : overB t = false := by unfold overB; rw [decide_eq_false (by omega)]; simp
theorem overB_is {t : Int × List Int} (h : tmB t = true) (hl : t.2.length ≤ 4) : overB t = true := by unfold overB; rw [h, decide_eq_true hl]; rfl
/-- So many valid terms over variables. -/
def oversB (m : Nat) (ts : List (Int × List Int)) : Bool := ts.all overB && decide (ts.length ≤ m)
theorem oversB_no {m : Nat} {ts : List (Int × List Int)} {k : Nat} {t : Int × List Int} (ht : ts[k]? = some t) (h : overB t = false) : oversB m ts = false := by
  have : ts.all overB = false := by
    rw [List.all_eq_false]
    exact ⟨t, List.mem_of_getElem? ht, by rw [h]; simp⟩
  unfold oversB; rw [this]; rfl
theorem oversB_long {m : Nat} {ts : List (Int × List Int)} (h : m < ts.length) : oversB m ts = false := by unfold oversB; rw [decide_eq_false (by omega)]; simp
theorem oversB_is {m : Nat} {ts : List (Int × List Int)} (h : ∀ t ∈ ts, overB t = true) (hl : ts.length ≤ m) : oversB m ts = true := by
  unfold oversB; rw [decide_eq_true hl, List.all_eq_true.2 h]; rfl
theorem all_succ {p : Int × List Int → Prop} {ts : List (Int × List Int)} {k : Nat} {t : Int × List Int} (h : ∀ u ∈ ts.take k, p u) (ht : ts[k]? = some t) (hp : p t) : ∀ u ∈ ts.take (k + 1), p u := by
  intro u hu
  rw [List.take_add_one, ht] at hu
  rcases List.mem_append.1 hu with h1 | h1
  · exact h u h1
  · obtain rfl : u = t := by simpa using h1
    exact hp

end Go.Proofs.YtglbkbdljjaioaaGreat
