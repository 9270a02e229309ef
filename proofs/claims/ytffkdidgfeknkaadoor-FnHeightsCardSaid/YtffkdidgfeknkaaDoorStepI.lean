/-
  The program's StepCode. Conditions: at most 2^20 instructions and numbers.
-/
import Derived.Test.YtffkdidgfeknkaaDoorStepS
namespace Go.Proofs.YtffkdidgfeknkaaDoor
set_option linter.unusedVariables false
open Go.RowKit

def StepQ2 (r : (List Int × List Int × List Int × Int) × Int × Bool) (w : World) : Ending → World → Prop := fun e w' =>
  ∃ X cx X' cx' X2 cx2 mid mid2, e = .returned (.tuple #[.agg #[.slice X r.1.1.length cx, .slice X' r.1.2.1.length cx', .slice X2 r.1.2.2.1.length cx2, .int .i64 r.1.2.2.2], .int .i64 r.2.1, .bool r.2.2]) ∧
    OwnL w' w.heap.size mid X r.1.1.length cx r.1.1 ∧ OwnL w' mid mid2 X' r.1.2.1.length cx' r.1.2.1 ∧ OwnL w' mid2 w'.heap.size X2 r.1.2.2.1.length cx2 r.1.2.2.1 ∧ (w.heap.size ≤ mid ∧ mid ≤ mid2 ∧ mid2 ≤ w'.heap.size) ∧ Below w.heap.size w w'
theorem aft_rep {cs : List (Int × Int)} {L L' vs zs st : List Int} {p : Int} (r : Rep L vs zs st p) (h1 : outN cs st p ≠ 0 → L' = L) (h2 : outN cs st p = 0 → Rep L' (nextN cs (vs, zs, st, p)).1 (nextN cs (vs, zs, st, p)).2.1 (nextN cs (vs, zs, st, p)).2.2.1 (nextN cs (vs, zs, st, p)).2.2.2) :
    Rep L' (behN cs (vs, zs, st, p)).1 (behN cs (vs, zs, st, p)).2.1 (behN cs (vs, zs, st, p)).2.2.1 (behN cs (vs, zs, st, p)).2.2.2 := by
  by_cases h : outN cs st p = 0
  · rw [behN_go h]; exact h2 h
  · rw [behN_stop h, h1 h]; exact r

end Go.Proofs.YtffkdidgfeknkaaDoor
