/-
  The model's step of code, put together; its StepCode. Conditions: at most 2^20 instructions and numbers; a stack's slice is not longer than its capacity.
-/
import Derived.Test.YtffkdidgfeknkaaDoorBunF
namespace Go.Proofs.YtffkdidgfeknkaaDoor
set_option linter.unusedVariables false
open Go.RowKit

theorem vcfB_parts {cs : List (Int × Int)} {vs zs st : List Int} {p : Int} (h : vcfB cs vs zs st p = true) : codeB cs = true ∧ CfV vs zs st p := by
  unfold vcfB cfgB stB at h
  simp only [Bool.and_eq_true, decide_eq_true_eq] at h
  obtain ⟨h1, ⟨h2, h3⟩, ⟨h4, h5⟩, h6, h7⟩ := h
  have a := numsB_parts h2
  have d := numsB_parts h3
  exact ⟨h1, a.1, d.1, h6, a.2, d.2, btw_in h7, h4, h5⟩
section
variable {cs : List (Int × Int)} {vs zs st : List Int} {p : Int}
theorem behN_go (h : outN cs st p = 0) : behN cs (vs, zs, st, p) = nextN cs (vs, zs, st, p) := if_pos h
theorem behN_stop (h : outN cs st p ≠ 0) : behN cs (vs, zs, st, p) = (vs, zs, st, p) := if_neg h
theorem behN_valid (hc : codeB cs = true) (v : CfV vs zs st p) : CfC (behN cs (vs, zs, st, p)) := by
  by_cases h : outN cs st p = 0
  · rw [behN_go h]; exact CfC.next (c := (vs, zs, st, p)) v hc h
  · rw [behN_stop h]; exact v
end

/-- What StepCode gives. -/
def stepR (cs : List (Int × Int)) (vs zs st : List Int) (p : Int) : (List Int × List Int × List Int × Int) × Int × Bool :=
  if vcfB cs vs zs st p = true then (behN cs (vs, zs, st, p), outN cs st p, true) else (([], [], [], 0), 0, false)
theorem stepR_yes {cs : List (Int × Int)} {vs zs st : List Int} {p : Int} (h : vcfB cs vs zs st p = true) : stepR cs vs zs st p = (behN cs (vs, zs, st, p), outN cs st p, true) := if_pos h
theorem stepR_no {cs : List (Int × Int)} {vs zs st : List Int} {p : Int} (h : vcfB cs vs zs st p = false) : stepR cs vs zs st p = (([], [], [], 0), 0, false) := if_neg (by rw [h]; simp)
theorem stepR_len (cs : List (Int × Int)) (vs zs st : List Int) (p : Int) : (stepR cs vs zs st p).1.1.length ≤ 1000 ∧ (stepR cs vs zs st p).1.2.1.length ≤ 1000 ∧ (stepR cs vs zs st p).1.2.2.1.length ≤ 1000 := by
  cases h : vcfB cs vs zs st p with
  | false => rw [stepR_no h]; simp
  | true =>
    rw [stepR_yes h]
    obtain ⟨hc, v⟩ := vcfB_parts h
    have b := behN_valid hc v
    have b1 := b.lv
    have b2 := b.lz
    have b3 := b.ls
    exact ⟨by show (behN cs (vs, zs, st, p)).1.length ≤ 1000; omega, by show (behN cs (vs, zs, st, p)).2.1.length ≤ 1000; omega, by show (behN cs (vs, zs, st, p)).2.2.1.length ≤ 1000; omega⟩
def StepQ (r : (List Int × List Int × List Int × Int) × Int × Bool) (w : World) : Ending → World → Prop := fun e w' =>
  ∃ X cx X' cx' X2 cx2, e = .returned (.tuple #[.agg #[.slice X r.1.1.length cx, .slice X' r.1.2.1.length cx', .slice X2 r.1.2.2.1.length cx2, .int .i64 r.1.2.2.2], .int .i64 r.2.1, .bool r.2.2]) ∧
    OwnL w' w.heap.size w'.heap.size X r.1.1.length cx r.1.1 ∧ OwnL w' w.heap.size w'.heap.size X' r.1.2.1.length cx' r.1.2.1 ∧ OwnL w' w.heap.size w'.heap.size X2 r.1.2.2.1.length cx2 r.1.2.2.1 ∧ Below w.heap.size w w'
theorem own_none (w : World) (lo hi : Nat) (h1 : lo ≤ hi) (h2 : hi ≤ w.heap.size) : OwnL w lo hi none 0 0 [] := ⟨rfl, World.ownsRow_nil _ _ _ _, (fun j hj => by cases hj), h2⟩

end Go.Proofs.YtffkdidgfeknkaaDoor
