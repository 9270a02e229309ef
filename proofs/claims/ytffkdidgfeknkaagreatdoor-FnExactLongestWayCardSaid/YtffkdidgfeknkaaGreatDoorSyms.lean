/-
  The symbols of some terms: what the model and the program give. Conditions: at most 2^20 terms and coefficients.
-/
import Derived.Test.YtffkdidgfeknkaaGreatDoorBunB
import Derived.Test.YtffkdidgfeknkaaGreatDoorSet
import Derived.Test.YtffkdidgfeknkaaGreatDoorTermsK
import Derived.Test.YtffkdidgfeknkaaGreatDoorBunA
import Derived.Maps.AppendAt
namespace Go.Proofs.YtffkdidgfeknkaaGreatDoor
set_option linter.unusedVariables false
open Go.RowKit

theorem row_snoc {w : World} {base n : Nat} {v : Value} {l : List Int} {y : Int} (h : w.ownsRow base 2 1 v (n + 1) (l.map ic ++ [.int .i64 y])) (hn : l.length = n) : w.ownsRow base 2 1 v (l ++ [y]).length ((l ++ [y]).map ic) := by
  subst hn
  simpa [ic] using h
theorem one_one (y : Int) : ∀ u ∈ [Value.int .i64 y], u.oneCell' = true := by intro u hu; simp at hu; subst hu; rfl
theorem row_new (w : World) : (w.alloc (.cells #[] 2)).ownsRow w.heap.size 2 1 (.slice (some ⟨w.heap.size, 0, none⟩) 0 0) ([] : List Int).length (([] : List Int).map ic) := own_empty w _

def symsR (ts : List (Int × List Int)) : List Int × Bool := if allT 14 ts = true then (symL ts, true) else ([], false)
theorem symsR_yes {ts : List (Int × List Int)} (h : allT 14 ts = true) : symsR ts = (symL ts, true) := if_pos h
theorem symsR_no {ts : List (Int × List Int)} (h : allT 14 ts = false) : symsR ts = ([], false) := if_neg (by rw [h]; simp)
theorem symsR_len (ts : List (Int × List Int)) : (symsR ts).1.length ≤ 10 := by
  unfold symsR
  split
  · exact symTo_len _ _ _
  · simp

/-- Block b is a map of at most n keys that has just the numbers of a list. -/
def SetF (w : World) (b n : Nat) (L : List Int) : Prop :=
  ∃ D : DataW Unit, w.ownsMap Tryz.prog 2 (plainElem Tryz.prog 4) b n D ∧ ∀ y, y ∈ L ↔ Maps.has D (.int .i64 y) = true
theorem keyedS : Maps.Keyed Tryz.prog 2 := Maps.int_keyed Tryz.underlying2
theorem setF_made (w : World) : SetF (w.alloc (.map #[] 0)) w.heap.size 0 [] := ⟨.map [], World.ownsMap_made _ _ _ _, fun y => by simp [Maps.has_eq]⟩
theorem SetF.lt {w : World} {b n : Nat} {L : List Int} (h : SetF w b n L) : b < w.heap.size := by obtain ⟨D, h1, _⟩ := h; exact h1.lt
theorem SetF.next {w w' : World} {b n : Nat} {L : List Int} (h : SetF w b n L) {B : Nat} (hb : Below B w w') (hB : b < B) : SetF w' b n L := by
  obtain ⟨D, h1, h2⟩ := h
  refine ⟨D, ?_, h2⟩
  obtain ⟨es, clock, h3, h4⟩ := h1
  exact ⟨es, clock, (hb.block b hB).trans h3, h4⟩
theorem SetF.same {w : World} {b n : Nat} {L L' : List Int} (h : SetF w b n L) (e : ∀ y, y ∈ L' ↔ y ∈ L) : SetF w b n L' := by
  obtain ⟨D, h1, h2⟩ := h
  exact ⟨D, h1, fun y => (e y).trans (h2 y)⟩
theorem SetF.mono {w : World} {b n n' : Nat} {L : List Int} (h : SetF w b n L) (hn : n ≤ n') : SetF w b n' L := by obtain ⟨D, h1, h2⟩ := h; exact ⟨D, h1.mono hn, h2⟩
theorem setF_put {w : World} {D : DataW Unit} {b n : Nat} {L L' : List Int} {x : Int} (h2 : ∀ y, y ∈ L ↔ Maps.has D (.int .i64 y) = true) (hD : Maps.IsMap D) (h3 : w.ownsMap Tryz.prog 2 (plainElem Tryz.prog 4) b n (D.put (.int .i64 x) (.lit (.bool true))))
    (e : ∀ y, y ∈ L' ↔ y ∈ L ∨ y = x) : SetF w b n L' := by
  refine ⟨_, h3, fun y => ?_⟩
  rw [e y]
  by_cases hy : y = x
  · subst hy
    rw [Maps.has_put_same (k := .int .i64 y) hD trivial]; simp
  · rw [Maps.has_put_other (fun h => hy (by injection h)), ← h2 y]; simp [hy]

end Go.Proofs.YtffkdidgfeknkaaGreatDoor
