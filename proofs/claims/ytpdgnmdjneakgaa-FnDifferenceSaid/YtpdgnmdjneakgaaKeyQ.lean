/-
  Pairs of states as keys of a map: their literals, and the map of the pairs' numbers. A pair is told by one number. Conditions: numbers that fit.
-/
import Derived.Test.YtpdgnmdjneakgaaWork
import Derived.WideKeyPair
import Derived.DeepKeys4
import Derived.OpenShut
namespace Go.Proofs.Ytpdgnmdjneakgaa
set_option linter.unusedVariables false
open Go.RowKit Go.ChangeShapes Go.WideShapes Go.WideMaps

theorem laidOutQ : laidOutB Try.prog = true := by kernel_rfl
theorem cellsQ : Try.prog.cellsOf 52 = 2 := by kernel_rfl
theorem arrQ : ArrKey Try.prog 52 2 2 := ⟨Try.underlying52, by kernel_rfl, by kernel_rfl, cellsQ⟩
theorem wideQ : (match Try.prog.underlying 52 with | some (.array _ _) | some (.struct _) => true | _ => false) = true := by rw [Try.underlying52]
theorem typesQ : ∃ m, Try.prog.types.size = m + 1 := ⟨Try.prog.types.size - 1, by
  have : 0 < Try.prog.types.size := of_decide_eq_true (by kernel_rfl)
  omega⟩
set_option maxRecDepth 100000 in
theorem lawQ : KeyLaw Try.prog 52 := deep_law_laid laidOutQ (m := 2) (by omega) (of_decide_eq_true (by kernel_rfl)) (by kernel_rfl) wideQ
theorem keyedQ : Maps.Keyed Try.prog 52 := Maps.Keyed.of_law lawQ
/-- The numbers that tell pairs. -/
def RowQ (κ x : Int) : Prop := 0 < κ ∧ 0 ≤ x ∧ x ≤ 1000000
/-- The pair that a number tells. -/
def pv (κ x : Int) : List Value := [.int .i64 (x / κ), .int .i64 (x % κ)]
/-- The literal of a pair. -/
def kQ (κ x : Int) : Lit := .string (keyBytes [Lit.int .i64 (x / κ), Lit.int .i64 (x % κ)])
theorem RowQ.fit {κ x : Int} (h : RowQ κ x) : (0 ≤ x / κ ∧ x / κ ≤ 1000000) ∧ 0 ≤ x % κ ∧ x % κ ≤ 1000000 := by
  obtain ⟨h1, h2, h3⟩ := h
  have e1 : x / κ ≤ x := Int.ediv_le_self κ h2
  have e2 : x % κ ≤ x := by
    have a := Int.emod_add_mul_ediv x κ
    have b : 0 ≤ κ * (x / κ) := Int.mul_nonneg (by omega) (Int.ediv_nonneg h2 (by omega))
    omega
  exact ⟨⟨Int.ediv_nonneg h2 (by omega), by omega⟩, Int.emod_nonneg _ (by omega), by omega⟩
theorem pair_inj {κ x y : Int} (h1 : x / κ = y / κ) (h2 : x % κ = y % κ) : x = y := by
  rw [← Int.emod_add_mul_ediv x κ, ← Int.emod_add_mul_ediv y κ, h1, h2]
theorem kQ_key {κ x : Int} (h : RowQ κ x) : keyOf Try.prog 52 (.agg #[.int .i64 (x / κ), .int .i64 (x % κ)]) = some (kQ κ x) := by
  have hf := h.fit
  exact keyOf_pair arrQ Try.underlying2 typesQ (WalkArith.wf_i64 (by omega)) (WalkArith.wf_i64 (by omega))
set_option maxRecDepth 100000 in
theorem kQ_inj {κ r s : Int} (h : RowQ κ r) (h' : RowQ κ s) (e : kQ κ r = kQ κ s) : r = s := by
  have h1 := kQ_key h
  rw [e] at h1
  have h2 := keyedQ.inj h1 (kQ_key h')
  injection h2 with h2
  have h3 := congrArg Array.toList h2
  simp only [List.cons.injEq, Value.int.injEq, and_true, true_and] at h3
  exact pair_inj h3.1 h3.2
theorem kQ_lit (κ r : Int) : WideAt.IsKeyLit (kQ κ r) := trivial

set_option maxRecDepth 100000 in
theorem zeroQ (w : World) : (zeroValue 2).run Try.prog w = .ok (.int .i64 0) w := by kernel_rfl
/-- Block b is the map of the numbers of a list's pairs. -/
def NumQ (κ : Int) (w : World) (b : Nat) (L : List Int) : Prop :=
  ∃ D : DataW Unit, w.ownsMap Try.prog 52 (plainElem Try.prog 2) b L.length D ∧ ∀ r, RowQ κ r → Maps.has D (kQ κ r) = decide (r ∈ L) ∧ (r ∈ L → D.atKey (kQ κ r) (.lit (.int .i64 0)) = .lit (.int .i64 (L.idxOf r : Int)))
theorem numQ_made (κ : Int) (w : World) : NumQ κ (w.alloc (.map #[] 0)) w.heap.size [] := ⟨.map [], World.ownsMap_made _ _ _ _, fun k _ => ⟨by simp [Maps.has_eq], fun h => by cases h⟩⟩
theorem numQ_put {κ : Int} {w : World} {D : DataW Unit} {b : Nat} {L : List Int} {x : Int} (h : ∀ r, RowQ κ r → Maps.has D (kQ κ r) = decide (r ∈ L) ∧ (r ∈ L → D.atKey (kQ κ r) (.lit (.int .i64 0)) = .lit (.int .i64 (L.idxOf r : Int))))
    (hD : Maps.IsMap D) (hx : x ∉ L) (hg : RowQ κ x) (h3 : w.ownsMap Try.prog 52 (plainElem Try.prog 2) b (L.length + 1) (D.put (kQ κ x) (.lit (.int .i64 (L.length : Int))))) : NumQ κ w b (L ++ [x]) := by
  refine ⟨_, by rw [List.length_append]; exact h3, fun k hk => ?_⟩
  by_cases e : k = x
  · subst e
    refine ⟨?_, fun _ => ?_⟩
    · rw [Maps.has_put_same (k := kQ κ k) hD (kQ_lit _ _)]; simp
    · rw [Maps.atKey_put_same (k := kQ κ k) hD (kQ_lit _ _), List.idxOf_append, if_neg hx]
      simp
  · have ne : kQ κ k ≠ kQ κ x := fun h' => e (kQ_inj hk hg h')
    refine ⟨?_, fun hm => ?_⟩
    · rw [Maps.has_put_other ne, (h k hk).1]
      simp [e]
    · have hm' : k ∈ L := by rcases List.mem_append.1 hm with h' | h'; exact h'; simp at h'; exact absurd h' e
      rw [Maps.atKey_put_other ne, (h k hk).2 hm', List.idxOf_append, if_pos hm']
theorem NumQ.kept {κ : Int} {w w' : World} {b : Nat} {L : List Int} {r : Option Nat} (h : NumQ κ w b L) (hg : w.grownBy w' r) (hr : r ≠ some b) : NumQ κ w' b L := by
  obtain ⟨D, h1, h2⟩ := h
  exact ⟨D, h1.kept hg (fun e => hr e.symm), h2⟩
theorem NumQ.blk {κ : Int} {w w' : World} {b : Nat} {L : List Int} (h : NumQ κ w b L) (hb : w'.heap[b]? = w.heap[b]?) : NumQ κ w' b L := by
  obtain ⟨D, ⟨es, clock, h3, h4⟩, h2⟩ := h
  exact ⟨D, ⟨es, clock, hb.trans h3, h4⟩, h2⟩
theorem NumQ.lt {κ : Int} {w : World} {b : Nat} {L : List Int} (h : NumQ κ w b L) : b < w.heap.size := by obtain ⟨D, h1, _⟩ := h; exact h1.lt
theorem NumQ.isMap {κ : Int} {w : World} {b : Nat} {L : List Int} (h : NumQ κ w b L) : ∃ es cl, w.heap[b]? = some (.map es cl) := by obtain ⟨D, ⟨es, cl, h1, _⟩, _⟩ := h; exact ⟨es, cl, h1⟩
end Go.Proofs.Ytpdgnmdjneakgaa
