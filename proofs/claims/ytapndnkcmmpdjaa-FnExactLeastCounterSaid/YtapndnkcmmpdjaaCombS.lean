/-
  The model's sum of multiples of terms. Conditions: at most 2^20 terms, coefficients and multipliers.
-/
import Derived.Test.YtapndnkcmmpdjaaComb
namespace Go.Proofs.Ytapndnkcmmpdjaa
open Go.RowKit

/-- A term's multiple added as far as its first k coefficients go. -/
def part (f : Int → Int) (x : Int) (t : Int × List Int) (k : Nat) : Int → Int := fun j => f j + (if j < (k : Int) then x * tf t j else 0)
theorem part_0 (f : Int → Int) (x : Int) (t : Int × List Int) : ten (part f x t 0) = ten f := ten_eq fun i => by
  unfold part; rw [if_neg (by omega)]; omega
theorem part_end (f : Int → Int) (x : Int) (t : Int × List Int) : ten (part f x t t.2.length) = ten (addT f x t) := ten_eq fun i => by
  unfold part addT
  by_cases h : (i : Int) < (t.2.length : Nat)
  · rw [if_pos h]
  · rw [if_neg h, tf_nat, List.getD_eq_getElem?_getD, List.getElem?_eq_none (by omega)]; simp
theorem ten_set {f : Int → Int} {x : Int} {t : Int × List Int} {k : Nat} (hk : k < 10) :
    ((ten (part f x t k)).map ic).set k (.int .i64 (part f x t k k + x * t.2.getD k 0)) = (ten (part f x t (k + 1))).map ic := by
  refine List.ext_getElem? fun j => ?_
  rw [List.getElem?_set]
  by_cases e : k = j
  · subst e
    rw [if_pos rfl, if_pos (by rw [List.length_map, ten_len]; exact hk), List.getElem?_map, ten_at _ hk]
    unfold part ic
    rw [if_neg (by omega), if_pos (by omega), tf_nat]
    simp
  · rw [if_neg e]
    by_cases hj : j < 10
    · rw [List.getElem?_map, List.getElem?_map, ten_at _ hj, ten_at _ hj]
      have : part f x t k (j : Nat) = part f x t (k + 1) (j : Nat) := by
        unfold part
        by_cases hl : (j : Int) < (k : Nat)
        · rw [if_pos hl, if_pos (by omega)]
        · rw [if_neg hl, if_neg (by omega)]
      rw [this]
    · rw [List.getElem?_eq_none (by rw [List.length_map, ten_len]; omega), List.getElem?_eq_none (by rw [List.length_map, ten_len]; omega)]
theorem part_bound {f : Int → Int} {x : Int} {t : Int × List Int} {M : Int} (_ : 0 ≤ M) (hf : ∀ j, -M ≤ f j ∧ f j ≤ M) (h1 : -1000000 ≤ x) (h2 : x ≤ 1000000) (ht : tmB t = true) (k : Nat) (j : Int) : -(M + 1000000000000) ≤ part f x t k j ∧ part f x t k j ≤ M + 1000000000000 := by
  have a := hf j
  have b := tf_small ht j
  have p := prod_le h1 h2 b.1 b.2
  unfold part
  by_cases hl : j < (k : Int)
  · rw [if_pos hl]; omega
  · rw [if_neg hl]; omega

end Go.Proofs.Ytapndnkcmmpdjaa
