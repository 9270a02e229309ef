/-
  Valid terms: the test as a function of the numbers; what it says of each of them. No conditions.
-/
import Derived.Test.YtajmbnimdngjhaaGreatDoorBase
namespace Go.Proofs.YtajmbnimdngjhaaGreatDoor
open Go.RowKit

/-- All numbers lie between two bounds. -/
def btw (lo hi : Int) (zs : List Int) : Bool := decide (∀ z ∈ zs, lo ≤ z ∧ z ≤ hi)
theorem btw_take_succ {lo hi : Int} {zs : List Int} {k : Nat} {x : Int} (h : ∀ z ∈ zs.take k, lo ≤ z ∧ z ≤ hi) (hx : zs[k]? = some x) (h1 : lo ≤ x) (h2 : x ≤ hi) : ∀ z ∈ zs.take (k + 1), lo ≤ z ∧ z ≤ hi := by
  intro z hz
  rw [List.take_add_one, hx] at hz
  simp only [Option.toList, List.mem_append, List.mem_singleton] at hz
  rcases hz with hz | rfl
  · exact h z hz
  · exact ⟨h1, h2⟩
theorem btw_no {lo hi : Int} {zs : List Int} {k : Nat} {x : Int} (hx : zs[k]? = some x) (h : ¬ (lo ≤ x ∧ x ≤ hi)) : btw lo hi zs = false :=
  decide_eq_false fun a => h (a x (List.mem_of_getElem? hx))
theorem btw_yes {lo hi : Int} {zs : List Int} {k : Nat} (h : ∀ z ∈ zs.take k, lo ≤ z ∧ z ≤ hi) (hk : zs.length ≤ k) : btw lo hi zs = true := by
  rw [List.take_of_length_le hk] at h
  exact decide_eq_true h
theorem btw_in {lo hi : Int} {zs : List Int} (h : btw lo hi zs = true) : ∀ z ∈ zs, lo ≤ z ∧ z ≤ hi := of_decide_eq_true h

/-- A valid term: at most ten coefficients, the last of which is not 0; all numbers from -1000000 to 1000000. -/
def tmB (t : Int × List Int) : Bool := decide (t.2.length ≤ 10) && (decide (t.2[t.2.length - 1]? ≠ some 0) && (btw (-1000000) 1000000 [t.1] && btw (-1000000) 1000000 t.2))
theorem tmB_long {t : Int × List Int} (h : 10 < t.2.length) : tmB t = false := by
  unfold tmB; rw [decide_eq_false (by omega)]; rfl
theorem tmB_zero {t : Int × List Int} {k : Nat} (hk : t.2.length = k + 1) (h : t.2[k]? = some 0) : tmB t = false := by
  unfold tmB; rw [hk, Nat.add_sub_cancel, h]; simp
theorem tmB_const {t : Int × List Int} (h : ¬ (-1000000 ≤ t.1 ∧ t.1 ≤ 1000000)) : tmB t = false := by
  have : btw (-1000000) 1000000 [t.1] = false := decide_eq_false fun a => h (a _ (List.mem_singleton.2 rfl))
  unfold tmB; rw [this]; simp
theorem tmB_coeff {t : Int × List Int} (h : btw (-1000000) 1000000 t.2 = false) : tmB t = false := by
  unfold tmB; rw [h]; simp
theorem tmB_rest {t : Int × List Int} {k : Nat} {x : Int} (hk : t.2.length = k + 1) (hl : t.2.length ≤ 10) (hx : t.2[k]? = some x) (h0 : x ≠ 0) (h1 : -1000000 ≤ t.1) (h2 : t.1 ≤ 1000000) : tmB t = btw (-1000000) 1000000 t.2 := by
  have : btw (-1000000) 1000000 [t.1] = true := decide_eq_true fun z hz => by obtain rfl := List.mem_singleton.1 hz; exact ⟨h1, h2⟩
  unfold tmB; rw [this, decide_eq_true hl, hk, Nat.add_sub_cancel, hx]; simp [h0]
theorem tmB_empty {t : Int × List Int} (hk : t.2 = []) (h1 : -1000000 ≤ t.1) (h2 : t.1 ≤ 1000000) : tmB t = true := by
  have : btw (-1000000) 1000000 [t.1] = true := decide_eq_true fun z hz => by obtain rfl := List.mem_singleton.1 hz; exact ⟨h1, h2⟩
  unfold tmB; rw [this, hk]; simp [btw]
theorem tmB_parts {t : Int × List Int} (h : tmB t = true) : t.2.length ≤ 10 ∧ (-1000000 ≤ t.1 ∧ t.1 ≤ 1000000) ∧ (∀ z ∈ t.2, -1000000 ≤ z ∧ z ≤ 1000000) ∧ t.2[t.2.length - 1]? ≠ some 0 := by
  unfold tmB at h
  simp only [Bool.and_eq_true, decide_eq_true_eq] at h
  exact ⟨h.1, btw_in h.2.2.1 _ (List.mem_singleton.2 rfl), btw_in h.2.2.2, h.2.1⟩
end Go.Proofs.YtajmbnimdngjhaaGreatDoor
