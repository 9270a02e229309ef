/-
  The model's RunCode and CountCode. Conditions: at most 2^20 instructions and numbers.
-/
import Derived.Test.YtffkdidgfeknkaaDoorRunS
namespace Go.Proofs.YtffkdidgfeknkaaDoor
set_option linter.unusedVariables false
open Go.RowKit

theorem runB_parts {cs : List (Int × Int)} {vs zs : List Int} {f : Int} (h : runB cs vs zs f = true) : codeB cs = true ∧ stB vs zs = true ∧ fuelB f = true ∧ CfV vs zs [] 0 ∧ 0 ≤ f ∧ f ≤ 2000 := by
  unfold runB at h
  simp only [Bool.and_eq_true] at h
  obtain ⟨h1, h2, h3⟩ := h
  have h2' := h2
  unfold stB at h2'
  simp only [Bool.and_eq_true] at h2'
  have a := numsB_parts h2'.1
  have d := numsB_parts h2'.2
  have h3' := h3
  unfold fuelB at h3'
  simp at h3'
  exact ⟨h1, h2, h3, ⟨a.1, d.1, Nat.zero_le _, a.2, d.2, (fun x hx => by cases hx), Int.le_refl _, by omega⟩, h3'.1, h3'.2⟩
theorem runN_len {cs : List (Int × Int)} {vs zs : List Int} {f : Int} (h : runB cs vs zs f = true) : (runN cs f.toNat (c0R vs zs)).1.1.length = 4 ∧ (runN cs f.toNat (c0R vs zs)).1.2.1.length = 8 ∧ (runN cs f.toNat (c0R vs zs)).2.1.length ≤ 2000 := by
  obtain ⟨h1, _, _, v, f0, f1⟩ := runB_parts h
  have a := runN_valid h1 f.toNat (c0R vs zs) v
  have b := (runN_places h1 f.toNat (c0R vs zs) v).1
  exact ⟨a.lv, a.lz, by omega⟩
theorem runR_len (cs : List (Int × Int)) (vs zs : List Int) (f : Int) : (runR cs vs zs f).1.1.length ≤ 1000 ∧ (runR cs vs zs f).1.2.length ≤ 1000 ∧ (runR cs vs zs f).2.1.length ≤ 2000 := by
  cases h : runB cs vs zs f with
  | false => rw [runR_no h]; simp
  | true =>
    rw [runR_yes h]
    obtain ⟨a, b, c⟩ := runN_len h
    have d := evR_len cs (runN cs f.toNat (c0R vs zs)).2.1
    refine ⟨?_, ?_, ?_⟩
    · show (runN cs f.toNat (c0R vs zs)).1.1.length ≤ 1000; omega
    · show (runN cs f.toNat (c0R vs zs)).1.2.1.length ≤ 1000; omega
    · show (evR cs (runN cs f.toNat (c0R vs zs)).2.1).length ≤ 2000; omega
theorem cntR_len (cs : List (Int × Int)) (vs zs : List Int) (f : Int) : (cntR cs vs zs f).1.length ≤ 1000 := by
  cases h : runB cs vs zs f with
  | false => rw [cntR_no h]; simp
  | true =>
    rw [cntR_yes h]
    show (countR cs.length _).length ≤ 1000
    rw [countR_len]
    have := (codeB_parts (runB_parts h).1).2.1
    omega

end Go.Proofs.YtffkdidgfeknkaaDoor
