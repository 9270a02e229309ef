/-
  Runs of code, step after step: what is known when so many steps are made. No conditions.
-/
import Derived.Test.YtdmcpabpjhinhaaRunP
import Derived.Test.YtdmcpabpjhinhaaStV
namespace Go.Proofs.Ytdmcpabpjhinhaa
set_option linter.unusedVariables false
open Go.RowKit

/-- Behind i steps of a run with fuel F the config is d, and the places ks have been executed. -/
def RunTo (cs : List (Int × Int)) (F : Nat) (c : Cf) (i : Nat) (d : Cf) (ks : List Int) : Prop :=
  i ≤ F ∧ ks.length = i ∧ CfC d ∧ (∀ k ∈ ks, 0 ≤ k ∧ k < (cs.length : Int)) ∧ runN cs F c = ((runN cs (F - i) d).1, ks ++ (runN cs (F - i) d).2.1, (runN cs (F - i) d).2.2)
section
variable {cs : List (Int × Int)} {F i : Nat} {c d : Cf} {ks : List Int}
theorem RunTo.zero (hv : CfC c) : RunTo cs F c 0 c [] := ⟨Nat.zero_le _, rfl, hv, (fun k hk => by cases hk), by rw [Nat.sub_zero]; simp⟩
theorem RunTo.go (h : RunTo cs F c i d ks) (hc : codeB cs = true) (hi : i < F) (ho : outC cs d = 0) : RunTo cs F c (i + 1) (nextN cs d) (ks ++ [d.2.2.2]) := by
  obtain ⟨h1, h2, h3, h4, h5⟩ := h
  have h3' := outC_parts ho h3
  have hp := h3.p0
  refine ⟨by omega, by simp [h2], h3.next hc ho, fun k hk => ?_, ?_⟩
  · rcases List.mem_append.1 hk with hk | hk
    · exact h4 k hk
    · obtain rfl : k = d.2.2.2 := by simpa using hk
      exact ⟨hp, h3'.1⟩
  · have e : F - i = (F - (i + 1)) + 1 := by omega
    rw [h5, e, runN_go ho]
    simp
theorem RunTo.stop (h : RunTo cs F c i d ks) (hi : i < F) (ho : outC cs d ≠ 0) : runN cs F c = (d, ks, endO (outC cs d)) := by
  obtain ⟨h1, h2, h3, h4, h5⟩ := h
  have e : F - i = (F - (i + 1)) + 1 := by omega
  rw [h5, e, runN_stop ho]
  simp
theorem RunTo.fin (h : RunTo cs F c F d ks) : runN cs F c = (d, ks, 1) := by
  obtain ⟨h1, h2, h3, h4, h5⟩ := h
  rw [h5, Nat.sub_self, runN_zero]
  simp
end
/-- What RunCode and CountCode give. -/
def fuelB (f : Int) : Bool := decide (0 ≤ f) && decide (f ≤ 2000)
def runB (cs : List (Int × Int)) (vs zs : List Int) (f : Int) : Bool := codeB cs && (stB vs zs && fuelB f)
def c0R (vs zs : List Int) : Cf := (vs, zs, [], 0)
def runR (cs : List (Int × Int)) (vs zs : List Int) (f : Int) : (List Int × List Int) × List Int × Int × Bool :=
  if runB cs vs zs f = true then (((runN cs f.toNat (c0R vs zs)).1.1, (runN cs f.toNat (c0R vs zs)).1.2.1), evR cs (runN cs f.toNat (c0R vs zs)).2.1, (runN cs f.toNat (c0R vs zs)).2.2, true) else (([], []), [], 0, false)
def cntR (cs : List (Int × Int)) (vs zs : List Int) (f : Int) : List Int × Bool :=
  if runB cs vs zs f = true then (countR cs.length (runN cs f.toNat (c0R vs zs)).2.1, true) else ([], false)
section
variable {cs : List (Int × Int)} {vs zs : List Int} {f : Int}
theorem runR_yes (h : runB cs vs zs f = true) : runR cs vs zs f = (((runN cs f.toNat (c0R vs zs)).1.1, (runN cs f.toNat (c0R vs zs)).1.2.1), evR cs (runN cs f.toNat (c0R vs zs)).2.1, (runN cs f.toNat (c0R vs zs)).2.2, true) := if_pos h
theorem runR_no (h : runB cs vs zs f = false) : runR cs vs zs f = (([], []), [], 0, false) := if_neg (by rw [h]; simp)
theorem cntR_yes (h : runB cs vs zs f = true) : cntR cs vs zs f = (countR cs.length (runN cs f.toNat (c0R vs zs)).2.1, true) := if_pos h
theorem cntR_no (h : runB cs vs zs f = false) : cntR cs vs zs f = ([], false) := if_neg (by rw [h]; simp)
end
end Go.Proofs.Ytdmcpabpjhinhaa
