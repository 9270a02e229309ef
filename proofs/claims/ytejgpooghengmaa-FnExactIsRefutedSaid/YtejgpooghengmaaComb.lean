/-
  The program's sum of multiples of terms, and of two terms. Conditions: at most 2^20 terms, coefficients and multipliers.
-/
import Derived.Test.YtejgpooghengmaaImplT1
import Derived.Test.YtejgpooghengmaaTermsC
import Derived.Deep.RegionHeld3
import Derived.StillTailTactics
namespace Go.Proofs.Ytejgpooghengmaa
open Go.RowKit

/-- The sum of the first k multiples. -/
def combTo (ts : List (Int × List Int)) (ks : List Int) : Nat → Int → Int
  | 0 => fun _ => 0
  | k + 1 => addT (combTo ts ks k) (ks.getD k 0) (ts.getD k (0, []))
def combOk (ts : List (Int × List Int)) (ks : List Int) : Bool := allT 14 ts && (decide (ks.length = ts.length) && btw 0 1000000 ks)
def combR (ts : List (Int × List Int)) (ks : List Int) : (Int × List Int) × Bool :=
  if combOk ts ks = true then mkL (combTo ts ks ts.length (-1)) (ten (combTo ts ks ts.length)) else ((0, []), false)
theorem combR_yes {ts : List (Int × List Int)} {ks : List Int} (h1 : allT 14 ts = true) (h2 : ks.length = ts.length) (h3 : btw 0 1000000 ks = true) : combR ts ks = mkL (combTo ts ks ts.length (-1)) (ten (combTo ts ks ts.length)) :=
  if_pos (by unfold combOk; rw [h1, h3, decide_eq_true h2]; rfl)
theorem combR_no {ts : List (Int × List Int)} {ks : List Int} (h : combOk ts ks = false) : combR ts ks = ((0, []), false) := if_neg (by rw [h]; simp)
theorem combOk_no1 {ts : List (Int × List Int)} {ks : List Int} (h : allT 14 ts = false) : combOk ts ks = false := by unfold combOk; rw [h]; rfl
theorem combOk_no2 {ts : List (Int × List Int)} {ks : List Int} (h : ¬ ks.length = ts.length) : combOk ts ks = false := by unfold combOk; rw [decide_eq_false h]; simp
theorem combOk_no3 {ts : List (Int × List Int)} {ks : List Int} (h : btw 0 1000000 ks = false) : combOk ts ks = false := by unfold combOk; rw [h]; simp
theorem res_lenC (ts : List (Int × List Int)) (ks : List Int) : (combR ts ks).1.2.length ≤ 10 := by
  unfold combR
  split
  · exact mkL_len _ _
  · simp
theorem tf_small {t : Int × List Int} (h : tmB t = true) (j : Int) : -1000000 ≤ tf t j ∧ tf t j ≤ 1000000 := by
  unfold tf
  by_cases h1 : j = -1
  · rw [if_pos h1]; exact (tmB_parts h).2.1
  · by_cases h2 : j < 0
    · rw [if_neg h1, if_pos h2]; omega
    · rw [if_neg h1, if_neg h2]; exact getD_small h _
theorem comb_bound {ts : List (Int × List Int)} {ks : List Int} (ht : ∀ t ∈ ts, tmB t = true) (hk : btw 0 1000000 ks = true) : ∀ (k : Nat), k ≤ ts.length → k ≤ ks.length → ∀ j, -((k : Int) * 1000000000000) ≤ combTo ts ks k j ∧ combTo ts ks k j ≤ (k : Int) * 1000000000000
  | 0, _, _, j => by simp [combTo]
  | k + 1, h1, h2, j => by
    have ih := comb_bound ht hk k (by omega) (by omega) j
    have e1 : ts.getD k (0, []) = ts[k] := by rw [List.getD_eq_getElem?_getD, List.getElem?_eq_getElem (by omega)]; rfl
    have e2 : ks.getD k 0 = ks[k] := by rw [List.getD_eq_getElem?_getD, List.getElem?_eq_getElem (by omega)]; rfl
    have a := tf_small (ht ts[k] (List.getElem_mem _)) j
    have b := btw_in hk ks[k] (List.getElem_mem _)
    have p := prod_le (a := ks[k]) (b := tf ts[k] j) (by omega) (by omega) a.1 a.2
    simp only [combTo, addT]
    rw [e1, e2]
    omega

set_option maxRecDepth 100000 in
theorem implFacts_c (A : Option Addr) (n c B : Nat) (ts : List (Int × List Int)) (w : World) (h : InTS w B A n ts) (hB : B ≤ w.heap.size) (he : totT ts ≤ 1048576) :
    Calls Try.prog 22 #[.slice A n c] w fun e w' => e = .returned (.bool (allT 14 ts)) ∧ Below w.heap.size w w' := by
  have HA := Lib.hid (areTerms_c A n c B ts 14 w h hB he (by omega))
  clear h
  go_enter Try.func22, Try.ntmps22
  go_wp2_with fail
  refine HA.out.mono ?_
  rintro e w1 ⟨rfl, hb⟩
  go_wp2_with fail
  go_ret
  exact ⟨rfl, hb⟩

end Go.Proofs.Ytejgpooghengmaa
