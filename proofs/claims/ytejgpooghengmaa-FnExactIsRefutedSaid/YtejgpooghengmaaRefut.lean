/-
  Whether a sum of multiples of terms is a number below 0: the model's answer and the program's. Conditions: at most 2^20 terms, coefficients and multipliers.
-/
import Derived.Test.YtejgpooghengmaaCombS
import Derived.Test.YtejgpooghengmaaCombI
namespace Go.Proofs.Ytejgpooghengmaa
open Go.RowKit

/-- Whether the sum is a number below 0. -/
def refuB (R : (Int × List Int) × Bool) : Bool := R.2 && (decide (R.1.2.length = 0) && decide (R.1.1 < 0))
theorem refuB_yes {c : Int} {zs : List Int} (h : zs.length = 0) (h1 : c < 0) : refuB ((c, zs), true) = true := by
  show (true && (decide (zs.length = 0) && decide (c < 0))) = true
  rw [decide_eq_true h, decide_eq_true h1]; rfl
theorem refuB_num {c : Int} {zs : List Int} (h : zs.length = 0) : refuB ((c, zs), true) = decide (c < 0) := by
  show (true && (decide (zs.length = 0) && decide (c < 0))) = _
  rw [decide_eq_true h]; simp
theorem refuB_sym {c : Int} {zs : List Int} (h : ¬ zs.length = 0) : refuB ((c, zs), true) = false := by
  show (true && (decide (zs.length = 0) && decide (c < 0))) = false
  rw [decide_eq_false h]; simp

set_option maxRecDepth 100000 in
set_option maxHeartbeats 4000000 in
theorem implRefuted_c (A : Option Addr) (n cp : Nat) (ts : List (Int × List Int)) (D : Option Addr) (m cq : Nat) (ks : List Int) (w : World) (h : InTS w w.heap.size A n ts) (he : totT ts ≤ 1048576) (hk : InL w w.heap.size D m ks) (hm : m ≤ 1048576) (hn : n ≤ 1048576) :
    Calls Try.prog 8 #[.slice A n cp, .slice D m cq] w fun e w' => e = .returned (.bool (refuB (combR ts ks))) ∧ Below w.heap.size w w' := by
  have HC := Lib.hid (implCombine_c A n cp ts D m cq ks w h he hk hm hn)
  clear h hk
  obtain ⟨R, HR⟩ : ∃ R, Hid (combR ts ks = R) := ⟨_, rfl⟩
  rw [HR.out] at HC ⊢
  clear HR
  obtain ⟨⟨c, zs⟩, b⟩ := R
  go_enter Try.func8, Try.ntmps8
  go_wp2_with fail
  refine HC.out.mono ?_
  rintro e w1 ⟨A1, m1, c1, rfl, hown, hb⟩
  have hl := hown.1
  clear HC hown
  cases b with
  | false =>
    go_wp2_with fail
    go_ret
    exact ⟨rfl, bon hb (bnew _ _)⟩
  | true =>
    by_cases h0 : m1 = 0
    · by_cases h1 : c < 0
      · go_wp2_with fail
        go_ret
        exact ⟨by rw [refuB_yes (by omega) h1]; rfl, bon hb (bnew _ _)⟩
      · go_wp2_with fail
        go_ret
        exact ⟨by rw [refuB_num (by omega)]; rfl, bon hb (bnew _ _)⟩
    · go_wp2_with fail
      go_ret
      exact ⟨by rw [refuB_sym (by omega)]; rfl, bon hb (bnew _ _)⟩

set_option maxRecDepth 100000 in
set_option maxHeartbeats 4000000 in
theorem specRefuted_c (A : Option Addr) (n cp : Nat) (ts : List (Int × List Int)) (D : Option Addr) (m cq : Nat) (ks : List Int) (w : World) (h : InTS w w.heap.size A n ts) (he : totT ts ≤ 1048576) (hk : InL w w.heap.size D m ks) (hm : m ≤ 1048576) (hn : n ≤ 1048576) :
    Calls Try.prog 5 #[.slice A n cp, .slice D m cq] w fun e w' => e = .returned (.bool (refuB (combR ts ks))) ∧ Below w.heap.size w w' := by
  have HI := Lib.hid h
  have HK := Lib.hid hk
  have hlt := Lib.hid h.1
  have hlk := Lib.hid hk.1
  clear h hk
  go_enter Try.func5, Try.ntmps5
  go_wp2_with fail
  refine (l02All_c A n cp _ ts 14 w HI.out hn he).mono ?_
  rintro e w1 ⟨rfl, rfl⟩
  cases hv0 : allT 14 ts with
  | false =>
    have HR := Lib.hid (combR_no (combOk_no1 (ks := ks) hv0))
    clear hv0
    go_wp2_with fail
    go_ret
    exact ⟨by rw [HR.out]; rfl, Below.refl _ _⟩
  | true =>
    have HV0 := Lib.hid hv0
    clear hv0
    by_cases hmn : m = n
    · subst hmn
      go_wp2_with fail
      refine (l02Multipliers_c D m cq _ ks w HK.out hm).mono ?_
      rintro e w2 ⟨rfl, rfl⟩
      cases hv1 : btw 0 1000000 ks with
      | false =>
        have HR := Lib.hid (combR_no (combOk_no3 (ts := ts) hv1))
        clear hv1
        go_wp2_with fail
        go_ret
        exact ⟨by rw [HR.out]; rfl, Below.refl _ _⟩
      | true =>
        have HR0 := Lib.hid (combR_yes HV0.out (by rw [hlt.out, hlk.out]) hv1)
        have HC := Lib.hid (l02Combine_c A m cp w.heap.size ts D m cq ks w HI.out HK.out (Nat.le_refl _) (allT_parts HV0.out).1 (by have := (allT_parts HV0.out).2; have := hlt.out; omega) rfl hv1)
        rw [← HR0.out] at HC
        clear hv1 HR0
        obtain ⟨R, HR⟩ : ∃ R, Hid (combR ts ks = R) := ⟨_, rfl⟩
        rw [HR.out] at HC
        obtain ⟨⟨c, zs⟩, b⟩ := R
        go_wp2_with fail
        refine HC.out.mono ?_
        rintro e w3 ⟨A1, m1, c1, rfl, hown, hb⟩
        have hl := hown.1
        clear HC hown
        cases b with
        | false =>
          go_wp2_with fail
          go_ret
          exact ⟨by rw [HR.out]; rfl, bon hb (bnew _ _)⟩
        | true =>
          by_cases h0 : m1 = 0
          · by_cases h1 : c < 0
            · go_wp2_with fail
              go_ret
              exact ⟨by rw [HR.out]; rw [refuB_yes (by omega) h1]; rfl, bon hb (bnew _ _)⟩
            · go_wp2_with fail
              go_ret
              exact ⟨by rw [HR.out]; rw [refuB_num (by omega)]; rfl, bon hb (bnew _ _)⟩
          · go_wp2_with fail
            go_ret
            exact ⟨by rw [HR.out]; rw [refuB_sym (by omega)]; rfl, bon hb (bnew _ _)⟩
    · have q1 : ((m : Int) == (n : Int)) = false := by simp; omega
      have q2 : ((m : Int) != (n : Int)) = true := by simp; omega
      have HR := Lib.hid (combR_no (combOk_no2 (ts := ts) (ks := ks) (by rw [hlt.out, hlk.out]; exact hmn)))
      go_wp2_with fail
      go_ret
      exact ⟨by rw [HR.out]; rfl, Below.refl _ _⟩
end Go.Proofs.Ytejgpooghengmaa
