/-
  The model's MinimalPolicy. Conditions: at most 2^20 rows.
-/
import Derived.Test.YtopijecdhjnipaaMinM
import Derived.Test.YtopijecdhjnipaaPolV
namespace Go.Proofs.Ytopijecdhjnipaa
set_option linter.unusedVariables false
open Go.RowKit

def minR (xs : List (List Int)) : List (List Int) × Bool := if polB xs = true then (minL xs, true) else ([], false)
theorem minR_no {xs : List (List Int)} (h : polB xs = false) : minR xs = ([], false) := if_neg (by rw [h]; simp)
theorem minR_yes {xs : List (List Int)} (h : polB xs = true) : minR xs = (minL xs, true) := if_pos h
theorem inLL_nil (w : World) (B : Nat) : InLL w B none 0 [] := ⟨rfl, fun j x hx => by simp at hx⟩

set_option maxRecDepth 100000 in
set_option maxHeartbeats 2000000 in
theorem specMinimal_c (A : Option Addr) (n c B : Nat) (xs : List (List Int)) (w : World) (h : InLL w B A n xs) (hB : B ≤ w.heap.size) (hn : n ≤ 1048576) :
    Calls Try.prog 8 #[.agg #[.slice A n c]] w fun e w' => ∃ A' c', e = .returned (.tuple #[.agg #[.slice A' (minR xs).1.length c'], .bool (minR xs).2]) ∧ (∃ rs, PolO w' w.heap.size A' c' (minR xs).1 rs) ∧ Below w.heap.size w w' := by
  have hb0 := bnew w (.cells #[.slice A n c] 26)
  have hb1 := bnew (w.alloc (.cells #[.slice A n c] 26)) (.cells #[.slice none 0 0] 26)
  have p0 : ((w.alloc (.cells #[.slice A n c] 26)).alloc (.cells #[.slice none 0 0] 26)).cell? ⟨w.heap.size, 0, none⟩ = some (.slice A n c) := cell_next (by simp) hb1
  have hR : BlkIs ((w.alloc (.cells #[.slice A n c] 26)).alloc (.cells #[.slice none 0 0] 26)) (w.heap.size + 1) 26 #[.slice none 0 0] := blk_new _ _ _ _ (by simp)
  have hb := bon hb0 hb1
  have HX := Lib.hid (h.next hb hB)
  have hB0 := Nat.le_trans hB hb.size
  have HS0 := l10Is_c w.heap.size 0 A n c B xs _ p0 HX.out hn
  have hxn : xs.length = n := h.1
  clear h hb0 hb1
  cases hv : polB xs with
  | false =>
    have HN := Lib.hid (minR_no hv)
    rw [HN.out]
    rw [hv] at HS0
    have HS := Lib.hid HS0
    clear hv HS0
    go_enter Try.func8, Try.ntmps8
    go_wp2_with fail
    generalize (w.alloc (.cells #[.slice A n c] 26)).alloc (.cells #[.slice none 0 0] 26) = W at hb p0 HS HX hB0 hR ⊢
    refine HS.out.mono ?_
    rintro v w1 ⟨rfl, rfl⟩
    have r0 := hR.cell 0
    have r1 := hR.frozen 0
    simp at r0
    go_wp2_with fail
    have r2 : (W.setCell ⟨w.heap.size + 1, 0, none⟩ (.slice none 0 0)).cell? ⟨w.heap.size + 1, 0, none⟩ = some (.slice none 0 0) := by
      have := (hR.set 0 (.slice none 0 0)).cell 0
      simpa using this
    refine bodyPost_ret (v := .tuple #[.agg #[.slice none 0 0], .bool false]) (by simp [results, Try.results8, go_sem, r2]) rfl ⟨none, 0, rfl, ⟨[], PolO.nil _ _⟩, hb.setCell (p := ⟨w.heap.size + 1, 0, none⟩) (by simp) _⟩
  | true =>
    rw [hv] at HS0
    have HS := Lib.hid HS0
    have HOK := Lib.hid (polOk_of hv)
    have HR := Lib.hid (minR_yes hv)
    have h12 := HOK.out.hi
    have HM := Lib.hid (l10Minimal_c w.heap.size 0 A n c B xs _ p0 HX.out hB0 HOK.out.rect (by omega))
    obtain ⟨V, hV⟩ : ∃ V, minL xs = V := ⟨_, rfl⟩
    rw [HR.out]
    show Calls _ _ _ _ fun e w' => ∃ A' c', e = .returned (.tuple #[.agg #[.slice A' (minL xs).length c'], .bool true]) ∧ (∃ rs, PolO w' w.heap.size A' c' (minL xs) rs) ∧ Below w.heap.size w w'
    rw [hV] at HM ⊢
    clear hv HS0 hV HR
    go_enter Try.func8, Try.ntmps8
    go_wp2_with fail
    generalize (w.alloc (.cells #[.slice A n c] 26)).alloc (.cells #[.slice none 0 0] 26) = W at hb p0 HS HX hB0 hR HM ⊢
    refine HS.out.mono ?_
    rintro v w1 ⟨rfl, rfl⟩
    go_wp2_with fail
    refine HM.out.mono ?_
    rintro v w2 ⟨Av, cv, rfl, ⟨rs, hin⟩, hb2⟩
    have HRL := hR.lt
    replace hR := hR.next hb2
    have r0 := hR.cell 0
    have r1 := hR.frozen 0
    simp at r0
    have HI := Lib.hid hin
    clear hin
    go_wp2_with fail
    have r2 : (w2.setCell ⟨w.heap.size + 1, 0, none⟩ (.slice Av V.length cv)).cell? ⟨w.heap.size + 1, 0, none⟩ = some (.slice Av V.length cv) := by
      have := (hR.set 0 (.slice Av V.length cv)).cell 0
      simpa using this
    refine bodyPost_ret (v := .tuple #[.agg #[.slice Av V.length cv], .bool true]) (by simp [results, Try.results8, go_sem, r2]) rfl ⟨Av, cv, rfl, ⟨rs, (HI.out.far HRL).less hb.size⟩, (bon hb hb2).setCell (p := ⟨w.heap.size + 1, 0, none⟩) (by simp) _⟩
theorem totLL_four {R : List (List Int)} (h : ∀ r ∈ R, r.length = 4) : totLL R = 4 * R.length := by
  induction R with
  | nil => rfl
  | cons t ts ih => rw [totLL_cons, ih (fun r hr => h r (List.mem_cons_of_mem _ hr)), h t List.mem_cons_self, List.length_cons]; omega
theorem minL_small {xs : List (List Int)} (ok : RectP xs) : (minL xs).length ≤ xs.length ∧ ∀ r ∈ minL xs, r.length = 4 := by
  have h0 : (0 : Int) ≤ 0 ∧ (0 : Int) < (xs.length : Int) := by have := ok.lo; omega
  unfold minL
  exact ⟨unf_len _ _ _, unf_rows (stM_stays ok) h0 _⟩
theorem minR_small (xs : List (List Int)) : (minR xs).1.length ≤ 12 ∧ totLL (minR xs).1 ≤ 48 := by
  cases h : polB xs with
  | false => rw [minR_no h]; exact ⟨by simp, by simp [totLL]⟩
  | true =>
    have ok := polOk_of h
    obtain ⟨a, b⟩ := minL_small ok.rect
    have := ok.hi
    rw [minR_yes h]
    refine ⟨by show (minL xs).length ≤ 12; omega, ?_⟩
    show totLL (minL xs) ≤ 48
    rw [totLL_four b]; omega
end Go.Proofs.Ytopijecdhjnipaa
