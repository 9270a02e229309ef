/-
  The program's MinimalPolicy, over what classes gives. Conditions: at most 2^20 rows and numbers.
-/
import Derived.Test.YtopijecdhjnipaaMinN
import Derived.Test.YtopijecdhjnipaaMinS
namespace Go.Proofs.Ytopijecdhjnipaa
set_option linter.unusedVariables false
open Go.RowKit

set_option maxRecDepth 100000 in
set_option maxHeartbeats 2000000 in
theorem implMinimal_of (A : Option Addr) (n c B : Nat) (xs : List (List Int)) (w : World) (h : InLL w B A n xs) (hB : B ≤ w.heap.size) (hn : n ≤ 1048576) (hea : ∀ x ∈ xs, x.length ≤ 1048576)
    (HC0 : RectP xs → n ≤ 1000 → ∀ W, Below w.heap.size w W → Calls Try.prog 45 #[.agg #[.slice A n c]] W (ClsR xs W)) :
    Calls Try.prog 10 #[.agg #[.slice A n c]] w fun e w' => ∃ A' c', e = .returned (.tuple #[.agg #[.slice A' (minR xs).1.length c'], .bool (minR xs).2]) ∧ (∃ rs, PolO w' w.heap.size A' c' (minR xs).1 rs) ∧ Below w.heap.size w w' := by
  have hb0 := bnew w (.cells #[.slice A n c] 26)
  have hb1 := bnew (w.alloc (.cells #[.slice A n c] 26)) (.cells #[.slice none 0 0] 26)
  have p0 : ((w.alloc (.cells #[.slice A n c] 26)).alloc (.cells #[.slice none 0 0] 26)).cell? ⟨w.heap.size, 0, none⟩ = some (.slice A n c) := cell_next (by simp) hb1
  have hR : BlkIs ((w.alloc (.cells #[.slice A n c] 26)).alloc (.cells #[.slice none 0 0] 26)) (w.heap.size + 1) 26 #[.slice none 0 0] := blk_new _ _ _ _ (by simp)
  have hb := bon hb0 hb1
  have HX := Lib.hid (h.next hb hB)
  have hB0 := Nat.le_trans hB hb.size
  have HS0 := implPolicy_c A n c B xs _ HX.out hB0 hn hea
  have hxn : xs.length = n := h.1
  clear h hb0 hb1
  cases hv : polB xs with
  | false =>
    have HN := Lib.hid (minR_no hv)
    rw [HN.out]
    rw [hv] at HS0
    have HS := Lib.hid HS0
    clear hv HS0 HC0
    go_enter Try.func10, Try.ntmps10
    go_wp2_with fail
    generalize (w.alloc (.cells #[.slice A n c] 26)).alloc (.cells #[.slice none 0 0] 26) = W at hb p0 HS HX hB0 hR ⊢
    refine HS.out.mono ?_
    rintro v w1 ⟨rfl, hb1⟩
    replace hR := hR.next hb1
    have hbw := bon hb hb1
    have r0 := hR.cell 0
    have r1 := hR.frozen 0
    simp at r0
    go_wp2_with fail
    have r2 : (w1.setCell ⟨w.heap.size + 1, 0, none⟩ (.slice none 0 0)).cell? ⟨w.heap.size + 1, 0, none⟩ = some (.slice none 0 0) := by
      have := (hR.set 0 (.slice none 0 0)).cell 0
      simpa using this
    refine bodyPost_ret (v := .tuple #[.agg #[.slice none 0 0], .bool false]) (by simp [results, Try.results10, go_sem, r2]) rfl ⟨none, 0, rfl, ⟨[], PolO.nil _ _⟩, hbw.setCell (p := ⟨w.heap.size + 1, 0, none⟩) (by simp) _⟩
  | true =>
    rw [hv] at HS0
    have HS := Lib.hid HS0
    have HOK := Lib.hid (polOk_of hv)
    have HR := Lib.hid (minR_yes hv)
    have h12 := HOK.out.hi
    obtain ⟨V, hV⟩ : ∃ V, minL xs = V := ⟨_, rfl⟩
    rw [HR.out]
    show Calls _ _ _ _ fun e w' => ∃ A' c', e = .returned (.tuple #[.agg #[.slice A' (minL xs).length c'], .bool true]) ∧ (∃ rs, PolO w' w.heap.size A' c' (minL xs) rs) ∧ Below w.heap.size w w'
    have HV := Lib.hid hV
    have HC := Lib.hid (HC0 HOK.out.rect (by omega))
    rw [hV]
    clear hv HS0 hV HR HC0
    go_enter Try.func10, Try.ntmps10
    go_wp2_with fail
    generalize (w.alloc (.cells #[.slice A n c] 26)).alloc (.cells #[.slice none 0 0] 26) = W at hb p0 HS HX hB0 hR ⊢
    refine HS.out.mono ?_
    rintro v w1 ⟨rfl, hb1⟩
    replace p0 := cell_next p0 hb1
    have hbw := bon hb hb1
    have HM0 := minimal_of A n c B xs w1 (HX.out.next hb1 hB0) (Nat.le_trans hB0 hb1.size) HOK.out.rect (by omega) (fun W' hb' => HC.out W' (bon hbw hb'))
    rw [HV.out] at HM0
    have HM := Lib.hid HM0
    clear HM0
    replace hR := hR.next hb1
    go_wp2_with fail
    refine HM.out.mono ?_
    rintro v w2 ⟨Av, cv, rfl, ⟨rs, hin⟩, hb2⟩
    have HRL := hR.lt
    replace hR := hR.next hb2
    have r0 := hR.cell 0
    have r1 := hR.frozen 0
    simp at r0
    have HI := Lib.hid hin
    clear hin
    go_wp2_with fail
    have r2 : (w2.setCell ⟨w.heap.size + 1, 0, none⟩ (.slice Av V.length cv)).cell? ⟨w.heap.size + 1, 0, none⟩ = some (.slice Av V.length cv) := by
      have := (hR.set 0 (.slice Av V.length cv)).cell 0
      simpa using this
    refine bodyPost_ret (v := .tuple #[.agg #[.slice Av V.length cv], .bool true]) (by simp [results, Try.results10, go_sem, r2]) rfl ⟨Av, cv, rfl, ⟨rs, (HI.out.far HRL).less hbw.size⟩, (bon hbw hb2).setCell (p := ⟨w.heap.size + 1, 0, none⟩) (by simp) _⟩
end Go.Proofs.Ytopijecdhjnipaa
