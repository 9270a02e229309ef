/-
  The model's StackHeights. Conditions: at most 2^20 instructions.
-/
import Derived.Test.YtdmcpabpjhinhaaDoorHgtM
namespace Go.Proofs.YtdmcpabpjhinhaaDoor
set_option linter.unusedVariables false
open Go.RowKit

theorem hgtR_cases {xs : List (Int × Int)} {out : List Int} {ok : Bool} (hc : codeB xs = true) (h1 : ok = true → LeastH xs out) (h2 : ok = false → ∀ K, ¬ GoodH xs K) : hgtR xs = if ok = true then (out, true) else ([], false) := by
  cases ok with
  | true => rw [if_pos rfl]; exact hgtR_yes hc (h1 rfl)
  | false => rw [if_neg (by simp)]; exact hgtR_no (h2 rfl)

set_option maxRecDepth 100000 in
set_option maxHeartbeats 2000000 in
theorem specHgt_c (A : Option Addr) (n c B : Nat) (xs : List (Int × Int)) (w : World) (h : InC w B A n xs) (hB : B ≤ w.heap.size) (hn : n ≤ 1048576) :
    Calls Tryd.prog 14 #[.slice A n c] w fun e w' => ∃ A' c', e = .returned (.tuple #[.slice A' (hgtR xs).1.length c', .bool (hgtR xs).2]) ∧ OwnL w' w.heap.size w'.heap.size A' (hgtR xs).1.length c' (hgtR xs).1 ∧ Below w.heap.size w w' := by
  have HC0 := l07Is_c A n c B xs w h hB hn
  cases hv : codeB xs with
  | false =>
    have HE := Lib.hid (hgtR_bad hv)
    rw [hv] at HC0
    rw [HE.out]
    have HC := Lib.hid HC0
    clear HC0 hv h
    go_enter Tryd.func14, Tryd.ntmps14
    go_wp2_with fail
    refine HC.out.mono ?_
    rintro e w1 ⟨rfl, hb1⟩
    go_wp2_with fail
    go_ret2
    exact ⟨none, 0, rfl, (ownL_nil _).less hb1.size, hb1⟩
  | true =>
    rw [hv] at HC0
    have HC := Lib.hid HC0
    have HI := Lib.hid h
    have HV := Lib.hid hv
    clear HC0 hv h
    obtain ⟨R, HR⟩ : ∃ R, Hid (hgtR xs = R) := ⟨_, rfl⟩
    rw [HR.out]
    go_enter Tryd.func14, Tryd.ntmps14
    go_wp2_with fail
    refine HC.out.mono ?_
    rintro e w1 ⟨rfl, hb1⟩
    go_wp2_with fail
    refine (l07Heights_c A n c B xs w1 (HI.out.next hb1 hB) (Nat.le_trans hB hb1.size) HV.out).mono ?_
    rintro e w2 ⟨gO, cO, out, ok, rfl, h1, h2, ho, hb2⟩
    have hol : out.length = n := by have := ho.1; simpa using this
    have HO := Lib.hid (And.intro ho hol)
    cases ok with
    | false =>
      have HR2 : Hid (R = ([], false)) := by show R = _; rw [← HR.out]; exact hgtR_no (h2 rfl)
      clear h1 h2 ho hol
      go_wp2_with fail
      go_ret2
      rw [HR2.out]
      exact ⟨none, 0, rfl, (ownL_nil _).less (bon hb1 hb2).size, bon hb1 hb2⟩
    | true =>
      have HR2 : Hid (R = (out, true)) := by show R = _; rw [← HR.out]; exact hgtR_yes HV.out (h1 rfl)
      clear h1 h2 ho hol
      go_wp2_with fail
      go_ret2
      rw [HR2.out]
      refine ⟨some ⟨gO, 0, none⟩, cO, congrArg (fun m => Ending.returned (.tuple #[.slice (some ⟨gO, 0, none⟩) m cO, .bool true])) HO.out.2.symm, ?_, bon hb1 hb2⟩
      rw [HO.out.2]
      exact (OwnL.of_own HO.out.1).less hb1.size
end Go.Proofs.YtdmcpabpjhinhaaDoor
