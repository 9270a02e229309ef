/-
  TargetsOf: the model's and the program's. Conditions: at most 2^20 instructions.
-/
import Derived.Test.YtffkdidgfeknkaaDoorBunC
namespace Go.Proofs.YtffkdidgfeknkaaDoor
set_option linter.unusedVariables false
open Go.RowKit

set_option maxRecDepth 100000 in
set_option maxHeartbeats 4000000 in
theorem implTargets_c (A : Option Addr) (n c B : Nat) (xs : List (Int × Int)) (i : Int) (w : World) (h : InC w B A n xs) (hB : B ≤ w.heap.size) (hn : n ≤ 1048576) (hw : (Lit.int .i64 i).wf = true) :
    Calls Tryd.prog 29 #[.slice A n c, .int .i64 i] w fun e w' => ∃ A' c', e = .returned (.tuple #[.slice A' (tgtR xs i).1.length c', .bool (tgtR xs i).2]) ∧ OwnL w' w.heap.size w'.heap.size A' (tgtR xs i).1.length c' (tgtR xs i).1 ∧ Below w.heap.size w w' := by
  have hlen := Lib.hid h.1
  have HC0 := implCode_c A n c B xs w h hB hn
  cases hv : codeB xs with
  | false =>
    have HE := Lib.hid (tgtR_no1 (k := i) hv)
    rw [hv] at HC0
    rw [HE.out]
    have HC := Lib.hid HC0
    clear HC0 hv h
    go_enter Tryd.func29, Tryd.ntmps29
    go_wp2_with fail
    refine HC.out.mono ?_
    rintro e w1 ⟨rfl, hb1⟩
    go_wp2_with fail
    go_ret2
    exact ⟨none, 0, rfl, (ownL_nil _).less hb1.size, hb1⟩
  | true =>
    have hp := codeB_parts hv
    have hn80 : n ≤ 80 ∧ 1 ≤ n := by have := hlen.out; omega
    rw [hv] at HC0
    have HC := Lib.hid HC0
    have HBB := Lib.hid (isBetween_i i 0 ((n : Int) - 1))
    clear HC0
    by_cases hbb : 0 ≤ i ∧ i ≤ (n : Int) - 1
    · obtain ⟨k, rfl⟩ : ∃ k : Nat, i = (k : Int) := ⟨i.toNat, by omega⟩
      have hkl : k < xs.length := by have := hlen.out; omega
      obtain ⟨x, hx⟩ : ∃ x, xs[k]? = some x := ⟨_, List.getElem?_eq_getElem hkl⟩
      have HE := Lib.hid (tgtR_yes hv hx)
      have HX := Lib.hid hx
      have HV := codeB_at hv hx
      have e0 : (decide (0 ≤ (k : Int)) && decide ((k : Int) ≤ (n : Int) - 1)) = true := by simp; omega
      rw [e0] at HBB
      rw [HE.out]
      clear e0 hv hp hx hkl
      go_enter Tryd.func29, Tryd.ntmps29
      go_wp2_with fail
      refine HC.out.mono ?_
      rintro e w1 ⟨rfl, hb1⟩
      go_wp2_with fail
      refine (HBB.out w1).mono ?_
      rintro e w2 ⟨rfl, rfl⟩
      have HT := Lib.hid (targetsOf_c A n c B xs k x w1 (h.next hb1 hB) (Nat.le_trans hB hb1.size) HX.out (by omega) HV)
      go_wp2_with fail
      refine HT.out.mono ?_
      rintro e w3 ⟨A3, c3, rfl, hO, hb3⟩
      have HO := Lib.hid (hO.less hb1.size)
      clear hO HT
      go_wp2_with fail
      go_ret2
      exact ⟨A3, c3, rfl, HO.out, bon hb1 hb3⟩
    · have e0 : (decide (0 ≤ i) && decide (i ≤ (n : Int) - 1)) = false := by simpa using hbb
      have HE := Lib.hid (tgtR_no2 (xs := xs) (k := i) (by rw [hlen.out]; exact hbb))
      rw [e0] at HBB
      rw [HE.out]
      clear e0 h hv hp
      go_enter Tryd.func29, Tryd.ntmps29
      go_wp2_with fail
      refine HC.out.mono ?_
      rintro e w1 ⟨rfl, hb1⟩
      go_wp2_with fail
      refine (HBB.out w1).mono ?_
      rintro e w2 ⟨rfl, rfl⟩
      go_wp2_with fail
      go_ret2
      exact ⟨none, 0, rfl, (ownL_nil _).less hb1.size, hb1⟩
end Go.Proofs.YtffkdidgfeknkaaDoor
