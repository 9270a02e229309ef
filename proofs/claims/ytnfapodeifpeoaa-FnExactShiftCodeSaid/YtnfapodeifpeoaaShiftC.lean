/-
  ShiftCode: the model's and the program's. Conditions: at most 2^20 instructions.
-/
import Derived.Test.YtnfapodeifpeoaaShiftI
namespace Go.Proofs.Ytnfapodeifpeoaa
set_option linter.unusedVariables false
open Go.RowKit

set_option maxRecDepth 100000 in
set_option maxHeartbeats 4000000 in
theorem specShift_c (A : Option Addr) (n c B : Nat) (xs : List (Int × Int)) (b : Int) (w : World) (h : InC w B A n xs) (hB : B ≤ w.heap.size) (hn : n ≤ 1048576) :
    Calls Try.prog 47 #[.slice A n c, .int .i64 b] w fun e w' => ∃ A' c', e = .returned (.tuple #[.slice A' (shiR xs b).1.length c', .bool (shiR xs b).2]) ∧ InC w' w'.heap.size A' (shiR xs b).1.length (shiR xs b).1 ∧ Below w.heap.size w w' := by
  have hlen := Lib.hid h.1
  have HC0 := l07Is_c A n c B xs w h hB hn
  cases hv : codeB xs with
  | false =>
    have HE := Lib.hid (shiR_no1 (b := b) hv)
    rw [hv] at HC0
    rw [HE.out]
    have HC := Lib.hid HC0
    clear HC0 hv h
    go_enter Try.func47, Try.ntmps47
    go_wp2_with fail
    refine HC.out.mono ?_
    rintro e w1 ⟨rfl, hb1⟩
    go_wp2_with fail
    go_ret2
    exact ⟨none, 0, rfl, ⟨rfl, fun j x hj => by simp at hj⟩, hb1⟩
  | true =>
    have hp := codeB_parts hv
    have hn80 : n ≤ 80 := by have := hlen.out; omega
    have HV := Lib.hid hp.2.2
    rw [hv] at HC0
    have HC := Lib.hid HC0
    have HVV := Lib.hid hv
    have HBB := Lib.hid (l00In_i b 0 80)
    clear HC0 hv hp
    by_cases hbb : 0 ≤ b ∧ b ≤ 80
    · have e0 : (decide (0 ≤ b) && decide (b ≤ 80)) = true := by simp [hbb]
      rw [e0] at HBB
      clear e0
      cases hv2 : codeB (shiL xs b) with
      | false =>
        have HE := Lib.hid (shiR_no3 hv2)
        rw [HE.out]
        go_enter Try.func47, Try.ntmps47
        go_wp2_with fail
        refine HC.out.mono ?_
        rintro e w1 ⟨rfl, hb1⟩
        go_wp2_with fail
        refine (HBB.out w1).mono ?_
        rintro e w2 ⟨rfl, rfl⟩
        have HS := Lib.hid (l07Shift_c A n c B xs b w1 (h.next hb1 hB) (Nat.le_trans hB hb1.size) (by omega) HV.out hbb.1 (by omega))
        go_wp2_with fail
        refine HS.out.mono ?_
        rintro e w3 ⟨A3, c3, rfl, hO, hb3⟩
        have HC2 := l07Is_c A3 n c3 _ _ w3 hO.inn (Nat.le_refl _) (by omega)
        rw [hv2] at HC2
        have HCC := Lib.hid HC2
        clear HC2 hO hv2
        go_wp2_with fail
        refine HCC.out.mono ?_
        rintro e w4 ⟨rfl, hb4⟩
        go_wp2_with fail
        go_ret2
        exact ⟨none, 0, rfl, ⟨rfl, fun j x hj => by simp at hj⟩, bon (bon hb1 hb3) hb4⟩
      | true =>
        have HE := Lib.hid (shiR_yes HVV.out hbb hv2)
        rw [HE.out, shiL_len, hlen.out]
        go_enter Try.func47, Try.ntmps47
        go_wp2_with fail
        refine HC.out.mono ?_
        rintro e w1 ⟨rfl, hb1⟩
        have hs13 := hb1.size
        go_wp2_with fail
        refine (HBB.out w1).mono ?_
        rintro e w2 ⟨rfl, rfl⟩
        have HS := Lib.hid (l07Shift_c A n c B xs b w1 (h.next hb1 hB) (Nat.le_trans hB hb1.size) (by omega) HV.out hbb.1 (by omega))
        go_wp2_with fail
        refine HS.out.mono ?_
        rintro e w3 ⟨A3, c3, rfl, hO, hb3⟩
        have HC2 := l07Is_c A3 n c3 _ _ w3 hO.inn (Nat.le_refl _) (by omega)
        rw [hv2] at HC2
        have HCC := Lib.hid HC2
        have HO := Lib.hid hO
        clear HC2 hO hv2
        go_wp2_with fail
        refine HCC.out.mono ?_
        rintro e w4 ⟨rfl, hb4⟩
        go_wp2_with fail
        go_ret2
        have hO4 := ((HO.out.next hb4).less hs13).wide hb4.size (Nat.le_refl _)
        exact ⟨_, _, rfl, hO4.inn, bon (bon hb1 hb3) hb4⟩
    · have e0 : (decide (0 ≤ b) && decide (b ≤ 80)) = false := by simpa using hbb
      have HE := Lib.hid (shiR_no2 (xs := xs) hbb)
      rw [e0] at HBB
      rw [HE.out]
      clear e0 h
      go_enter Try.func47, Try.ntmps47
      go_wp2_with fail
      refine HC.out.mono ?_
      rintro e w1 ⟨rfl, hb1⟩
      go_wp2_with fail
      refine (HBB.out w1).mono ?_
      rintro e w2 ⟨rfl, rfl⟩
      go_wp2_with fail
      go_ret2
      exact ⟨none, 0, rfl, ⟨rfl, fun j x hj => by simp at hj⟩, hb1⟩

set_option maxRecDepth 100000 in
set_option maxHeartbeats 4000000 in
theorem implShift_c (A : Option Addr) (n c B : Nat) (xs : List (Int × Int)) (b : Int) (w : World) (h : InC w B A n xs) (hB : B ≤ w.heap.size) (hn : n ≤ 1048576) :
    Calls Try.prog 48 #[.slice A n c, .int .i64 b] w fun e w' => ∃ A' c', e = .returned (.tuple #[.slice A' (shiR xs b).1.length c', .bool (shiR xs b).2]) ∧ OwnC w' w.heap.size w'.heap.size A' (shiR xs b).1.length c' (shiR xs b).1 ∧ Below w.heap.size w w' := by
  have hlen := Lib.hid h.1
  have HC0 := implCode_c A n c B xs w h hB hn
  cases hv : codeB xs with
  | false =>
    have HE := Lib.hid (shiR_no1 (b := b) hv)
    rw [hv] at HC0
    rw [HE.out]
    have HC := Lib.hid HC0
    clear HC0 hv h
    go_enter Try.func48, Try.ntmps48
    go_wp2_with fail
    refine HC.out.mono ?_
    rintro e w1 ⟨rfl, hb1⟩
    go_wp2_with fail
    go_ret2
    exact ⟨none, 0, rfl, ⟨rfl, World.ownsRow_nil _ _ _ _, (fun j hj => by cases hj), Nat.le_refl _⟩, hb1⟩
  | true =>
    have hp := codeB_parts hv
    have hn80 : n ≤ 80 := by have := hlen.out; omega
    have HV := Lib.hid hp.2.2
    rw [hv] at HC0
    have HC := Lib.hid HC0
    have HVV := Lib.hid hv
    have HBB := Lib.hid (isBetween_i b 0 80)
    clear HC0 hv hp
    by_cases hbb : 0 ≤ b ∧ b ≤ 80
    · have e0 : (decide (0 ≤ b) && decide (b ≤ 80)) = true := by simp [hbb]
      rw [e0] at HBB
      clear e0
      cases hv2 : codeB (shiL xs b) with
      | false =>
        have HE := Lib.hid (shiR_no3 hv2)
        rw [HE.out]
        go_enter Try.func48, Try.ntmps48
        go_wp2_with fail
        refine HC.out.mono ?_
        rintro e w1 ⟨rfl, hb1⟩
        go_wp2_with fail
        refine (HBB.out w1).mono ?_
        rintro e w2 ⟨rfl, rfl⟩
        have HS := Lib.hid (shifted_c A n c B xs b w1 (h.next hb1 hB) (Nat.le_trans hB hb1.size) (by omega) HV.out hbb.1 (by omega))
        go_wp2_with fail
        refine HS.out.mono ?_
        rintro e w3 ⟨g, rfl, hO, hb3⟩
        have HC2 := implCode_c (some ⟨g, 0, none⟩) n n _ _ w3 hO.inn (Nat.le_refl _) (by omega)
        rw [hv2] at HC2
        have HCC := Lib.hid HC2
        clear HC2 hO hv2
        go_wp2_with fail
        refine HCC.out.mono ?_
        rintro e w4 ⟨rfl, hb4⟩
        go_wp2_with fail
        go_ret2
        exact ⟨none, 0, rfl, ⟨rfl, World.ownsRow_nil _ _ _ _, (fun j hj => by cases hj), Nat.le_refl _⟩, bon (bon hb1 hb3) hb4⟩
      | true =>
        have HE := Lib.hid (shiR_yes HVV.out hbb hv2)
        rw [HE.out, shiL_len, hlen.out]
        go_enter Try.func48, Try.ntmps48
        go_wp2_with fail
        refine HC.out.mono ?_
        rintro e w1 ⟨rfl, hb1⟩
        have hs13 := hb1.size
        go_wp2_with fail
        refine (HBB.out w1).mono ?_
        rintro e w2 ⟨rfl, rfl⟩
        have HS := Lib.hid (shifted_c A n c B xs b w1 (h.next hb1 hB) (Nat.le_trans hB hb1.size) (by omega) HV.out hbb.1 (by omega))
        go_wp2_with fail
        refine HS.out.mono ?_
        rintro e w3 ⟨g, rfl, hO, hb3⟩
        have HC2 := implCode_c (some ⟨g, 0, none⟩) n n _ _ w3 hO.inn (Nat.le_refl _) (by omega)
        rw [hv2] at HC2
        have HCC := Lib.hid HC2
        have HO := Lib.hid hO
        clear HC2 hO hv2
        go_wp2_with fail
        refine HCC.out.mono ?_
        rintro e w4 ⟨rfl, hb4⟩
        go_wp2_with fail
        go_ret2
        have hO4 := ((HO.out.next hb4).less hs13).wide hb4.size (Nat.le_refl _)
        exact ⟨_, _, rfl, hO4, bon (bon hb1 hb3) hb4⟩
    · have e0 : (decide (0 ≤ b) && decide (b ≤ 80)) = false := by simpa using hbb
      have HE := Lib.hid (shiR_no2 (xs := xs) hbb)
      rw [e0] at HBB
      rw [HE.out]
      clear e0 h
      go_enter Try.func48, Try.ntmps48
      go_wp2_with fail
      refine HC.out.mono ?_
      rintro e w1 ⟨rfl, hb1⟩
      go_wp2_with fail
      refine (HBB.out w1).mono ?_
      rintro e w2 ⟨rfl, rfl⟩
      go_wp2_with fail
      go_ret2
      exact ⟨none, 0, rfl, ⟨rfl, World.ownsRow_nil _ _ _ _, (fun j hj => by cases hj), Nat.le_refl _⟩, hb1⟩
end Go.Proofs.Ytnfapodeifpeoaa
