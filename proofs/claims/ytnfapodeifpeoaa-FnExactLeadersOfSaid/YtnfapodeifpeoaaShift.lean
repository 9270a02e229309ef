/-
  Code with greater places: the model's list and the program's. Conditions: at most 2^20 instructions.
-/
import Derived.Test.YtnfapodeifpeoaaCodeA
import Derived.Test.YtnfapodeifpeoaaShiftP
import Derived.Test.YtnfapodeifpeoaaForm
namespace Go.Proofs.Ytnfapodeifpeoaa
set_option linter.unusedVariables false
open Go.RowKit

set_option maxRecDepth 100000 in
set_option maxHeartbeats 4000000 in
theorem l07Shift_c (A : Option Addr) (n c B : Nat) (xs : List (Int × Int)) (by_ : Int) (w : World) (h : InC w B A n xs) (hB : B ≤ w.heap.size) (hn : n ≤ 1000) (hv : ∀ x ∈ xs, instrB x.1 x.2 = true) (h0 : 0 ≤ by_) (h1 : by_ ≤ 1000) :
    Calls Try.prog 79 #[.slice A n c, .int .i64 by_] w fun e w' => ∃ A' c', e = .returned (.slice A' n c') ∧ OwnC w' w.heap.size w'.heap.size A' n c' (shiL xs by_) ∧ Below w.heap.size w w' := by
  have hlen := Lib.hid h.1
  have HV := Lib.hid hv
  clear hv
  obtain ⟨v1, w1, e1, e2, e3⟩ := app_cs (k := 0) (ys := []) (c := c) (own_empty2 w 25) (h.next (bnew w (.cells #[] 25)) hB) (bnew w (.cells #[] 25)).size (by omega) (by omega)
  have hb1 : Below w.heap.size w w1 := (bnew w (.cells #[] 25)).trans e3
  rw [Nat.zero_add, List.nil_append] at e2
  obtain ⟨A1, c1, rfl, hO⟩ := own_sliceC e2 h.1
  have E1 := Lib.hid e1
  have HO : Hid (OwnC w1 w.heap.size w1.heap.size A1 n c1 (turned (shi1 by_) xs 0)) := by show OwnC _ _ _ _ _ _ _; rw [turned_zero]; exact hO
  clear e1 e2 e3 hO h
  go_enter Try.func79, Try.ntmps79
  go_wp2_with (at_builtin; refine Lib.wpList_append_run _ rfl _ _ _ _ rfl _ _ rfl rfl _ _ E1.out ?_)
  go_loopw [6] (fun i wr => ∃ k : Nat, k ≤ n ∧ i = .int .i64 k ∧ Hid (OwnC wr w.heap.size w1.heap.size A1 n c1 (turned (shi1 by_) xs k)) ∧ Below w.heap.size w wr) (fun i _ => n - (intOf i).toNat)
  case atStart => exact ⟨0, Nat.zero_le _, rfl, HO, hb1⟩
  case round =>
    clear HO
    obtain ⟨k, hk, rfl, hO, hbel⟩ := hrel
    by_cases hlt : k < n
    · obtain ⟨t, ht⟩ : ∃ t, xs[k]? = some t := ⟨_, List.getElem?_eq_getElem (by have := hlen.out; omega)⟩
      obtain ⟨q1, q2, q3, q4⟩ := hO.out
      obtain ⟨f0, f1⟩ := flatC_at (turned_at (shi1 by_) ht)
      obtain ⟨g, rfl⟩ : ∃ g, A1 = some ⟨g, 0, none⟩ := by
        rcases q2.2 with h' | ⟨g, cap, cur, k1, _⟩
        · have := h'.2; omega
        · injection k1 with k1; exact ⟨g, k1⟩
      have hlg := (q2.lt g rfl).1
      have p0 := q2.cellAt (k * 2) (by omega)
      have p1 := q2.cellAt (k * 2 + 1) (by omega)
      rw [f0] at p0
      rw [f1] at p1
      have z1 := q2.frozenAt (k * 2 + 1)
      have ha := instrB_arg (HV.out t (List.mem_of_getElem? ht))
      by_cases hp : t.1 = 5 ∨ t.1 = 6
      · have hst := (q2.stored (k * 2 + 1) (.int .i64 (t.2 + by_))).1
        rw [flatC_set2 (t.2 + by_) (turned_at (shi1 by_) ht), ← shi1_yes (b := by_) hp, turned_succ _ ht] at hst
        have HN : Hid (OwnC (wr.setCell ⟨g, k * 2 + 1, none⟩ (.int .i64 (t.2 + by_))) w.heap.size w1.heap.size (some ⟨g, 0, none⟩) n c1 (turned (shi1 by_) xs (k + 1))) := ⟨by rw [turned_len]; exact hlen.out, hst, q3, by simpa using q4⟩
        have hb2 := hbel.setCell (p := ⟨g, k * 2 + 1, none⟩) hlg (.int .i64 (t.2 + by_))
        clear hst q1 q2 q3 q4 hO ht f0 f1
        rcases hp with hp | hp
        · have e5 : (t.1 == 5) = true := by simp [hp]
          clear hp
          go_wp2_with fail
          go_roundw
          case rel => exact ⟨k + 1, by omega, by go_num, HN, hb2⟩
          case measure => simp [intOf]; omega
        · have e5 : (t.1 == 5) = false := by simp [hp]
          have e6 : (t.1 == 6) = true := by simp [hp]
          clear hp
          go_wp2_with fail
          go_roundw
          case rel => exact ⟨k + 1, by omega, by go_num, HN, hb2⟩
          case measure => simp [intOf]; omega
      · have HN : Hid (OwnC wr w.heap.size w1.heap.size (some ⟨g, 0, none⟩) n c1 (turned (shi1 by_) xs (k + 1))) := by
          show OwnC _ _ _ _ _ _ _
          rw [← turned_same _ ht (shi1_no hp)]; exact hO.out
        have e5 : (t.1 == 5) = false := by simp; omega
        have e6 : (t.1 == 6) = false := by simp; omega
        clear q1 q2 q3 q4 hO ht f0 f1 hp
        go_wp2_with fail
        go_roundw
        case rel => exact ⟨k + 1, by omega, by go_num, HN, hbel⟩
        case measure => simp [intOf]; omega
    · have e : k = n := by omega
      subst e
      have HF : Hid (OwnC wr w.heap.size w1.heap.size A1 k c1 (shiL xs by_)) := by
        have := hO.out
        rw [turned_all _ (by have := hlen.out; omega)] at this
        exact this
      clear hO
      go_wp2_with fail
      go_ret
      exact ⟨A1, c1, rfl, HF.out.wide HF.out.2.2.2 (Nat.le_refl _), hbel⟩

end Go.Proofs.Ytnfapodeifpeoaa
