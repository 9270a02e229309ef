/-
  RunPolicy: the model's and the program's. Conditions: at most 2^20 rows and numbers.
-/
import Derived.Test.YtclenhnbgfcjjaaPolR
namespace Go.Proofs.Ytclenhnbgfcjjaa
set_option linter.unusedVariables false
open Go.RowKit

/-- A word. -/
def wordB (zs : List Int) : Bool := btw 0 3 zs && decide (zs.length ≤ 40)
theorem wordB_btw {zs : List Int} (h : btw 0 3 zs = false) : wordB zs = false := by unfold wordB; rw [h]; rfl
theorem wordB_is {zs : List Int} (h : btw 0 3 zs = true) : wordB zs = decide (zs.length ≤ 40) := by unfold wordB; rw [h]; rfl
theorem wordB_len {zs : List Int} (h : ¬ zs.length ≤ 40) : wordB zs = false := by unfold wordB; rw [decide_eq_false h]; simp
theorem wordB_in {zs : List Int} (h : wordB zs = true) : zs.length ≤ 40 ∧ ∀ e ∈ zs, 0 ≤ e ∧ e ≤ 3 := by
  unfold wordB at h
  simp only [Bool.and_eq_true, decide_eq_true_eq] at h
  exact ⟨h.2, btw_in h.1⟩
/-- RunPolicy's answer. -/
def runPR (xs : List (List Int)) (zs : List Int) : Int × Int × Bool := if polB xs = true ∧ wordB zs = true then (((runL xs 0 zs).1 : Int), ((runL xs 0 zs).2 : Int), true) else (0, 0, false)
theorem runPR_pol {xs : List (List Int)} {zs : List Int} (h : polB xs = false) : runPR xs zs = (0, 0, false) := if_neg (fun k => by rw [h] at k; cases k.1)
theorem runPR_word {xs : List (List Int)} {zs : List Int} (h : wordB zs = false) : runPR xs zs = (0, 0, false) := if_neg (fun k => by rw [h] at k; cases k.2)
theorem runPR_is {xs : List (List Int)} {zs : List Int} (h : polB xs = true) (h1 : wordB zs = true) : runPR xs zs = (((runL xs 0 zs).1 : Int), ((runL xs 0 zs).2 : Int), true) := if_pos ⟨h, h1⟩

set_option maxRecDepth 100000 in
set_option maxHeartbeats 2000000 in
theorem l10Word_c (E : Option Addr) (m ce B : Nat) (zs : List Int) (w : World) (h : InL w B E m zs) (hm : m ≤ 1048576) :
    Calls Try.prog 54 #[.slice E m ce] w fun v w' => v = .returned (.bool (wordB zs)) ∧ w = w' := by
  have hlen := Lib.hid h.1
  have HX := Lib.hid h
  have HEV : ∀ (x : Int) (W : World), Calls Try.prog 52 #[.int .i64 x] W fun v w' => v = .returned (.bool (decide (0 ≤ x) && decide (x ≤ 3))) ∧ W = w' := by
    intro x W
    go_enter Try.func52, Try.ntmps52
    go_wp2_with fail
    refine (l00In_p x 0 3 W).mono ?_
    rintro v w1 ⟨rfl, rfl⟩
    go_wp2_with fail
    go_ret
    exact ⟨rfl, rfl⟩
  clear h
  go_enter Try.func54, Try.ntmps54
  go_wp2_with fail
  go_loop [3] (fun i => ∃ j : Nat, j ≤ m ∧ i = .int .i64 j ∧ Hid (∀ z ∈ zs.take j, 0 ≤ z ∧ z ≤ 3)) (fun i => m - (intOf i).toNat)
  case atStart => exact ⟨0, Nat.zero_le _, rfl, by intro z hz; simp at hz⟩
  case round =>
    obtain ⟨j, hj, rfl, ha⟩ := hrel
    by_cases hlt : j < m
    · obtain ⟨b, off, x, rfl, hb, hx, hc⟩ := HX.out.2.int_at (k := j) (by have := hlen.out; omega)
      have HE0 := HEV x w
      by_cases hr : 0 ≤ x ∧ x ≤ 3
      · have HT := Lib.hid (btw_take_succ ha.out hx hr.1 hr.2)
        rw [show (decide (0 ≤ x) && decide (x ≤ 3)) = true by simp [hr]] at HE0
        have HE := Lib.hid HE0
        clear HE0 hr hx
        go_wp2_with fail
        refine HE.out.mono ?_
        rintro v w1 ⟨rfl, rfl⟩
        go_wp2_with fail
        go_round
        case rel => exact ⟨j + 1, by omega, by go_num, HT⟩
        case measure => simp [intOf]; omega
      · have HN := Lib.hid (wordB_btw (btw_no hx hr))
        rw [show (decide (0 ≤ x) && decide (x ≤ 3)) = false by simpa using hr] at HE0
        have HE := Lib.hid HE0
        clear HE0 hr hx
        go_wp2_with fail
        refine HE.out.mono ?_
        rintro v w1 ⟨rfl, rfl⟩
        go_wp2_with fail
        go_ret
        exact ⟨ret_bool HN.out.symm, rfl⟩
    · have HY := Lib.hid (wordB_is (btw_yes ha.out (by have := hlen.out; omega)))
      by_cases h40 : m ≤ 40
      · have HN : Hid (wordB zs = true) := by show _ = _; rw [HY.out]; exact decide_eq_true (by have := hlen.out; omega)
        have q1 : decide ((m : Int) ≤ 40) = true := decide_eq_true (by omega)
        have q2 : (m : Int) ≤ 40 := by omega
        go_wp2_with fail
        go_ret
        exact ⟨ret_bool (by rw [HN.out]), rfl⟩
      · have HN : Hid (wordB zs = false) := by show _ = _; rw [HY.out]; exact decide_eq_false (by have := hlen.out; omega)
        have q2 : ¬ (m : Int) ≤ 40 := by omega
        go_wp2_with fail
        go_ret
        exact ⟨ret_bool (by rw [HN.out]), rfl⟩

set_option maxRecDepth 100000 in
set_option maxHeartbeats 4000000 in
theorem specRunP_c (A : Option Addr) (n c B : Nat) (xs : List (List Int)) (E : Option Addr) (m ce : Nat) (zs : List Int) (w : World) (h : InLL w B A n xs) (hE : InL w B E m zs) (hB : B ≤ w.heap.size) (hn : n ≤ 1048576) (hm : m ≤ 1048576) :
    Calls Try.prog 16 #[.agg #[.slice A n c], .slice E m ce] w fun v w' => v = .returned (.tuple #[.int .i64 (runPR xs zs).1, .int .i64 (runPR xs zs).2.1, .bool (runPR xs zs).2.2]) ∧ Below w.heap.size w w' := by
  have hb0 := bnew w (.cells #[.slice A n c] 27)
  have hlen := Lib.hid h.1
  have p0 : (w.alloc (.cells #[.slice A n c] 27)).cell? ⟨w.heap.size, 0, none⟩ = some (.slice A n c) := by simp
  have HX := Lib.hid (h.next hb0 hB)
  have HZ := Lib.hid (hE.next hb0 hB)
  have HS0 := l10Is_c w.heap.size 0 A n c B xs (w.alloc (.cells #[.slice A n c] 27)) p0 HX.out hn
  have HW0 := l10Word_c E m ce B zs (w.alloc (.cells #[.slice A n c] 27)) HZ.out hm
  clear h hE
  cases hv : polB xs with
  | false =>
    have HN := Lib.hid (runPR_pol (zs := zs) hv)
    rw [hv] at HS0
    have HS := Lib.hid HS0
    clear hv HS0 HW0
    go_enter Try.func16, Try.ntmps16
    go_wp2_with fail
    generalize w.alloc (.cells #[.slice A n c] 27) = W at hb0 p0 HS HX ⊢
    refine HS.out.mono ?_
    rintro v w1 ⟨rfl, rfl⟩
    go_wp2_with fail
    go_ret3
    exact ⟨by rw [HN.out]; rfl, hb0⟩
  | true =>
    rw [hv] at HS0
    have HS := Lib.hid HS0
    have HV := Lib.hid hv
    clear hv HS0
    cases hw : wordB zs with
    | false =>
      have HN := Lib.hid (runPR_word (xs := xs) hw)
      rw [hw] at HW0
      have HW := Lib.hid HW0
      clear hw HW0
      go_enter Try.func16, Try.ntmps16
      go_wp2_with fail
      generalize w.alloc (.cells #[.slice A n c] 27) = W at hb0 p0 HS HX HW ⊢
      refine HS.out.mono ?_
      rintro v w1 ⟨rfl, rfl⟩
      go_wp2_with fail
      refine HW.out.mono ?_
      rintro v w1 ⟨rfl, rfl⟩
      go_wp2_with fail
      go_ret3
      exact ⟨by rw [HN.out]; rfl, hb0⟩
    | true =>
      rw [hw] at HW0
      have HW := Lib.hid HW0
      have HOK := polOk_of HV.out
      have HIW := wordB_in hw
      have HN := Lib.hid (runPR_is HV.out hw)
      have HR := Lib.hid (l10Run_c w.heap.size 0 A n c B xs 0 E m ce zs (w.alloc (.cells #[.slice A n c] 27)) p0 HX.out HZ.out HOK (by have := HOK.lo; have := hlen.out; omega) HIW.2 hm)
      clear hw HW0 HOK HIW
      obtain ⟨r1, HR1⟩ : ∃ r, Hid ((runL xs 0 zs).1 = r) := ⟨_, rfl⟩
      obtain ⟨r2, HR2⟩ : ∃ r, Hid ((runL xs 0 zs).2 = r) := ⟨_, rfl⟩
      have HRR := HR.out
      rw [HR1.out, HR2.out] at HRR
      have HR := Lib.hid HRR
      clear HRR
      go_enter Try.func16, Try.ntmps16
      go_wp2_with fail
      generalize w.alloc (.cells #[.slice A n c] 27) = W at hb0 p0 HS HX HW HR ⊢
      refine HS.out.mono ?_
      rintro v w1 ⟨rfl, rfl⟩
      go_wp2_with fail
      refine HW.out.mono ?_
      rintro v w1 ⟨rfl, rfl⟩
      go_wp2_with fail
      refine HR.out.mono ?_
      rintro v w1 ⟨rfl, d, rfl⟩
      go_wp2_with fail
      go_ret3
      exact ⟨by rw [HN.out, HR1.out, HR2.out]; rfl, ⟨hb0.os, hb0.tape, hb0.output, hb0.size, hb0.block⟩⟩

set_option maxRecDepth 100000 in
set_option maxHeartbeats 4000000 in
theorem implRunP_c (A : Option Addr) (n c B : Nat) (xs : List (List Int)) (E : Option Addr) (m ce : Nat) (zs : List Int) (w : World) (h : InLL w B A n xs) (hE : InL w B E m zs) (hB : B ≤ w.heap.size) (hn : n ≤ 1048576) (hea : ∀ x ∈ xs, x.length ≤ 1048576) (hm : m ≤ 1048576) :
    Calls Try.prog 18 #[.agg #[.slice A n c], .slice E m ce] w fun v w' => v = .returned (.tuple #[.int .i64 (runPR xs zs).1, .int .i64 (runPR xs zs).2.1, .bool (runPR xs zs).2.2]) ∧ Below w.heap.size w w' := by
  have hb0 := bnew w (.cells #[.slice A n c] 27)
  have hlen := Lib.hid h.1
  have hml := Lib.hid hE.1
  have p0 : (w.alloc (.cells #[.slice A n c] 27)).cell? ⟨w.heap.size, 0, none⟩ = some (.slice A n c) := by simp
  have HX := Lib.hid (h.next hb0 hB)
  have HZ := Lib.hid (hE.next hb0 hB)
  have hB0 : B ≤ (w.alloc (.cells #[.slice A n c] 27)).heap.size := Nat.le_trans hB hb0.size
  have HS0 := implPolicy_c A n c B xs (w.alloc (.cells #[.slice A n c] 27)) HX.out hB0 hn hea
  clear h hE
  cases hv : polB xs with
  | false =>
    have HN := Lib.hid (runPR_pol (zs := zs) hv)
    rw [hv] at HS0
    have HS := Lib.hid HS0
    clear hv HS0
    go_enter Try.func18, Try.ntmps18
    go_wp2_with fail
    generalize w.alloc (.cells #[.slice A n c] 27) = W at hb0 p0 HS HX HZ hB0 ⊢
    refine HS.out.mono ?_
    rintro v w1 ⟨rfl, hb1⟩
    go_wp2_with fail
    go_ret3
    exact ⟨by rw [HN.out]; rfl, bon hb0 hb1⟩
  | true =>
    rw [hv] at HS0
    have HS := Lib.hid HS0
    have HV := Lib.hid hv
    clear hv HS0
    by_cases h40 : m ≤ 40
    · have q1 : decide ((40 : Int) < (m : Int)) = false := decide_eq_false (by omega)
      have q2 : ¬ (40 : Int) < (m : Int) := by omega
      cases hw : btw 0 3 zs with
      | false =>
        have HN := Lib.hid (runPR_word (xs := xs) (wordB_btw hw))
        have HW := Lib.hid hw
        clear hw
        go_enter Try.func18, Try.ntmps18
        go_wp2_with fail
        generalize w.alloc (.cells #[.slice A n c] 27) = W at hb0 p0 HS HX HZ hB0 ⊢
        refine HS.out.mono ?_
        rintro v w1 ⟨rfl, hb1⟩
        have HB0 := areBetween_c E m ce B 0 3 zs w1 (HZ.out.next hb1 hB0).2 hml.out hm
        rw [HW.out] at HB0
        have HB := Lib.hid HB0
        clear HB0
        go_wp2_with fail
        refine HB.out.mono ?_
        rintro v w2 ⟨rfl, rfl⟩
        go_wp2_with fail
        go_ret3
        exact ⟨by rw [HN.out]; rfl, bon hb0 hb1⟩
      | true =>
        have hwb : wordB zs = true := by rw [wordB_is hw]; exact decide_eq_true (by have := hml.out; omega)
        have HOK := Lib.hid (polOk_of HV.out)
        have HIW := Lib.hid (wordB_in hwb)
        have HN := Lib.hid (runPR_is HV.out hwb)
        have HW := Lib.hid hw
        obtain ⟨r1, HR1⟩ : ∃ r, Hid ((runL xs 0 zs).1 = r) := ⟨_, rfl⟩
        obtain ⟨r2, HR2⟩ : ∃ r, Hid ((runL xs 0 zs).2 = r) := ⟨_, rfl⟩
        clear hw hwb
        go_enter Try.func18, Try.ntmps18
        go_wp2_with fail
        generalize w.alloc (.cells #[.slice A n c] 27) = W at hb0 p0 HS HX HZ hB0 ⊢
        refine HS.out.mono ?_
        rintro v w1 ⟨rfl, hb1⟩
        have HB0 := areBetween_c E m ce B 0 3 zs w1 (HZ.out.next hb1 hB0).2 hml.out hm
        rw [HW.out] at HB0
        have HB := Lib.hid HB0
        have hs1 := hb1.size
        replace p0 := cell_next p0 hb1
        have HR0 := polRun_c A n c B xs 0 E m ce zs w1 (HX.out.next hb1 hB0) (HZ.out.next hb1 hB0) (by omega) HOK.out (by have := HOK.out.lo; have := hlen.out; omega) HIW.out.2 hm
        rw [HR1.out, HR2.out] at HR0
        have HR := Lib.hid HR0
        clear HB0 HR0
        go_wp2_with fail
        refine HB.out.mono ?_
        rintro v w2 ⟨rfl, rfl⟩
        go_wp2_with fail
        refine HR.out.mono ?_
        rintro v w2 ⟨rfl, hb2⟩
        go_wp2_with fail
        go_ret3
        exact ⟨by rw [HN.out, HR1.out, HR2.out]; rfl, bon (bon hb0 hb1) hb2⟩
    · have HN := Lib.hid (runPR_word (xs := xs) (wordB_len (zs := zs) (by have := hml.out; omega)))
      have q1 : decide ((40 : Int) < (m : Int)) = true := decide_eq_true (by omega)
      have q2 : (40 : Int) < (m : Int) := by omega
      go_enter Try.func18, Try.ntmps18
      go_wp2_with fail
      generalize w.alloc (.cells #[.slice A n c] 27) = W at hb0 p0 HS HX HZ hB0 ⊢
      refine HS.out.mono ?_
      rintro v w1 ⟨rfl, hb1⟩
      go_wp2_with fail
      go_ret3
      exact ⟨by rw [HN.out]; rfl, bon hb0 hb1⟩
end Go.Proofs.Ytclenhnbgfcjjaa
