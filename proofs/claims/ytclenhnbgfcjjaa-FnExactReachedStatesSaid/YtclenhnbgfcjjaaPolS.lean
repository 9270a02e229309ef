/-
  A step of a policy: the model's and the program's. Conditions: at most 2^20 rows and numbers.
-/
import Derived.Test.YtclenhnbgfcjjaaPolV
namespace Go.Proofs.Ytclenhnbgfcjjaa
set_option linter.unusedVariables false
open Go.RowKit

/-- A step of a valid policy. -/
def stR (xs : List (List Int)) (s e : Nat) : Int × Bool := if nxP xs s e < 0 then (0, false) else (nxP xs s e, true)
theorem stR_no {xs : List (List Int)} {s e : Nat} (h : nxP xs s e < 0) : stR xs s e = (0, false) := if_pos h
theorem stR_yes {xs : List (List Int)} {s e : Nat} (h : ¬ nxP xs s e < 0) : stR xs s e = (nxP xs s e, true) := if_neg h
/-- StepPolicy's answer. -/
def stepPR (xs : List (List Int)) (s e : Int) : Int × Bool := if polB xs = true ∧ (0 ≤ s ∧ s ≤ (xs.length : Int) - 1) ∧ (0 ≤ e ∧ e ≤ 3) then stR xs s.toNat e.toNat else (0, false)
theorem stepPR_pol {xs : List (List Int)} {s e : Int} (h : polB xs = false) : stepPR xs s e = (0, false) := if_neg (fun k => by rw [h] at k; cases k.1)
theorem stepPR_s {xs : List (List Int)} {s e : Int} (h : ¬ (0 ≤ s ∧ s ≤ (xs.length : Int) - 1)) : stepPR xs s e = (0, false) := if_neg (fun k => h k.2.1)
theorem stepPR_e {xs : List (List Int)} {s e : Int} (h : ¬ (0 ≤ e ∧ e ≤ 3)) : stepPR xs s e = (0, false) := if_neg (fun k => h k.2.2)
theorem stepPR_is {xs : List (List Int)} {s e : Int} (h : polB xs = true) (h1 : 0 ≤ s ∧ s ≤ (xs.length : Int) - 1) (h2 : 0 ≤ e ∧ e ≤ 3) : stepPR xs s e = stR xs s.toNat e.toNat := if_pos ⟨h, h1, h2⟩
theorem InLL.cell_at {w : World} {B : Nat} {A : Option Addr} {n : Nat} {xs : List (List Int)} (h : InLL w B A n xs) (ok : PolOk xs) {s e : Nat} (hs : s < n) (he : e < 4) :
    ∃ b off A0 c0 b2 off2, A = some ⟨b, off, none⟩ ∧ w.cell? ⟨b, off + s, none⟩ = some (.slice A0 4 c0) ∧ A0 = some ⟨b2, off2, none⟩ ∧ w.cell? ⟨b2, off2 + e, none⟩ = some (.int .i64 (nxP xs s e)) := by
  obtain ⟨b, off, x, hA, hb, hx, A0, n0, c0, hc, hin⟩ := h.at_ hs
  obtain ⟨r, hr, hl, hz, _, _⟩ := ok.at_ (s := s) (e := e) (by rw [h.1]; exact hs) he
  obtain rfl : x = r := by rw [hx] at hr; exact Option.some.inj hr
  obtain rfl : n0 = 4 := by have := hin.1; omega
  obtain ⟨b2, off2, z, hA2, hb2, hz2, hcz⟩ := hin.2.int_at (k := e) (by omega)
  obtain rfl : z = nxP xs s e := by rw [hz] at hz2; exact (Option.some.inj hz2).symm
  exact ⟨b, off, A0, c0, b2, off2, hA, hc, hA2, hcz⟩

set_option maxRecDepth 100000 in
set_option maxHeartbeats 2000000 in
theorem polStep_c (A : Option Addr) (n c B : Nat) (xs : List (List Int)) (s e : Nat) (w : World) (h : InLL w B A n xs) (hB : B ≤ w.heap.size) (ok : PolOk xs) (hs : s < n) (he : e < 4) :
    Calls Try.prog 53 #[.agg #[.slice A n c], .int .i64 (s : Int), .int .i64 (e : Int)] w fun v w' => v = .returned (.tuple #[.int .i64 (stR xs s e).1, .bool (stR xs s e).2]) ∧ Below w.heap.size w w' := by
  have hb0 := bnew w (.cells #[.slice A n c] 27)
  obtain ⟨b, off, A0, c0, b2, off2, rfl, q0, rfl, q1⟩ := (h.next hb0 hB).cell_at ok hs he
  have i1 : (s : Int) < (n : Int) := by omega
  have i2 : (e : Int) < 4 := by omega
  obtain ⟨r, _, _, _, hlo, _⟩ := ok.at_ (s := s) (e := e) (by rw [h.1]; exact hs) he
  by_cases hq : nxP xs s e < 0
  · have HR := Lib.hid (stR_no hq)
    have hm : nxP xs s e = -1 := by omega
    rw [hm] at q1
    clear hq hlo hm h
    go_enter Try.func53, Try.ntmps53
    go_wp2_with fail
    go_ret2
    exact ⟨by rw [HR.out]; rfl, hb0⟩
  · have HR := Lib.hid (stR_yes hq)
    have q5 : (nxP xs s e == -1) = false := by simp; omega
    have q6 : ¬ nxP xs s e = -1 := by omega
    clear hq hlo h
    generalize nxP xs s e = z at q1 q5 q6 HR ⊢
    go_enter Try.func53, Try.ntmps53
    go_wp2_with fail
    go_ret2
    exact ⟨by rw [HR.out]; rfl, hb0⟩

set_option maxRecDepth 100000 in
set_option maxHeartbeats 4000000 in
theorem specStepP_c (A : Option Addr) (n c B : Nat) (xs : List (List Int)) (s e : Int) (w : World) (h : InLL w B A n xs) (hB : B ≤ w.heap.size) (hn : n ≤ 1048576) :
    Calls Try.prog 14 #[.agg #[.slice A n c], .int .i64 s, .int .i64 e] w fun v w' => v = .returned (.tuple #[.int .i64 (stepPR xs s e).1, .bool (stepPR xs s e).2]) ∧ Below w.heap.size w w' := by
  have hb0 := bnew w (.cells #[.slice A n c] 27)
  have hlen := Lib.hid h.1
  have p0 : (w.alloc (.cells #[.slice A n c] 27)).cell? ⟨w.heap.size, 0, none⟩ = some (.slice A n c) := by simp
  have HX := Lib.hid (h.next hb0 hB)
  have HS0 := l10Is_c w.heap.size 0 A n c B xs (w.alloc (.cells #[.slice A n c] 27)) p0 HX.out hn
  have e1 : IntKind.i64.wrap ((n : Int) - 1) = (n : Int) - 1 := IntWalk.i64_in _ (by omega)
  clear h
  cases hv : polB xs with
  | false =>
    have HN := Lib.hid (stepPR_pol (s := s) (e := e) hv)
    rw [hv] at HS0
    have HS := Lib.hid HS0
    clear hv HS0
    go_enter Try.func14, Try.ntmps14
    go_wp2_with fail
    generalize w.alloc (.cells #[.slice A n c] 27) = W at hb0 p0 HS HX ⊢
    refine HS.out.mono ?_
    rintro v w1 ⟨rfl, rfl⟩
    go_wp2_with fail
    go_ret2
    exact ⟨by rw [HN.out]; rfl, hb0⟩
  | true =>
    rw [hv] at HS0
    have HS := Lib.hid HS0
    have HOK := Lib.hid (polOk_of hv)
    have HV := Lib.hid hv
    have HI0 := l00In_p s 0 ((n : Int) - 1) (w.alloc (.cells #[.slice A n c] 27))
    clear hv HS0
    by_cases hs : 0 ≤ s ∧ s ≤ (n : Int) - 1
    · rw [show (decide (0 ≤ s) && decide (s ≤ (n : Int) - 1)) = true by simp [hs]] at HI0
      have HI := Lib.hid HI0
      have HE0 := l00In_p e 0 3
      have HEV0 : ∀ W, Calls Try.prog 52 #[.int .i64 e] W fun v w' => v = .returned (.bool (decide (0 ≤ e) && decide (e ≤ 3))) ∧ W = w' := by
        intro W
        go_enter Try.func52, Try.ntmps52
        go_wp2_with fail
        refine (HE0 W).mono ?_
        rintro v w1 ⟨rfl, rfl⟩
        go_wp2_with fail
        go_ret
        exact ⟨rfl, rfl⟩
      clear HI0 HE0
      by_cases he : 0 ≤ e ∧ e ≤ 3
      · rw [show (decide (0 ≤ e) && decide (e ≤ 3)) = true by simp [he]] at HEV0
        have HEV := Lib.hid (HEV0 (w.alloc (.cells #[.slice A n c] 27)))
        have HR := Lib.hid (stepPR_is HV.out (by rw [hlen.out]; exact hs) he)
        obtain ⟨k, rfl⟩ : ∃ k : Nat, s = k := ⟨s.toNat, by omega⟩
        obtain ⟨q, rfl⟩ : ∃ q : Nat, e = q := ⟨e.toNat, by omega⟩
        obtain ⟨b, off, A0, c0, b2, off2, rfl, q0, rfl, q1⟩ := HX.out.cell_at HOK.out (s := k) (e := q) (by omega) (by omega)
        have i1 : (k : Int) < (n : Int) := by omega
        have i2 : (q : Int) < 4 := by omega
        have hR2 := HR.out
        rw [Int.toNat_natCast, Int.toNat_natCast] at hR2
        clear HR HEV0 hs he
        by_cases hq : nxP xs k q < 0
        · rw [stR_no hq] at hR2
          have HR := Lib.hid hR2
          have hq2 : decide (nxP xs k q < 0) = true := decide_eq_true hq
          clear hR2
          generalize nxP xs k q = z at q1 hq hq2 ⊢
          go_enter Try.func14, Try.ntmps14
          go_wp2_with fail
          generalize w.alloc (.cells #[.slice (some ⟨b, off, none⟩) n c] 27) = W at hb0 p0 HS HX HI HEV q0 q1 ⊢
          refine HS.out.mono ?_
          rintro v w1 ⟨rfl, rfl⟩
          go_wp2_with fail
          refine HI.out.mono ?_
          rintro v w1 ⟨rfl, rfl⟩
          go_wp2_with fail
          refine HEV.out.mono ?_
          rintro v w1 ⟨rfl, rfl⟩
          go_wp2_with fail
          go_ret2
          exact ⟨by rw [HR.out]; rfl, hb0⟩
        · rw [stR_yes hq] at hR2
          have HR := Lib.hid hR2
          have hq2 : decide (nxP xs k q < 0) = false := decide_eq_false hq
          clear hR2
          generalize nxP xs k q = z at q1 hq hq2 HR ⊢
          go_enter Try.func14, Try.ntmps14
          go_wp2_with fail
          generalize w.alloc (.cells #[.slice (some ⟨b, off, none⟩) n c] 27) = W at hb0 p0 HS HX HI HEV q0 q1 ⊢
          refine HS.out.mono ?_
          rintro v w1 ⟨rfl, rfl⟩
          go_wp2_with fail
          refine HI.out.mono ?_
          rintro v w1 ⟨rfl, rfl⟩
          go_wp2_with fail
          refine HEV.out.mono ?_
          rintro v w1 ⟨rfl, rfl⟩
          go_wp2_with fail
          go_ret2
          exact ⟨by rw [HR.out]; rfl, hb0⟩
      · rw [show (decide (0 ≤ e) && decide (e ≤ 3)) = false by simpa using he] at HEV0
        have HEV := Lib.hid (HEV0 (w.alloc (.cells #[.slice A n c] 27)))
        have HR := Lib.hid (stepPR_e (xs := xs) (s := s) he)
        clear HEV0 hs he
        go_enter Try.func14, Try.ntmps14
        go_wp2_with fail
        generalize w.alloc (.cells #[.slice A n c] 27) = W at hb0 p0 HS HX HI HEV ⊢
        refine HS.out.mono ?_
        rintro v w1 ⟨rfl, rfl⟩
        go_wp2_with fail
        refine HI.out.mono ?_
        rintro v w1 ⟨rfl, rfl⟩
        go_wp2_with fail
        refine HEV.out.mono ?_
        rintro v w1 ⟨rfl, rfl⟩
        go_wp2_with fail
        go_ret2
        exact ⟨by rw [HR.out]; rfl, hb0⟩
    · rw [show (decide (0 ≤ s) && decide (s ≤ (n : Int) - 1)) = false by simpa using hs] at HI0
      have HI := Lib.hid HI0
      have HR := Lib.hid (stepPR_s (e := e) (by rw [hlen.out]; exact hs))
      clear HI0 hs
      go_enter Try.func14, Try.ntmps14
      go_wp2_with fail
      generalize w.alloc (.cells #[.slice A n c] 27) = W at hb0 p0 HS HX HI ⊢
      refine HS.out.mono ?_
      rintro v w1 ⟨rfl, rfl⟩
      go_wp2_with fail
      refine HI.out.mono ?_
      rintro v w1 ⟨rfl, rfl⟩
      go_wp2_with fail
      go_ret2
      exact ⟨by rw [HR.out]; rfl, hb0⟩

set_option maxRecDepth 100000 in
set_option maxHeartbeats 4000000 in
theorem implStepP_c (A : Option Addr) (n c B : Nat) (xs : List (List Int)) (s e : Int) (w : World) (h : InLL w B A n xs) (hB : B ≤ w.heap.size) (hn : n ≤ 1048576) (hea : ∀ x ∈ xs, x.length ≤ 1048576) :
    Calls Try.prog 15 #[.agg #[.slice A n c], .int .i64 s, .int .i64 e] w fun v w' => v = .returned (.tuple #[.int .i64 (stepPR xs s e).1, .bool (stepPR xs s e).2]) ∧ Below w.heap.size w w' := by
  have hb0 := bnew w (.cells #[.slice A n c] 27)
  have hlen := Lib.hid h.1
  have p0 : (w.alloc (.cells #[.slice A n c] 27)).cell? ⟨w.heap.size, 0, none⟩ = some (.slice A n c) := by simp
  have HX := Lib.hid (h.next hb0 hB)
  have hB0 : B ≤ (w.alloc (.cells #[.slice A n c] 27)).heap.size := Nat.le_trans hB hb0.size
  have HS0 := implPolicy_c A n c B xs (w.alloc (.cells #[.slice A n c] 27)) HX.out hB0 hn hea
  have e1 : IntKind.i64.wrap ((n : Int) - 1) = (n : Int) - 1 := IntWalk.i64_in _ (by omega)
  clear h
  cases hv : polB xs with
  | false =>
    have HN := Lib.hid (stepPR_pol (s := s) (e := e) hv)
    rw [hv] at HS0
    have HS := Lib.hid HS0
    clear hv HS0
    go_enter Try.func15, Try.ntmps15
    go_wp2_with fail
    generalize w.alloc (.cells #[.slice A n c] 27) = W at hb0 p0 HS HX hB0 ⊢
    refine HS.out.mono ?_
    rintro v w1 ⟨rfl, hb1⟩
    go_wp2_with fail
    go_ret2
    exact ⟨by rw [HN.out]; rfl, bon hb0 hb1⟩
  | true =>
    rw [hv] at HS0
    have HS := Lib.hid HS0
    have HOK := Lib.hid (polOk_of hv)
    have HV := Lib.hid hv
    have HI0 := isBetween_p s 0 ((n : Int) - 1)
    clear hv HS0
    by_cases hs : 0 ≤ s ∧ s ≤ (n : Int) - 1
    · rw [show (decide (0 ≤ s) && decide (s ≤ (n : Int) - 1)) = true by simp [hs]] at HI0
      have HI := Lib.hid HI0
      have HE0 := isBetween_p e 0 3
      clear HI0
      by_cases he : 0 ≤ e ∧ e ≤ 3
      · rw [show (decide (0 ≤ e) && decide (e ≤ 3)) = true by simp [he]] at HE0
        have HEV := Lib.hid HE0
        have HR := Lib.hid (stepPR_is HV.out (by rw [hlen.out]; exact hs) he)
        obtain ⟨k, rfl⟩ : ∃ k : Nat, s = k := ⟨s.toNat, by omega⟩
        obtain ⟨q, rfl⟩ : ∃ q : Nat, e = q := ⟨e.toNat, by omega⟩
        have hR2 := HR.out
        rw [Int.toNat_natCast, Int.toNat_natCast] at hR2
        have HR := Lib.hid hR2
        have hkn : k < n := by omega
        have hq4 : q < 4 := by omega
        clear HE0 hs he hR2
        obtain ⟨p, HP⟩ : ∃ p, Hid (stR xs k q = p) := ⟨_, rfl⟩
        obtain ⟨p1, p2⟩ := p
        go_enter Try.func15, Try.ntmps15
        go_wp2_with fail
        generalize w.alloc (.cells #[.slice A n c] 27) = W at hb0 p0 HS HX hB0 ⊢
        refine HS.out.mono ?_
        rintro v w1 ⟨rfl, hb1⟩
        replace p0 := cell_next p0 hb1
        have hs1 := hb1.size
        go_wp2_with fail
        refine (HI.out w1).mono ?_
        rintro v w2 ⟨rfl, rfl⟩
        go_wp2_with fail
        refine (HEV.out w1).mono ?_
        rintro v w2 ⟨rfl, rfl⟩
        have HST0 := polStep_c A n c B xs k q w1 (HX.out.next hb1 hB0) (by omega) HOK.out hkn hq4
        rw [HP.out] at HST0
        have HST := Lib.hid HST0
        clear HST0
        go_wp2_with fail
        refine HST.out.mono ?_
        rintro v w2 ⟨rfl, hb2⟩
        go_wp2_with fail
        go_ret2
        exact ⟨by rw [HR.out, HP.out]; rfl, bon (bon hb0 hb1) hb2⟩
      · rw [show (decide (0 ≤ e) && decide (e ≤ 3)) = false by simpa using he] at HE0
        have HEV := Lib.hid HE0
        have HR := Lib.hid (stepPR_e (xs := xs) (s := s) he)
        clear HE0 hs he
        go_enter Try.func15, Try.ntmps15
        go_wp2_with fail
        generalize w.alloc (.cells #[.slice A n c] 27) = W at hb0 p0 HS HX hB0 ⊢
        refine HS.out.mono ?_
        rintro v w1 ⟨rfl, hb1⟩
        replace p0 := cell_next p0 hb1
        go_wp2_with fail
        refine (HI.out w1).mono ?_
        rintro v w2 ⟨rfl, rfl⟩
        go_wp2_with fail
        refine (HEV.out w1).mono ?_
        rintro v w2 ⟨rfl, rfl⟩
        go_wp2_with fail
        go_ret2
        exact ⟨by rw [HR.out]; rfl, bon hb0 hb1⟩
    · rw [show (decide (0 ≤ s) && decide (s ≤ (n : Int) - 1)) = false by simpa using hs] at HI0
      have HI := Lib.hid HI0
      have HR := Lib.hid (stepPR_s (e := e) (by rw [hlen.out]; exact hs))
      clear HI0 hs
      go_enter Try.func15, Try.ntmps15
      go_wp2_with fail
      generalize w.alloc (.cells #[.slice A n c] 27) = W at hb0 p0 HS HX hB0 ⊢
      refine HS.out.mono ?_
      rintro v w1 ⟨rfl, hb1⟩
      replace p0 := cell_next p0 hb1
      go_wp2_with fail
      refine (HI.out w1).mono ?_
      rintro v w2 ⟨rfl, rfl⟩
      go_wp2_with fail
      go_ret2
      exact ⟨by rw [HR.out]; rfl, bon hb0 hb1⟩
end Go.Proofs.Ytclenhnbgfcjjaa
