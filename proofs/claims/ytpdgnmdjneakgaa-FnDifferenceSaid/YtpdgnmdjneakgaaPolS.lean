/-
  A step of a policy: the model's and the program's. Conditions: at most 2^20 rows and numbers.
-/
import Derived.Test.YtpdgnmdjneakgaaPolV
namespace Go.Proofs.Ytpdgnmdjneakgaa
set_option linter.unusedVariables false
open Go.RowKit

/-- A step of a valid policy. -/
def stR (xs : List (List Int)) (s e : Nat) : Int × Bool := if nxP xs s e < 0 then (0, false) else (nxP xs s e, true)
theorem stR_no {xs : List (List Int)} {s e : Nat} (h : nxP xs s e < 0) : stR xs s e = (0, false) := if_pos h
theorem stR_yes {xs : List (List Int)} {s e : Nat} (h : ¬ nxP xs s e < 0) : stR xs s e = (nxP xs s e, true) := if_neg h
/-- StepPolicy's answer. -/
def stepPR (xs : List (List Int)) (s e : Int) : Int × Bool := if polB xs = true ∧ (0 ≤ s ∧ s ≤ (xs.length : Int) - 1) ∧ (0 ≤ e ∧ e ≤ 3) then stR xs s.toNat e.toNat else (0, false)
theorem stepPR_pol {xs : List (List Int)} {s e : Int} (h : polB xs = false) : stepPR xs s e = (0, false) := if_neg (fun k => by rw [h] at k; cases k.1)
theorem stepPR_s {xs : List (List Int)} {s e : Int} (h : ¬ (0 ≤ s ∧ s ≤ (xs.length : Int) - 1)) : stepPR xs s e = (0, false) := if_neg (fun k => h k.2.1)
theorem stepPR_e {xs : List (List Int)} {s e : Int} (h : ¬ (0 ≤ e ∧ e ≤ 3)) : stepPR xs s e = (0, false) := if_neg (fun k => h k.2.2)
theorem stepPR_is {xs : List (List Int)} {s e : Int} (h : polB xs = true) (h1 : 0 ≤ s ∧ s ≤ (xs.length : Int) - 1) (h2 : 0 ≤ e ∧ e ≤ 3) : stepPR xs s e = stR xs s.toNat e.toNat := if_pos ⟨h, h1, h2⟩
set_option maxRecDepth 100000 in
set_option maxHeartbeats 2000000 in
theorem polStep_c (A : Option Addr) (n c B : Nat) (xs : List (List Int)) (s e : Nat) (w : World) (h : InLL w B A n xs) (hB : B ≤ w.heap.size) (ok : PolOk xs) (hs : s < n) (he : e < 4) :
    Calls Try.prog 19 #[.agg #[.slice A n c], .int .i64 (s : Int), .int .i64 (e : Int)] w fun v w' => v = .returned (.tuple #[.int .i64 (stR xs s e).1, .bool (stR xs s e).2]) ∧ Below w.heap.size w w' := by
  have hb0 := bnew w (.cells #[.slice A n c] 26)
  obtain ⟨b, off, A0, c0, b2, off2, rfl, q0, rfl, q1⟩ := (h.next hb0 hB).cell_at ok hs he
  have i1 : (s : Int) < (n : Int) := by omega
  have i2 : (e : Int) < 4 := by omega
  obtain ⟨r, _, _, _, hlo, _⟩ := ok.at_ (s := s) (e := e) (by rw [h.1]; exact hs) he
  by_cases hq : nxP xs s e < 0
  · have HR := Lib.hid (stR_no hq)
    have hm : nxP xs s e = -1 := by omega
    rw [hm] at q1
    clear hq hlo hm h
    go_enter Try.func19, Try.ntmps19
    go_wp2_with fail
    go_ret2
    exact ⟨by rw [HR.out]; rfl, hb0⟩
  · have HR := Lib.hid (stR_yes hq)
    have q5 : (nxP xs s e == -1) = false := by simp; omega
    have q6 : ¬ nxP xs s e = -1 := by omega
    clear hq hlo h
    generalize nxP xs s e = z at q1 q5 q6 HR ⊢
    go_enter Try.func19, Try.ntmps19
    go_wp2_with fail
    go_ret2
    exact ⟨by rw [HR.out]; rfl, hb0⟩

end Go.Proofs.Ytpdgnmdjneakgaa
