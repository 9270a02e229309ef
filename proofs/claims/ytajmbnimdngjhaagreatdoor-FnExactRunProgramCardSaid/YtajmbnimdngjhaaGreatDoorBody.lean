/-
  Where a statement ends: what the model's l03End gives. Conditions: at most 2^20 elements.
-/
import Derived.Test.YtajmbnimdngjhaaGreatDoorStmtC
import Derived.Test.YtajmbnimdngjhaaGreatDoorOver
namespace Go.Proofs.YtajmbnimdngjhaaGreatDoor
set_option linter.unusedVariables false
open Go.RowKit

/-- How many statements follow behind an element. -/
def below (k : Int) : Nat := if k = 1 ∨ k = 7 then 2 else if k = 8 then 1 else 0
theorem below_le (k : Int) : below k ≤ 2 := by unfold below; split <;> (try split) <;> omega
/-- The index behind so many statements; -1 if they are not whole. -/
def endL : Nat → List S8 → Nat → Int
  | 0, _, k => k
  | _ + 1, [], _ => -1
  | m + 1, x :: xs, k => endL (m + below x.k) xs (k + 1)
theorem endL_done (xs : List S8) (k : Nat) : endL 0 xs k = k := by cases xs <;> rfl
theorem endL_out {xs : List S8} {m j : Nat} (hm : 0 < m) (h : xs.length ≤ j) : endL m (xs.drop j) j = -1 := by
  rw [List.drop_of_length_le h]
  match m, hm with
  | m + 1, _ => rfl
theorem endL_next {xs : List S8} {m j : Nat} {x : S8} (hm : 0 < m) (h : xs[j]? = some x) : endL m (xs.drop j) j = endL (m - 1 + below x.k) (xs.drop (j + 1)) (j + 1) := by
  obtain ⟨hj, e⟩ := List.getElem?_eq_some_iff.1 h
  rw [List.drop_eq_getElem_cons hj, e]
  match m, hm with
  | m + 1, _ => rfl

set_option maxRecDepth 100000 in
set_option maxHeartbeats 1000000 in
theorem l03Below_c (k : Int) (w : World) : Calls Tryz.prog 100 #[.int .i64 k] w fun e w' => e = .returned (.int .i64 (below k : Nat)) ∧ w = w' := by
  by_cases h1 : k = 1
  · subst h1
    go_enter Tryz.func100, Tryz.ntmps100
    go_wp2_with fail
    go_ret
    exact ⟨rfl, rfl⟩
  · by_cases h7 : k = 7
    · subst h7
      go_enter Tryz.func100, Tryz.ntmps100
      go_wp2_with fail
      go_ret
      exact ⟨rfl, rfl⟩
    · by_cases h8 : k = 8
      · subst h8
        go_enter Tryz.func100, Tryz.ntmps100
        go_wp2_with fail
        go_ret
        exact ⟨rfl, rfl⟩
      · have hv : below k = 0 := by unfold below; rw [if_neg (by omega), if_neg h8]
        have q1 : (k == 1) = false := by simpa using h1
        have q7 : (k == 7) = false := by simpa using h7
        have q8 : (k == 8) = false := by simpa using h8
        rw [hv]
        clear hv
        go_enter Tryz.func100, Tryz.ntmps100
        go_wp2_with fail
        go_ret
        exact ⟨rfl, rfl⟩

set_option maxRecDepth 100000 in
set_option maxHeartbeats 1000000 in
theorem l03End_c (A : Option Addr) (n c B : Nat) (xs : List S8) (k0 : Nat) (w : World) (h : InST w B A n xs) (hn : n ≤ 1048576) (hk0 : k0 ≤ n) :
    Calls Tryz.prog 70 #[.slice A n c, .int .i64 (k0 : Int)] w fun e w' => e = .returned (.int .i64 (endL 1 (xs.drop k0) k0)) ∧ w = w' := by
  have hlen := Lib.hid h.1
  go_enter Tryz.func70, Tryz.ntmps70
  go_wp2_with fail
  go_loop [1, 5] (fun i d => ∃ j m : Nat, j ≤ n ∧ m ≤ 2 * j + 1 ∧ i = .int .i64 j ∧ d = .int .i64 m ∧ Hid (endL m (xs.drop j) j = endL 1 (xs.drop k0) k0)) (fun i _ => n - (intOf i).toNat)
  case atStart => exact ⟨k0, 1, hk0, by omega, rfl, rfl, rfl⟩
  case round =>
    obtain ⟨j, m, hj, hm, rfl, rfl, he⟩ := hrel
    rcases Nat.eq_zero_or_pos m with rfl | hm0
    · have HV : Hid (endL 1 (xs.drop k0) k0 = (j : Int)) := he.out.symm.trans (endL_done _ _)
      go_wp2_with fail
      go_ret
      exact ⟨by rw [HV.out]; rfl, rfl⟩
    · by_cases hlt : j < n
      · obtain ⟨b, off, x, rfl, hb, ht, As, ns, cs, Ai, ni, ci, Af, nf, cf, q0, q1, q2, q3, q4, q5, q6, q7, k1, k2, k3⟩ := h.at_ hlt
        have HV : Hid (endL (m - 1 + below x.k) (xs.drop (j + 1)) (j + 1) = endL 1 (xs.drop k0) k0) := (endL_next hm0 ht).symm.trans he.out
        have hbl := below_le x.k
        have HB := Lib.hid (l03Below_c x.k w)
        have r1 : ((j : Int) == (n : Int)) = false := by simp; omega
        have r2 : (0 : Int) < (m : Int) := by omega
        clear ht k1 k2 k3
        go_wp2_with (first | (go_at_call 100; refine HB.out.mono ?_; rintro e w' ⟨rfl, rfl⟩) | fail)
        go_round
        case rel => exact ⟨j + 1, m - 1 + below x.k, by omega, by omega, by go_num, by go_num, HV⟩
        case measure => simp [intOf]; omega
      · have HV : Hid (endL 1 (xs.drop k0) k0 = -1) := he.out.symm.trans (endL_out hm0 (by rw [hlen.out]; omega))
        have r1 : ((j : Int) == (n : Int)) = true := by simp; omega
        have r2 : (0 : Int) < (m : Int) := by omega
        go_wp2_with fail
        go_ret
        exact ⟨by rw [HV.out]; rfl, rfl⟩
end Go.Proofs.YtajmbnimdngjhaaGreatDoor
