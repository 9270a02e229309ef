/-
  Valid states: the model's test and the program's. Conditions: at most 2^20 numbers.
-/
import Derived.Test.YtdmcpabpjhinhaaStK
namespace Go.Proofs.Ytdmcpabpjhinhaa
set_option linter.unusedVariables false
open Go.RowKit

/-- So many numbers from -1000000000 to 1000000000. -/
def numsB (k : Nat) (vs : List Int) : Bool := decide (vs.length = k) && btw (-1000000000) 1000000000 vs
theorem numsB_len {k : Nat} {vs : List Int} (h : vs.length ≠ k) : numsB k vs = false := by unfold numsB; rw [decide_eq_false h]; rfl
theorem numsB_btw {k : Nat} {vs : List Int} (h : btw (-1000000000) 1000000000 vs = false) : numsB k vs = false := by unfold numsB; rw [h]; simp
theorem numsB_is {k : Nat} {vs : List Int} (h : vs.length = k) : numsB k vs = btw (-1000000000) 1000000000 vs := by unfold numsB; rw [decide_eq_true h]; rfl
theorem numsB_parts {k : Nat} {vs : List Int} (h : numsB k vs = true) : vs.length = k ∧ ∀ z ∈ vs, -1000000000 ≤ z ∧ z ≤ 1000000000 := by
  unfold numsB at h
  simp only [Bool.and_eq_true, decide_eq_true_eq] at h
  exact ⟨h.1, btw_in h.2⟩
/-- A valid state. -/
def stB (zs ys : List Int) : Bool := numsB 4 zs && numsB 8 ys
theorem stB_no {zs ys : List Int} (h : numsB 4 zs = false) : stB zs ys = false := by unfold stB; rw [h]; rfl
theorem stB_no2 {zs ys : List Int} (h : numsB 8 ys = false) : stB zs ys = false := by unfold stB; rw [h]; simp
theorem stB_is {zs ys : List Int} (h : numsB 4 zs = true) : stB zs ys = numsB 8 ys := by unfold stB; rw [h]; rfl

set_option maxRecDepth 100000 in
set_option maxHeartbeats 1000000 in
theorem implState_c (A : Option Addr) (n c B : Nat) (zs : List Int) (D : Option Addr) (m d : Nat) (ys : List Int) (w : World) (h : InL w B A n zs) (hl : InL w B D m ys) (hB : B ≤ w.heap.size) (hn : n ≤ 1048576) (hm : m ≤ 1048576) :
    Calls Try.prog 55 #[.agg #[.slice A n c, .slice D m d]] w fun e w' => e = .returned (.bool (stB zs ys)) ∧ Below w.heap.size w w' := by
  have hb0 := bnew w (.cells #[.slice A n c, .slice D m d] 52)
  have p0 : (w.alloc (.cells #[.slice A n c, .slice D m d] 52)).cell? ⟨w.heap.size, 0, none⟩ = some (.slice A n c) := by simp
  have p1 : (w.alloc (.cells #[.slice A n c, .slice D m d] 52)).cell? ⟨w.heap.size, 1, none⟩ = some (.slice D m d) := by simp
  have h1 := h.next hb0 hB
  have h2 := hl.next hb0 hB
  have hz := Lib.hid h.1
  have hy := Lib.hid hl.1
  clear h hl
  by_cases hn4 : n = 4
  · by_cases hm8 : m = 8
    · have HA := Lib.hid (areBetween_c A n c B (-1000000000) 1000000000 zs _ h1.2 h1.1 hn)
      have HI := Lib.hid (areBetween_c D m d B (-1000000000) 1000000000 ys _ h2.2 h2.1 hm)
      have E4 := Lib.hid (numsB_is (k := 4) (vs := zs) (by have := hz.out; omega))
      have E8 := Lib.hid (numsB_is (k := 8) (vs := ys) (by have := hy.out; omega))
      have e1 : ((n : Int) == 4) = true := by simp; omega
      have e2 : ((m : Int) == 8) = true := by simp; omega
      clear hn4 hm8 h1 h2
      cases hv : btw (-1000000000) 1000000000 zs with
      | true =>
        have HV : Hid (stB zs ys = btw (-1000000000) 1000000000 ys) := (stB_is (E4.out.trans hv)).trans E8.out
        rw [hv] at HA
        clear hv
        go_enter Try.func55, Try.ntmps55
        go_wp2_with fail
        generalize w.alloc (.cells #[.slice A n c, .slice D m d] 52) = W at hb0 p0 p1 HA HI ⊢
        refine HA.out.mono ?_
        rintro e w1 ⟨rfl, rfl⟩
        go_wp2_with fail
        refine HI.out.mono ?_
        rintro e w1 ⟨rfl, rfl⟩
        go_wp2_with fail
        go_ret
        exact ⟨ret_bool HV.out.symm, hb0⟩
      | false =>
        have HV : Hid (stB zs ys = false) := stB_no (E4.out.trans hv)
        rw [hv] at HA
        clear hv
        go_enter Try.func55, Try.ntmps55
        go_wp2_with fail
        generalize w.alloc (.cells #[.slice A n c, .slice D m d] 52) = W at hb0 p0 p1 HA HI ⊢
        refine HA.out.mono ?_
        rintro e w1 ⟨rfl, rfl⟩
        go_wp2_with fail
        go_ret
        exact ⟨ret_bool HV.out.symm, hb0⟩
    · have HV : Hid (stB zs ys = false) := stB_no2 (numsB_len (by have := hy.out; omega))
      have e1 : ((n : Int) == 4) = true := by simp; omega
      have e2 : ((m : Int) == 8) = false := by simp; omega
      clear h1 h2 hn4
      go_enter Try.func55, Try.ntmps55
      go_wp2_with fail
      go_ret
      exact ⟨ret_bool HV.out.symm, hb0⟩
  · have HV : Hid (stB zs ys = false) := stB_no (numsB_len (by have := hz.out; omega))
    have e1 : ((n : Int) == 4) = false := by simp; omega
    clear h1 h2
    go_enter Try.func55, Try.ntmps55
    go_wp2_with fail
    go_ret
    exact ⟨ret_bool HV.out.symm, hb0⟩
end Go.Proofs.Ytdmcpabpjhinhaa
