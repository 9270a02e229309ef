/-
  Valid states: the model's test and the program's. Conditions: at most 2^20 numbers.
-/
import Derived.Test.YtajmbnimdngjhaaGreatDoorStK
namespace Go.Proofs.YtajmbnimdngjhaaGreatDoor
set_option linter.unusedVariables false
open Go.RowKit

/-- So many numbers from -1000000000 to 1000000000. -/
def numsB (k : Nat) (vs : List Int) : Bool := decide (vs.length = k) && btw (-1000000000) 1000000000 vs
theorem numsB_len {k : Nat} {vs : List Int} (h : vs.length ≠ k) : numsB k vs = false := by unfold numsB; rw [decide_eq_false h]; rfl
theorem numsB_btw {k : Nat} {vs : List Int} (h : btw (-1000000000) 1000000000 vs = false) : numsB k vs = false := by unfold numsB; rw [h]; simp
theorem numsB_is {k : Nat} {vs : List Int} (h : vs.length = k) : numsB k vs = btw (-1000000000) 1000000000 vs := by unfold numsB; rw [decide_eq_true h]; rfl
theorem numsB_parts {k : Nat} {vs : List Int} (h : numsB k vs = true) : vs.length = k ∧ ∀ z ∈ vs, -1000000000 ≤ z ∧ z ≤ 1000000000 := by
  unfold numsB at h
  simp only [Bool.and_eq_true, decide_eq_true_eq] at h
  exact ⟨h.1, btw_in h.2⟩
/-- A valid state. -/
def stB (zs ys : List Int) : Bool := numsB 4 zs && numsB 8 ys
theorem stB_no {zs ys : List Int} (h : numsB 4 zs = false) : stB zs ys = false := by unfold stB; rw [h]; rfl
theorem stB_no2 {zs ys : List Int} (h : numsB 8 ys = false) : stB zs ys = false := by unfold stB; rw [h]; simp
theorem stB_is {zs ys : List Int} (h : numsB 4 zs = true) : stB zs ys = numsB 8 ys := by unfold stB; rw [h]; rfl

set_option maxRecDepth 100000 in
set_option maxHeartbeats 1000000 in
theorem l03Numbers_c (A : Option Addr) (n c B : Nat) (vs : List Int) (k : Nat) (w : World) (h : InL w B A n vs) (hn : n ≤ 1048576) (hk : k ≤ 1000) :
    Calls Tryz.prog 67 #[.slice A n c, .int .i64 (k : Int)] w fun e w' => e = .returned (.bool (numsB k vs)) ∧ w = w' := by
  have hlen := Lib.hid h.1
  go_enter Tryz.func67, Tryz.ntmps67
  go_wp2_with fail
  go_loop [5] (fun i => ∃ j : Nat, j ≤ n ∧ i = .int .i64 j ∧ Hid (∀ z ∈ vs.take j, -1000000000 ≤ z ∧ z ≤ 1000000000)) (fun i => n - (intOf i).toNat)
  case atStart => exact ⟨0, Nat.zero_le _, rfl, by intro z hz; simp at hz⟩
  case round =>
    obtain ⟨j, hj, rfl, ha⟩ := hrel
    by_cases hlt : j < n
    · obtain ⟨b, off, x, rfl, hb, hx, hc⟩ := h.2.int_at (k := j) (by have := hlen.out; omega)
      have HX := Lib.hid hx
      clear hx
      by_cases h1 : -1000000000 ≤ x
      · by_cases h2 : x ≤ 1000000000
        · go_wp2
          go_round
          case rel => exact ⟨j + 1, by omega, by go_num, btw_take_succ ha.out HX.out h1 h2⟩
          case measure => simp [intOf]; omega
        · have HN := Lib.hid (numsB_btw (k := k) (btw_no (lo := -1000000000) (hi := 1000000000) HX.out (by omega)))
          go_wp2
          go_ret
          exact ⟨ret_bool HN.out.symm, rfl⟩
      · have HN := Lib.hid (numsB_btw (k := k) (btw_no (lo := -1000000000) (hi := 1000000000) HX.out (by omega)))
        go_wp2
        go_ret
        exact ⟨ret_bool HN.out.symm, rfl⟩
    · have HY := Lib.hid (btw_yes ha.out (by have := hlen.out; omega))
      have HV : Hid (numsB k vs = decide (n = k)) := by
        show _ = _
        unfold numsB; rw [HY.out, hlen.out]; simp
      by_cases hnk : n = k
      · have HT : Hid (numsB k vs = true) := by show _ = _; rw [HV.out]; exact decide_eq_true hnk
        have q1 : ((n : Int) == (k : Int)) = true := by simp; omega
        clear hnk
        go_wp2
        go_ret
        exact ⟨ret_bool HT.out.symm, rfl⟩
      · have HT : Hid (numsB k vs = false) := by show _ = _; rw [HV.out]; exact decide_eq_false hnk
        have q1 : ((n : Int) == (k : Int)) = false := by simp; omega
        go_wp2
        go_ret
        exact ⟨ret_bool HT.out.symm, rfl⟩

set_option maxRecDepth 100000 in
set_option maxHeartbeats 1000000 in
theorem l03State_c (b o : Nat) (A : Option Addr) (n c : Nat) (zs : List Int) (D : Option Addr) (m d : Nat) (ys : List Int) (B : Nat) (w : World) (q0 : w.cell? ⟨b, o, none⟩ = some (.slice A n c)) (q1 : w.cell? ⟨b, o + 1, none⟩ = some (.slice D m d))
    (h : InL w B A n zs) (hl : InL w B D m ys) (hn : n ≤ 1048576) (hm : m ≤ 1048576) :
    Calls Tryz.prog 35 #[.pointer (some ⟨b, o, none⟩)] w fun e w' => e = .returned (.bool (stB zs ys)) ∧ w = w' := by
  have HA := Lib.hid (l03Numbers_c A n c B zs 4 w h hn (by omega))
  have HI := Lib.hid (l03Numbers_c D m d B ys 8 w hl hm (by omega))
  clear h hl
  cases hv : numsB 4 zs with
  | true =>
    have HV := Lib.hid (stB_is (ys := ys) hv)
    rw [hv] at HA
    clear hv
    go_enter Tryz.func35, Tryz.ntmps35
    go_wp2_with fail
    refine HA.out.mono ?_
    rintro e w1 ⟨rfl, rfl⟩
    go_wp2_with fail
    refine HI.out.mono ?_
    rintro e w1 ⟨rfl, rfl⟩
    go_wp2_with fail
    go_ret
    exact ⟨ret_bool HV.out.symm, rfl⟩
  | false =>
    have HV := Lib.hid (stB_no (ys := ys) hv)
    rw [hv] at HA
    clear hv
    go_enter Tryz.func35, Tryz.ntmps35
    go_wp2_with fail
    refine HA.out.mono ?_
    rintro e w1 ⟨rfl, rfl⟩
    go_wp2_with fail
    go_ret
    exact ⟨ret_bool HV.out.symm, rfl⟩
set_option maxRecDepth 100000 in
set_option maxHeartbeats 1000000 in
theorem implState_c (A : Option Addr) (n c B : Nat) (zs : List Int) (D : Option Addr) (m d : Nat) (ys : List Int) (w : World) (h : InL w B A n zs) (hl : InL w B D m ys) (hB : B ≤ w.heap.size) (hn : n ≤ 1048576) (hm : m ≤ 1048576) :
    Calls Tryz.prog 75 #[.agg #[.slice A n c, .slice D m d]] w fun e w' => e = .returned (.bool (stB zs ys)) ∧ Below w.heap.size w w' := by
  have hb0 := bnew w (.cells #[.slice A n c, .slice D m d] 31)
  have p0 : (w.alloc (.cells #[.slice A n c, .slice D m d] 31)).cell? ⟨w.heap.size, 0, none⟩ = some (.slice A n c) := by simp
  have p1 : (w.alloc (.cells #[.slice A n c, .slice D m d] 31)).cell? ⟨w.heap.size, 1, none⟩ = some (.slice D m d) := by simp
  have h1 := h.next hb0 hB
  have h2 := hl.next hb0 hB
  have hz := Lib.hid h.1
  have hy := Lib.hid hl.1
  clear h hl
  by_cases hn4 : n = 4
  · by_cases hm8 : m = 8
    · have HA := Lib.hid (areBetween_c A n c B (-1000000000) 1000000000 zs _ h1.2 h1.1 hn)
      have HI := Lib.hid (areBetween_c D m d B (-1000000000) 1000000000 ys _ h2.2 h2.1 hm)
      have E4 := Lib.hid (numsB_is (k := 4) (vs := zs) (by have := hz.out; omega))
      have E8 := Lib.hid (numsB_is (k := 8) (vs := ys) (by have := hy.out; omega))
      have e1 : ((n : Int) == 4) = true := by simp; omega
      have e2 : ((m : Int) == 8) = true := by simp; omega
      clear hn4 hm8 h1 h2
      cases hv : btw (-1000000000) 1000000000 zs with
      | true =>
        have HV : Hid (stB zs ys = btw (-1000000000) 1000000000 ys) := (stB_is (E4.out.trans hv)).trans E8.out
        rw [hv] at HA
        clear hv
        go_enter Tryz.func75, Tryz.ntmps75
        go_wp2_with fail
        generalize w.alloc (.cells #[.slice A n c, .slice D m d] 31) = W at hb0 p0 p1 HA HI ⊢
        refine HA.out.mono ?_
        rintro e w1 ⟨rfl, rfl⟩
        go_wp2_with fail
        refine HI.out.mono ?_
        rintro e w1 ⟨rfl, rfl⟩
        go_wp2_with fail
        go_ret
        exact ⟨ret_bool HV.out.symm, hb0⟩
      | false =>
        have HV : Hid (stB zs ys = false) := stB_no (E4.out.trans hv)
        rw [hv] at HA
        clear hv
        go_enter Tryz.func75, Tryz.ntmps75
        go_wp2_with fail
        generalize w.alloc (.cells #[.slice A n c, .slice D m d] 31) = W at hb0 p0 p1 HA HI ⊢
        refine HA.out.mono ?_
        rintro e w1 ⟨rfl, rfl⟩
        go_wp2_with fail
        go_ret
        exact ⟨ret_bool HV.out.symm, hb0⟩
    · have HV : Hid (stB zs ys = false) := stB_no2 (numsB_len (by have := hy.out; omega))
      have e1 : ((n : Int) == 4) = true := by simp; omega
      have e2 : ((m : Int) == 8) = false := by simp; omega
      clear h1 h2 hn4
      go_enter Tryz.func75, Tryz.ntmps75
      go_wp2_with fail
      go_ret
      exact ⟨ret_bool HV.out.symm, hb0⟩
  · have HV : Hid (stB zs ys = false) := stB_no (numsB_len (by have := hz.out; omega))
    have e1 : ((n : Int) == 4) = false := by simp; omega
    clear h1 h2
    go_enter Tryz.func75, Tryz.ntmps75
    go_wp2_with fail
    go_ret
    exact ⟨ret_bool HV.out.symm, hb0⟩
end Go.Proofs.YtajmbnimdngjhaaGreatDoor
