/-
  Lists that can be coded, and what the program's areCoded gives. Conditions: at most 2^20 numbers.
-/
import Derived.Test.YtffkdidgfeknkaaDoorEq
import Derived.Test.YtffkdidgfeknkaaDoorTmB
namespace Go.Proofs.YtffkdidgfeknkaaDoor
open Go.RowKit

/-- Numbers that can be coded. -/
def InC (z : Int) : Prop := -1000000000000000 ≤ z ∧ z ≤ 1000000000000000
instance : DecidablePred InC := fun z => by unfold InC; infer_instance
def codedB (zs : List Int) : Bool := decide (∀ z ∈ zs, InC z) && decide (zs.length ≤ 100)
theorem all_take_succ {zs : List Int} {k : Nat} {x : Int} (h : ∀ z ∈ zs.take k, InC z) (hx : zs[k]? = some x) (h1 : -1000000000000000 ≤ x) (h2 : x ≤ 1000000000000000) : ∀ z ∈ zs.take (k + 1), InC z := by
  intro z hz
  rw [List.take_add_one, hx] at hz
  simp only [Option.toList, List.mem_append, List.mem_singleton] at hz
  rcases hz with hz | rfl
  · exact h z hz
  · exact ⟨h1, h2⟩
theorem coded_no {zs : List Int} {k : Nat} {x : Int} (hx : zs[k]? = some x) (h : ¬ (-1000000000000000 ≤ x ∧ x ≤ 1000000000000000)) : codedB zs = false := by
  unfold codedB
  rw [decide_eq_false (fun a => h (a x (List.mem_of_getElem? hx)))]
  rfl
theorem coded_yes {zs : List Int} {k : Nat} (h : ∀ z ∈ zs.take k, InC z) (hk : zs.length ≤ k) : codedB zs = decide (zs.length ≤ 100) := by
  rw [List.take_of_length_le hk] at h
  unfold codedB
  rw [decide_eq_true h]
  rfl
theorem coded_in {zs : List Int} (h : codedB zs = true) : ∀ z ∈ zs, InC z := by
  unfold codedB at h
  rw [Bool.and_eq_true] at h
  exact of_decide_eq_true h.1

set_option maxRecDepth 100000 in
set_option maxHeartbeats 1000000 in
theorem areBetween_c (A : Option Addr) (n c B : Nat) (lo hi : Int) (zs : List Int) (w : World) (h : Row w B A (zs.map ic)) (hz : zs.length = n) (hn : n ≤ 1048576) :
    Calls Tryd.prog 68 #[.slice A n c, .int .i64 lo, .int .i64 hi] w fun e w' => e = .returned (.bool (btw lo hi zs)) ∧ w = w' := by
  go_enter Tryd.func68, Tryd.ntmps68
  go_wp2
  go_loop [8, 11] (fun _ i => ∃ k : Nat, k ≤ n ∧ i = .int .i64 k ∧ Hid (∀ z ∈ zs.take k, lo ≤ z ∧ z ≤ hi)) (fun _ i => n - (intOf i).toNat)
  case atStart => exact ⟨0, Nat.zero_le _, rfl, by intro z hz; simp at hz⟩
  case round =>
    obtain ⟨k, hk, rfl, ha⟩ := hrel
    by_cases hlt : k < n
    · obtain ⟨b, off, x, rfl, hb, hx, hc⟩ := h.int_at (k := k) (by omega)
      have HX := Lib.hid hx
      clear hx
      by_cases h1 : lo ≤ x
      · by_cases h2 : x ≤ hi
        · go_wp2
          go_round
          case rel => exact ⟨k + 1, by omega, by go_num, btw_take_succ ha.out HX.out h1 h2⟩
          case measure => simp [intOf]; omega
        · go_wp2
          go_ret
          exact ⟨ret_bool (btw_no HX.out (by omega)).symm, rfl⟩
      · go_wp2
        go_ret
        exact ⟨ret_bool (btw_no HX.out (by omega)).symm, rfl⟩
    · have HY := Lib.hid (btw_yes ha.out (by omega))
      go_wp2
      go_ret
      exact ⟨ret_bool HY.out.symm, rfl⟩


theorem coded_btw {zs : List Int} (hl : zs.length ≤ 100) : codedB zs = btw (-1000000000000000) 1000000000000000 zs := by
  unfold codedB btw
  rw [decide_eq_true hl, Bool.and_true]
  rfl
theorem coded_long {zs : List Int} (hl : ¬ zs.length ≤ 100) : codedB zs = false := by unfold codedB; rw [decide_eq_false hl]; simp

set_option maxRecDepth 100000 in
set_option maxHeartbeats 1000000 in
theorem areCoded_c (A : Option Addr) (n c B : Nat) (zs : List Int) (w : World) (h : Row w B A (zs.map ic)) (hz : zs.length = n) (hn : n ≤ 1048576) :
    Calls Tryd.prog 34 #[.slice A n c] w fun e w' => e = .returned (.bool (codedB zs)) ∧ w = w' := by
  by_cases hl : n ≤ 100
  · have HT := Lib.hid (coded_btw (zs := zs) (by omega))
    have HA := Lib.hid (areBetween_c A n c B (-1000000000000000) 1000000000000000 zs w h hz hn)
    have q1 : decide (n ≤ 100) = true := decide_eq_true hl
    clear h
    go_enter Tryd.func34, Tryd.ntmps34
    go_wp2_with fail
    refine HA.out.mono ?_
    rintro e w1 ⟨rfl, rfl⟩
    go_wp2_with fail
    go_ret
    exact ⟨ret_bool HT.out.symm, rfl⟩
  · have HT := Lib.hid (coded_long (zs := zs) (by omega))
    have q1 : decide (n ≤ 100) = false := decide_eq_false hl
    clear h
    go_enter Tryd.func34, Tryd.ntmps34
    go_wp2_with fail
    go_ret
    exact ⟨ret_bool HT.out.symm, rfl⟩
end Go.Proofs.YtffkdidgfeknkaaDoor
