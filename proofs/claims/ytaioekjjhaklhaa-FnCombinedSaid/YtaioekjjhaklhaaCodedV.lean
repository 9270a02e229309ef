/-
  Lists that can be coded, and what the program's areCoded gives. Conditions: at most 2^20 numbers.
-/
import Derived.Test.YtaioekjjhaklhaaEq
import Derived.Test.YtaioekjjhaklhaaTmB
import Derived.Test.YtaioekjjhaklhaaValid
namespace Go.Proofs.Ytaioekjjhaklhaa
open Go.RowKit

/-- Numbers that can be coded. -/
def InC (z : Int) : Prop := -1000000000000000 ≤ z ∧ z ≤ 1000000000000000
instance : DecidablePred InC := fun z => by unfold InC; infer_instance
def codedB (zs : List Int) : Bool := decide (∀ z ∈ zs, InC z) && decide (zs.length ≤ 100)
theorem all_take_succ {zs : List Int} {k : Nat} {x : Int} (h : ∀ z ∈ zs.take k, InC z) (hx : zs[k]? = some x) (h1 : -1000000000000000 ≤ x) (h2 : x ≤ 1000000000000000) : ∀ z ∈ zs.take (k + 1), InC z := by
  intro z hz
  rw [List.take_add_one, hx] at hz
  simp only [Option.toList, List.mem_append, List.mem_singleton] at hz
  rcases hz with hz | rfl
  · exact h z hz
  · exact ⟨h1, h2⟩
theorem coded_no {zs : List Int} {k : Nat} {x : Int} (hx : zs[k]? = some x) (h : ¬ (-1000000000000000 ≤ x ∧ x ≤ 1000000000000000)) : codedB zs = false := by
  unfold codedB
  rw [decide_eq_false (fun a => h (a x (List.mem_of_getElem? hx)))]
  rfl
theorem coded_yes {zs : List Int} {k : Nat} (h : ∀ z ∈ zs.take k, InC z) (hk : zs.length ≤ k) : codedB zs = decide (zs.length ≤ 100) := by
  rw [List.take_of_length_le hk] at h
  unfold codedB
  rw [decide_eq_true h]
  rfl
theorem coded_in {zs : List Int} (h : codedB zs = true) : ∀ z ∈ zs, InC z := by
  unfold codedB at h
  rw [Bool.and_eq_true] at h
  exact of_decide_eq_true h.1

theorem coded_btw {zs : List Int} (hl : zs.length ≤ 100) : codedB zs = btw (-1000000000000000) 1000000000000000 zs := by
  unfold codedB btw
  rw [decide_eq_true hl, Bool.and_true]
  rfl
theorem coded_long {zs : List Int} (hl : ¬ zs.length ≤ 100) : codedB zs = false := by unfold codedB; rw [decide_eq_false hl]; simp

set_option maxRecDepth 100000 in
set_option maxHeartbeats 1000000 in
theorem areCoded_c (A : Option Addr) (n c B : Nat) (zs : List Int) (w : World) (h : Row w B A (zs.map ic)) (hz : zs.length = n) (hn : n ≤ 1048576) :
    Calls Try.prog 80 #[.slice A n c] w fun e w' => e = .returned (.bool (codedB zs)) ∧ w = w' := by
  by_cases hl : n ≤ 100
  · have HT := Lib.hid (coded_btw (zs := zs) (by omega))
    have HA := Lib.hid (areBetween_c A n c B (-1000000000000000) 1000000000000000 zs w h hz hn)
    have q1 : decide (n ≤ 100) = true := decide_eq_true hl
    clear h
    go_enter Try.func80, Try.ntmps80
    go_wp2_with fail
    refine HA.out.mono ?_
    rintro e w1 ⟨rfl, rfl⟩
    go_wp2_with fail
    go_ret
    exact ⟨ret_bool HT.out.symm, rfl⟩
  · have HT := Lib.hid (coded_long (zs := zs) (by omega))
    have q1 : decide (n ≤ 100) = false := decide_eq_false hl
    clear h
    go_enter Try.func80, Try.ntmps80
    go_wp2_with fail
    go_ret
    exact ⟨ret_bool HT.out.symm, rfl⟩
end Go.Proofs.Ytaioekjjhaklhaa
