/-
  Lists of numbers that a call copies: the model's l00Own, slices.Clone. Conditions: at most 100000 numbers.
-/
import Derived.Test.YtpdgnmdjneakgaaOwn
import Derived.Test.YtpdgnmdjneakgaaTermsC
import Derived.Test.YtpdgnmdjneakgaaAppend
import Derived.WalkSmall
import Derived.Lib.SliceRun
namespace Go.Proofs.Ytpdgnmdjneakgaa
open Go.RowKit
set_option linter.unusedVariables false

theorem own_nil (w : World) (lo : Nat) : OwnL w lo w.heap.size none 0 0 [] := ⟨rfl, World.ownsRow_nil _ _ _ _, (fun j hj => by cases hj), Nat.le_refl _⟩

set_option maxRecDepth 100000 in
set_option maxHeartbeats 1000000 in
theorem l00Own_c (A : Option Addr) (n cp B : Nat) (zs : List Int) (w : World) (h : InL w B A n zs) (hB : B ≤ w.heap.size) (hn : n ≤ 100000) :
    Calls Try.prog 29 #[.slice A n cp] w fun e w' => ∃ A' c', e = .returned (.slice A' n c') ∧ OwnL w' w.heap.size w'.heap.size A' n c' zs ∧ Below w.heap.size w w' := by
  obtain ⟨i0, hi, hz0, hz1, hz2⟩ := info_parts info64
  have hl := Lib.hid h.1
  have hr := h.2.below (bnew w (.cells #[] 2)) hB
  clear h
  go_enter Try.func29, Try.ntmps29
  go_wp2_with (at_builtin; refine wpList_append_row _ rfl _ _ 29 rfl w.heap.size 2 i0 (.int .i64 0) 8 Try.underlying29 hi hz0 hz1 hz2 rfl _ _ _ rfl (own_empty w 2) B A n cp (zs.map ic) rfl (by rw [List.length_map]; exact hl.out) hr (ints_one zs) (by unfold maxLen; omega) (by omega) (by simp) ?_; intro v' w1 hown hg)
  have hb : Below w.heap.size w w1 := ((Below.refl _ _).alloc (Nat.le_refl _) _).grown hg (by simp) (fun k hk => by have hk' : some w.heap.size = some k := hk; injection hk' with hk'; omega)
  rw [Nat.zero_add, List.nil_append] at hown
  obtain ⟨A', c', rfl, _⟩ := own_slice hown
  go_wp2_with fail
  go_ret
  exact ⟨A', c', rfl, OwnL.of_own hown, hb⟩

end Go.Proofs.Ytpdgnmdjneakgaa
