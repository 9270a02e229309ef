/-
  Lists of numbers that a call copies: the model's l00Own, slices.Clone. Conditions: at most 100000 numbers.
-/
import Derived.Test.YtajmbnimdngjhaaGreatDoorOwn
import Derived.Test.YtajmbnimdngjhaaGreatDoorTermsC
import Derived.Test.YtajmbnimdngjhaaGreatDoorAppend
import Derived.WalkSmall
import Derived.Lib.SliceRun
namespace Go.Proofs.YtajmbnimdngjhaaGreatDoor
open Go.RowKit
set_option linter.unusedVariables false

theorem own_nil (w : World) (lo : Nat) : OwnL w lo w.heap.size none 0 0 [] := ⟨rfl, World.ownsRow_nil _ _ _ _, (fun j hj => by cases hj), Nat.le_refl _⟩

set_option maxRecDepth 100000 in
set_option maxHeartbeats 1000000 in
theorem l00Own_c (A : Option Addr) (n cp B : Nat) (zs : List Int) (w : World) (h : InL w B A n zs) (hB : B ≤ w.heap.size) (hn : n ≤ 100000) :
    Calls Tryz.prog 99 #[.slice A n cp] w fun e w' => ∃ A' c', e = .returned (.slice A' n c') ∧ OwnL w' w.heap.size w'.heap.size A' n c' zs ∧ Below w.heap.size w w' := by
  obtain ⟨i0, hi, hz0, hz1, hz2⟩ := info_parts info64
  have hl := Lib.hid h.1
  have hr := h.2.below (bnew w (.cells #[] 2)) hB
  clear h
  go_enter Tryz.func99, Tryz.ntmps99
  go_wp2_with (at_builtin; refine wpList_append_row _ rfl _ _ 26 rfl w.heap.size 2 i0 (.int .i64 0) 8 Tryz.underlying26 hi hz0 hz1 hz2 rfl _ _ _ rfl (own_empty w 2) B A n cp (zs.map ic) rfl (by rw [List.length_map]; exact hl.out) hr (ints_one zs) (by unfold maxLen; omega) (by omega) (by simp) ?_; intro v' w1 hown hg)
  have hb : Below w.heap.size w w1 := ((Below.refl _ _).alloc (Nat.le_refl _) _).grown hg (by simp) (fun k hk => by have hk' : some w.heap.size = some k := hk; injection hk' with hk'; omega)
  rw [Nat.zero_add, List.nil_append] at hown
  obtain ⟨A', c', rfl, _⟩ := own_slice hown
  go_wp2_with fail
  go_ret
  exact ⟨A', c', rfl, OwnL.of_own hown, hb⟩

set_option maxRecDepth 100000 in
set_option maxHeartbeats 2000000 in
theorem clone64_c (A : Option Addr) (n c B : Nat) (zs : List Int) (w : World) (h : InL w B A n zs) (hB : B ≤ w.heap.size) (hn : n ≤ 100000) :
    Calls Tryz.prog 77 #[.slice A n c] w fun e w' => ∃ A' c', e = .returned (.slice A' n c') ∧ OwnL w' w.heap.size w'.heap.size A' n c' zs ∧ Below w.heap.size w w' := by
  obtain ⟨i0, hi, hz0, hz1, hz2⟩ := info_parts info64
  have hl := Lib.hid h.1
  have q22 : ∀ (w : World) (a : Option Addr) (n c n' c' : Nat), (binOp .eql 26 (.slice a n c) (.slice none n' c')).run Tryz.prog w = .ok (.bool a.isNone) w := fun w a n c n' c' => Lib.run_eql_slice_nil w _ _ a n c n' c' Tryz.underlying26
  have hr := h.2.below (bnew w (.cells #[] 2)) hB
  rcases A with _ | ad
  · have hn0 : n = 0 := by
      rcases Nat.eq_zero_or_pos n with h0 | h0
      · exact h0
      · obtain ⟨b, off, e', _⟩ := h.2 0 (by simp; have := hl.out; omega)
        cases e'
    subst hn0
    have hz : zs = [] := List.eq_nil_of_length_eq_zero hl.out
    subst hz
    clear h hr
    go_enter Tryz.func77, Tryz.ntmps77
    go_wp2
    go_ret
    exact ⟨none, 0, rfl, own_nil _ _, Below.refl _ _⟩
  · clear h
    go_enter Tryz.func77, Tryz.ntmps77
    go_wp2_with (at_builtin; refine wpList_append_row _ rfl _ _ 26 rfl w.heap.size 2 i0 (.int .i64 0) 8 Tryz.underlying26 hi hz0 hz1 hz2 rfl _ _ _ rfl (own_empty w 2) B (some ad) n c (zs.map ic) rfl (by rw [List.length_map]; exact hl.out) hr (ints_one zs) (by unfold maxLen; omega) (by omega) (by simp) ?_; intro v' w1 hown hg)
    have hb : Below w.heap.size w w1 := ((Below.refl _ _).alloc (Nat.le_refl _) _).grown hg (by simp) (fun k hk => by have hk' : some w.heap.size = some k := hk; injection hk' with hk'; omega)
    rw [Nat.zero_add, List.nil_append] at hown
    obtain ⟨A', c', rfl, _⟩ := own_slice hown
    go_wp2_with fail
    go_ret
    exact ⟨A', c', rfl, OwnL.of_own hown, hb⟩
end Go.Proofs.YtajmbnimdngjhaaGreatDoor
