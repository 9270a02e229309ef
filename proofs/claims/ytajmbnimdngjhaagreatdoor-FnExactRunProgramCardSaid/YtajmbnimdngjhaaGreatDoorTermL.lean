/-
  What the law does with a term: copies it, holds two of them against each other. Conditions: at most 2^20 coefficients.
-/
import Derived.Test.YtajmbnimdngjhaaGreatDoorTm
import Derived.Test.YtajmbnimdngjhaaGreatDoorInts
import Derived.WalkSmall
namespace Go.Proofs.YtajmbnimdngjhaaGreatDoor
open Go.RowKit

set_option maxRecDepth 100000 in
set_option maxHeartbeats 1000000 in
theorem toTerm_c (c0 : Int) (A : Option Addr) (n c B : Nat) (zs : List Int) (w : World) (h : Row w B A (zs.map ic)) (hB : B ≤ w.heap.size) (hz : zs.length = n) (hn : n ≤ 1048576) :
    Calls Tryz.prog 73 #[.agg #[.int .i64 c0, .slice A n c]] w fun e w' => ∃ g, e = .returned (.agg #[.int .i64 c0, .slice (some ⟨g, 0, none⟩) n n]) ∧
      w'.ownsRow w.heap.size 2 1 (.slice (some ⟨g, 0, none⟩) n n) n (zs.map ic) ∧ Below w.heap.size w w' := by
  go_enter Tryz.func73, Tryz.ntmps73
  go_wp2_with fail
  refine (toInt64S_c A n c B zs _ (((h.alloc hB).alloc (le_alloc hB)).alloc (le_alloc (le_alloc hB))) (le_alloc (le_alloc (le_alloc hB))) hz hn).mono ?_
  rintro e w1 ⟨g, rfl, hown, hb1⟩
  obtain ⟨hc1, hf1⟩ := as_was hb1
  go_wp2_with fail
  refine bodyPost_ret (v := .agg #[.int .i64 c0, .slice (some ⟨g, 0, none⟩) n n]) (by simp [results, Tryz.results73, go_sem, hc1]) rfl ⟨g, rfl, ?_, ?_⟩
  · clear hc1 hf1
    refine own_less (ownsRow_setCell_below (ownsRow_setCell_below (ownsRow_setCell_below hown ?_ _) ?_ _) ?_ _) ?_ <;> simp <;> omega
  · clear hc1 hf1
    refine (((((((Below.refl _ _).alloc (Nat.le_refl _) _).alloc ?_ _).alloc ?_ _).trans (hb1.mono ?_)).setCell ?_ _).setCell ?_ _).setCell ?_ _ <;> simp <;> omega

set_option maxRecDepth 100000 in
set_option maxHeartbeats 1000000 in
/-- eqTerm at equal terms. -/
theorem eqTerm_c (c0 : Int) (A A' : Option Addr) (n c c' B : Nat) (zs : List Int) (w : World) (h : Row w B A (zs.map ic)) (h' : Row w B A' (zs.map ic)) (hB : B ≤ w.heap.size) (hz : zs.length = n) (hn : n ≤ 1152921504606846976) :
    Calls Tryz.prog 78 #[.agg #[.int .i64 c0, .slice A n c], .agg #[.int .i64 c0, .slice A' n c']] w fun e w' => e = .returned (.bool true) ∧ Below w.heap.size w w' := by
  go_enter Tryz.func78, Tryz.ntmps78
  go_wp2_with fail
  refine (eqInt64S_c A A' n n c c' B zs zs _ ((h.alloc hB).alloc (le_alloc hB)) ((h'.alloc hB).alloc (le_alloc hB)) hz hz hn).mono ?_
  rintro e w1 ⟨rfl, d, rfl⟩
  rw [decide_eq_true rfl]
  go_wp2_with fail
  go_ret
  exact ⟨rfl, below_drewN (((Below.refl _ _).alloc (Nat.le_refl _) _).alloc (by simp) _) d⟩
end Go.Proofs.YtajmbnimdngjhaaGreatDoor
