/-
  What the law does with a term and with a list of numbers, told by what they read as: it copies, compares, writes numbers that rise, and looks for them. Conditions: at most 2^20 numbers.
-/
import Derived.Test.YtclenhnbgfcjjaaDoorOwn
import Derived.Test.YtclenhnbgfcjjaaDoorTermL
import Derived.Test.YtclenhnbgfcjjaaDoorMark
import Derived.Test.YtclenhnbgfcjjaaDoorSz
import Derived.Deep.RegionHeld3
import Derived.Deep.DeepCutAuto
namespace Go.Proofs.YtclenhnbgfcjjaaDoor
open Go.RowKit

theorem toInt64S_k (A : Option Addr) (n c B : Nat) (zs : List Int) (w : World) (h : InL w B A n zs) (hB : B ≤ w.heap.size) (hn : n ≤ 1048576) :
    Calls Tryd.prog 21 #[.slice A n c] w fun e w' => ∃ g, e = .returned (.slice (some ⟨g, 0, none⟩) n n) ∧ OwnL w' w.heap.size w'.heap.size (some ⟨g, 0, none⟩) n n zs ∧ Below w.heap.size w w' := by
  refine (toInt64S_c A n c B zs w h.2 hB h.1 hn).mono ?_
  rintro e w1 ⟨g, rfl, hown, hb⟩
  exact ⟨g, rfl, OwnL.of_own hown, hb⟩
theorem eqInt64S_k (A A' : Option Addr) (n c c' B B' : Nat) (zs : List Int) (w : World) (h : InL w B A n zs) (h' : InL w B' A' n zs) (hB : B ≤ w.heap.size) (hB' : B' ≤ w.heap.size) (hn : n ≤ 1048576) :
    Calls Tryd.prog 29 #[.slice A n c, .slice A' n c'] w fun e w' => e = .returned (.bool true) ∧ Below w.heap.size w w' := by
  refine (eqInt64S_c A A' n n c c' w.heap.size zs zs w (h.more hB).2 (h'.more hB').2 h.1 h.1 (by omega)).mono ?_
  rintro e w1 ⟨rfl, d, rfl⟩
  exact ⟨by rw [decide_eq_true rfl], below_drewN (Below.refl _ _) d⟩
end Go.Proofs.YtclenhnbgfcjjaaDoor
