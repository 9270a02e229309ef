/-
  What the law does with a term and with a list of numbers, told by what they read as: it copies, compares, writes numbers that rise, and looks for them. Conditions: at most 2^20 numbers.
-/
import Derived.Test.YtejgpooghengmaaOwn
import Derived.Test.YtejgpooghengmaaTermL
import Derived.Test.YtejgpooghengmaaMark
import Derived.Test.YtejgpooghengmaaSz
import Derived.Deep.RegionHeld3
import Derived.Deep.DeepCutAuto
namespace Go.Proofs.Ytejgpooghengmaa
open Go.RowKit

theorem toInt64S_k (A : Option Addr) (n c B : Nat) (zs : List Int) (w : World) (h : InL w B A n zs) (hB : B ≤ w.heap.size) (hn : n ≤ 1048576) :
    Calls Try.prog 7 #[.slice A n c] w fun e w' => ∃ g, e = .returned (.slice (some ⟨g, 0, none⟩) n n) ∧ OwnL w' w.heap.size w'.heap.size (some ⟨g, 0, none⟩) n n zs ∧ Below w.heap.size w w' := by
  refine (toInt64S_c A n c B zs w h.2 hB h.1 hn).mono ?_
  rintro e w1 ⟨g, rfl, hown, hb⟩
  exact ⟨g, rfl, OwnL.of_own hown, hb⟩
theorem eqInt64S_k (A A' : Option Addr) (n c c' B B' : Nat) (zs : List Int) (w : World) (h : InL w B A n zs) (h' : InL w B' A' n zs) (hB : B ≤ w.heap.size) (hB' : B' ≤ w.heap.size) (hn : n ≤ 1048576) :
    Calls Try.prog 10 #[.slice A n c, .slice A' n c'] w fun e w' => e = .returned (.bool true) ∧ Below w.heap.size w w' := by
  refine (eqInt64S_c A A' n n c c' w.heap.size zs zs w (h.more hB).2 (h'.more hB').2 h.1 h.1 (by omega)).mono ?_
  rintro e w1 ⟨rfl, d, rfl⟩
  exact ⟨by rw [decide_eq_true rfl], below_drewN (Below.refl _ _) d⟩
theorem toTerm_k (c0 : Int) (A : Option Addr) (n c B : Nat) (zs : List Int) (w : World) (h : InL w B A n zs) (hB : B ≤ w.heap.size) (hn : n ≤ 1048576) :
    Calls Try.prog 15 #[.agg #[.int .i64 c0, .slice A n c]] w fun e w' => ∃ g, e = .returned (.agg #[.int .i64 c0, .slice (some ⟨g, 0, none⟩) n n]) ∧
      OwnL w' w.heap.size w'.heap.size (some ⟨g, 0, none⟩) n n zs ∧ Below w.heap.size w w' := by
  refine (toTerm_c c0 A n c B zs w h.2 hB h.1 hn).mono ?_
  rintro e w1 ⟨g, rfl, hown, hb⟩
  exact ⟨g, rfl, OwnL.of_own hown, hb⟩
theorem eqTerm_k (c0 : Int) (A A' : Option Addr) (n c c' B B' : Nat) (zs : List Int) (w : World) (h : InL w B A n zs) (h' : InL w B' A' n zs) (hB : B ≤ w.heap.size) (hB' : B' ≤ w.heap.size) (hn : n ≤ 1048576) :
    Calls Try.prog 17 #[.agg #[.int .i64 c0, .slice A n c], .agg #[.int .i64 c0, .slice A' n c']] w fun e w' => e = .returned (.bool true) ∧ Below w.heap.size w w' :=
  eqTerm_c c0 A A' n c c' w.heap.size zs w (h.more hB).2 (h'.more hB').2 (Nat.le_refl _) h.1 (by omega)
end Go.Proofs.Ytejgpooghengmaa
