/-
  What the law does with a term and with a list of numbers, told by what they read as: it copies, compares, writes numbers that rise, and looks for them. Conditions: at most 2^20 numbers.
-/
import Derived.Test.YtajmbnimdngjhaaGreatDoorOwn
import Derived.Test.YtajmbnimdngjhaaGreatDoorTermL
import Derived.Test.YtajmbnimdngjhaaGreatDoorMark
import Derived.Test.YtajmbnimdngjhaaGreatDoorSz
import Derived.Deep.RegionHeld3
import Derived.Deep.DeepCutAuto
namespace Go.Proofs.YtajmbnimdngjhaaGreatDoor
open Go.RowKit

theorem toInt64S_k (A : Option Addr) (n c B : Nat) (zs : List Int) (w : World) (h : InL w B A n zs) (hB : B ≤ w.heap.size) (hn : n ≤ 1048576) :
    Calls Tryz.prog 40 #[.slice A n c] w fun e w' => ∃ g, e = .returned (.slice (some ⟨g, 0, none⟩) n n) ∧ OwnL w' w.heap.size w'.heap.size (some ⟨g, 0, none⟩) n n zs ∧ Below w.heap.size w w' := by
  refine (toInt64S_c A n c B zs w h.2 hB h.1 hn).mono ?_
  rintro e w1 ⟨g, rfl, hown, hb⟩
  exact ⟨g, rfl, OwnL.of_own hown, hb⟩
theorem eqInt64S_k (A A' : Option Addr) (n c c' B B' : Nat) (zs : List Int) (w : World) (h : InL w B A n zs) (h' : InL w B' A' n zs) (hB : B ≤ w.heap.size) (hB' : B' ≤ w.heap.size) (hn : n ≤ 1048576) :
    Calls Tryz.prog 14 #[.slice A n c, .slice A' n c'] w fun e w' => e = .returned (.bool true) ∧ Below w.heap.size w w' := by
  refine (eqInt64S_c A A' n n c c' w.heap.size zs zs w (h.more hB).2 (h'.more hB').2 h.1 h.1 (by omega)).mono ?_
  rintro e w1 ⟨rfl, d, rfl⟩
  exact ⟨by rw [decide_eq_true rfl], below_drewN (Below.refl _ _) d⟩
theorem markInt64S_k (lo hi : Nat) (A : Option Addr) (n c : Nat) (zs : List Int) (k : Int) (w : World) (h : OwnL w lo hi A n c zs) (hn : n ≤ 100000000) (hk1 : 0 ≤ k) (hk2 : k ≤ 1000000000) :
    Calls Tryz.prog 18 #[.slice A n c, .int .i64 k] w fun e w' => e = .returned (.int .i64 (k + n)) ∧ OwnL w' lo hi A n c (rise k n) ∧ Out lo hi w w' := by
  refine (mark_c lo A n c _ k w h.2.1 hn hk1 hk2).mono ?_
  rintro e w1 ⟨rfl, hown, hg⟩
  exact ⟨rfl, ⟨rise_len _ _, hown, h.2.2.1, Nat.le_trans h.2.2.2 hg.size⟩, Out.of_grown hg fun j hj => ⟨(h.2.1.lt j hj).1, h.2.2.1 j hj⟩⟩
theorem heldInt64S_k (A : Option Addr) (n c B : Nat) (k : Int) (w : World) (h : InL w B A n (rise k n)) (hn : n ≤ 100000000) (hk1 : 0 ≤ k) (hk2 : k ≤ 1000000000) :
    Calls Tryz.prog 20 #[.slice A n c, .int .i64 k] w fun e w' => e = .returned (.int .i64 (k + n)) ∧ Below w.heap.size w w' := by
  refine (held_c A n c B k w h.2 hn hk1 hk2).mono ?_
  rintro e w1 ⟨rfl, rfl⟩
  exact ⟨rfl, Below.refl _ _⟩

theorem toTerm_k (c0 : Int) (A : Option Addr) (n c B : Nat) (zs : List Int) (w : World) (h : InL w B A n zs) (hB : B ≤ w.heap.size) (hn : n ≤ 1048576) :
    Calls Tryz.prog 73 #[.agg #[.int .i64 c0, .slice A n c]] w fun e w' => ∃ g, e = .returned (.agg #[.int .i64 c0, .slice (some ⟨g, 0, none⟩) n n]) ∧
      OwnL w' w.heap.size w'.heap.size (some ⟨g, 0, none⟩) n n zs ∧ Below w.heap.size w w' := by
  refine (toTerm_c c0 A n c B zs w h.2 hB h.1 hn).mono ?_
  rintro e w1 ⟨g, rfl, hown, hb⟩
  exact ⟨g, rfl, OwnL.of_own hown, hb⟩
theorem eqTerm_k (c0 : Int) (A A' : Option Addr) (n c c' B B' : Nat) (zs : List Int) (w : World) (h : InL w B A n zs) (h' : InL w B' A' n zs) (hB : B ≤ w.heap.size) (hB' : B' ≤ w.heap.size) (hn : n ≤ 1048576) :
    Calls Tryz.prog 78 #[.agg #[.int .i64 c0, .slice A n c], .agg #[.int .i64 c0, .slice A' n c']] w fun e w' => e = .returned (.bool true) ∧ Below w.heap.size w w' :=
  eqTerm_c c0 A A' n c c' w.heap.size zs w (h.more hB).2 (h'.more hB').2 (Nat.le_refl _) h.1 (by omega)
end Go.Proofs.YtajmbnimdngjhaaGreatDoor
