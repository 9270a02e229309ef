/-
  What a term is for values, as far as its first coefficients go; a term that a pointer leads to. Plain lemmas, of no program. No conditions.
-/
import Derived.Test.YtajmbnimdngjhaaGreatDoorSum
import Derived.Test.YtajmbnimdngjhaaGreatDoorOwn
namespace Go.Proofs.YtajmbnimdngjhaaGreatDoor
open Go.RowKit

/-- A term that a pointer leads to, below block B. -/
def PtrT (w : World) (B : Nat) (b o : Nat) (t : Int × List Int) : Prop :=
  ∃ A n c, b < B ∧ w.cell? ⟨b, o, none⟩ = some (.int .i64 t.1) ∧ w.cell? ⟨b, o + 1, none⟩ = some (.slice A n c) ∧ InL w B A n t.2
theorem PtrT.next {w w' : World} {B B' b o : Nat} {t : Int × List Int} (h : PtrT w B b o t) (hb : Below B' w w') (hB : B ≤ B') : PtrT w' B b o t := by
  obtain ⟨A, n, c, h0, h1, h2, h3⟩ := h
  exact ⟨A, n, c, h0, (hb.cell (p := ⟨b, o, none⟩) (by show b < B'; omega)).trans h1, (hb.cell (p := ⟨b, o + 1, none⟩) (by show b < B'; omega)).trans h2, h3.next hb hB⟩
theorem getD_small {t : Int × List Int} (h : tmB t = true) (i : Nat) : -1000000 ≤ t.2.getD i 0 ∧ t.2.getD i 0 ≤ 1000000 := by
  by_cases h0 : t.2.getD i 0 = 0
  · omega
  · exact (tmB_parts h).2.2.1 _ (getD_mem h0)

/-- The number as far as the first k coefficients go. -/
def evTo (t : Int × List Int) (vs : List Int) : Nat → Int
  | 0 => t.1
  | k + 1 => evTo t vs k + t.2.getD k 0 * vs.getD k 0
theorem prod9_le {a b : Int} (a1 : -1000000 ≤ a) (a2 : a ≤ 1000000) (b1 : -1000000000 ≤ b) (b2 : b ≤ 1000000000) : -1000000000000000 ≤ a * b ∧ a * b ≤ 1000000000000000 := by
  have h : (a * b).natAbs ≤ 1000000 * 1000000000 := by
    rw [Int.natAbs_mul]
    exact Nat.mul_le_mul (by omega) (by omega)
  omega
end Go.Proofs.YtajmbnimdngjhaaGreatDoor
