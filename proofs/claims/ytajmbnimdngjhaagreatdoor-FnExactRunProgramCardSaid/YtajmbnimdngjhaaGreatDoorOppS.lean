/-
  The model's opposite, multiple and sum of terms, by pointers. Conditions: valid terms, multipliers of at most 1000000.
-/
import Derived.Test.YtajmbnimdngjhaaGreatDoorMakeS
namespace Go.Proofs.YtajmbnimdngjhaaGreatDoor
open Go.RowKit
theorem ptrT_more {w : World} {B B' b o : Nat} {t : Int × List Int} (h : PtrT w B b o t) (hB : B ≤ B') : PtrT w B' b o t := by
  obtain ⟨A, n, c, h0, h1, h2, h3⟩ := h
  exact ⟨A, n, c, by omega, h1, h2, h3.more hB⟩
end Go.Proofs.YtajmbnimdngjhaaGreatDoor
