/-
  A rising function of numbers. No conditions.
-/
import Derived.Test.YtffkdidgfeknkaaGreatDoorBase
namespace Go.Proofs.YtffkdidgfeknkaaGreatDoor
theorem mono_le {f : Nat → Nat} {n : Nat} (h : ∀ i, i < n → f i ≤ f (i + 1)) : ∀ {i j : Nat}, i ≤ j → j ≤ n → f i ≤ f j
  | i, 0, hij, _ => by have : i = 0 := by omega
                       subst this; exact Nat.le_refl _
  | i, j + 1, hij, hj => by
    by_cases e : i = j + 1
    · subst e; exact Nat.le_refl _
    · exact Nat.le_trans (mono_le h (by omega) (by omega)) (h j (by omega))
end Go.Proofs.YtffkdidgfeknkaaGreatDoor
