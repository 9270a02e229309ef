/-
  markText: the letter m and the digits of a number. Conditions: numbers from 1 to 10^12.
-/
import Derived.Test.YtffkdidgfeknkaaDoorDigits
namespace Go.Proofs.YtffkdidgfeknkaaDoor
open Go.RowKit

/-- The mark with the number k. -/
def markS (k : Nat) : ByteArray := ⟨(109 :: Lib.decDigits k).toArray⟩
theorem cat_m (l : List UInt8) : (⟨#[109]⟩ : ByteArray) ++ ⟨l.toArray⟩ = ⟨(109 :: l).toArray⟩ := by
  apply ByteArray.ext
  simp
end Go.Proofs.YtffkdidgfeknkaaDoor
