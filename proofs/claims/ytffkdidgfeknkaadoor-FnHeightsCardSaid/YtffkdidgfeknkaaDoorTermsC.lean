/-
  Lists of terms: the copy that the law makes, and the comparison of equal lists. Conditions: at most 2^20 terms and coefficients.
-/
import Derived.Test.YtffkdidgfeknkaaDoorTermsK
namespace Go.Proofs.YtffkdidgfeknkaaDoor
open Go.RowKit

section
variable {w w' : World} {lo hi lo' hi' : Nat} {A : Option Addr} {n c : Nat} {ts : List (Int × List Int)}
end

end Go.Proofs.YtffkdidgfeknkaaDoor
