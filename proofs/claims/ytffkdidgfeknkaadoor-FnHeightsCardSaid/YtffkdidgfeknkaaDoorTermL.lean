/-
  What the law does with a term: copies it, holds two of them against each other. Conditions: at most 2^20 coefficients.
-/
import Derived.Test.YtffkdidgfeknkaaDoorTm
import Derived.Test.YtffkdidgfeknkaaDoorInts
import Derived.WalkSmall
namespace Go.Proofs.YtffkdidgfeknkaaDoor
open Go.RowKit

end Go.Proofs.YtffkdidgfeknkaaDoor
