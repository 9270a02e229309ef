/-
  What the law does with a term: copies it, holds two of them against each other. Conditions: at most 2^20 coefficients.
-/
import Derived.Test.YtclenhnbgfcjjaaDoorTm
import Derived.Test.YtclenhnbgfcjjaaDoorInts
import Derived.WalkSmall
namespace Go.Proofs.YtclenhnbgfcjjaaDoor
open Go.RowKit

end Go.Proofs.YtclenhnbgfcjjaaDoor
