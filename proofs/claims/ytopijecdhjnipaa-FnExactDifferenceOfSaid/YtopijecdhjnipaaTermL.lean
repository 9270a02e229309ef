/-
  What the law does with a term: copies it, holds two of them against each other. Conditions: at most 2^20 coefficients.
-/
import Derived.Test.YtopijecdhjnipaaTm
import Derived.Test.YtopijecdhjnipaaInts
import Derived.WalkSmall
namespace Go.Proofs.Ytopijecdhjnipaa
open Go.RowKit

end Go.Proofs.Ytopijecdhjnipaa
