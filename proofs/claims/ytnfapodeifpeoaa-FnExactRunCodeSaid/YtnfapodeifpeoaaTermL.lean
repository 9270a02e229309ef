/-
  What the law does with a term: copies it, holds two of them against each other. Conditions: at most 2^20 coefficients.
-/
import Derived.Test.YtnfapodeifpeoaaTm
import Derived.Test.YtnfapodeifpeoaaInts
import Derived.WalkSmall
namespace Go.Proofs.Ytnfapodeifpeoaa
open Go.RowKit

end Go.Proofs.Ytnfapodeifpeoaa
