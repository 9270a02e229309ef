/-
  What the law does with a term: copies it, holds two of them against each other. Conditions: at most 2^20 coefficients.
-/
import Derived.Test.YtpdgnmdjneakgaaTm
import Derived.Test.YtpdgnmdjneakgaaInts
import Derived.WalkSmall
namespace Go.Proofs.Ytpdgnmdjneakgaa
open Go.RowKit

end Go.Proofs.Ytpdgnmdjneakgaa
