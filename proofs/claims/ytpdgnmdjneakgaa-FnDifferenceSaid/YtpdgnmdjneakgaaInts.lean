/-
  Slices of whole numbers: the copy that the law makes. Conditions: at most 2^20 numbers.
-/
import Derived.Test.YtpdgnmdjneakgaaEq
namespace Go.Proofs.Ytpdgnmdjneakgaa
open Go.RowKit

end Go.Proofs.Ytpdgnmdjneakgaa
