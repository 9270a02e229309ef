/-
  Slices of whole numbers: the copy that the law makes. Conditions: at most 2^20 numbers.
-/
import Derived.Test.YtffkdidgfeknkaaDoorEq
namespace Go.Proofs.YtffkdidgfeknkaaDoor
open Go.RowKit

end Go.Proofs.YtffkdidgfeknkaaDoor
