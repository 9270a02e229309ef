/-
  What the law does with a term and with a list of numbers, told by what they read as: it copies, compares, writes numbers that rise, and looks for them. Conditions: at most 2^20 numbers.
-/
import Derived.Test.YtffkdidgfeknkaaDoorOwn
import Derived.Test.YtffkdidgfeknkaaDoorTermL
import Derived.Test.YtffkdidgfeknkaaDoorMark
import Derived.Test.YtffkdidgfeknkaaDoorSz
import Derived.Deep.RegionHeld3
import Derived.Deep.DeepCutAuto
namespace Go.Proofs.YtffkdidgfeknkaaDoor
open Go.RowKit

end Go.Proofs.YtffkdidgfeknkaaDoor
