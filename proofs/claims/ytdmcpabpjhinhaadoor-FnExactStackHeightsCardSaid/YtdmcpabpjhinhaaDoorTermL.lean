/-
  What the law does with a term: copies it, holds two of them against each other. Conditions: at most 2^20 coefficients.
-/
import Derived.Test.YtdmcpabpjhinhaaDoorTm
import Derived.Test.YtdmcpabpjhinhaaDoorInts
import Derived.WalkSmall
namespace Go.Proofs.YtdmcpabpjhinhaaDoor
open Go.RowKit

end Go.Proofs.YtdmcpabpjhinhaaDoor
