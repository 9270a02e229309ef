/-
  Slices of whole numbers: the copy that the law makes. Conditions: at most 2^20 numbers.
-/
import Derived.Test.YtdmcpabpjhinhaaDoorEq
namespace Go.Proofs.YtdmcpabpjhinhaaDoor
open Go.RowKit

end Go.Proofs.YtdmcpabpjhinhaaDoor
