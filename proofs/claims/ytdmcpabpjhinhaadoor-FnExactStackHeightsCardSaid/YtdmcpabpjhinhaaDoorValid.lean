/-
  Valid terms: what the program's ValidTerm and the model's l02Is give. Conditions: at most 2^20 coefficients.
-/
import Derived.Test.YtdmcpabpjhinhaaDoorTm
import Derived.Test.YtdmcpabpjhinhaaDoorTmB
import Derived.Outline
import Derived.BigQuiet
import Derived.Deep.QuietTactic
namespace Go.Proofs.YtdmcpabpjhinhaaDoor
open Go.RowKit

end Go.Proofs.YtdmcpabpjhinhaaDoor
