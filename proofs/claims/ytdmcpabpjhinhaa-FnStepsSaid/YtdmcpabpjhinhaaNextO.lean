/-
  The model's copy of a state; small functions of the model's step. Conditions: at most 100000 numbers.
-/
import Derived.Test.YtdmcpabpjhinhaaMachC
import Derived.Test.YtdmcpabpjhinhaaCfgV
namespace Go.Proofs.Ytdmcpabpjhinhaa
set_option linter.unusedVariables false
open Go.RowKit

end Go.Proofs.Ytdmcpabpjhinhaa

