/-
  A step of the model: a place beyond the end. Conditions: valid code, a valid config.
-/
import Derived.Test.YtdmcpabpjhinhaaNextQ
import Derived.Deep.DeepCutAuto
import Derived.OwnWalk
namespace Go.Proofs.Ytdmcpabpjhinhaa
set_option linter.unusedVariables false
open Go.RowKit

end Go.Proofs.Ytdmcpabpjhinhaa

