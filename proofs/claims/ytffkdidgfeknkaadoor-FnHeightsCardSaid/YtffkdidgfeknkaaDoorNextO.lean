/-
  The model's copy of a state; small functions of the model's step. Conditions: at most 100000 numbers.
-/
import Derived.Test.YtffkdidgfeknkaaDoorMachC
import Derived.Test.YtffkdidgfeknkaaDoorCfgV
namespace Go.Proofs.YtffkdidgfeknkaaDoor
set_option linter.unusedVariables false
open Go.RowKit

end Go.Proofs.YtffkdidgfeknkaaDoor

