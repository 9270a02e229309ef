/-
  Code with greater places: the model's list and the program's. Conditions: at most 2^20 instructions.
-/
import Derived.Test.YtffkdidgfeknkaaDoorBunE
import Derived.Test.YtffkdidgfeknkaaDoorBunA
import Derived.Test.YtffkdidgfeknkaaDoorForm
namespace Go.Proofs.YtffkdidgfeknkaaDoor
set_option linter.unusedVariables false
open Go.RowKit

end Go.Proofs.YtffkdidgfeknkaaDoor
