/-
  Several texts in one: NextA, NextU, NextP0, NextP1, NextP2. Conditions: as each says.
-/
import Derived.Test.YtffkdidgfeknkaaDoorNextQ
import Derived.Deep.DeepCutAuto
import Derived.OwnWalk

/-! A step of the model: a place beyond the end. Conditions: valid code, a valid config. -/
namespace Go.Proofs.YtffkdidgfeknkaaDoor
set_option linter.unusedVariables false
open Go.RowKit

end Go.Proofs.YtffkdidgfeknkaaDoor

/-! A step of the model: an operation for which the stack does not fit. Conditions: valid code, a valid config. -/
namespace Go.Proofs.YtffkdidgfeknkaaDoor
set_option linter.unusedVariables false
open Go.RowKit

end Go.Proofs.YtffkdidgfeknkaaDoor

/-! A step of the model: operations that pop 0 numbers. Conditions: valid code, a valid config. -/
namespace Go.Proofs.YtffkdidgfeknkaaDoor
set_option linter.unusedVariables false
open Go.RowKit

end Go.Proofs.YtffkdidgfeknkaaDoor

/-! A step of the model: operations that pop 1 numbers. Conditions: valid code, a valid config. -/
namespace Go.Proofs.YtffkdidgfeknkaaDoor
set_option linter.unusedVariables false
open Go.RowKit

end Go.Proofs.YtffkdidgfeknkaaDoor

/-! A step of the model: operations that pop 2 numbers. Conditions: valid code, a valid config. -/
namespace Go.Proofs.YtffkdidgfeknkaaDoor
set_option linter.unusedVariables false
open Go.RowKit

end Go.Proofs.YtffkdidgfeknkaaDoor
