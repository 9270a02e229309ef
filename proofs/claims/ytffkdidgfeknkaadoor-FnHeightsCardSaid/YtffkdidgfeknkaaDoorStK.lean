/-
  States, two lists of numbers: what one that came in reads as; how the law counts, copies and compares them. Conditions: at most 2^20 numbers.
-/
import Derived.Test.YtffkdidgfeknkaaDoorBlk
namespace Go.Proofs.YtffkdidgfeknkaaDoor
set_option linter.unusedVariables false
open Go.RowKit Go.ChangeShapes Go.WideShapes Go.Deep Go.Joins

section
variable {H : Type} {enc : TypeId × Value → H} {w : World} {held : Bool}
end

end Go.Proofs.YtffkdidgfeknkaaDoor
