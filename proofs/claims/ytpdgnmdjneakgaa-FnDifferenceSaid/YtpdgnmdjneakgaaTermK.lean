/-
  What the law does with a term and with a list of numbers, told by what they read as: it copies, compares, writes numbers that rise, and looks for them. Conditions: at most 2^20 numbers.
-/
import Derived.Test.YtpdgnmdjneakgaaOwn
import Derived.Test.YtpdgnmdjneakgaaTermL
import Derived.Test.YtpdgnmdjneakgaaMark
import Derived.Test.YtpdgnmdjneakgaaSz
import Derived.Deep.RegionHeld3
import Derived.Deep.DeepCutAuto
namespace Go.Proofs.Ytpdgnmdjneakgaa
open Go.RowKit

end Go.Proofs.Ytpdgnmdjneakgaa
