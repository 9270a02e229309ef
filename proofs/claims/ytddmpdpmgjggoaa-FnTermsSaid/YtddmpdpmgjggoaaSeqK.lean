/-
  Sequents: how the law counts, copies and compares them; whether one is valid. Conditions: at most 2^20 terms and coefficients.
-/
import Derived.Test.YtddmpdpmgjggoaaBlk
namespace Go.Proofs.Ytddmpdpmgjggoaa
open Go.RowKit

/-- A valid sequent. -/
def seqB (ts : List (Int × List Int)) (g : Int × List Int) : Bool := allT 13 ts && tmB g
end Go.Proofs.Ytddmpdpmgjggoaa
