/-
  The library's error type lies in its variable, as a card's list lays it. No conditions.
-/
import Derived.Test.YtffkdidgfeknkaaDoorReadN
import Derived.Test.YtffkdidgfeknkaaDoorRows
import Derived.LaidLaws
import Derived.LaidHandle
namespace Go.Proofs.YtffkdidgfeknkaaDoor
open Go.ChangeShapes Go.WideShapes Go.ChangeAt Go.RowKit
set_option linter.unusedVariables false

theorem et_h : Tryd.prog.globalNamed "errors.errorType" = some 1 := by kernel_rfl
theorem rt_h : (Tryd.prog.cutTypes.find? (·.1 == "internal/reflectlite.rtype")).map (·.2) = some 158 := by kernel_rfl
theorem oneRow_h : ((List.range 239).filter fun t => Tryd.prog.rowNamed t [101, 114, 114, 111, 114]) = [109] := by kernel_rfl
theorem size_h : Tryd.prog.types.size = 239 := by kernel_rfl
theorem hd_of_laid {laid : List (String × DataW Unit)} {W : World} (e : laid = [("errors.errorType", Rows.laid_errors_errorType)]) (h : laidMetH Tryd.prog laid W) : Hd W := by
  subst e
  have h' : laidMet Tryd.prog [] W ∧ handlesMet Tryd.prog [("errors.errorType", Rows.laid_errors_errorType)] W := h
  obtain ⟨name, u, ty, e1, e2, e3, e4, e5⟩ := h'.2 _ (List.mem_singleton.2 rfl)
  have en : name = [101, 114, 114, 111, 114] := (Option.some.inj e1).symm
  subst en
  obtain rfl := Option.some.inj (rt_h.symm.trans e2)
  have hm : ty ∈ (List.range 239).filter fun t => Tryd.prog.rowNamed t [101, 114, 114, 111, 114] := List.mem_filter.2 ⟨List.mem_range.2 (by rw [← size_h]; exact e3), e4⟩
  rw [oneRow_h] at hm
  obtain rfl := List.mem_singleton.1 hm
  have hh : typeHandle Tryd.prog 109 = .pointer (some ⟨5, 109, none⟩) := by kernel_rfl
  rw [hh] at e5
  simpa [Hd] using World.var?_cell et_h e5 0
end Go.Proofs.YtffkdidgfeknkaaDoor
