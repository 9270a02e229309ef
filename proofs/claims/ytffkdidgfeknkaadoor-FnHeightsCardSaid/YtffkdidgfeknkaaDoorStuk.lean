/-
  The program's own error lies in its variable, as a card's list lays it. No conditions.
-/
import Derived.Test.YtffkdidgfeknkaaDoorBunD
import Derived.Test.YtffkdidgfeknkaaDoorRows
import Derived.LaidLaws
import Derived.LaidHandle
import Derived.Stop.LaidErr
namespace Go.Proofs.YtffkdidgfeknkaaDoor
set_option linter.unusedVariables false
open Go.RowKit

theorem star_h : "*" ++ "errors.errorString" = "*errors.errorString" := by decide
theorem row_err_h (u : TypeId) (h : Tryd.prog.typeName? 3 u = some "*errors.errorString") : u = 207 :=
  typeName_ptr_named (nm := "errors.errorString") (by rw [star_h]; kernel_rfl) (by kernel_rfl) (by decide) u (by rw [star_h]; exact h)
theorem stuck_var {W : World} {tp : TypeId} {p : Value} (h : W.var? Tryd.prog "loop.example/g01105/impl.errStuck" = some #[.iface tp p]) : Stuck tp p W := by
  unfold World.var? at h
  rw [show Tryd.prog.globalNamed "loop.example/g01105/impl.errStuck" = some 0 by kernel_rfl] at h
  simp only [Option.bind_some] at h
  split at h
  · rename_i cs t fr e
    obtain rfl := Option.some.inj h
    show W.cell? ⟨0, 0, none⟩ = _
    rw [cell_of_row W _ 0 _ _ _ e]; rfl
  · cases h
def StuckX (W : World) : Prop := ∃ tp pv, Stuck tp pv W
theorem stuckX_of_laid {laid : List (String × DataW Unit)} {W : World} (e : laid = [("loop.example/g01105/impl.errStuck", Rows.laid_loop_example_g01105_impl_errStuck)]) (h : laidMetH Tryd.prog laid W) : StuckX W := by
  subst e
  have h' : laidMet Tryd.prog [("loop.example/g01105/impl.errStuck", Rows.laid_loop_example_g01105_impl_errStuck)] W := h
  obtain ⟨a0, s0, hv0, -, -, -⟩ := laid_sentinel h' (g := 0) (ti := 109) (tp := 207) (te := 227) (ts := 9) (by kernel_rfl) (by kernel_rfl) Tryd.underlying109 row_err_h Tryd.underlying207 Tryd.underlying227 rfl rfl Tryd.underlying9 (by kernel_rfl) (by kernel_rfl)
  exact ⟨_, _, stuck_var hv0⟩
theorem hgtR_len (xs : List (Int × Int)) : (hgtR xs).1.length ≤ 80 := by
  by_cases h : codeB xs = true ∧ ∃ L, LeastH xs L
  · obtain ⟨hc, L, hL⟩ := h
    rw [hgtR_yes hc hL]
    show L.length ≤ 80
    rw [hL.good.len]; exact (codeB_parts hc).2.1
  · unfold hgtR
    rw [dif_neg h]
    simp
end Go.Proofs.YtffkdidgfeknkaaDoor
