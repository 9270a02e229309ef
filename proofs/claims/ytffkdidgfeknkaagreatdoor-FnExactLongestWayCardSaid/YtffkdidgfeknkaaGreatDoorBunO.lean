/-
  Several texts in one: Stuk, TabZ, WayX. Conditions: as each says.
-/
import Derived.Test.YtffkdidgfeknkaaGreatDoorBunM
import Derived.Test.YtffkdidgfeknkaaGreatDoorRows
import Derived.LaidLaws
import Derived.LaidHandle
import Derived.Stop.LaidErr
import Derived.Test.YtffkdidgfeknkaaGreatDoorBunF
import Derived.Lib.LaidTab

/-! The program's own error lies in its variable, as a card's list lays it. No conditions. -/
namespace Go.Proofs.YtffkdidgfeknkaaGreatDoor
set_option linter.unusedVariables false
open Go.RowKit

theorem star_h : "*" ++ "errors.errorString" = "*errors.errorString" := by decide
theorem row_err_h (u : TypeId) (h : Tryz.prog.typeName? 3 u = some "*errors.errorString") : u = 172 :=
  typeName_ptr_named (nm := "errors.errorString") (by rw [star_h]; kernel_rfl) (by kernel_rfl) (by decide) u (by rw [star_h]; exact h)
theorem stuck_var {W : World} {tp : TypeId} {p : Value} (h : W.var? Tryz.prog "loop.example/g01105/impl.errStuck" = some #[.iface tp p]) : Stuck tp p W := by
  unfold World.var? at h
  rw [show Tryz.prog.globalNamed "loop.example/g01105/impl.errStuck" = some 0 by kernel_rfl] at h
  simp only [Option.bind_some] at h
  split at h
  · rename_i cs t fr e
    obtain rfl := Option.some.inj h
    show W.cell? ⟨0, 0, none⟩ = _
    rw [cell_of_row W _ 0 _ _ _ e]; rfl
  · cases h
def StuckX (W : World) : Prop := ∃ tp pv, Stuck tp pv W
theorem stuckX_of_laid {laid : List (String × DataW Unit)} {W : World} (e : laid = [("loop.example/g01105/impl.errStuck", Rows.laid_loop_example_g01105_impl_errStuck)]) (h : laidMetH Tryz.prog laid W) : StuckX W := by
  subst e
  have h' : laidMet Tryz.prog [("loop.example/g01105/impl.errStuck", Rows.laid_loop_example_g01105_impl_errStuck)] W := h
  obtain ⟨a0, s0, hv0, -, -, -⟩ := laid_sentinel h' (g := 0) (ti := 129) (tp := 172) (te := 191) (ts := 9) (by kernel_rfl) (by kernel_rfl) Tryz.underlying129 row_err_h Tryz.underlying172 Tryz.underlying191 rfl rfl Tryz.underlying9 (by kernel_rfl) (by kernel_rfl)
  exact ⟨_, _, stuck_var hv0⟩
theorem hgtR_len (xs : List (Int × Int)) : (hgtR xs).1.length ≤ 80 := by
  by_cases h : codeB xs = true ∧ ∃ L, LeastH xs L
  · obtain ⟨hc, L, hL⟩ := h
    rw [hgtR_yes hc hL]
    show L.length ≤ 80
    rw [hL.good.len]; exact (codeB_parts hc).2.1
  · unfold hgtR
    rw [dif_neg h]
    simp
end Go.Proofs.YtffkdidgfeknkaaGreatDoor

/-! The library's table of the lowest bits, as a card's list lays it. No conditions. -/
namespace Go.Proofs.YtffkdidgfeknkaaGreatDoor
open Go.RowKit

theorem tabZ_of_laid {laid : List (String × DataW Unit)} {W : World} (e : laid = [("math/bits.deBruijn64tab", Rows.laid_math_bits_deBruijn64tab)]) (h : laidMetH Tryz.prog laid W) : TabZ W := by
  subst e
  have h' : laidMet Tryz.prog [("math/bits.deBruijn64tab", Rows.laid_math_bits_deBruijn64tab)] W := h
  have ht : Lib.TabIs Tryz.prog W "math/bits.deBruijn64tab" .u8 (Lib.deBruijn64tab.map fun (n : Nat) => (n : Int)) := Lib.tabIs_of_head (g := 1) (t := 136) (e := 5) (n := 64) (by kernel_rfl) (by kernel_rfl) Tryz.underlying136 Tryz.underlying5 (by kernel_rfl) (by kernel_rfl) h'
  intro j hj
  have hc := ht.cell (g := 1) (by kernel_rfl) j (by rw [List.length_map]; exact hj)
  rw [hc]
  simp [List.getElem?_eq_getElem hj]
end Go.Proofs.YtffkdidgfeknkaaGreatDoor

/-! The library's table of the lowest bits and the program's own error, as a card's list of both lays them. No conditions. -/
namespace Go.Proofs.YtffkdidgfeknkaaGreatDoor
set_option linter.unusedVariables false
open Go.RowKit

def WayX (W : World) : Prop := StuckX W ∧ TabZ W
theorem wayX_of_laid {laid : List (String × DataW Unit)} {W : World} (e : laid = [("math/bits.deBruijn64tab", Rows.laid_math_bits_deBruijn64tab), ("loop.example/g01105/impl.errStuck", Rows.laid_loop_example_g01105_impl_errStuck)]) (h : laidMetH Tryz.prog laid W) : WayX W := by
  subst e
  have h' : laidMet Tryz.prog [("math/bits.deBruijn64tab", Rows.laid_math_bits_deBruijn64tab), ("loop.example/g01105/impl.errStuck", Rows.laid_loop_example_g01105_impl_errStuck)] W := h
  have h2 := h'.tail
  refine ⟨?_, ?_⟩
  · obtain ⟨a0, s0, hv0, -, -, -⟩ := laid_sentinel h2 (g := 0) (ti := 129) (tp := 172) (te := 191) (ts := 9) (by kernel_rfl) (by kernel_rfl) Tryz.underlying129 row_err_h Tryz.underlying172 Tryz.underlying191 rfl rfl Tryz.underlying9 (by kernel_rfl) (by kernel_rfl)
    exact ⟨_, _, stuck_var hv0⟩
  · have ht : Lib.TabIs Tryz.prog W "math/bits.deBruijn64tab" .u8 (Lib.deBruijn64tab.map fun (n : Nat) => (n : Int)) := Lib.tabIs_of_head (g := 1) (t := 136) (e := 5) (n := 64) (by kernel_rfl) (by kernel_rfl) Tryz.underlying136 Tryz.underlying5 (by kernel_rfl) (by kernel_rfl) h'
    intro j hj
    have hc := ht.cell (g := 1) (by kernel_rfl) j (by rw [List.length_map]; exact hj)
    rw [hc]
    simp [List.getElem?_eq_getElem hj]
end Go.Proofs.YtffkdidgfeknkaaGreatDoor
