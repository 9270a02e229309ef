/-
  The library's table of the lowest bits, as a card's list lays it. No conditions.
-/
import Derived.Test.YtffkdidgfeknkaaGreatDoorBunF
import Derived.Test.YtffkdidgfeknkaaGreatDoorRows
import Derived.LaidLaws
import Derived.LaidHandle
import Derived.Lib.LaidTab
namespace Go.Proofs.YtffkdidgfeknkaaGreatDoor
open Go.RowKit

theorem tabZ_of_laid {laid : List (String × DataW Unit)} {W : World} (e : laid = [("math/bits.deBruijn64tab", Rows.laid_math_bits_deBruijn64tab)]) (h : laidMetH Tryz.prog laid W) : TabZ W := by
  subst e
  have h' : laidMet Tryz.prog [("math/bits.deBruijn64tab", Rows.laid_math_bits_deBruijn64tab)] W := h
  have ht : Lib.TabIs Tryz.prog W "math/bits.deBruijn64tab" .u8 (Lib.deBruijn64tab.map fun (n : Nat) => (n : Int)) := Lib.tabIs_of_head (g := 1) (t := 136) (e := 5) (n := 64) (by kernel_rfl) (by kernel_rfl) Tryz.underlying136 Tryz.underlying5 (by kernel_rfl) (by kernel_rfl) h'
  intro j hj
  have hc := ht.cell (g := 1) (by kernel_rfl) j (by rw [List.length_map]; exact hj)
  rw [hc]
  simp [List.getElem?_eq_getElem hj]
end Go.Proofs.YtffkdidgfeknkaaGreatDoor
