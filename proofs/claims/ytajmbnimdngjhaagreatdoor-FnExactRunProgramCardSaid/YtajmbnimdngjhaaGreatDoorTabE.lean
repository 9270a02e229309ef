/-
  From a card's list of variables to the cells of the table of the kinds. No conditions.
-/
import Derived.Test.YtajmbnimdngjhaaGreatDoorElemI
import Derived.Test.YtajmbnimdngjhaaGreatDoorStmt
import Derived.LaidLaws
import Derived.LaidHandle
import Derived.Lib.LaidU8
namespace Go.Proofs.YtajmbnimdngjhaaGreatDoor
set_option linter.unusedVariables false
open Go.RowKit Go.ChangeShapes Go.WideShapes Go.Deep Go.Joins

theorem cells_i64 : Tryz.prog.cellsOf 2 = 1 := by kernel_rfl
theorem cells_int : Tryz.prog.cellsOf 3 = 1 := by kernel_rfl
theorem cells_bool : Tryz.prog.cellsOf 4 = 1 := by kernel_rfl
set_option maxRecDepth 100000 in
theorem form_row {H : Type} {enc : TypeId × Value → H} {w : World} {fuel : Nat} {cs : List Value} {a b e f : Int} {c d : Bool} {p : List MemPlace} (hc : cs.length = 6)
    (h : DataW.trod enc Tryz.prog w 0 (fun _ => true) false fuel 179 cs = some (.agg [.lit (.int .i64 a), .lit (.int .i64 b), .lit (.bool c), .lit (.bool d), .lit (.int .i64 e), .lit (.int .i64 f)], p)) :
    cs = [.int .i64 a, .int .i64 b, .bool c, .bool d, .int .i64 e, .int .i64 f] := by
  obtain ⟨xs, n, e1, e2, hl, hlen, hf⟩ := DataW.trod_struct Tryz.underlying179 h
  match cs, hc, xs, hlen with
  | [c0, c1, c2, c3, c4, c5], _, [y0, y1, y2, y3, y4, y5], _ =>
    have h0 : DataW.trod enc Tryz.prog w 0 (fun _ => true) false n 2 [c0] = some y0 := by simpa [cells_i64] using hf 0 _ rfl
    have h1 : DataW.trod enc Tryz.prog w 0 (fun _ => true) false n 2 [c1] = some y1 := by simpa [cells_i64] using hf 1 _ rfl
    have h2 : DataW.trod enc Tryz.prog w 0 (fun _ => true) false n 4 [c2] = some y2 := by simpa [cells_bool] using hf 2 _ rfl
    have h3 : DataW.trod enc Tryz.prog w 0 (fun _ => true) false n 4 [c3] = some y3 := by simpa [cells_bool] using hf 3 _ rfl
    have h4 : DataW.trod enc Tryz.prog w 0 (fun _ => true) false n 3 [c4] = some y4 := by simpa [cells_int] using hf 4 _ rfl
    have h5 : DataW.trod enc Tryz.prog w 0 (fun _ => true) false n 3 [c5] = some y5 := by simpa [cells_int] using hf 5 _ rfl
    obtain ⟨z0, k0, rfl, _⟩ := DataW.trod_int Tryz.underlying2 h0
    obtain ⟨z1, k1, rfl, _⟩ := DataW.trod_int Tryz.underlying2 h1
    obtain ⟨z2, k2, rfl⟩ := DataW.trod_bool Tryz.underlying4 h2
    obtain ⟨z3, k3, rfl⟩ := DataW.trod_bool Tryz.underlying4 h3
    obtain ⟨z4, k4, rfl, _⟩ := DataW.trod_int Tryz.underlying3 h4
    obtain ⟨z5, k5, rfl, _⟩ := DataW.trod_int Tryz.underlying3 h5
    simp at e2 k0 k1 k2 k3 k4 k5
    obtain ⟨⟨rfl, rfl, rfl, rfl, rfl, rfl⟩, _⟩ := e2
    simp [k0, k1, k2, k3, k4, k5]
/-- The datum of a row of the table. -/
def formD (f : Int × Int × Bool × Bool × Nat × Nat) : DataW Unit := .agg [.lit (.int .i64 f.1), .lit (.int .i64 f.2.1), .lit (.bool f.2.2.1), .lit (.bool f.2.2.2.1), .lit (.int .i64 (f.2.2.2.2.1 : Int)), .lit (.int .i64 (f.2.2.2.2.2 : Int))]
theorem data_at : ∀ k, k < 9 → (match (Rows.laid_loop_example_g01105_impl_elementForms : DataW Unit) with | .agg l => l[k]? | _ => none) = some (formD (formAt k))
  | 0, _ => rfl | 1, _ => rfl | 2, _ => rfl | 3, _ => rfl | 4, _ => rfl | 5, _ => rfl | 6, _ => rfl | 7, _ => rfl | 8, _ => rfl
theorem cellsForm : Tryz.prog.cellsOf 179 = 6 := by kernel_rfl
theorem globForm : Tryz.prog.globalNamed "loop.example/g01105/impl.elementForms" = some 0 := by kernel_rfl
theorem typeForm : (Tryz.prog.globals[0]?).map (·.type) = some 180 := by kernel_rfl
theorem tabE_of_reads {W : World} (h : Lib.VarReads Tryz.prog W "loop.example/g01105/impl.elementForms" Rows.laid_loop_example_g01105_impl_elementForms) : TabE W := by
  obtain ⟨g, t, cs, fuel, p, hg, ht, hv, hd⟩ := h
  obtain rfl := Option.some.inj (globForm.symm.trans hg)
  obtain rfl := Option.some.inj (typeForm.symm.trans ht)
  intro k hk
  have hdat := data_at k hk
  generalize (Rows.laid_loop_example_g01105_impl_elementForms : DataW Unit) = D at hd hdat
  cases D with
  | agg l =>
    obtain ⟨f', d, q, h1, h2⟩ := Lib.array_elem Tryz.underlying180 hd k hk
    rw [cellsForm] at h2
    have h3 : l[k]? = some (formD (formAt k)) := hdat
    rw [h3] at h1
    obtain rfl := Option.some.inj h1
    have hl : ((cs.toList.drop (k * 6)).take 6).length = 6 := by
      rcases Nat.lt_or_ge ((cs.toList.drop (k * 6)).take 6).length 6 with hlt | hge
      · exfalso
        have := (DataW.trod_struct Tryz.underlying179 h2)
        obtain ⟨_, _, _, _, hh, _⟩ := this
        rw [cellsForm] at hh
        omega
      · have := List.length_take_le 6 (cs.toList.drop (k * 6))
        omega
    have h4 := form_row hl h2
    have at_ : ∀ i, i < 6 → W.cell? ⟨0, k * 6 + i, none⟩ = ((cs.toList.drop (k * 6)).take 6)[i]? := by
      intro i hi
      have := World.var?_cell globForm hv (k * 6 + i)
      rw [this, List.getElem?_take, if_pos hi, List.getElem?_drop]
      simp
    have b0 := at_ 0 (by omega)
    have b1 := at_ 1 (by omega)
    have b2 := at_ 2 (by omega)
    have b3 := at_ 3 (by omega)
    have b4 := at_ 4 (by omega)
    have b5 := at_ 5 (by omega)
    rw [h4] at b0 b1 b2 b3 b4 b5
    exact ⟨b0, b1, b2, b3, b4, b5⟩
  | _ => cases hdat
theorem tabE_of_laid {W : World} {laid : List (String × DataW Unit)} (hm : ("loop.example/g01105/impl.elementForms", Rows.laid_loop_example_g01105_impl_elementForms) ∈ laid) (h : laidMet Tryz.prog laid W) : TabE W := tabE_of_reads (Lib.laidMet.reads h hm)
end Go.Proofs.YtajmbnimdngjhaaGreatDoor
