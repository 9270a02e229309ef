/-
  From a card's list of variables to the cells of the table of the kinds of nodes. No conditions.
-/
import Derived.Test.YtejgpooghengmaaDoorIsN
import Derived.LaidLaws
import Derived.LaidHandle
import Derived.Lib.LaidU8
namespace Go.Proofs.YtejgpooghengmaaDoor
set_option linter.unusedVariables false
open Go.RowKit Go.ChangeShapes Go.WideShapes Go.Deep Go.Joins

theorem cellsN_i64 : Tryd.prog.cellsOf 2 = 1 := by kernel_rfl
theorem cellsN_int : Tryd.prog.cellsOf 3 = 1 := by kernel_rfl
theorem cellsN_bool : Tryd.prog.cellsOf 4 = 1 := by kernel_rfl
theorem cellsN_str : Tryd.prog.cellsOf 9 = 1 := by kernel_rfl
set_option maxRecDepth 100000 in
theorem nform_row {H : Type} {enc : TypeId × Value → H} {w : World} {fuel : Nat} {cs : List Value} {l : List UInt8} {a b e : Int} {c : Bool} {p : List MemPlace} (hc : cs.length = 5)
    (h : DataW.trod enc Tryd.prog w 0 (fun _ => true) false fuel 127 cs = some (.agg [.lit (.string l), .lit (.int .i64 a), .lit (.bool c), .lit (.int .i64 b), .lit (.int .i64 e)], p)) :
    cs = [.string ⟨l.toArray⟩, .int .i64 a, .bool c, .int .i64 b, .int .i64 e] := by
  obtain ⟨xs, n, e1, e2, hl, hlen, hf⟩ := DataW.trod_struct Tryd.underlying127 h
  match cs, hc, xs, hlen with
  | [c0, c1, c2, c3, c4], _, [y0, y1, y2, y3, y4], _ =>
    have h0 : DataW.trod enc Tryd.prog w 0 (fun _ => true) false n 9 [c0] = some y0 := by simpa [cellsN_str] using hf 0 _ rfl
    have h1 : DataW.trod enc Tryd.prog w 0 (fun _ => true) false n 2 [c1] = some y1 := by simpa [cellsN_i64] using hf 1 _ rfl
    have h2 : DataW.trod enc Tryd.prog w 0 (fun _ => true) false n 4 [c2] = some y2 := by simpa [cellsN_bool] using hf 2 _ rfl
    have h3 : DataW.trod enc Tryd.prog w 0 (fun _ => true) false n 3 [c3] = some y3 := by simpa [cellsN_int] using hf 3 _ rfl
    have h4 : DataW.trod enc Tryd.prog w 0 (fun _ => true) false n 3 [c4] = some y4 := by simpa [cellsN_int] using hf 4 _ rfl
    obtain ⟨z0, k0, rfl, _⟩ := DataW.trod_string Tryd.underlying9 h0
    obtain ⟨z1, k1, rfl, _⟩ := DataW.trod_int Tryd.underlying2 h1
    obtain ⟨z2, k2, rfl⟩ := DataW.trod_bool Tryd.underlying4 h2
    obtain ⟨z3, k3, rfl, _⟩ := DataW.trod_int Tryd.underlying3 h3
    obtain ⟨z4, k4, rfl, _⟩ := DataW.trod_int Tryd.underlying3 h4
    simp at e2 k0 k1 k2 k3 k4
    obtain ⟨⟨e5, rfl, rfl, rfl, rfl⟩, _⟩ := e2
    have e6 : z0 = ⟨l.toArray⟩ := by
      obtain ⟨⟨z⟩⟩ := z0
      have e5 : l = z := e5
      rw [e5]
    simp [k0, k1, k2, k3, k4, e6]
/-- The datum of a row of the table. -/
def nformD (f : List UInt8 × Int × Bool × Nat × Nat) : DataW Unit := .agg [.lit (.string f.1), .lit (.int .i64 f.2.1), .lit (.bool f.2.2.1), .lit (.int .i64 (f.2.2.2.1 : Int)), .lit (.int .i64 (f.2.2.2.2 : Int))]
theorem ndata_at : ∀ k, k < 4 → (match (Rows.laid_loop_example_g01105_impl_nodeForms : DataW Unit) with | .agg l => l[k]? | _ => none) = some (nformD (nformAt k))
  | 0, _ => rfl | 1, _ => rfl | 2, _ => rfl | 3, _ => rfl
theorem ncellsForm : Tryd.prog.cellsOf 127 = 5 := by kernel_rfl
theorem nglobForm : Tryd.prog.globalNamed "loop.example/g01105/impl.nodeForms" = some 0 := by kernel_rfl
theorem ntypeForm : (Tryd.prog.globals[0]?).map (·.type) = some 128 := by kernel_rfl
theorem tabN_of_reads {W : World} (h : Lib.VarReads Tryd.prog W "loop.example/g01105/impl.nodeForms" Rows.laid_loop_example_g01105_impl_nodeForms) : TabN W := by
  obtain ⟨g, t, cs, fuel, p, hg, ht, hv, hd⟩ := h
  obtain rfl := Option.some.inj (nglobForm.symm.trans hg)
  obtain rfl := Option.some.inj (ntypeForm.symm.trans ht)
  intro k hk
  have hdat := ndata_at k hk
  generalize (Rows.laid_loop_example_g01105_impl_nodeForms : DataW Unit) = D at hd hdat
  cases D with
  | agg l =>
    obtain ⟨f', d, q, h1, h2⟩ := Lib.array_elem Tryd.underlying128 hd k hk
    rw [ncellsForm] at h2
    have h3 : l[k]? = some (nformD (nformAt k)) := hdat
    rw [h3] at h1
    obtain rfl := Option.some.inj h1
    have hl : ((cs.toList.drop (k * 5)).take 5).length = 5 := by
      rcases Nat.lt_or_ge ((cs.toList.drop (k * 5)).take 5).length 5 with hlt | hge
      · exfalso
        have := (DataW.trod_struct Tryd.underlying127 h2)
        obtain ⟨_, _, _, _, hh, _⟩ := this
        rw [ncellsForm] at hh
        omega
      · have := List.length_take_le 5 (cs.toList.drop (k * 5))
        omega
    have h4 := nform_row hl h2
    have at_ : ∀ i, i < 5 → W.cell? ⟨0, k * 5 + i, none⟩ = ((cs.toList.drop (k * 5)).take 5)[i]? := by
      intro i hi
      have := World.var?_cell nglobForm hv (k * 5 + i)
      rw [this, List.getElem?_take, if_pos hi, List.getElem?_drop]
      simp
    have b0 := at_ 0 (by omega)
    have b1 := at_ 1 (by omega)
    have b2 := at_ 2 (by omega)
    have b3 := at_ 3 (by omega)
    have b4 := at_ 4 (by omega)
    rw [h4] at b0 b1 b2 b3 b4
    exact ⟨b0, b1, b2, b3, b4⟩
  | _ => cases hdat
theorem tabN_of_laid {W : World} {laid : List (String × DataW Unit)} (hm : ("loop.example/g01105/impl.nodeForms", Rows.laid_loop_example_g01105_impl_nodeForms) ∈ laid) (h : laidMet Tryd.prog laid W) : TabN W := tabN_of_reads (Lib.laidMet.reads h hm)
end Go.Proofs.YtejgpooghengmaaDoor
