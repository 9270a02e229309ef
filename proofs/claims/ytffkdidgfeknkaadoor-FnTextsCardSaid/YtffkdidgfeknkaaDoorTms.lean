/-
  What a list of terms, and a sequent, that came in read as. No conditions.
-/
import Derived.Test.YtffkdidgfeknkaaDoorTm
namespace Go.Proofs.YtffkdidgfeknkaaDoor
open Go.RowKit Go.ChangeShapes Go.WideShapes Go.Deep Go.Joins

section
variable {H : Type} {enc : TypeId × Value → H} {w : World} {held : Bool}
theorem cells12 {t : TypeId} {f0 f1 : Field} {fuel : Nat} {c0 c1 c2 : Value} {x : DataW H × List MemPlace} (hs : Tryd.prog.underlying t = some (.struct #[f0, f1])) (o0 : f0.offset = 0) (k0 : Tryd.prog.cellsOf f0.type = 1) (o1 : f1.offset = 1) (k1 : Tryd.prog.cellsOf f1.type = 2)
    (h : DataW.trod enc Tryd.prog w 0 (fun _ => true) held fuel t [c0, c1, c2] = some x) :
    ∃ y0 y1 m, DataW.trod enc Tryd.prog w 0 (fun _ => true) held m f0.type [c0] = some y0 ∧ DataW.trod enc Tryd.prog w 0 (fun _ => true) held m f1.type [c1, c2] = some y1 := by
  obtain ⟨y0, y1, n, _, _, h0, h1⟩ := trod_struct2 hs h
  exact ⟨y0, y1, n, by simpa [o0, k0] using h0, by simpa [o1, k1] using h1⟩
end
end Go.Proofs.YtffkdidgfeknkaaDoor
