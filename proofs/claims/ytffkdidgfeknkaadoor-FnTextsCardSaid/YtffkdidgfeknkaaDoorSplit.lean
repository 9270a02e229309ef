/-
  strings.Split with a separator that is not empty, strings.CutSuffix (by the shelf). Conditions: strings of less than 2^32 - 16 bytes; internal/bytealg.MaxLen holds an int.
-/
import Derived.Test.YtffkdidgfeknkaaDoorBase
import Derived.Shelf.Strings.SplitShaped
import Derived.Shelf.Small.Wraps
import Derived.Shelf.Lay
import Derived.Ground.NamesProg
namespace Go.Proofs
open Go.Shelf
shelf_lay LaysM.n146 Nm 146 at Tryd as Tryd.lays146
shelf_lay Lays.n211 Nm 211 at Tryd as Tryd.lays211
shelf_lay Lays.n104 Nm 104 at Tryd as Tryd.lays104
end Go.Proofs
namespace Go.Proofs.YtffkdidgfeknkaaDoor
open Go.RowKit

/-- The variable that the search reads holds an int. -/
def MaxInt (w : World) : Prop := ∃ m, w.cell? ⟨2, 0, none⟩ = some (.int .i64 m)
theorem maxInt_of_shaped {w : World} (h : w.ShapedOpen Tryd.prog) : MaxInt w := Tryd.lays146.s1_3 w h

theorem split_c (s sep : ByteArray) (hs : s.size < 4294967281) (h1 : 1 ≤ sep.size) (w : World) (hm : MaxInt w) :
    Calls Tryd.prog 78 #[.string s, .string sep] w fun e w' =>
      e = .returned (.slice (some ⟨w.heap.size, 0, none⟩) (Lib.countB s sep + 1) (Lib.countB s sep + 1)) ∧ w' = w.alloc (.cells ((Lib.splitB sep 0 (Lib.countB s sep) s).map Value.string).toArray 9) := by
  obtain ⟨m, hm⟩ := hm
  exact Any.strings_Split { Tryd.lays146 with } Tryd.lays146.i9 s sep m w hs hm h1
end Go.Proofs.YtffkdidgfeknkaaDoor
