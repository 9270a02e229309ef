/-
  A block known whole; what turns only between two blocks. No conditions.
-/
import Derived.Test.YtajmbnimdngjhaaGreatDoorTermsC
namespace Go.Proofs.YtajmbnimdngjhaaGreatDoor
open Go.RowKit

/-- A block known whole. -/
def BlkIs (w : World) (g : Nat) (t : TypeId) (cs : Array Value) : Prop := w.heap[g]? = some (.cells cs t (0, 0))
theorem BlkIs.cell {w : World} {g : Nat} {t : TypeId} {cs : Array Value} (h : BlkIs w g t cs) (i : Nat) : w.cell? ⟨g, i, none⟩ = cs[i]? := cell_of_row w g i cs t (0, 0) h
theorem BlkIs.frozen {w : World} {g : Nat} {t : TypeId} {cs : Array Value} (h : BlkIs w g t cs) (i : Nat) : w.frozen? ⟨g, i, none⟩ = false := by
  unfold BlkIs at h
  simp [World.frozen?, h]
theorem BlkIs.lt {w : World} {g : Nat} {t : TypeId} {cs : Array Value} (h : BlkIs w g t cs) : g < w.heap.size := by
  rcases Nat.lt_or_ge g w.heap.size with hlt | hge
  · exact hlt
  · unfold BlkIs at h; rw [Array.getElem?_eq_none hge] at h; cases h
theorem BlkIs.next {w w' : World} {g : Nat} {t : TypeId} {cs : Array Value} (h : BlkIs w g t cs) (hb : Below w.heap.size w w') : BlkIs w' g t cs := (hb.block g h.lt).trans h
theorem BlkIs.set {w : World} {g : Nat} {t : TypeId} {cs : Array Value} (h : BlkIs w g t cs) (i : Nat) (u : Value) : BlkIs (w.setCell ⟨g, i, none⟩ u) g t (cs.setIfInBounds i u) := by
  unfold BlkIs at h ⊢
  simp [World.setCell, Array.getElem?_modify, h]
theorem BlkIs.far {w : World} {g g' : Nat} {t : TypeId} {cs : Array Value} (h : BlkIs w g t cs) (hne : g ≠ g') (i : Nat) (u : Value) : BlkIs (w.setCell ⟨g', i, none⟩ u) g t cs := (Below.heap_setCell w ⟨g', i, none⟩ u g hne).trans h
theorem blk_new (w : World) (t : TypeId) (cs : Array Value) (g : Nat) (hg : g = w.heap.size) : BlkIs (w.alloc (.cells cs t)) g t cs := by subst hg; exact heap_alloc_new w _

theorem out_set {lo hi g i : Nat} {w w' : World} {u : Value} (h : Out lo hi w w') (hg : lo ≤ g ∧ g < hi) : Out lo hi w (w'.setCell ⟨g, i, none⟩ u) := h.trans (Out.of_grown (only_set (g := g)) (fun j hj => by injection hj with hj; omega))
end Go.Proofs.YtajmbnimdngjhaaGreatDoor
