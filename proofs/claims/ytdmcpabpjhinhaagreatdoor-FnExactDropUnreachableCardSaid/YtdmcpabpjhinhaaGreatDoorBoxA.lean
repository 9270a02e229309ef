/-
  A new box beside a call: what the law holds of it while the region runs. No conditions.
-/
import Derived.Test.YtdmcpabpjhinhaaGreatDoorBlk
namespace Go.Proofs.YtdmcpabpjhinhaaGreatDoor
open Go.RowKit

theorem blk_call {D y v : World} {cs : Array Value} {t : TypeId} (hb : Below (y.alloc (.cells cs t)).heap.size (y.alloc (.cells cs t)) v) (h : Below D.heap.size D y) :
    BlkIs v y.heap.size t cs ∧ y.heap.size < (y.alloc (.cells cs t)).heap.size ∧ D.heap.size ≤ y.heap.size :=
  ⟨(blk_new y t cs _ rfl).next hb, by simp, h.size⟩
theorem blk_step {D x x0 v : World} {g : Nat} {cs : Array Value} {t : TypeId} (h : BlkIs x g t cs ∧ g < x0.heap.size ∧ D.heap.size ≤ g) (hb : Below x.heap.size x v) :
    BlkIs v g t cs ∧ g < x.heap.size ∧ D.heap.size ≤ g :=
  ⟨h.1.next hb, h.1.lt, h.2.2⟩
theorem below_set {D x : World} {g i : Nat} {v : Value} (hb : Below D.heap.size D x) (h : D.heap.size ≤ g) : Below D.heap.size D (x.setCell ⟨g, i, none⟩ v) := hb.setCell (p := ⟨g, i, none⟩) h v
theorem bel_ad (w : World) (o : Obj) : Below w.drew.heap.size w.drew (w.alloc o).drew := ⟨rfl, rfl, rfl, (bnew w o).size, (bnew w o).block⟩
theorem blk_call_d {y v : World} {cs : Array Value} {t : TypeId} (hb : Below (y.alloc (.cells cs t)).drew.heap.size (y.alloc (.cells cs t)).drew v) :
    BlkIs v y.heap.size t cs ∧ y.heap.size < (y.alloc (.cells cs t)).drew.heap.size ∧ y.drew.heap.size ≤ y.heap.size :=
  ⟨(blk_new y t cs _ rfl).next (bstep hb), by show _ < (y.alloc (.cells cs t)).heap.size; simp, Nat.le_refl _⟩
end Go.Proofs.YtdmcpabpjhinhaaGreatDoor
