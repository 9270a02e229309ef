/-
  A new box beside a call's result: what the law holds of it. No conditions.
-/
import Derived.Test.YtapndnkcmmpdjaaSeqK
import Derived.Test.YtapndnkcmmpdjaaMakeS
namespace Go.Proofs.Ytapndnkcmmpdjaa
open Go.RowKit

theorem blk_call {D y v : World} {cs : Array Value} {t : TypeId} (hb : Below (y.alloc (.cells cs t)).heap.size (y.alloc (.cells cs t)) v) (h : Below D.heap.size D y) :
    BlkIs v y.heap.size t cs ∧ y.heap.size < (y.alloc (.cells cs t)).heap.size ∧ D.heap.size ≤ y.heap.size :=
  ⟨(blk_new y t cs _ rfl).next hb, by simp, h.size⟩
theorem blk_step {D x x0 v : World} {g : Nat} {cs : Array Value} {t : TypeId} (h : BlkIs x g t cs ∧ g < x0.heap.size ∧ D.heap.size ≤ g) (hb : Below x.heap.size x v) :
    BlkIs v g t cs ∧ g < x.heap.size ∧ D.heap.size ≤ g :=
  ⟨h.1.next hb, h.1.lt, h.2.2⟩
theorem below_set {D x : World} {g i : Nat} {v : Value} (hb : Below D.heap.size D x) (h : D.heap.size ≤ g) : Below D.heap.size D (x.setCell ⟨g, i, none⟩ v) := hb.setCell (p := ⟨g, i, none⟩) h v
theorem bel_ad (w : World) (o : Obj) : Below w.drew.heap.size w.drew (w.alloc o).drew := ⟨rfl, rfl, rfl, (bnew w o).size, (bnew w o).block⟩
theorem blk_call_d {y v : World} {cs : Array Value} {t : TypeId} (hb : Below (y.alloc (.cells cs t)).drew.heap.size (y.alloc (.cells cs t)).drew v) :
    BlkIs v y.heap.size t cs ∧ y.heap.size < (y.alloc (.cells cs t)).drew.heap.size ∧ y.drew.heap.size ≤ y.heap.size :=
  ⟨(blk_new y t cs _ rfl).next (bstep hb), by show _ < (y.alloc (.cells cs t)).heap.size; simp, Nat.le_refl _⟩
theorem fin_box {w w1 w2 : World} {g : Nat} {t : TypeId} {a b x y : Value} {A : Option Addr} {k c : Nat} {zs : List Int} (hb : Below w.heap.size w w1) (bk : BlkIs w2 g t #[x, y] ∧ g < w1.heap.size ∧ w.heap.size ≤ g)
    (hown : OwnL w2 w1.heap.size w2.heap.size A k c zs) (hb2 : Below w1.heap.size w1 w2) :
    ((w2.setCell ⟨g, 0, none⟩ a).setCell ⟨g, 1, none⟩ b).cell? ⟨g, 0, none⟩ = some a ∧ ((w2.setCell ⟨g, 0, none⟩ a).setCell ⟨g, 1, none⟩ b).cell? ⟨g, 1, none⟩ = some b ∧ g < ((w2.setCell ⟨g, 0, none⟩ a).setCell ⟨g, 1, none⟩ b).heap.size ∧ w.heap.size ≤ g ∧
      OwnL ((w2.setCell ⟨g, 0, none⟩ a).setCell ⟨g, 1, none⟩ b) w.heap.size ((w2.setCell ⟨g, 0, none⟩ a).setCell ⟨g, 1, none⟩ b).heap.size A k c zs ∧ (w.heap.size ≤ w.heap.size ∧ w.heap.size ≤ ((w2.setCell ⟨g, 0, none⟩ a).setCell ⟨g, 1, none⟩ b).heap.size ∧ ((w2.setCell ⟨g, 0, none⟩ a).setCell ⟨g, 1, none⟩ b).heap.size ≤ ((w2.setCell ⟨g, 0, none⟩ a).setCell ⟨g, 1, none⟩ b).heap.size) ∧
      Below w.heap.size w ((w2.setCell ⟨g, 0, none⟩ a).setCell ⟨g, 1, none⟩ b) := by
  have hB := ((bk.1.set 0 a).set 1 b)
  have h0 := hB.cell 0
  have h1 := hB.cell 1
  simp at h0 h1
  have hge := give_end (x := a) (y := b) hb bk.2.2 bk.2.1 hown hb2
  exact ⟨h0, h1, hB.lt, bk.2.2, hge.1, ⟨Nat.le_refl _, hge.2.size, Nat.le_refl _⟩, hge.2⟩
theorem fin_new {w w1 w2 : World} {t : TypeId} {a b : Value} {A : Option Addr} {k c : Nat} {zs : List Int} (hb : Below w.heap.size w w1)
    (hown : OwnL w2 w1.heap.size w2.heap.size A k c zs) (hb2 : Below w1.heap.size w1 w2) :
    (w2.alloc (.cells #[a, b] t)).cell? ⟨w2.heap.size, 0, none⟩ = some a ∧ (w2.alloc (.cells #[a, b] t)).cell? ⟨w2.heap.size, 1, none⟩ = some b ∧ w2.heap.size < (w2.alloc (.cells #[a, b] t)).heap.size ∧ w.heap.size ≤ w2.heap.size ∧
      OwnL (w2.alloc (.cells #[a, b] t)) w1.heap.size w2.heap.size A k c zs ∧ (w.heap.size ≤ w1.heap.size ∧ w1.heap.size ≤ w2.heap.size ∧ w2.heap.size ≤ (w2.alloc (.cells #[a, b] t)).heap.size) ∧
      Below w.heap.size w (w2.alloc (.cells #[a, b] t)) :=
  ⟨(blk_new w2 t #[a, b] _ rfl).cell 0, (blk_new w2 t #[a, b] _ rfl).cell 1, by simp, Nat.le_trans hb.size hb2.size, hown.next (bnew _ _), ⟨hb.size, hb2.size, (bnew _ _).size⟩, bon (bon hb hb2) (bnew _ _)⟩
end Go.Proofs.Ytapndnkcmmpdjaa
