/-
  A new box of a state or a config beside a call's result: what the law holds of it. No conditions.
-/
import Derived.Test.YtdmcpabpjhinhaaGreatDoorBoxA
import Derived.Test.YtdmcpabpjhinhaaGreatDoorOwn
import Derived.Test.YtdmcpabpjhinhaaGreatDoorSz
namespace Go.Proofs.YtdmcpabpjhinhaaGreatDoor
set_option linter.unusedVariables false
open Go.RowKit

section
variable {w w1 w2 WX : World} {A1 A2 A3 : Option Addr} {n1 n2 n3 c1 c2 c3 l1 l2 l3 h1 h2 h3 g : Nat} {z1 z2 z3 : List Int}
theorem boxc_own {lo hi : Nat} {A : Option Addr} {n c : Nat} {zs : List Int} (hb : Below w.heap.size w w1) (hb2 : Below w1.heap.size w1 w2) (o : OwnL w2 lo hi A n c zs) (i : w1.heap.size ≤ lo ∧ lo ≤ hi)
    (ho : Out g (g + 1) w2 WX) (hg1 : g < w1.heap.size ∨ w2.heap.size ≤ g) : OwnL WX lo hi A n c zs ∧ (w.heap.size ≤ lo ∧ lo ≤ hi ∧ hi ≤ WX.heap.size) := by
  have h4 := o.2.2.2
  have hs := hb.size
  have hs2 := ho.size
  exact ⟨o.out ho (by omega), by omega, i.2, by omega⟩
theorem boxc_bel (hb : Below w.heap.size w w1) (hb2 : Below w1.heap.size w1 w2) (ho : Out g (g + 1) w2 WX) (hg : w.heap.size ≤ g) : Below w.heap.size w WX :=
  (bon hb hb2).trans (ho.below hg (bon hb hb2).size)
/-- Three rows and a box that is changed or new. -/
theorem boxc_tail3 (hb : Below w.heap.size w w1) (hb2 : Below w1.heap.size w1 w2) (o1 : OwnL w2 l1 h1 A1 n1 c1 z1) (i1 : w1.heap.size ≤ l1 ∧ l1 ≤ h1) (o2 : OwnL w2 l2 h2 A2 n2 c2 z2) (i2 : w1.heap.size ≤ l2 ∧ l2 ≤ h2)
    (o3 : OwnL w2 l3 h3 A3 n3 c3 z3) (i3 : w1.heap.size ≤ l3 ∧ l3 ≤ h3) (ho : Out g (g + 1) w2 WX) (hg : w.heap.size ≤ g) (hg1 : g < w1.heap.size ∨ w2.heap.size ≤ g) :
    OwnL WX l1 h1 A1 n1 c1 z1 ∧ (w.heap.size ≤ l1 ∧ l1 ≤ h1 ∧ h1 ≤ WX.heap.size) ∧ OwnL WX l2 h2 A2 n2 c2 z2 ∧ (w.heap.size ≤ l2 ∧ l2 ≤ h2 ∧ h2 ≤ WX.heap.size) ∧ OwnL WX l3 h3 A3 n3 c3 z3 ∧ (w.heap.size ≤ l3 ∧ l3 ≤ h3 ∧ h3 ≤ WX.heap.size) ∧ Below w.heap.size w WX := by
  obtain ⟨a1, a2⟩ := boxc_own hb hb2 o1 i1 ho hg1
  obtain ⟨b1, b2⟩ := boxc_own hb hb2 o2 i2 ho hg1
  obtain ⟨d1, d2⟩ := boxc_own hb hb2 o3 i3 ho hg1
  exact ⟨a1, a2, b1, b2, d1, d2, boxc_bel hb hb2 ho hg⟩
end
theorem out_new (w : World) (o : Obj) (g : Nat) : Out g (g + 1) w (w.alloc o) := Out.of_below (bnew w o)
section
variable {w w1 w2 : World} {A1 A2 A3 : Option Addr} {n1 n2 n3 c1 c2 c3 l1 l2 l3 h1 h2 h3 g : Nat} {z1 z2 z3 : List Int} {t : TypeId} {a b c d x0 x1 x2 x3 : Value}
/-- A box of four cells that is filled behind the call. -/
theorem fin_box4 (hb : Below w.heap.size w w1) (bk : BlkIs w2 g t #[x0, x1, x2, x3] ∧ g < w1.heap.size ∧ w.heap.size ≤ g) (hb2 : Below w1.heap.size w1 w2)
    (o1 : OwnL w2 l1 h1 A1 n1 c1 z1) (i1 : w1.heap.size ≤ l1 ∧ l1 ≤ h1) (o2 : OwnL w2 l2 h2 A2 n2 c2 z2) (i2 : w1.heap.size ≤ l2 ∧ l2 ≤ h2) (o3 : OwnL w2 l3 h3 A3 n3 c3 z3) (i3 : w1.heap.size ≤ l3 ∧ l3 ≤ h3) :
    ((((w2.setCell ⟨g, 0, none⟩ a).setCell ⟨g, 1, none⟩ b).setCell ⟨g, 2, none⟩ c).setCell ⟨g, 3, none⟩ d).cell? ⟨g, 0, none⟩ = some a ∧ ((((w2.setCell ⟨g, 0, none⟩ a).setCell ⟨g, 1, none⟩ b).setCell ⟨g, 2, none⟩ c).setCell ⟨g, 3, none⟩ d).cell? ⟨g, 1, none⟩ = some b ∧
    ((((w2.setCell ⟨g, 0, none⟩ a).setCell ⟨g, 1, none⟩ b).setCell ⟨g, 2, none⟩ c).setCell ⟨g, 3, none⟩ d).cell? ⟨g, 2, none⟩ = some c ∧ ((((w2.setCell ⟨g, 0, none⟩ a).setCell ⟨g, 1, none⟩ b).setCell ⟨g, 2, none⟩ c).setCell ⟨g, 3, none⟩ d).cell? ⟨g, 3, none⟩ = some d ∧
    g < ((((w2.setCell ⟨g, 0, none⟩ a).setCell ⟨g, 1, none⟩ b).setCell ⟨g, 2, none⟩ c).setCell ⟨g, 3, none⟩ d).heap.size ∧ w.heap.size ≤ g ∧
    OwnL ((((w2.setCell ⟨g, 0, none⟩ a).setCell ⟨g, 1, none⟩ b).setCell ⟨g, 2, none⟩ c).setCell ⟨g, 3, none⟩ d) l1 h1 A1 n1 c1 z1 ∧ (w.heap.size ≤ l1 ∧ l1 ≤ h1 ∧ h1 ≤ ((((w2.setCell ⟨g, 0, none⟩ a).setCell ⟨g, 1, none⟩ b).setCell ⟨g, 2, none⟩ c).setCell ⟨g, 3, none⟩ d).heap.size) ∧
    OwnL ((((w2.setCell ⟨g, 0, none⟩ a).setCell ⟨g, 1, none⟩ b).setCell ⟨g, 2, none⟩ c).setCell ⟨g, 3, none⟩ d) l2 h2 A2 n2 c2 z2 ∧ (w.heap.size ≤ l2 ∧ l2 ≤ h2 ∧ h2 ≤ ((((w2.setCell ⟨g, 0, none⟩ a).setCell ⟨g, 1, none⟩ b).setCell ⟨g, 2, none⟩ c).setCell ⟨g, 3, none⟩ d).heap.size) ∧
    OwnL ((((w2.setCell ⟨g, 0, none⟩ a).setCell ⟨g, 1, none⟩ b).setCell ⟨g, 2, none⟩ c).setCell ⟨g, 3, none⟩ d) l3 h3 A3 n3 c3 z3 ∧ (w.heap.size ≤ l3 ∧ l3 ≤ h3 ∧ h3 ≤ ((((w2.setCell ⟨g, 0, none⟩ a).setCell ⟨g, 1, none⟩ b).setCell ⟨g, 2, none⟩ c).setCell ⟨g, 3, none⟩ d).heap.size) ∧
    Below w.heap.size w ((((w2.setCell ⟨g, 0, none⟩ a).setCell ⟨g, 1, none⟩ b).setCell ⟨g, 2, none⟩ c).setCell ⟨g, 3, none⟩ d) := by
  have hB := ((((bk.1.set 0 a).set 1 b).set 2 c).set 3 d)
  have h0 := hB.cell 0
  have h1 := hB.cell 1
  have h2 := hB.cell 2
  have h3 := hB.cell 3
  simp at h0 h1 h2 h3
  have ho : Out g (g + 1) w2 ((((w2.setCell ⟨g, 0, none⟩ a).setCell ⟨g, 1, none⟩ b).setCell ⟨g, 2, none⟩ c).setCell ⟨g, 3, none⟩ d) := out_set (out_set (out_set (out_set (Out.refl _ _ _) (by omega)) (by omega)) (by omega)) (by omega)
  exact ⟨h0, h1, h2, h3, hB.lt, bk.2.2, boxc_tail3 hb hb2 o1 i1 o2 i2 o3 i3 ho bk.2.2 (.inl bk.2.1)⟩
theorem fin_new4 (hb : Below w.heap.size w w1) (hb2 : Below w1.heap.size w1 w2)
    (o1 : OwnL w2 l1 h1 A1 n1 c1 z1) (i1 : w1.heap.size ≤ l1 ∧ l1 ≤ h1) (o2 : OwnL w2 l2 h2 A2 n2 c2 z2) (i2 : w1.heap.size ≤ l2 ∧ l2 ≤ h2) (o3 : OwnL w2 l3 h3 A3 n3 c3 z3) (i3 : w1.heap.size ≤ l3 ∧ l3 ≤ h3) :
    (w2.alloc (.cells #[a, b, c, d] t)).cell? ⟨w2.heap.size, 0, none⟩ = some a ∧ (w2.alloc (.cells #[a, b, c, d] t)).cell? ⟨w2.heap.size, 1, none⟩ = some b ∧ (w2.alloc (.cells #[a, b, c, d] t)).cell? ⟨w2.heap.size, 2, none⟩ = some c ∧ (w2.alloc (.cells #[a, b, c, d] t)).cell? ⟨w2.heap.size, 3, none⟩ = some d ∧
    w2.heap.size < (w2.alloc (.cells #[a, b, c, d] t)).heap.size ∧ w.heap.size ≤ w2.heap.size ∧
    OwnL (w2.alloc (.cells #[a, b, c, d] t)) l1 h1 A1 n1 c1 z1 ∧ (w.heap.size ≤ l1 ∧ l1 ≤ h1 ∧ h1 ≤ (w2.alloc (.cells #[a, b, c, d] t)).heap.size) ∧
    OwnL (w2.alloc (.cells #[a, b, c, d] t)) l2 h2 A2 n2 c2 z2 ∧ (w.heap.size ≤ l2 ∧ l2 ≤ h2 ∧ h2 ≤ (w2.alloc (.cells #[a, b, c, d] t)).heap.size) ∧
    OwnL (w2.alloc (.cells #[a, b, c, d] t)) l3 h3 A3 n3 c3 z3 ∧ (w.heap.size ≤ l3 ∧ l3 ≤ h3 ∧ h3 ≤ (w2.alloc (.cells #[a, b, c, d] t)).heap.size) ∧
    Below w.heap.size w (w2.alloc (.cells #[a, b, c, d] t)) := by
  have hB := blk_new w2 t #[a, b, c, d] _ rfl
  exact ⟨hB.cell 0, hB.cell 1, hB.cell 2, hB.cell 3, hB.lt, (bon hb hb2).size, boxc_tail3 hb hb2 o1 i1 o2 i2 o3 i3 (out_new w2 _ w2.heap.size) (bon hb hb2).size (.inr (Nat.le_refl _))⟩
/-- A box of two cells that is filled behind the call, and three rows. -/
theorem fin_box2 (hb : Below w.heap.size w w1) (bk : BlkIs w2 g t #[x0, x1] ∧ g < w1.heap.size ∧ w.heap.size ≤ g) (hb2 : Below w1.heap.size w1 w2)
    (o1 : OwnL w2 l1 h1 A1 n1 c1 z1) (i1 : w1.heap.size ≤ l1 ∧ l1 ≤ h1) (o2 : OwnL w2 l2 h2 A2 n2 c2 z2) (i2 : w1.heap.size ≤ l2 ∧ l2 ≤ h2) (o3 : OwnL w2 l3 h3 A3 n3 c3 z3) (i3 : w1.heap.size ≤ l3 ∧ l3 ≤ h3) :
    ((w2.setCell ⟨g, 0, none⟩ a).setCell ⟨g, 1, none⟩ b).cell? ⟨g, 0, none⟩ = some a ∧ ((w2.setCell ⟨g, 0, none⟩ a).setCell ⟨g, 1, none⟩ b).cell? ⟨g, 1, none⟩ = some b ∧
    g < ((w2.setCell ⟨g, 0, none⟩ a).setCell ⟨g, 1, none⟩ b).heap.size ∧ w.heap.size ≤ g ∧
    OwnL ((w2.setCell ⟨g, 0, none⟩ a).setCell ⟨g, 1, none⟩ b) l1 h1 A1 n1 c1 z1 ∧ (w.heap.size ≤ l1 ∧ l1 ≤ h1 ∧ h1 ≤ ((w2.setCell ⟨g, 0, none⟩ a).setCell ⟨g, 1, none⟩ b).heap.size) ∧
    OwnL ((w2.setCell ⟨g, 0, none⟩ a).setCell ⟨g, 1, none⟩ b) l2 h2 A2 n2 c2 z2 ∧ (w.heap.size ≤ l2 ∧ l2 ≤ h2 ∧ h2 ≤ ((w2.setCell ⟨g, 0, none⟩ a).setCell ⟨g, 1, none⟩ b).heap.size) ∧
    OwnL ((w2.setCell ⟨g, 0, none⟩ a).setCell ⟨g, 1, none⟩ b) l3 h3 A3 n3 c3 z3 ∧ (w.heap.size ≤ l3 ∧ l3 ≤ h3 ∧ h3 ≤ ((w2.setCell ⟨g, 0, none⟩ a).setCell ⟨g, 1, none⟩ b).heap.size) ∧
    Below w.heap.size w ((w2.setCell ⟨g, 0, none⟩ a).setCell ⟨g, 1, none⟩ b) := by
  have hB := (bk.1.set 0 a).set 1 b
  have h0 := hB.cell 0
  have h1 := hB.cell 1
  simp at h0 h1
  have ho : Out g (g + 1) w2 ((w2.setCell ⟨g, 0, none⟩ a).setCell ⟨g, 1, none⟩ b) := out_set (out_set (Out.refl _ _ _) (by omega)) (by omega)
  exact ⟨h0, h1, hB.lt, bk.2.2, boxc_tail3 hb hb2 o1 i1 o2 i2 o3 i3 ho bk.2.2 (.inl bk.2.1)⟩
theorem fin_new2 (hb : Below w.heap.size w w1) (hb2 : Below w1.heap.size w1 w2)
    (o1 : OwnL w2 l1 h1 A1 n1 c1 z1) (i1 : w1.heap.size ≤ l1 ∧ l1 ≤ h1) (o2 : OwnL w2 l2 h2 A2 n2 c2 z2) (i2 : w1.heap.size ≤ l2 ∧ l2 ≤ h2) (o3 : OwnL w2 l3 h3 A3 n3 c3 z3) (i3 : w1.heap.size ≤ l3 ∧ l3 ≤ h3) :
    (w2.alloc (.cells #[a, b] t)).cell? ⟨w2.heap.size, 0, none⟩ = some a ∧ (w2.alloc (.cells #[a, b] t)).cell? ⟨w2.heap.size, 1, none⟩ = some b ∧
    w2.heap.size < (w2.alloc (.cells #[a, b] t)).heap.size ∧ w.heap.size ≤ w2.heap.size ∧
    OwnL (w2.alloc (.cells #[a, b] t)) l1 h1 A1 n1 c1 z1 ∧ (w.heap.size ≤ l1 ∧ l1 ≤ h1 ∧ h1 ≤ (w2.alloc (.cells #[a, b] t)).heap.size) ∧
    OwnL (w2.alloc (.cells #[a, b] t)) l2 h2 A2 n2 c2 z2 ∧ (w.heap.size ≤ l2 ∧ l2 ≤ h2 ∧ h2 ≤ (w2.alloc (.cells #[a, b] t)).heap.size) ∧
    OwnL (w2.alloc (.cells #[a, b] t)) l3 h3 A3 n3 c3 z3 ∧ (w.heap.size ≤ l3 ∧ l3 ≤ h3 ∧ h3 ≤ (w2.alloc (.cells #[a, b] t)).heap.size) ∧
    Below w.heap.size w (w2.alloc (.cells #[a, b] t)) := by
  have hB := blk_new w2 t #[a, b] _ rfl
  exact ⟨hB.cell 0, hB.cell 1, hB.lt, (bon hb hb2).size, boxc_tail3 hb hb2 o1 i1 o2 i2 o3 i3 (out_new w2 _ w2.heap.size) (bon hb hb2).size (.inr (Nat.le_refl _))⟩
end
end Go.Proofs.YtdmcpabpjhinhaaGreatDoor
