/-
  Rows of the call's own between two blocks; what turns only there. No conditions.
-/
import Derived.Test.YtajmbnimdngjhaaGreatDoorTm
namespace Go.Proofs.YtajmbnimdngjhaaGreatDoor
open Go.RowKit

/-- Nothing turns outside of the blocks lo to hi - 1, but for new blocks. -/
structure Out (lo hi : Nat) (w w' : World) : Prop where
  os : w'.os = w.os
  tape : w'.tape = w.tape
  output : w'.output = w.output
  size : w.heap.size ≤ w'.heap.size
  block : ∀ k, k < w.heap.size → ¬ (lo ≤ k ∧ k < hi) → w'.heap[k]? = w.heap[k]?

section
variable {w w' w'' : World} {lo hi B b o : Nat} {v : Value} {A : Option Addr}
theorem Out.below (h : Out lo hi w w') (hB : B ≤ lo) (hs : B ≤ w.heap.size) : Below B w w' :=
  ⟨h.os, h.tape, h.output, h.size, fun k hk => h.block k (by omega) (by omega)⟩
theorem Out.of_grown {r : Option Nat} (h : w.grownBy w' r) (hr : ∀ k, r = some k → lo ≤ k ∧ k < hi) : Out lo hi w w' :=
  ⟨h.os, h.tape, h.output, h.size, fun k hk hn => h.block k hk (fun e => hn (hr k e.symm))⟩
theorem Out.of_below (h : Below w.heap.size w w') : Out lo hi w w' := ⟨h.os, h.tape, h.output, h.size, fun k hk _ => h.block k hk⟩
theorem Out.trans (h : Out lo hi w w') (k : Out lo hi w' w'') : Out lo hi w w'' :=
  ⟨k.os.trans h.os, k.tape.trans h.tape, k.output.trans h.output, Nat.le_trans h.size k.size, fun i hi' hn => (k.block i (Nat.lt_of_lt_of_le hi' h.size) hn).trans (h.block i hi' hn)⟩
theorem Out.wide {lo' hi' : Nat} (h : Out lo hi w w') (h1 : lo' ≤ lo) (h2 : hi ≤ hi') : Out lo' hi' w w' := ⟨h.os, h.tape, h.output, h.size, fun k hk hn => h.block k hk (by omega)⟩
theorem Out.refl (lo hi : Nat) (w : World) : Out lo hi w w := ⟨rfl, rfl, rfl, Nat.le_refl _, fun _ _ _ => rfl⟩
theorem Out.cell (h : Out lo hi w w') (hc : w.cell? ⟨b, o, none⟩ = some v) (hn : ¬ (lo ≤ b ∧ b < hi)) : w'.cell? ⟨b, o, none⟩ = some v :=
  (World.cell?_of_block (h.block b (cell_lt hc) hn)).trans hc

/-- A list of numbers that a slice leads to, below block B. -/
def InL (w : World) (B : Nat) (A : Option Addr) (n : Nat) (zs : List Int) : Prop := zs.length = n ∧ Row w B A (zs.map ic)
/-- .. in a row of the call's own, between two blocks. -/
def OwnL (w : World) (lo hi : Nat) (A : Option Addr) (n c : Nat) (zs : List Int) : Prop :=
  zs.length = n ∧ w.ownsRow lo 2 1 (.slice A n c) n (zs.map ic) ∧ (∀ k, (Value.slice A n c).ownBlock = some k → k < hi) ∧ hi ≤ w.heap.size
section
variable {n c : Nat} {zs : List Int}
theorem InL.next (h : InL w B A n zs) {B' : Nat} (hb : Below B' w w') (hB : B ≤ B') : InL w' B A n zs := ⟨h.1, h.2.below hb hB⟩
theorem InL.more (h : InL w B A n zs) {B' : Nat} (hB : B ≤ B') : InL w B' A n zs := ⟨h.1, h.2.more hB⟩
theorem InL.drew (h : InL w B A n zs) : InL w.drew B A n zs := h
theorem InL.out (h : InL w B A n zs) (ho : Out lo hi w w') (hB : B ≤ lo) (hs : B ≤ w.heap.size) : InL w' B A n zs := h.next (ho.below hB hs) (Nat.le_refl _)
theorem OwnL.next (h : OwnL w lo hi A n c zs) (hb : Below w.heap.size w w') : OwnL w' lo hi A n c zs :=
  ⟨h.1, own_below h.2.1 hb, h.2.2.1, Nat.le_trans h.2.2.2 hb.size⟩
theorem OwnL.drew (h : OwnL w lo hi A n c zs) : OwnL w.drew lo hi A n c zs := h
theorem OwnL.out {lo' hi' : Nat} (h : OwnL w lo hi A n c zs) (ho : Out lo' hi' w w') (hd : hi' ≤ lo ∨ hi ≤ lo') : OwnL w' lo hi A n c zs := by
  refine ⟨h.1, ⟨h.2.1.1, ?_⟩, h.2.2.1, Nat.le_trans h.2.2.2 ho.size⟩
  rcases h.2.1.2 with h' | ⟨g, cap, cur, h1, h2, h3, h4⟩
  · exact .inl h'
  · refine .inr ⟨g, cap, cur, h1, h2, ?_, h4⟩
    have hg : g < hi := h.2.2.1 g (by rw [h1]; rfl)
    have hs := h.2.2.2
    rw [ho.block g (by omega) (by omega)]
    exact h3
theorem OwnL.inn (h : OwnL w lo hi A n c zs) : InL w hi A n zs := by
  refine ⟨h.1, fun j hj => ?_⟩
  rcases h.2.1.2 with ⟨h1, h2⟩ | ⟨g, cap, cur, h1, h2, h3, h4⟩
  · have : zs = [] := List.eq_nil_of_length_eq_zero (by rw [h.1, h2])
    subst this
    simp at hj
  · have hA : A = some ⟨g, 0, none⟩ := by injection h1
    subst hA
    refine ⟨g, 0, rfl, h.2.2.1 g rfl, ?_⟩
    rw [Nat.zero_add]
    exact h.2.1.cellAt j (by have := h.2.1.1; omega)
theorem OwnL.of_own (h : w.ownsRow lo 2 1 (.slice A n c) n (zs.map ic)) : OwnL w lo w.heap.size A n c zs :=
  ⟨by have := h.1; simpa using this, h, fun k hk => (h.lt k hk).2, Nat.le_refl _⟩
theorem OwnL.less (h : OwnL w lo hi A n c zs) {lo' : Nat} (hl : lo' ≤ lo) : OwnL w lo' hi A n c zs := ⟨h.1, own_less h.2.1 hl, h.2.2⟩
theorem OwnL.wide (h : OwnL w lo hi A n c zs) {hi' : Nat} (hl : hi ≤ hi') (hs : hi' ≤ w.heap.size) : OwnL w lo hi' A n c zs := ⟨h.1, h.2.1, fun k hk => Nat.lt_of_lt_of_le (h.2.2.1 k hk) hl, hs⟩
theorem OwnL.all (h : OwnL w lo hi A n c zs) : InL w w.heap.size A n zs := h.inn.more h.2.2.2
theorem OwnL.len (h : OwnL w lo hi A n c zs) : zs.length = n := h.1
end
end
theorem bstep {w w1 : World} (h : Below w.drew.heap.size w.drew w1) : Below w.heap.size w w1 := (Below.refl w.heap.size w).drew.trans h
theorem bon {w0 w w1 : World} (h : Below w0.heap.size w0 w) (h1 : Below w.heap.size w w1) : Below w0.heap.size w0 w1 := h.trans (h1.mono h.size)
theorem InL.call {w w1 : World} {B : Nat} {A : Option Addr} {n : Nat} {zs : List Int} (h : InL w B A n zs) (hB : B ≤ w.heap.size) (hb : Below w.drew.heap.size w.drew w1) : InL w1 B A n zs := h.next (bstep hb) hB
theorem le_call {w w1 : World} {B : Nat} (hB : B ≤ w.heap.size) (hb : Below w.drew.heap.size w.drew w1) : B ≤ w1.heap.size := Nat.le_trans hB (bstep hb).size
/-- A new block. -/
theorem bnew (w : World) (o : Obj) : Below w.heap.size w (w.alloc o) := (Below.refl _ _).alloc (Nat.le_refl _) o
end Go.Proofs.YtajmbnimdngjhaaGreatDoor
