/-
  The program's run on its way in memory; a body's tree as the program's value. No conditions.
-/
import Derived.Test.YtajmbnimdngjhaaGreatDoorTree
import Derived.Test.YtajmbnimdngjhaaGreatDoorSep
import Derived.Test.YtajmbnimdngjhaaGreatDoorElem
namespace Go.Proofs.YtajmbnimdngjhaaGreatDoor
set_option linter.unusedVariables false
open Go.RowKit

theorem OwnL.setE {w : World} {lo hi n c i b : Nat} {zs : List Int} (h : OwnL w lo hi (some ⟨b, 0, none⟩) n c zs) (hi' : i < n) (v : Int) : OwnL (w.setCell ⟨b, i, none⟩ (.int .i64 v)) lo hi (some ⟨b, 0, none⟩) n c (zs.set i v) := by
  have := (h.2.1.stored i (.int .i64 v)).1
  refine ⟨by rw [List.length_set]; exact h.1, ?_, h.2.2.1, Nat.le_trans h.2.2.2 (by simp)⟩
  rw [show (zs.set i v).map ic = (zs.map ic).set i (.int .i64 v) from by rw [List.map_set]; rfl]
  exact this
theorem OwnL.cellE {w : World} {lo hi n c b : Nat} {l : List Int} (h : OwnL w lo hi (some ⟨b, 0, none⟩) n c l) {i : Nat} (hi' : i < n) : w.cell? ⟨b, i, none⟩ = some (.int .i64 (l.getD i 0)) := by
  have hl := h.1
  have := h.2.1.cellAt i (by omega)
  rw [this, List.getElem?_map, List.getD_eq_getElem?_getD, List.getElem?_eq_getElem (by omega)]
  rfl
theorem OwnL.frozenE {w : World} {lo hi n c b : Nat} {l : List Int} (h : OwnL w lo hi (some ⟨b, 0, none⟩) n c l) (i : Nat) : w.frozen? ⟨b, i, none⟩ = false := h.2.1.frozenAt i
theorem one_at (w : World) (x : Value) (t : TypeId) (g : Nat) (hg : g = w.heap.size) : ∀ j u, [x][j]? = some u → (w.alloc (.cells #[x] t)).cell? ((⟨g, 0, none⟩ : Addr).add j) = some u := by
  subst hg
  intro j u h
  cases j with
  | zero => simp at h; subst h; simp [Addr.add]
  | succ j => simp at h

/-- What the program's run holds in memory: its block and three rows, all apart. -/
structure ExM (w : World) (base gx gv cv gc cc : Nat) (E : Option Addr) (ce fuel : Nat) (s : RS) : Prop where
  blk : BlkIs w gx 74 #[.slice (some ⟨gv, 0, none⟩) 4 cv, .slice (some ⟨gc, 0, none⟩) 8 cc, .slice E s.e.length ce, .int .i64 (s.n : Int), .int .i64 (fuel : Int)]
  v : OwnL w gv (gv + 1) (some ⟨gv, 0, none⟩) 4 cv s.v
  c : OwnL w gc (gc + 1) (some ⟨gc, 0, none⟩) 8 cc s.c
  e : w.ownsRow base 2 1 (.slice E s.e.length ce) s.e.length (s.e.map ic)
  ea : ∀ b, E = some ⟨b, 0, none⟩ → b ≠ gx ∧ gv < b ∧ gc < b
  bx : base ≤ gx
  bv : base ≤ gv
  bc : base ≤ gc
  d1 : gx ≠ gv
  d2 : gx ≠ gc
  d3 : gv ≠ gc
section
variable {w w' : World} {base gx gv cv gc cc : Nat} {E : Option Addr} {ce fuel : Nat} {s : RS}
theorem ownE_out {n : Nat} {l : List Value} {lo hi : Nat} (h : w.ownsRow base 2 1 (.slice E n ce) n l) (ho : Out lo hi w w') (hd : ∀ b, E = some ⟨b, 0, none⟩ → ¬ (lo ≤ b ∧ b < hi)) : w'.ownsRow base 2 1 (.slice E n ce) n l := by
  refine ⟨h.1, ?_⟩
  rcases h.2 with h1 | ⟨g, cap, cur, h1, h2, h3, h4⟩
  · exact .inl h1
  · refine .inr ⟨g, cap, cur, h1, h2, ?_, h4⟩
    injection h1 with e
    have hlt : g < w.heap.size := by
      rcases Nat.lt_or_ge g w.heap.size with hlt | hge
      · exact hlt
      · rw [Array.getElem?_eq_none hge] at h3; cases h3
    exact (ho.block g hlt (hd g e)).trans h3
theorem ExM.out {lo hi : Nat} (h : ExM w base gx gv cv gc cc E ce fuel s) (ho : Out lo hi w w') (hx : ¬ (lo ≤ gx ∧ gx < hi)) (hv : ¬ (lo ≤ gv ∧ gv < hi)) (hc : ¬ (lo ≤ gc ∧ gc < hi)) (he : ∀ b, E = some ⟨b, 0, none⟩ → ¬ (lo ≤ b ∧ b < hi)) : ExM w' base gx gv cv gc cc E ce fuel s :=
  ⟨(ho.block gx h.blk.lt hx).trans h.blk, h.v.out ho (by omega), h.c.out ho (by omega), ownE_out h.e ho he, h.ea, h.bx, h.bv, h.bc, h.d1, h.d2, h.d3⟩
theorem ExM.next (h : ExM w base gx gv cv gc cc E ce fuel s) (hb : Below w.heap.size w w') : ExM w' base gx gv cv gc cc E ce fuel s :=
  ⟨h.blk.next hb, h.v.next hb, h.c.next hb, own_below h.e hb, h.ea, h.bx, h.bv, h.bc, h.d1, h.d2, h.d3⟩
theorem ExM.drew (h : ExM w base gx gv cv gc cc E ce fuel s) : ExM w.drew base gx gv cv gc cc E ce fuel s := ⟨h.blk, h.v, h.c, h.e, h.ea, h.bx, h.bv, h.bc, h.d1, h.d2, h.d3⟩
theorem ExM.lt (h : ExM w base gx gv cv gc cc E ce fuel s) : gx < w.heap.size ∧ gv < w.heap.size ∧ gc < w.heap.size := ⟨h.blk.lt, h.v.2.2.2, h.c.2.2.2⟩
theorem ExM.more (h : ExM w base gx gv cv gc cc E ce fuel s) : ExM (w.setCell ⟨gx, 3, none⟩ (.int .i64 ((s.n : Int) + 1))) base gx gv cv gc cc E ce fuel s.more := by
  have ho : Out gx (gx + 1) w (w.setCell ⟨gx, 3, none⟩ (.int .i64 ((s.n : Int) + 1))) := out_set (Out.refl _ _ _) (by omega)
  have hB := h.blk.set 3 (.int .i64 ((s.n : Int) + 1))
  have d1 := h.d1
  have d2 := h.d2
  exact ⟨by simpa [RS.more] using hB, h.v.out ho (by omega), h.c.out ho (by omega), ownE_out h.e ho (fun b hb => by have := (h.ea b hb).1; omega), h.ea, h.bx, h.bv, h.bc, h.d1, h.d2, h.d3⟩
theorem ExM.vars (h : ExM w base gx gv cv gc cc E ce fuel s) {i : Nat} (hi : i < 4) (z : Int) : ExM (w.setCell ⟨gv, i, none⟩ (.int .i64 z)) base gx gv cv gc cc E ce fuel { s with v := s.v.set i z } := by
  have ho : Out gv (gv + 1) w (w.setCell ⟨gv, i, none⟩ (.int .i64 z)) := out_set (Out.refl _ _ _) (by omega)
  have d1 := h.d1
  have d3 := h.d3
  exact ⟨h.blk.far d1 i _, h.v.setE hi z, h.c.out ho (by omega), ownE_out h.e ho (fun b hb => by have := (h.ea b hb).2.1; omega), h.ea, h.bx, h.bv, h.bc, h.d1, h.d2, h.d3⟩
theorem ExM.cells (h : ExM w base gx gv cv gc cc E ce fuel s) {i : Nat} (hi : i < 8) (z : Int) : ExM (w.setCell ⟨gc, i, none⟩ (.int .i64 z)) base gx gv cv gc cc E ce fuel { s with c := s.c.set i z } := by
  have ho : Out gc (gc + 1) w (w.setCell ⟨gc, i, none⟩ (.int .i64 z)) := out_set (Out.refl _ _ _) (by omega)
  have d2 := h.d2
  have d3 := h.d3
  exact ⟨h.blk.far d2 i _, h.v.out ho (by omega), h.c.setE hi z, ownE_out h.e ho (fun b hb => by have := (h.ea b hb).2.2; omega), h.ea, h.bx, h.bv, h.bc, h.d1, h.d2, h.d3⟩
theorem ownBlock_slice (E : Option Addr) (n c : Nat) {k : Nat} (h : (Value.slice E n c).ownBlock = some k) : ∃ o p, E = some ⟨k, o, p⟩ := by
  cases E with
  | none => simp [Value.ownBlock] at h
  | some a =>
    obtain ⟨b, o, p⟩ := a
    simp [Value.ownBlock] at h
    subst h
    exact ⟨o, p, rfl⟩
/-- An event more: the longer row, and what else was there. -/
theorem ExM.emit (h : ExM w base gx gv cv gc cc E ce fuel s) {g' cap' : Nat} {x : Int} (hr : w'.ownsRow base 2 1 (.slice (some ⟨g', 0, none⟩) (s.e.length + 1) cap') (s.e.length + 1) (s.e.map ic ++ [.int .i64 x])) (hg : w.grownBy w' (Value.slice E s.e.length ce).ownBlock) (hs : some g' = (Value.slice E s.e.length ce).ownBlock ∨ w.heap.size ≤ g') :
    ExM (w'.setCell ⟨gx, 2, none⟩ (.slice (some ⟨g', 0, none⟩) (s.e.length + 1) cap')) base gx gv cv gc cc (some ⟨g', 0, none⟩) cap' fuel { s with e := s.e ++ [x] } := by
  have hEo : ∀ k, (Value.slice E s.e.length ce).ownBlock = some k → E = some ⟨k, 0, none⟩ := by
    intro k hk
    rcases h.e.2 with ⟨h1, _⟩ | ⟨g, cap, cur, h1, _⟩
    · injection h1 with e1 _ _
      subst e1
      simp [Value.ownBlock] at hk
    · injection h1 with e; subst e; simp [Value.ownBlock] at hk; subst hk; rfl
  have hlt := h.lt
  have kept : ∀ k, k < w.heap.size → (k = gx ∨ k = gv ∨ k = gc) → w'.heap[k]? = w.heap[k]? := fun k hk hq => hg.block k hk (fun e => by
    have h2 := h.ea k (hEo k e.symm)
    omega)
  have hB : BlkIs w' gx 74 _ := (kept gx hlt.1 (.inl rfl)).trans h.blk
  have hB2 := hB.set 2 (.slice (some ⟨g', 0, none⟩) (s.e.length + 1) cap')
  have hn : g' ≠ gx ∧ gv < g' ∧ gc < g' := by
    rcases hs with hs | hs
    · exact h.ea g' (hEo g' hs.symm)
    · omega
  have row : ∀ {g c n l}, OwnL w g (g + 1) (some ⟨g, 0, none⟩) n c l → (g = gx ∨ g = gv ∨ g = gc) → g ≠ gx → OwnL (w'.setCell ⟨gx, 2, none⟩ (.slice (some ⟨g', 0, none⟩) (s.e.length + 1) cap')) g (g + 1) (some ⟨g, 0, none⟩) n c l := by
    intro g c n l ho hq hne
    have hl : g < w.heap.size := ho.2.2.2
    refine ⟨ho.1, ⟨ho.2.1.1, ?_⟩, ho.2.2.1, ?_⟩
    · rcases ho.2.1.2 with h1 | ⟨b, cap, cur, h1, h2, h3, h4⟩
      · exact .inl h1
      · refine .inr ⟨b, cap, cur, h1, h2, ?_, h4⟩
        injection h1 with e
        injection e with e
        injection e with e
        subst e
        rw [Below.heap_setCell w' ⟨gx, 2, none⟩ _ g hne]
        exact (kept g hl hq).trans h3
    · have := hg.size; simp; omega
  refine ⟨?_, row h.v (.inr (.inl rfl)) (Ne.symm h.d1), row h.c (.inr (.inr rfl)) (Ne.symm h.d2), ?_, fun b hb => ?_, h.bx, h.bv, h.bc, h.d1, h.d2, h.d3⟩
  · simpa using hB2
  · have ho : Out gx (gx + 1) w' (w'.setCell ⟨gx, 2, none⟩ (.slice (some ⟨g', 0, none⟩) (s.e.length + 1) cap')) := out_set (Out.refl _ _ _) (by omega)
    have := ownE_out hr ho (fun b hb => by cases hb; have := hn.1; omega)
    simpa [ic] using this
  · cases hb; exact hn
end

/-- What the program's tree of a statement is: its elements' numbers, and what they lead to below a block. -/
inductive TV (w : World) (B : Nat) : Tr → Value → Prop
  | skip {x : S8} : x.k = 0 → TV w B (.leaf x) (.iface 144 (.agg #[]))
  | set {x : S8} {As : Option Addr} {ns cs : Nat} : x.k = 2 → InL w B As ns x.s.2 → TV w B (.leaf x) (.iface 130 (.agg #[.int .i64 x.v, .int .i64 x.s.1, .slice As ns cs]))
  | get {x : S8} {As : Option Addr} {ns cs : Nat} : x.k = 3 → InL w B As ns x.i.2 → TV w B (.leaf x) (.iface 132 (.agg #[.int .i64 x.v, .int .i64 x.i.1, .slice As ns cs]))
  | put {x : S8} {As : Option Addr} {ns cs : Nat} {Ai : Option Addr} {ni ci : Nat} : x.k = 4 → InL w B As ns x.s.2 → InL w B Ai ni x.i.2 → TV w B (.leaf x) (.iface 134 (.agg #[.int .i64 x.i.1, .slice Ai ni ci, .int .i64 x.s.1, .slice As ns cs]))
  | emit {x : S8} : x.k = 5 → TV w B (.leaf x) (.iface 136 (.agg #[.int .i64 x.e]))
  | assert {x : S8} {As : Option Addr} {ns cs : Nat} : x.k = 6 → InL w B As ns x.s.2 → TV w B (.leaf x) (.iface 138 (.agg #[.int .i64 x.s.1, .slice As ns cs]))
  | seq {x : S8} {a b : Tr} {u v : Value} : x.k = 1 → TV w B a u → TV w B b v → TV w B (.two x a b) (.iface 90 (.agg #[u, v]))
  | iff {x : S8} {a b : Tr} {u v : Value} {As : Option Addr} {ns cs : Nat} : x.k = 7 → InL w B As ns x.s.2 → TV w B a u → TV w B b v → TV w B (.two x a b) (.iface 140 (.agg #[.int .i64 x.s.1, .slice As ns cs, u, v]))
  | whl {x : S8} {a : Tr} {u : Value} {As : Option Addr} {ns cs : Nat} {Af : Option Addr} {nf cf : Nat} : x.k = 8 → InL w B As ns x.s.2 → InTS w B Af nf x.f → TV w B a u → TV w B (.one x a) (.iface 142 (.agg #[.int .i64 x.s.1, .slice As ns cs, .slice Af nf cf, u]))
theorem TV.next {w w' : World} {B B' : Nat} {t : Tr} {v : Value} (h : TV w B t v) (hb : Below B' w w') (hB : B ≤ B') : TV w' B t v := by
  induction h with
  | skip h => exact .skip h
  | set h h1 => exact .set h (h1.next hb hB)
  | get h h1 => exact .get h (h1.next hb hB)
  | put h h1 h2 => exact .put h (h1.next hb hB) (h2.next hb hB)
  | emit h => exact .emit h
  | assert h h1 => exact .assert h (h1.next hb hB)
  | seq h _ _ i1 i2 => exact .seq h i1 i2
  | iff h h1 _ _ i1 i2 => exact .iff h (h1.next hb hB) i1 i2
  | whl h h1 h2 _ i1 => exact .whl h (h1.next hb hB) (h2.next hb hB) i1
/-- An element of a valid body. -/
theorem stmt_ok {x : S8} (h : stmtB x = true) : (0 ≤ x.k ∧ x.k ≤ 8) ∧ (tmB x.s = true ∧ x.s.2.length ≤ 4) ∧ (tmB x.i = true ∧ x.i.2.length ≤ 4) ∧ (0 ≤ x.v ∧ x.v ≤ 3) ∧ (0 ≤ x.e ∧ x.e ≤ 3) := by
  unfold stmtB overB at h
  simp only [Bool.and_eq_true, decide_eq_true_eq] at h
  obtain ⟨⟨⟨⟨⟨⟨⟨⟨hk, hs⟩, hi⟩, hf⟩, _⟩, _⟩, _⟩, hv⟩, he⟩ := h
  refine ⟨hk, hs, hi, ?_, ?_⟩
  · split at hv
    · simpa using hv
    · have : x.v = 0 := by simpa using hv
      omega
  · split at he
    · simpa using he
    · have : x.e = 0 := by simpa using he
      omega
/-- What is known of a run: its numbers, its events, its steps. -/
structure GoodR (fuel : Nat) (s : RS) : Prop where
  g : GoodS s
  e : s.e.length ≤ s.n
  n : s.n ≤ fuel
  f : fuel ≤ 2000
end Go.Proofs.YtajmbnimdngjhaaGreatDoor
