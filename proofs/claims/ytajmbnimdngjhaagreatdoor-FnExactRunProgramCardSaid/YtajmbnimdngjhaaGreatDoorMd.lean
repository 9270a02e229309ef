/-
  The model's run on its way in memory. No conditions.
-/
import Derived.Test.YtajmbnimdngjhaaGreatDoorExe
import Derived.Test.YtajmbnimdngjhaaGreatDoorOwnS
namespace Go.Proofs.YtajmbnimdngjhaaGreatDoor
set_option linter.unusedVariables false
open Go.RowKit

def nc (k : Nat) : Value := .int .i64 (k : Int)
theorem own_stay {w w' : World} {base n size : Nat} {e : TypeId} {v : Value} {xs : List Value} (h : w.ownsRow base e size v n xs) (hk : ∀ k, v.ownBlock = some k → k < w.heap.size → w'.heap[k]? = w.heap[k]?) : w'.ownsRow base e size v n xs := by
  refine ⟨h.1, ?_⟩
  rcases h.2 with h' | ⟨g, cap, cur, rfl, k2, k3, k4⟩
  · exact .inl h'
  · have hlt : g < w.heap.size := by
      rcases Nat.lt_or_ge g w.heap.size with hlt | hge
      · exact hlt
      · rw [Array.getElem?_eq_none hge] at k3; cases k3
    exact .inr ⟨g, cap, cur, rfl, k2, (hk g rfl hlt).trans k3, k4⟩
theorem OwnL.stay {w w' : World} {lo hi n c : Nat} {A : Option Addr} {l : List Int} (h : OwnL w lo hi A n c l) (hs : w.heap.size ≤ w'.heap.size) (hk : ∀ k, (Value.slice A n c).ownBlock = some k → k < w.heap.size → w'.heap[k]? = w.heap[k]?) : OwnL w' lo hi A n c l :=
  ⟨h.1, own_stay h.2.1 hk, h.2.2.1, Nat.le_trans h.2.2.2 hs⟩
theorem row_take {w : World} {base n c g j : Nat} {e : TypeId} {l : List Value} (h : w.ownsRow base e 1 (.slice (some ⟨g, 0, none⟩) n c) n l) (hj : j ≤ n) : w.ownsRow base e 1 (.slice (some ⟨g, 0, none⟩) j c) j (l.take j) := by
  have hl := h.1
  refine ⟨by rw [List.length_take]; omega, ?_⟩
  rcases h.2 with ⟨h', _⟩ | ⟨g', cap, cur, k1, k2, k3, k4, k5, k6, k7⟩
  · cases h'
  · injection k1 with e1 e2 e3
    injection e1 with e1
    injection e1 with e1
    subst e1
    subst e3
    refine .inr ⟨g, c, cur, rfl, k2, k3, by omega, k5, k6, ?_⟩
    rw [← k7, List.take_take]
    congr 1
    omega

/-- What the model's run holds in memory: the state's block and its rows, the events, the indices that are still to be executed (the next one at the end). -/
structure MdM (w : World) (base sb gv cv gc cc ge ce gw cw : Nat) (s : RS) (ws : List Nat) : Prop where
  blk : BlkIs w sb 31 #[.slice (some ⟨gv, 0, none⟩) 4 cv, .slice (some ⟨gc, 0, none⟩) 8 cc]
  v : OwnL w gv (gv + 1) (some ⟨gv, 0, none⟩) 4 cv s.v
  c : OwnL w gc (gc + 1) (some ⟨gc, 0, none⟩) 8 cc s.c
  e : w.ownsRow base 2 1 (.slice (some ⟨ge, 0, none⟩) s.e.length ce) s.e.length (s.e.map ic)
  k : w.ownsRow base 3 1 (.slice (some ⟨gw, 0, none⟩) ws.length cw) ws.length (ws.reverse.map nc)
  bs : base ≤ sb
  bv : base ≤ gv
  bc : base ≤ gc
  d : sb ≠ gv ∧ sb ≠ gc ∧ sb ≠ ge ∧ sb ≠ gw ∧ gv ≠ gc ∧ gv ≠ ge ∧ gv ≠ gw ∧ gc ≠ ge ∧ gc ≠ gw ∧ ge ≠ gw
section
variable {w w' : World} {base sb gv cv gc cc ge ce gw cw : Nat} {s : RS} {ws : List Nat}
theorem MdM.lt (h : MdM w base sb gv cv gc cc ge ce gw cw s ws) : sb < w.heap.size ∧ gv < w.heap.size ∧ gc < w.heap.size ∧ ge < w.heap.size ∧ gw < w.heap.size := ⟨h.blk.lt, h.v.2.2.2, h.c.2.2.2, (h.e.lt ge rfl).2, (h.k.lt gw rfl).2⟩
theorem MdM.stay (h : MdM w base sb gv cv gc cc ge ce gw cw s ws) (hs : w.heap.size ≤ w'.heap.size) (hk : ∀ k, k = sb ∨ k = gv ∨ k = gc ∨ k = ge ∨ k = gw → w'.heap[k]? = w.heap[k]?) : MdM w' base sb gv cv gc cc ge ce gw cw s ws :=
  ⟨(hk sb (by simp)).trans h.blk, h.v.stay hs (fun k e _ => hk k (by cases e; simp)), h.c.stay hs (fun k e _ => hk k (by cases e; simp)), own_stay h.e (fun k e _ => hk k (by cases e; simp)), own_stay h.k (fun k e _ => hk k (by cases e; simp)), h.bs, h.bv, h.bc, h.d⟩
theorem MdM.next (h : MdM w base sb gv cv gc cc ge ce gw cw s ws) (hb : Below w.heap.size w w') : MdM w' base sb gv cv gc cc ge ce gw cw s ws := by
  have hl := h.lt
  exact h.stay hb.size (fun k hk => hb.block k (by omega))
theorem MdM.vars (h : MdM w base sb gv cv gc cc ge ce gw cw s ws) {i : Nat} (hi : i < 4) (z : Int) : MdM (w.setCell ⟨gv, i, none⟩ (.int .i64 z)) base sb gv cv gc cc ge ce gw cw { s with v := s.v.set i z } ws := by
  have hd := h.d
  have hk : ∀ k, k ≠ gv → (w.setCell ⟨gv, i, none⟩ (.int .i64 z)).heap[k]? = w.heap[k]? := fun k hne => Below.heap_setCell w ⟨gv, i, none⟩ _ k hne
  exact ⟨h.blk.far (by omega) i _, h.v.setE hi z, h.c.stay (by simp) (fun k e _ => hk k (by have e' : some gc = some k := e; injection e' with e'; omega)), own_stay h.e (fun k e _ => hk k (by have e' : some ge = some k := e; injection e' with e'; omega)), own_stay h.k (fun k e _ => hk k (by have e' : some gw = some k := e; injection e' with e'; omega)), h.bs, h.bv, h.bc, h.d⟩
theorem MdM.cells (h : MdM w base sb gv cv gc cc ge ce gw cw s ws) {i : Nat} (hi : i < 8) (z : Int) : MdM (w.setCell ⟨gc, i, none⟩ (.int .i64 z)) base sb gv cv gc cc ge ce gw cw { s with c := s.c.set i z } ws := by
  have hd := h.d
  have hk : ∀ k, k ≠ gc → (w.setCell ⟨gc, i, none⟩ (.int .i64 z)).heap[k]? = w.heap[k]? := fun k hne => Below.heap_setCell w ⟨gc, i, none⟩ _ k hne
  exact ⟨h.blk.far (by omega) i _, h.v.stay (by simp) (fun k e _ => hk k (by have e' : some gv = some k := e; injection e' with e'; omega)), h.c.setE hi z, own_stay h.e (fun k e _ => hk k (by have e' : some ge = some k := e; injection e' with e'; omega)), own_stay h.k (fun k e _ => hk k (by have e' : some gw = some k := e; injection e' with e'; omega)), h.bs, h.bv, h.bc, h.d⟩
theorem MdM.step (h : MdM w base sb gv cv gc cc ge ce gw cw s ws) : MdM w base sb gv cv gc cc ge ce gw cw s.more ws := ⟨h.blk, h.v, h.c, h.e, h.k, h.bs, h.bv, h.bc, h.d⟩
theorem MdM.pop {k : Nat} (h : MdM w base sb gv cv gc cc ge ce gw cw s (k :: ws)) : MdM w base sb gv cv gc cc ge ce gw cw s ws := by
  refine ⟨h.blk, h.v, h.c, h.e, ?_, h.bs, h.bv, h.bc, h.d⟩
  have := row_take h.k (j := ws.length) (by simp)
  simpa using this
/-- The next index. -/
theorem MdM.top {k : Nat} (h : MdM w base sb gv cv gc cc ge ce gw cw s (k :: ws)) : w.cell? ⟨gw, ws.length, none⟩ = some (.int .i64 (k : Int)) := by
  have := h.k.cellAt ws.length (by simp)
  rw [this]
  simp [nc]
theorem MdM.push (h : MdM w base sb gv cv gc cc ge ce gw cw s ws) {g' cap' k : Nat} (hr : w'.ownsRow base 3 1 (.slice (some ⟨g', 0, none⟩) (ws.length + 1) cap') (ws.length + 1) (ws.reverse.map nc ++ [nc k])) (hg : w.grownBy w' (some gw)) (hs : some g' = (some gw : Option Nat) ∨ w.heap.size ≤ g') : MdM w' base sb gv cv gc cc ge ce g' cap' s (k :: ws) := by
  have hl := h.lt
  have hd := h.d
  have hk : ∀ j, j = sb ∨ j = gv ∨ j = gc ∨ j = ge → w'.heap[j]? = w.heap[j]? := fun j hj => hg.block j (by omega) (fun e => by injection e with e; omega)
  have hd' : sb ≠ g' ∧ gv ≠ g' ∧ gc ≠ g' ∧ ge ≠ g' := by
    rcases hs with hs | hs
    · injection hs with hs; omega
    · omega
  refine ⟨(hk sb (by simp)).trans h.blk, h.v.stay hg.size (fun j e _ => hk j (by cases e; simp)), h.c.stay hg.size (fun j e _ => hk j (by cases e; simp)), own_stay h.e (fun j e _ => hk j (by cases e; simp)), ?_, h.bs, h.bv, h.bc, by omega⟩
  simpa using hr
theorem MdM.emit (h : MdM w base sb gv cv gc cc ge ce gw cw s ws) {g' cap' : Nat} {x : Int} (hr : w'.ownsRow base 2 1 (.slice (some ⟨g', 0, none⟩) (s.e.length + 1) cap') (s.e.length + 1) (s.e.map ic ++ [.int .i64 x])) (hg : w.grownBy w' (some ge)) (hs : some g' = (some ge : Option Nat) ∨ w.heap.size ≤ g') : MdM w' base sb gv cv gc cc g' cap' gw cw { s with e := s.e ++ [x] } ws := by
  have hl := h.lt
  have hd := h.d
  have hk : ∀ j, j = sb ∨ j = gv ∨ j = gc ∨ j = gw → w'.heap[j]? = w.heap[j]? := fun j hj => hg.block j (by omega) (fun e => by injection e with e; omega)
  have hd' : sb ≠ g' ∧ gv ≠ g' ∧ gc ≠ g' ∧ gw ≠ g' := by
    rcases hs with hs | hs
    · injection hs with hs; omega
    · omega
  refine ⟨(hk sb (by simp)).trans h.blk, h.v.stay hg.size (fun j e _ => hk j (by cases e; simp)), h.c.stay hg.size (fun j e _ => hk j (by cases e; simp)), ?_, own_stay h.k (fun j e _ => hk j (by cases e; simp)), h.bs, h.bv, h.bc, by omega⟩
  simpa [ic] using hr
end

/-- A statement begins at an index. -/
def AtT (xs : List S8) (k : Nat) (t : Tr) : Prop := ∃ r, xs.drop k = flatT t ++ r ∧ WfT t
inductive AtTs (xs : List S8) : List Nat → List Tr → Prop
  | nil : AtTs xs [] []
  | cons {k : Nat} {t : Tr} {ws : List Nat} {ts : List Tr} : AtT xs k t → AtTs xs ws ts → AtTs xs (k :: ws) (t :: ts)
theorem AtT.one {xs : List S8} {k : Nat} {x : S8} {a : Tr} (h : AtT xs k (.one x a)) : AtT xs (k + 1) a := by
  obtain ⟨r, h1, h2⟩ := h
  refine ⟨r, ?_, h2.2⟩
  have := congrArg (List.drop 1) h1
  rw [List.drop_drop] at this
  exact this
theorem AtT.fst {xs : List S8} {k : Nat} {x : S8} {a b : Tr} (h : AtT xs k (.two x a b)) : AtT xs (k + 1) a := by
  obtain ⟨r, h1, h2⟩ := h
  refine ⟨flatT b ++ r, ?_, h2.2.1⟩
  have := congrArg (List.drop 1) h1
  rw [List.drop_drop] at this
  rw [this]
  simp [flatT]
theorem AtT.snd {xs : List S8} {k : Nat} {x : S8} {a b : Tr} (h : AtT xs k (.two x a b)) : AtT xs (k + 1 + (flatT a).length) b ∧ endL 1 (xs.drop (k + 1)) (k + 1) = ((k + 1 + (flatT a).length : Nat) : Int) := by
  obtain ⟨r, h1, h2⟩ := h
  have e : xs.drop (k + 1) = flatT a ++ (flatT b ++ r) := by
    have := congrArg (List.drop 1) h1
    rw [List.drop_drop] at this
    rw [this]
    simp [flatT]
  refine ⟨⟨r, ?_, h2.2.2⟩, ?_⟩
  · rw [← List.drop_drop, e, List.drop_left]
  · rw [e, endL_flat a _ 1 (k + 1) h2.2.1 (by omega), endL_done]
theorem AtT.top {xs : List S8} {k : Nat} {t : Tr} (h : AtT xs k t) : xs[k]? = some t.top ∧ k < xs.length := by
  obtain ⟨r, h1, h2⟩ := h
  have e : xs[k]? = (xs.drop k)[0]? := by rw [List.getElem?_drop]; simp
  have e2 : xs[k]? = some t.top := by
    rw [e, h1]
    cases t <;> rfl
  exact ⟨e2, (List.getElem?_eq_some_iff.1 e2).1⟩
theorem AtTs.len {xs : List S8} {ws : List Nat} {ts : List Tr} (h : AtTs xs ws ts) : ws.length = ts.length := by
  induction h with
  | nil => rfl
  | cons _ _ ih => simp [ih]
theorem len_szT (ts : List Tr) : ts.length ≤ szT ts := by
  induction ts with
  | nil => exact Nat.zero_le _
  | cons t r ih => have := flatT_pos t; rw [szT_cons, List.length_cons]; omega
end Go.Proofs.YtajmbnimdngjhaaGreatDoor
