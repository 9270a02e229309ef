/-
  What the loop of unfolded holds in memory, at pairs of states. No conditions.
-/
import Derived.Test.YtpdgnmdjneakgaaUnfM
import Derived.Test.YtpdgnmdjneakgaaWorkQ
namespace Go.Proofs.Ytpdgnmdjneakgaa
set_option linter.unusedVariables false
open Go.RowKit Go.Shelf Go.Deep

/-- What unfolded holds in memory: items M, rows R. -/
structure UnfCQ (κ : Int) (w : World) (FV : Value) (bF bR bP bL B b : Nat) (M : List Int) (R : List (List Int)) (A : Option Addr) (c : Nat) (v : Value) (gs : List Nat) (W : World) : Prop where
  box : BlkIs W bF 69 #[FV]
  res : BlkIs W bR 26 #[.slice none 0 0]
  pol : BlkIs W bP 26 #[v]
  wl : WLQ κ W bL w.heap.size B A c (some b) M
  rows : RowsP W w.heap.size v gs R (wb bL A (some b))
  below : Below w.heap.size w W
  bs : w.heap.size ≤ bF ∧ w.heap.size ≤ bR ∧ w.heap.size ≤ bP ∧ bF < B ∧ bR < B ∧ bP < B ∧ B ≤ W.heap.size
  ne : ¬ wb bL A (some b) bF ∧ ¬ wb bL A (some b) bR ∧ ¬ wb bL A (some b) bP ∧ bF ≠ bR ∧ bF ≠ bP ∧ bR ≠ bP
section
variable {κ : Int} {w W W' : World} {FV : Value} {bF bR bP bL B b : Nat} {M M' : List Int} {R : List (List Int)} {A A' : Option Addr} {c c' : Nat} {v : Value} {gs : List Nat} {T : Nat → Prop}
theorem UnfCQ.row_ne (h : UnfCQ κ w FV bF bR bP bL B b M R A c v gs W) {g : Nat} {t : TypeId} {cs : Array Value} (hb : BlkIs W g t cs) (ht : t ≠ 29) : v.ownBlock ≠ some g := fun e => by
  rcases h.rows.own.2 with ⟨e1, _⟩ | ⟨g', cap, cur, e1, _, h3, _⟩
  · rw [e1] at e; cases e
  · rw [e1] at e
    obtain rfl : g' = g := Option.some.inj e
    unfold BlkIs at hb
    rw [h3] at hb
    injection hb with hb
    injection hb with _ hb _
    exact ht hb.symm
theorem UnfCQ.cells (h : UnfCQ κ w FV bF bR bP bL B b M R A c v gs W) {k : Nat} {o : Obj} (hk : usedC bF bR bP bL b A v gs k) (hB : B ≤ k) (ho : W.heap[k]? = some o) : o.isCells = true := by
  have nc : ∀ {g t cs}, BlkIs W g t cs → g = k → o.isCells = true := fun {g t cs} hb e => by
    subst e
    unfold BlkIs at hb
    rw [ho] at hb
    injection hb with hb
    subst hb
    rfl
  rcases hk with e | e | e | e | e | e
  · exact nc h.box e.symm
  · exact nc h.res e.symm
  · exact nc h.pol e.symm
  · exact h.wl.isCells e hB ho
  · rcases h.rows.own.2 with ⟨e1, _⟩ | ⟨g', cap, cur, e1, _, h3, _⟩
    · rw [e1] at e; cases e
    · rw [e1] at e
      obtain rfl : g' = k := Option.some.inj e
      rw [h3] at ho
      injection ho with ho
      subst ho
      rfl
  · obtain ⟨j, hj⟩ := List.getElem?_of_mem e
    have hjl := (List.getElem?_eq_some_iff.1 hj).1
    obtain ⟨r, hr'⟩ : ∃ r, R[j]? = some r := ⟨_, List.getElem?_eq_getElem (by rw [← h.rows.len]; exact hjl)⟩
    exact nc (h.rows.row j k r hj hr').2 rfl
theorem UnfCQ.next (h : UnfCQ κ w FV bF bR bP bL B b M R A c v gs W) (ht : Turns T W W') (hT : ∀ k, usedC bF bR bP bL b A v gs k → ¬ T k) (hTw : ∀ k, T k → w.heap.size ≤ k) : UnfCQ κ w FV bF bR bP bL B b M R A c v gs W' := by
  refine ⟨ht.blk h.box (hT _ (.inl rfl)), ht.blk h.res (hT _ (.inr (.inl rfl))), ht.blk h.pol (hT _ (.inr (.inr (.inl rfl)))), h.wl.next ht (fun k hk => hT k (.inr (.inr (.inr (.inl hk))))), ?_, h.below.trans (ht.below hTw h.below.size), ?_, h.ne⟩
  · exact h.rows.next ht (fun k hk => hT k (.inr (.inr (.inr (.inr hk))))) (fun k _ _ hn => hn)
  · obtain ⟨a1, a2, a3, a4, a5, a6, a7⟩ := h.bs
    exact ⟨a1, a2, a3, a4, a5, a6, Nat.le_trans a7 ht.size⟩
theorem UnfCQ.fresh (h : UnfCQ κ w FV bF bR bP bL B b M R A c v gs W) (hb : Below W.heap.size W W') : UnfCQ κ w FV bF bR bP bL B b M R A c v gs W' :=
  h.next (T := fun _ => False) (Turns.of_below hb) (fun _ _ e => e) (fun _ e => e.elim)
theorem UnfCQ.other (h : UnfCQ κ w FV bF bR bP bL B b M R A c v gs W) {row : Option Nat} (hg : W.grownBy W' row) (hr : ∀ r, row = some r → B ≤ r ∧ ∃ o : Obj, W.heap[r]? = some o ∧ o.isCells = false) : UnfCQ κ w FV bF bR bP bL B b M R A c v gs W' :=
  h.next (T := fun k => row = some k) (Turns.of_grown hg (fun k e => e)) (fun k hk e => by
    obtain ⟨hB, o, ho, hc⟩ := hr k e
    rw [h.cells hk hB ho] at hc
    cases hc) (fun k e => by have := (hr k e).1; have := h.bs; omega)
theorem UnfCQ.lt (h : UnfCQ κ w FV bF bR bP bL B b M R A c v gs W) {k : Nat} (hk : usedC bF bR bP bL b A v gs k) : k < W.heap.size := by
  rcases hk with rfl | rfl | rfl | e | e | e
  · exact h.box.lt
  · exact h.res.lt
  · exact h.pol.lt
  · exact (h.wl.ge e).2
  · exact (h.rows.own.lt k e).2
  · exact (h.rows.lt e).2.1
/-- An item has been added. -/
theorem UnfCQ.added (h : UnfCQ κ w FV bF bR bP bL B b M R A c v gs W) (hw : WLQ κ W' bL w.heap.size B A' c' (some b) M') (ht : Turns (wb bL A (some b)) W W') (hn : ∀ k, wb bL A' (some b) k → wb bL A (some b) k ∨ W.heap.size ≤ k) : UnfCQ κ w FV bF bR bP bL B b M' R A' c' v gs W' := by
  have hk : ∀ k, k < W.heap.size → ¬ wb bL A (some b) k → ¬ wb bL A' (some b) k := fun k hk hn' e => by
    rcases hn k e with e' | e'
    · exact hn' e'
    · omega
  obtain ⟨n1, n2, n3, n4⟩ := h.ne
  refine ⟨ht.blk h.box n1, ht.blk h.res n2, ht.blk h.pol n3, hw, ?_, h.below.trans (ht.below (fun k e => (h.wl.ge e).1) h.below.size), ?_, ⟨hk _ h.box.lt n1, hk _ h.res.lt n2, hk _ h.pol.lt n3, n4⟩⟩
  · refine h.rows.next ht (fun k e => ?_) (fun k _ hlt hn' => hk k hlt hn')
    rcases e with e | e
    · exact h.rows.outv k e
    · exact h.rows.out k e
  · obtain ⟨a1, a2, a3, a4, a5, a6, a7⟩ := h.bs
    exact ⟨a1, a2, a3, a4, a5, a6, Nat.le_trans a7 ht.size⟩
end
/-- What unfolded holds between two rounds: s, the items and how many of them have been gone through. -/
def UnfIQ (κ : Int) (st : Int → Nat → Int × Bool) (x0 : Int) (w : World) (FV : Value) (bF bR bP bL B b : Nat) (s : List Int × Nat) (A : Option Addr) (c : Nat) (v : Value) (gs : List Nat) (W : World) : Prop :=
  UnfCQ κ w FV bF bR bP bL B b s.1 (unf st x0 s.2).2 A c v gs W ∧ s.2 ≤ s.1.length ∧ (unf st x0 s.2).1 = s.1
/-- .. within a round: the row g is filled; j events are over. -/
structure EvIQ (κ : Int) (st : Int → Nat → Int × Bool) (w : World) (FV : Value) (bF bR bP bL B b D : Nat) (x : Int) (L : List Int) (R : List (List Int)) (v : Value) (gs : List Nat) (g : Nat) (W : World) (j : Nat) (A : Option Addr) (c : Nat) (W' : World) : Prop where
  core : UnfCQ κ w FV bF bR bP bL B b (evT st x L j).1 R A c v gs W'
  row : BlkIs W' g 2 ((evT st x L j).2.map ic).toArray
  out : ¬ usedC bF bR bP bL b A v gs g
  glo : W.heap.size ≤ g
  keep : KeepsFrom D W W'
  wle : w.heap.size ≤ W.heap.size
section
variable {κ : Int} {st : Int → Nat → Int × Bool} {w W W' W'' : World} {FV : Value} {bF bR bP bL B b D j g : Nat} {x : Int} {L : List Int} {R : List (List Int)} {A A' : Option Addr} {c c' : Nat} {v : Value} {gs : List Nat}
theorem keeps_freshQ (hb : Below W.heap.size W W') : KeepsFrom D W W' := (Turns.of_below (S := fun _ => False) hb).keepsFrom (fun _ _ _ e _ => e.elim)
theorem EvIQ.fresh (h : EvIQ κ st w FV bF bR bP bL B b D x L R v gs g W j A c W') (hb : Below W'.heap.size W' W'') : EvIQ κ st w FV bF bR bP bL B b D x L R v gs g W j A c W'' :=
  ⟨h.core.fresh hb, h.row.next hb, h.out, h.glo, h.keep.trans (keeps_freshQ hb), h.wle⟩
theorem EvIQ.no (h : EvIQ κ st w FV bF bR bP bL B b D x L R v gs g W j A c W') (hv : (st x j).2 = false) : EvIQ κ st w FV bF bR bP bL B b D x L R v gs g W (j + 1) A c W' := by
  have e : evT st x L (j + 1) = evT st x L j := by rw [evT, evS_no hv]
  exact ⟨by rw [e]; exact h.core, by rw [e]; exact h.row, h.out, h.glo, h.keep, h.wle⟩
theorem EvIQ.yes (h : EvIQ κ st w FV bF bR bP bL B b D x L R v gs g W j A c W') (hD : B ≤ D) (hv : (st x j).2 = true) (hw : WLQ κ W'' bL w.heap.size B A' c' (some b) (addL (st x j).1 (evT st x L j).1)) (ht : Turns (wb bL A (some b)) W' W'')
    (hn : ∀ k, wb bL A' (some b) k → wb bL A (some b) k ∨ W'.heap.size ≤ k) : EvIQ κ st w FV bF bR bP bL B b D x L R v gs g W (j + 1) A' c' (W''.setCell ⟨g, j, none⟩ (.int .i64 ((addL (st x j).1 (evT st x L j).1).idxOf (st x j).1 : Int))) := by
  have e : evT st x L (j + 1) = (addL (st x j).1 (evT st x L j).1, (evT st x L j).2.set j ((addL (st x j).1 (evT st x L j).1).idxOf (st x j).1 : Int)) := by rw [evT, evS_yes hv]
  have hc := h.core.added hw ht hn
  have hgl := h.row.lt
  have hout : ¬ usedC bF bR bP bL b A' v gs g := fun hu => h.out (by
    rcases hu with hu | hu | hu | hu | hu
    · exact .inl hu
    · exact .inr (.inl hu)
    · exact .inr (.inr (.inl hu))
    · rcases hn g hu with h' | h'
      · exact .inr (.inr (.inr (.inl h')))
      · omega
    · exact .inr (.inr (.inr (.inr hu))))
  have hrow := ht.blk h.row (fun hu => h.out (.inr (.inr (.inr (.inl hu)))))
  have hset : Turns (fun k => k = g) W'' (W''.setCell ⟨g, j, none⟩ (.int .i64 ((addL (st x j).1 (evT st x L j).1).idxOf (st x j).1 : Int))) := (Turns.refl _ _).set rfl
  have hwg : w.heap.size ≤ g := Nat.le_trans h.wle h.glo
  refine ⟨?_, ?_, hout, h.glo, ?_, h.wle⟩
  · rw [e]
    exact hc.next hset (fun k hk e' => hout (by subst e'; exact hk)) (fun k e' => by subst e'; exact hwg)
  · rw [e]
    have := hrow.set j (.int .i64 ((addL (st x j).1 (evT st x L j).1).idxOf (st x j).1 : Int))
    rw [List.map_set]
    simpa [List.setIfInBounds_toArray, ic] using this
  · refine (h.keep.trans (ht.keepsFrom (fun k o hk hu ho => h.core.wl.isCells hu (by omega) ho))).trans (hset.keepsFrom (fun k o _ e' ho => ?_))
    subst e'
    unfold BlkIs at hrow
    rw [hrow] at ho
    injection ho with ho
    subst ho
    rfl

/-- The row is appended. -/
theorem EvIQ.rowed {g' cap' : Nat} {o : Obj} (h : EvIQ κ st w FV bF bR bP bL B b D x L R v gs g W 4 A c W') (hD : B ≤ D) (hDW : D ≤ W.heap.size) (hgs : ∀ k ∈ gs, k < W.heap.size)
    (hown : W''.ownsRow w.heap.size 29 1 (.slice (some ⟨g', 0, none⟩) (R.length + 1) cap') (R.length + 1) ((gs.map fun g => Value.slice (some ⟨g, 0, none⟩) 4 4) ++ [.slice (some ⟨g, 0, none⟩) 4 4]))
    (hgrow : (W'.alloc o).grownBy W'' v.ownBlock) (hsep : some g' = v.ownBlock ∨ (W'.alloc o).heap.size ≤ g') :
    UnfCQ κ w FV bF bR bP bL B b (evT st x L 4).1 (R ++ [(evT st x L 4).2]) A c (.slice (some ⟨g', 0, none⟩) (R.length + 1) cap') (gs ++ [g]) (W''.setCell ⟨bP, 0, none⟩ (.slice (some ⟨g', 0, none⟩) (R.length + 1) cap')) ∧ KeepsFrom D W (W''.setCell ⟨bP, 0, none⟩ (.slice (some ⟨g', 0, none⟩) (R.length + 1) cap')) := by
  have hc := h.core
  have hpv := hc.row_ne hc.pol (by decide)
  have hfv := hc.row_ne hc.box (by decide)
  have hrv := hc.row_ne hc.res (by decide)
  have hgv := hc.row_ne h.row (by decide)
  obtain ⟨n1, n2, n3, n4, n5, n6⟩ := hc.ne
  obtain ⟨a1, a2, a3, a4, a5, a6, a7⟩ := hc.bs
  have hal : (W'.alloc o).heap.size = W'.heap.size + 1 := by simp
  have hg'p : g' ≠ bP := fun e => by
    rcases hsep with h' | h'
    · exact hpv (by rw [← h', e])
    · have := hc.pol.lt; omega
  have t1 : Turns (fun k => v.ownBlock = some k ∨ k = bP) W' W'' := (Turns.of_below (bnew W' o)).trans (Turns.of_grown (S := fun k => v.ownBlock = some k ∨ k = bP) hgrow (fun k e => .inl e)) (fun _ _ e => e)
  have ht : Turns (fun k => v.ownBlock = some k ∨ k = bP) W' (W''.setCell ⟨bP, 0, none⟩ (.slice (some ⟨g', 0, none⟩) (R.length + 1) cap')) := t1.set (.inr rfl)
  have hpol : BlkIs W'' bP 26 #[v] := (hc.pol.next (bnew W' o)).by_grown hgrow hpv
  have hgl := h.row.lt
  have hrow2 := ht.blk h.row (by
    rintro (e | e)
    · exact hgv e
    · exact h.out (.inr (.inr (.inl e))))
  have hwbg : ∀ k, wb bL A (some b) k → ¬ (v.ownBlock = some k ∨ k = bP) := fun k hk e => by
    rcases e with e | e
    · exact hc.rows.outv k e hk
    · subst e; exact n3 hk
  refine ⟨⟨ht.blk hc.box (by rintro (e | e); exact hfv e; exact n5 e), ht.blk hc.res (by rintro (e | e); exact hrv e; exact n6 e), ?_, hc.wl.next ht hwbg, ?_, ?_, ⟨a1, a2, a3, a4, a5, a6, Nat.le_trans a7 ht.size⟩, ⟨n1, n2, n3, n4, n5, n6⟩⟩, ?_⟩
  · have := hpol.set 0 (.slice (some ⟨g', 0, none⟩) (R.length + 1) cap')
    simpa using this
  · refine hc.rows.push (hown.kept (only_set (g := bP)) (.inr (fun e => hg'p (Option.some.inj e)))) ht (fun k hk e => ?_) hrow2 (Nat.le_trans h.wle h.glo) (fun k hk => ?_) (fun e => h.out (.inr (.inr (.inr (.inl e))))) (fun e => ?_)
    · rcases e with e | e
      · exact (hc.rows.lt hk).2.2 e
      · subst e
        obtain ⟨j', hj'⟩ := List.getElem?_of_mem hk
        have hjl := (List.getElem?_eq_some_iff.1 hj').1
        obtain ⟨r, hr'⟩ : ∃ r, R[j']? = some r := ⟨_, List.getElem?_eq_getElem (by rw [← hc.rows.len]; exact hjl)⟩
        have hb := (hc.rows.row j' _ r hj' hr').2
        have hp := hc.pol
        unfold BlkIs at hb hp
        rw [hb] at hp
        injection hp with hp
        injection hp with _ hp _
        revert hp
        decide
    · have := hgs k hk; have := h.glo; omega
    · rcases hsep with h' | h'
      · exact hc.rows.outv g' h'.symm e
      · have := (hc.wl.ge e).2; omega
  · exact hc.below.trans (ht.below (fun k e => by
      rcases e with e | e
      · exact (hc.rows.own.lt k e).1
      · omega) hc.below.size)
  · refine h.keep.trans (ht.keepsFrom (fun k o' hk hu ho => ?_))
    rcases hu with hu | hu
    · exact hc.cells (.inr (.inr (.inr (.inr (.inl hu))))) (by omega) ho
    · exact hc.cells (.inr (.inr (.inl hu))) (by omega) ho
end
section
variable {κ : Int} {w W W' : World} {FV : Value} {bF bR bP bL B b D : Nat} {M : List Int} {R : List (List Int)} {A : Option Addr} {c : Nat} {v : Value} {gs : List Nat}
theorem UnfCQ.gs_ne (h : UnfCQ κ w FV bF bR bP bL B b M R A c v gs W) {g k : Nat} {t : TypeId} {cs : Array Value} (hb : BlkIs W g t cs) (ht : t ≠ 2) (hk : k ∈ gs) : k ≠ g := fun e => by
  subst e
  obtain ⟨j, hj⟩ := List.getElem?_of_mem hk
  have hjl := (List.getElem?_eq_some_iff.1 hj).1
  obtain ⟨r, hr'⟩ : ∃ r, R[j]? = some r := ⟨_, List.getElem?_eq_getElem (by rw [← h.rows.len]; exact hjl)⟩
  have hb2 := (h.rows.row j _ r hj hr').2
  unfold BlkIs at hb hb2
  rw [hb2] at hb
  injection hb with hb
  injection hb with _ hb _
  exact ht hb.symm
/-- The policy is copied into the result; the loop's block is shut. -/
theorem UnfCQ.leave (h : UnfCQ κ w FV bF bR bP bL B b M R A c v gs W) (hK : W.heap[D]? = some (.deferred (some []))) (hD : B ≤ D) :
    ((W.setCell ⟨bR, 0, none⟩ v).drew).heap[D]? = some (.deferred (some [])) ∧
    (((W.setCell ⟨bR, 0, none⟩ v).drew).putObj D (.deferred none)).cell? ⟨bR, 0, none⟩ = some v ∧
    RowsP (((W.setCell ⟨bR, 0, none⟩ v).drew).putObj D (.deferred none)) w.heap.size v gs R (fun k => (Value.slice A 0 0).ownBlock = some k) ∧
    (((W.setCell ⟨bR, 0, none⟩ v).drew).putObj D (.deferred none)).ownsRow w.heap.size 52 2 (.slice A M.length c) M.length (M.flatMap (pv κ)) ∧
    Below w.heap.size w (((W.setCell ⟨bR, 0, none⟩ v).drew).putObj D (.deferred none)) := by
  obtain ⟨a1, a2, a3, a4, a5, a6, a7⟩ := h.bs
  have hDR : D ≠ bR := by omega
  have hu : ∀ k, usedC bF bR bP bL b A v gs k → k ≠ D := fun k hk e => by
    subst e
    have := h.cells hk hD hK
    cases this
  have ht : Turns (fun k => k = bR ∨ k = D) W (((W.setCell ⟨bR, 0, none⟩ v).drew).putObj D (.deferred none)) := by
    have h1 : Turns (fun k => k = bR ∨ k = D) W (W.setCell ⟨bR, 0, none⟩ v) := (Turns.refl _ _).set (.inl rfl)
    have h2 : Turns (fun k => k = bR ∨ k = D) W ((W.setCell ⟨bR, 0, none⟩ v).drew) := ⟨h1.os, h1.tape, h1.output, h1.size, h1.block⟩
    exact h2.trans (Turns.of_grown (S := fun k => k = bR ∨ k = D) (grownBy_putObj' _ D (.deferred none)) (fun k e => .inr (Option.some.inj e).symm)) (fun _ _ e => e)
  have hr := h.res.set 0 v
  simp at hr
  refine ⟨?_, ?_, ?_, ?_, ?_⟩
  · exact (Below.heap_setCell W ⟨bR, 0, none⟩ v D hDR).trans hK
  · have h3 : BlkIs (((W.setCell ⟨bR, 0, none⟩ v).drew).putObj D (.deferred none)) bR 26 #[v] := (World.putObj_heap_other (fun e => hDR e.symm)).trans hr
    exact h3.cell 0
  · refine h.rows.next ht (fun k hk e => ?_) (fun k hk _ hn e => hn (.inr (.inl e)))
    rcases e with e | e
    · subst e
      rcases hk with hk | hk
      · exact h.row_ne h.res (by decide) hk
      · exact h.gs_ne h.res (by decide) hk rfl
    · exact hu k (.inr (.inr (.inr (.inr hk)))) e
  · exact (h.wl.next ht (fun k hk e => by
      rcases e with e | e
      · subst e; exact h.ne.2.1 hk
      · exact hu k (.inr (.inr (.inr (.inl hk)))) e)).row
  · exact h.below.trans (ht.below (fun k e => by rcases e with e | e <;> omega) h.below.size)
end
end Go.Proofs.Ytpdgnmdjneakgaa
