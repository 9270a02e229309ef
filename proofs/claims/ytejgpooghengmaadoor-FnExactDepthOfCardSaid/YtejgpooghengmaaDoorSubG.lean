/-
  Subproofs in memory: what waits while a list of nodes is read, node after node; what steps leave as it was. No conditions.
-/
import Derived.Test.YtejgpooghengmaaDoorBackw
import Derived.Test.YtejgpooghengmaaDoorForest
import Derived.Test.YtejgpooghengmaaDoorRound
namespace Go.Proofs.YtejgpooghengmaaDoor
set_option linter.unusedVariables false
open Go.RowKit Go.Shelf Go.Deep

/-! What a step leaves: blocks of cells, but for some. -/
def Same (R : Nat → Prop) (W W' : World) : Prop := ∀ k cs t f, W.heap[k]? = some (.cells cs t f) → ¬ R k → W'.heap[k]? = some (.cells cs t f)
theorem Same.refl (R : Nat → Prop) (W : World) : Same R W W := fun _ _ _ _ h _ => h
theorem Same.trans {R : Nat → Prop} {W W' W'' : World} (h : Same R W W') (h' : Same R W' W'') : Same R W W'' := fun k cs t f hk hR => h' k cs t f (h k cs t f hk hR) hR
theorem Same.more {R R' : Nat → Prop} {W W' : World} (h : Same R W W') (hR : ∀ k, R k → R' k) : Same R' W W' := fun k cs t f hk h' => h k cs t f hk (fun e => h' (hR k e))
theorem same_alloc (R : Nat → Prop) (W : World) (o : Obj) : Same R W (W.alloc o) := fun k cs t f hk _ => (Below.heap_alloc W o k (Array.getElem?_eq_some_iff.1 hk).1).trans hk
theorem same_grown {R : Nat → Prop} {W W' : World} {row : Option Nat} (h : W.grownBy W' row) (hR : ∀ k, row = some k → R k) : Same R W W' := fun k cs t f hk h' =>
  (h.block k (Array.getElem?_eq_some_iff.1 hk).1 (fun e => h' (hR k e.symm))).trans hk
theorem same_set {R : Nat → Prop} {W : World} {g i : Nat} {u : Value} (hR : R g) : Same R W (W.setCell ⟨g, i, none⟩ u) := fun k cs t f hk h' =>
  (Below.heap_setCell W ⟨g, i, none⟩ u k (fun e => h' (by rw [e]; exact hR))).trans hk
theorem same_below {R : Nat → Prop} {W W' : World} (h : Below W.heap.size W W') : Same R W W' := fun k cs t f hk _ => (h.block k (Array.getElem?_eq_some_iff.1 hk).1).trans hk
theorem same_drew {R : Nat → Prop} {W W' : World} (h : Same R W W') : Same R W W'.drew := h
theorem BlkIs.same {R : Nat → Prop} {W W' : World} {g : Nat} {t : TypeId} {cs : Array Value} (h : BlkIs W g t cs) (hs : Same R W W') (hR : ¬ R g) : BlkIs W' g t cs := hs g cs t _ h hR
theorem row_same {R : Nat → Prop} {W W' : World} {base : Nat} {e : TypeId} {size n : Nat} {v : Value} {xs : List Value} (h : W.ownsRow base e size v n xs) (hs : Same R W W') (hR : ∀ k, v.ownBlock = some k → ¬ R k) : W'.ownsRow base e size v n xs := by
  refine ⟨h.1, ?_⟩
  rcases h.2 with h' | ⟨g, cap, cur, h1, h2, h3, h4⟩
  · exact .inl h'
  · exact .inr ⟨g, cap, cur, h1, h2, hs g cur e _ h3 (hR g (by rw [h1]; rfl)), h4⟩

theorem keeps_below {W W' : World} (h : Below W.heap.size W W') : KeepsOthers W W' := ⟨h.size, fun k o hk _ => (h.block k (Array.getElem?_eq_some_iff.1 hk).1).trans hk⟩
theorem own_isCells {W : World} {base : Nat} {e : TypeId} {size n : Nat} {v : Value} {xs : List Value} (h : W.ownsRow base e size v n xs) : ∀ j o, v.ownBlock = some j → W.heap[j]? = some o → o.isCells = true := fun j o hj ho => by
  rcases h.2 with ⟨rfl, _⟩ | ⟨g, cap, cur, rfl, _, hg, _⟩
  · cases hj
  · obtain rfl : g = j := by injection hj
    rw [hg] at ho
    obtain rfl := Option.some.inj ho
    rfl
/-- A row cut off behind some of its elements. -/
theorem own_cut {W : World} {base : Nat} {e : TypeId} {A : Option Addr} {n c k : Nat} {xs : List Value} (h : W.ownsRow base e 1 (.slice A n c) n xs) (hk : k ≤ n) : W.ownsRow base e 1 (.slice A k c) k (xs.take k) := by
  refine ⟨by rw [List.length_take, h.1]; omega, ?_⟩
  rcases h.2 with ⟨h', hn⟩ | ⟨g, cap, cur, h1, h2, h3, h4, h5, h6, h7⟩
  · injection h' with a b c'
    have : k = 0 := by omega
    subst this
    exact .inl ⟨by rw [a, c'], rfl⟩
  · injection h1 with a b c'
    subst c'
    exact .inr ⟨g, c, cur, by rw [a], h2, h3, by omega, h5, h6, by rw [← h7, List.take_take]; congr 1; omega⟩

/-! The subproofs that wait, told by the nodes that have come; the last one first. -/
abbrev PN := Nat × NV
def ptrV (b : Nat) : Value := .pointer (some ⟨b, 0, none⟩)
def frk (x : PN) : Nat := forks x.2.x.k
def endG (S : List (Nat × Nat)) (x : PN) : Nat := if frk x = 0 then x.1 + 1 else (S.getD (frk x - 1) (0, 0)).2
def stkG : List PN → Option (List (Nat × Nat))
  | [] => some []
  | x :: h => match stkG h with
    | none => none
    | some S => if nodeB x.2.x = true ∧ frk x ≤ S.length then some ((h.length, endG S x) :: S.drop (frk x)) else none
theorem stkG_cons {x : PN} {h : List PN} {S : List (Nat × Nat)} (hS : stkG h = some S) : stkG (x :: h) = if nodeB x.2.x = true ∧ frk x ≤ S.length then some ((h.length, endG S x) :: S.drop (frk x)) else none := by
  unfold stkG; rw [hS]
theorem stkG_lt : ∀ (h : List PN) (S : List (Nat × Nat)), stkG h = some S → ∀ p ∈ S, p.1 < h.length
  | [], S, hS, p, hp => by obtain rfl := Option.some.inj hS; cases hp
  | x :: h, S, hS, p, hp => by
    cases hS' : stkG h with
    | none => unfold stkG at hS; rw [hS'] at hS; cases hS
    | some S' =>
      rw [stkG_cons hS'] at hS
      by_cases hc : nodeB x.2.x = true ∧ frk x ≤ S'.length
      · rw [if_pos hc] at hS
        obtain rfl := Option.some.inj hS
        rcases List.mem_cons.1 hp with rfl | hp
        · simp
        · have := stkG_lt h S' hS' p (List.mem_of_mem_drop hp)
          simp only [List.length_cons]; omega
      · rw [if_neg hc] at hS; cases hS
theorem stkG_len : ∀ (h : List PN) (S : List (Nat × Nat)), stkG h = some S → S.length ≤ h.length
  | [], S, hS => by obtain rfl := Option.some.inj hS; exact Nat.le_refl _
  | x :: h, S, hS => by
    cases hS' : stkG h with
    | none => unfold stkG at hS; rw [hS'] at hS; cases hS
    | some S' =>
      have ih := stkG_len h S' hS'
      rw [stkG_cons hS'] at hS
      by_cases hc : nodeB x.2.x = true ∧ frk x ≤ S'.length
      · rw [if_pos hc] at hS
        obtain rfl := Option.some.inj hS
        simp only [List.length_cons, List.length_drop]; omega
      · rw [if_neg hc] at hS; cases hS
/-- What waits ends where its block says. -/
theorem stkG_mem : ∀ (h : List PN) (S : List (Nat × Nat)), stkG h = some S → ∀ p ∈ S, ∃ x S', h.reverse[p.1]? = some x ∧ stkG (h.reverse.take p.1).reverse = some S' ∧ p.2 = endG S' x
  | [], S, hS, p, hp => by obtain rfl := Option.some.inj hS; cases hp
  | x :: h, S, hS, p, hp => by
    cases hS' : stkG h with
    | none => unfold stkG at hS; rw [hS'] at hS; cases hS
    | some S' =>
      have hl := stkG_lt h S' hS'
      rw [stkG_cons hS'] at hS
      by_cases hc : nodeB x.2.x = true ∧ frk x ≤ S'.length
      · rw [if_pos hc] at hS
        obtain rfl := Option.some.inj hS
        rcases List.mem_cons.1 hp with rfl | hp
        · refine ⟨x, S', ?_, ?_, rfl⟩
          · rw [List.reverse_cons, List.getElem?_append_right (by simp)]; simp
          · rw [List.reverse_cons, List.take_append_of_le_length (by simp), List.take_of_length_le (by simp), List.reverse_reverse]; exact hS'
        · have hp' := List.mem_of_mem_drop hp
          obtain ⟨y, S2, a, b, c⟩ := stkG_mem h S' hS' p hp'
          have := hl p hp'
          exact ⟨y, S2, by rw [List.reverse_cons, List.getElem?_append_left (by simpa using this)]; exact a, by rw [List.reverse_cons, List.take_append_of_le_length (by simp; omega)]; exact b, c⟩
      · rw [if_neg hc] at hS; cases hS
/-- The cells of a subproof. -/
def subC (x : PN) (e : Nat) (pv : Value) : Array Value := #[.int .i64 x.2.x.k, .int .i64 x.2.x.f, .int .i64 x.2.x.t.1, .slice x.2.A0 x.2.n0 x.2.c0, .slice x.2.A1 x.2.n1 x.2.c1, .int .i64 (x.1 : Int), .int .i64 (e : Int), pv]
def SubG (W : World) (D : Nat) (blk : Nat → Nat) (k : Nat) (x : PN) (S : List (Nat × Nat)) (pv : Value) : Prop :=
  BlkIs W (blk k) 86 (subC x (endG S x) pv) ∧ W.ownsRow D 87 1 pv (frk x) ((S.take (frk x)).map fun p => ptrV (blk p.1))
/-- What memory holds while the nodes are read. Rb, Lb: the results' boxes; Ab, Wb: the boxes of the list of all subproofs and of those that wait; Ro: the row of all. -/
def InvG (w : World) (n D Rb Lb Ro Ab Wb : Nat) (pre : List PN) (W : World) : Prop :=
  ∃ (S : List (Nat × Nat)) (blk : Nat → Nat) (pvs : Nat → Value) (wv : Value) (cs : Array Value),
    stkG pre.reverse = some S ∧ BlkIs W Wb 78 #[wv] ∧ W.ownsRow D 87 1 wv S.length (S.reverse.map fun p => ptrV (blk p.1)) ∧
    BlkIs W Ab 78 #[.slice (some ⟨Ro, 0, none⟩) n n] ∧ (BlkIs W Ro 87 cs ∧ cs.size = n) ∧
    (∀ k x, pre[k]? = some x → (∀ k' x', k < k' → pre[k']? = some x' → x'.1 ≠ x.1) → cs[x.1]? = some (ptrV (blk k))) ∧
    BlkIs W Rb 78 #[.slice none 0 0] ∧ BlkIs W Lb 4 #[.bool false] ∧
    (∀ k x, pre[k]? = some x → D ≤ blk k ∧ wv.ownBlock ≠ some (blk k) ∧ (∀ q, (pvs k).ownBlock = some q → wv.ownBlock ≠ some q) ∧ ∃ S', stkG (pre.take k).reverse = some S' ∧ SubG W D blk k x S' (pvs k)) ∧
    Below w.heap.size w W
/-- What is told abides steps that turn nothing but new blocks and blocks that are no cells. -/
theorem InvG.same {w W W' : World} {n D Rb Lb Ro Ab Wb : Nat} {pre : List PN} (h : InvG w n D Rb Lb Ro Ab Wb pre W) (hs : Same (fun _ => False) W W') (hb : Below w.heap.size w W') : InvG w n D Rb Lb Ro Ab Wb pre W' := by
  obtain ⟨S, blk, pvs, wv, cs, h1, h2, h3, h4, ⟨h5, h5'⟩, h6, h7, h8, h9, h10⟩ := h
  refine ⟨S, blk, pvs, wv, cs, h1, h2.same hs id, row_same h3 hs (fun _ _ => id), h4.same hs id, ⟨h5.same hs id, h5'⟩, h6, h7.same hs id, h8.same hs id, fun k x hk => ?_, hb⟩
  obtain ⟨a, b, c, S', d, e, f⟩ := h9 k x hk
  exact ⟨a, b, c, S', d, e.same hs id, row_same f hs (fun _ _ => id)⟩
theorem InvG.below {w W : World} {n D Rb Lb Ro Ab Wb : Nat} {pre : List PN} (h : InvG w n D Rb Lb Ro Ab Wb pre W) : Below w.heap.size w W := by
  obtain ⟨_, _, _, _, _, _, _, _, _, _, _, _, _, _, hb⟩ := h
  exact hb
theorem InvG.own {w : World} {n D Rb Lb Ro Ab Wb B : Nat} (hB : w.heap.size ≤ B) : OwnFrom B (InvG w n D Rb Lb Ro Ab Wb) := fun s X Y row hs hg hr => by
  obtain ⟨S, blk, pvs, wv, cs, h1, h2, h3, h4, h5, h6, h7, h8, h9, hb⟩ := id hs
  refine hs.same (fun k cs t f hk _ => ?_) (hb.grown hg hb.size (fun k e => by have := (hr k e).1; omega))
  refine (hg.block k (Array.getElem?_eq_some_iff.1 hk).1 (fun e => ?_)).trans hk
  obtain ⟨_, o, ho, hc⟩ := hr k e.symm
  rw [hk] at ho
  obtain rfl := Option.some.inj ho
  cases hc
theorem own_ne {W : World} {g : Nat} {t e : TypeId} {cs : Array Value} {base size n : Nat} {v : Value} {xs : List Value} (h : BlkIs W g t cs) (hr : W.ownsRow base e size v n xs) (hne : t ≠ e) : v.ownBlock ≠ some g := by
  intro e'
  rcases hr.2 with ⟨rfl, _⟩ | ⟨g', cap, cur, rfl, _, hg, _⟩
  · cases e'
  · obtain rfl : g' = g := by injection e'
    rw [show W.heap[g']? = _ from h] at hg
    injection hg with hg
    injection hg with _ h2 _
    exact hne h2
/-- Where a subproof ends of which so many parts have been laid. -/
def endQ (S : List (Nat × Nat)) (x : PN) (q : Nat) : Nat := if q = 0 then x.1 + 1 else (S.getD (q - 1) (0, 0)).2
/-- What memory holds when q parts have been laid. -/
def LoopG (w W : World) (D Wb bx : Nat) (x : PN) (S : List (Nat × Nat)) (blk : Nat → Nat) (A2 : Option Addr) (c2 q : Nat) (wr : World) : Prop :=
  BlkIs wr Wb 78 #[.slice A2 (S.length - q) c2] ∧ wr.ownsRow D 87 1 (.slice A2 (S.length - q) c2) (S.length - q) ((S.drop q).reverse.map fun p => ptrV (blk p.1)) ∧
  (∃ pv, BlkIs wr bx 86 (subC x (endQ S x q) pv) ∧ wr.ownsRow W.heap.size 87 1 pv q ((S.take q).map fun p => ptrV (blk p.1))) ∧
  Same (fun k => k = Wb) W wr ∧ KeepsOthers W wr ∧ Below w.heap.size w wr
theorem loopG_parts {S : List (Nat × Nat)} {blk : Nat → Nat} {q : Nat} (hq : q < S.length) : ∃ p, S[q]? = some p ∧ p ∈ S ∧ (S.getD q (0, 0)) = p ∧
    ((S.drop q).reverse.map fun p => ptrV (blk p.1)) = ((S.drop (q + 1)).reverse.map fun p => ptrV (blk p.1)) ++ [ptrV (blk p.1)] ∧ ((S.take (q + 1)).map fun p => ptrV (blk p.1)) = ((S.take q).map fun p => ptrV (blk p.1)) ++ [ptrV (blk p.1)] := by
  refine ⟨S[q], List.getElem?_eq_getElem hq, List.getElem_mem _, by rw [List.getD_eq_getElem?_getD, List.getElem?_eq_getElem hq]; rfl, ?_, ?_⟩
  · rw [List.drop_eq_getElem_cons hq, List.reverse_cons, List.map_append]; rfl
  · rw [List.take_add_one, List.getElem?_eq_getElem hq, List.map_append]; rfl
/-- One part more. -/
theorem LoopG.step {w W wr w3 : World} {D Wb bx : Nat} {x : PN} {S : List (Nat × Nat)} {blk : Nat → Nat} {gw c2 q m : Nat} {Ap : Option Addr} {cp g' cap' : Nat} {p : Nat × Nat} {o : Obj}
    (l1 : BlkIs wr Wb 78 #[.slice (some ⟨gw, 0, none⟩) (m + 1) c2]) (l2 : wr.ownsRow D 87 1 (.slice (some ⟨gw, 0, none⟩) (m + 1) c2) (m + 1) ((S.drop q).reverse.map fun p => ptrV (blk p.1)))
    (l3 : BlkIs wr bx 86 (subC x (endQ S x q) (.slice Ap q cp))) (l4 : wr.ownsRow W.heap.size 87 1 (.slice Ap q cp) q ((S.take q).map fun p => ptrV (blk p.1)))
    (l5 : Same (fun k => k = Wb) W wr) (l6 : KeepsOthers W wr) (l7 : Below w.heap.size w wr) (hm : S.length - q = m + 1)
    (hpd : ((S.drop q).reverse.map fun p => ptrV (blk p.1)) = ((S.drop (q + 1)).reverse.map fun p => ptrV (blk p.1)) ++ [ptrV (blk p.1)]) (hpt : ((S.take (q + 1)).map fun p => ptrV (blk p.1)) = ((S.take q).map fun p => ptrV (blk p.1)) ++ [ptrV (blk p.1)])
    (hpg : S.getD q (0, 0) = p) (hg : (wr.alloc o).grownBy w3 (Value.slice Ap q cp).ownBlock) (hown : w3.ownsRow W.heap.size 87 1 (.slice (some ⟨g', 0, none⟩) (q + 1) cap') (q + 1) (((S.take q).map fun p => ptrV (blk p.1)) ++ [ptrV (blk p.1)]))
    (hbx : W.heap.size ≤ bx) (hWb : Wb < W.heap.size) (hgw : gw < W.heap.size) (hD : Wb < D) (hwW : w.heap.size ≤ Wb) :
    LoopG w W D Wb bx x S blk (some ⟨gw, 0, none⟩) c2 (q + 1) (((w3.setCell ⟨bx, 7, none⟩ (.slice (some ⟨g', 0, none⟩) (q + 1) cap')).setCell ⟨bx, 6, none⟩ (.int .i64 (p.2 : Int))).setCell ⟨Wb, 0, none⟩ (.slice (some ⟨gw, 0, none⟩) m c2)) := by
  have hpv : ∀ k, (Value.slice Ap q cp).ownBlock = some k → W.heap.size ≤ k ∧ k < wr.heap.size := fun k hk => l4.lt k hk
  have hpb := own_ne l3 l4 (by decide)
  have hs3 : Same (fun k => (Value.slice Ap q cp).ownBlock = some k) wr w3 := (same_alloc _ wr o).trans (same_grown hg (fun k e => e))
  have k1 := l1.same hs3 (fun e => by have := hpv _ e; omega)
  have k3 := l3.same hs3 hpb
  have hgb : g' ≠ bx := fun e => own_ne k3 hown (by decide) (by show some g' = some bx; rw [e])
  have hgs := (hown.lt g' rfl).1
  have hgD := (l2.lt gw rfl).1
  have e1 : S.length - (q + 1) = m := by omega
  have hlen : ((S.drop (q + 1)).reverse.map fun p => ptrV (blk p.1)).length = m := by rw [List.length_map, List.length_reverse, List.length_drop]; omega
  have n3 : w3.heap.size ≤ w3.heap.size := Nat.le_refl _
  refine ⟨?_, ?_, ⟨.slice (some ⟨g', 0, none⟩) (q + 1) cap', ?_, ?_⟩, ?_, ?_, ?_⟩
  · rw [e1]
    have := ((k1.far (g' := bx) (by omega) 7 (.slice (some ⟨g', 0, none⟩) (q + 1) cap')).far (g' := bx) (by omega) 6 (.int .i64 (p.2 : Int))).set 0 (.slice (some ⟨gw, 0, none⟩) m c2)
    simpa using this
  · rw [e1]
    have h1 := own_cut l2 (Nat.le_succ m)
    rw [hpd, List.take_append_of_le_length (by omega), List.take_of_length_le (by omega)] at h1
    have h2 := row_same h1 hs3 (fun k hk e => by obtain rfl : gw = k := Option.some.inj (show some gw = some k from hk); have := hpv _ e; omega)
    refine row_same (R := fun k => k = bx ∨ k = Wb) h2 ?_ (fun k hk e => by obtain rfl : gw = k := Option.some.inj (show some gw = some k from hk); rcases e with e | e <;> omega)
    exact ((same_set (.inl rfl)).trans (same_set (.inl rfl))).trans (same_set (.inr rfl))
  · have := ((k3.set 7 (.slice (some ⟨g', 0, none⟩) (q + 1) cap')).set 6 (.int .i64 (p.2 : Int))).far (g' := Wb) (by omega) 0 (.slice (some ⟨gw, 0, none⟩) m c2)
    have e2 : endQ S x (q + 1) = p.2 := by unfold endQ; rw [if_neg (Nat.succ_ne_zero q), Nat.add_sub_cancel, hpg]
    rw [e2]
    exact this
  · rw [hpt]
    refine row_same (R := fun k => k = bx ∨ k = Wb) hown ?_ (fun k hk e => by obtain rfl : g' = k := Option.some.inj (show some g' = some k from hk); rcases e with e | e <;> omega)
    exact ((same_set (.inl rfl)).trans (same_set (.inl rfl))).trans (same_set (.inr rfl))
  · intro k cs t f hk hR
    have hkl : k < W.heap.size := (Array.getElem?_eq_some_iff.1 hk).1
    have h1 := hs3 k cs t f (l5 k cs t f hk hR) (fun e => by have := hpv _ e; omega)
    have h2 : Same (fun k => k = bx ∨ k = Wb) w3 (((w3.setCell ⟨bx, 7, none⟩ (.slice (some ⟨g', 0, none⟩) (q + 1) cap')).setCell ⟨bx, 6, none⟩ (.int .i64 (p.2 : Int))).setCell ⟨Wb, 0, none⟩ (.slice (some ⟨gw, 0, none⟩) m c2)) :=
      ((same_set (.inl rfl)).trans (same_set (.inl rfl))).trans (same_set (.inr rfl))
    exact h2 k cs t f h1 (fun e => by rcases e with e | e; omega; exact hR e)
  · exact ((((l6.trans (KeepsOthers.alloc _ _)).trans (KeepsOthers.of_grownBy hg (own_isCells (l4.alloc o)))).trans (KeepsOthers.setCell _ _ _)).trans (KeepsOthers.setCell _ _ _)).trans (KeepsOthers.setCell _ _ _)
  · have hb3 := (l7.alloc l7.size o).grown hg (Nat.le_trans l7.size (by simp)) (fun k e => by have := hpv _ e; omega)
    exact ((hb3.setCell (p := ⟨bx, 7, none⟩) (by show w.heap.size ≤ bx; omega) _).setCell (p := ⟨bx, 6, none⟩) (by show w.heap.size ≤ bx; omega) _).setCell (p := ⟨Wb, 0, none⟩) hwW _
/-- No proof: the results are written. -/
theorem res_no {w W w1 : World} {D : Nat} {t1 t2 : TypeId} (hBW : Below w.heap.size w W) (hb : Below W.heap.size W w1) (r0 : BlkIs W w.heap.size t1 #[.slice none 0 0]) (r1 : BlkIs W (w.heap.size + 1) t2 #[.bool false]) :
    KeepsFrom D W ((w1.setCell ⟨w.heap.size, 0, none⟩ (.slice none 0 0)).setCell ⟨w.heap.size + 1, 0, none⟩ (.bool false)) ∧ BlkIs ((w1.setCell ⟨w.heap.size, 0, none⟩ (.slice none 0 0)).setCell ⟨w.heap.size + 1, 0, none⟩ (.bool false)) w.heap.size t1 #[.slice none 0 0] ∧
      BlkIs ((w1.setCell ⟨w.heap.size, 0, none⟩ (.slice none 0 0)).setCell ⟨w.heap.size + 1, 0, none⟩ (.bool false)) (w.heap.size + 1) t2 #[.bool false] ∧ Below w.heap.size w ((w1.setCell ⟨w.heap.size, 0, none⟩ (.slice none 0 0)).setCell ⟨w.heap.size + 1, 0, none⟩ (.bool false)) := by
  refine ⟨(((keeps_below hb).trans (KeepsOthers.setCell _ _ _)).trans (KeepsOthers.setCell _ _ _)).from _, ?_, ?_, ?_⟩
  · have := ((r0.next hb).set 0 (.slice none 0 0)).far (g' := w.heap.size + 1) (by omega) 0 (.bool false)
    simpa using this
  · have := ((r1.next hb).far (g' := w.heap.size) (by omega) 0 (.slice none 0 0)).set 0 (.bool false)
    simpa using this
  · exact ((hBW.trans (hb.mono hBW.size)).setCell (p := ⟨w.heap.size, 0, none⟩) (Nat.le_refl _) _).setCell (p := ⟨w.heap.size + 1, 0, none⟩) (Nat.le_succ _) _
/-- One node more. -/
theorem InvG.step {w W W' : World} {n D Rb Lb Ro Ab Wb : Nat} {pre : List PN} {x : PN} {S : List (Nat × Nat)} {blk : Nat → Nat} {pvs : Nat → Value} {wv wv' pv : Value} {cs : Array Value} {bx : Nat} {R : Nat → Prop}
    (h1 : stkG pre.reverse = some S) (hv : nodeB x.2.x = true) (hf : frk x ≤ S.length)
    (h6 : ∀ k x, pre[k]? = some x → (∀ k' x', k < k' → pre[k']? = some x' → x'.1 ≠ x.1) → cs[x.1]? = some (ptrV (blk k)))
    (h9 : ∀ k x, pre[k]? = some x → D ≤ blk k ∧ wv.ownBlock ≠ some (blk k) ∧ (∀ q, (pvs k).ownBlock = some q → wv.ownBlock ≠ some q) ∧ ∃ S', stkG (pre.take k).reverse = some S' ∧ SubG W D blk k x S' (pvs k))
    (hs : Same R W W') (hR : ∀ k, R k → k < D ∨ wv.ownBlock = some k)
    (hxs : x.1 < cs.size) (hcs : cs.size = n)
    (k2 : BlkIs W' Wb 78 #[wv']) (k3 : W'.ownsRow D 87 1 wv' ((S.drop (frk x)).length + 1) (((S.drop (frk x)).reverse.map fun p => ptrV (blk p.1)) ++ [ptrV bx]))
    (k4 : BlkIs W' Ab 78 #[.slice (some ⟨Ro, 0, none⟩) n n]) (k5 : BlkIs W' Ro 87 (cs.setIfInBounds x.1 (ptrV bx)))
    (k7 : BlkIs W' Rb 78 #[.slice none 0 0]) (k8 : BlkIs W' Lb 4 #[.bool false])
    (k9 : BlkIs W' bx 86 (subC x (endG S x) pv)) (k10 : W'.ownsRow D 87 1 pv (frk x) ((S.take (frk x)).map fun p => ptrV (blk p.1)))
    (hbx : W.heap.size ≤ bx) (hD : D ≤ bx) (hpv : ∀ q, pv.ownBlock = some q → W.heap.size ≤ q)
    (hwv : ∀ q, wv'.ownBlock = some q → (wv.ownBlock = some q ∧ q < W.heap.size) ∨ (W.heap.size ≤ q ∧ q ≠ bx ∧ pv.ownBlock ≠ some q)) (hb : Below w.heap.size w W') :
    InvG w n D Rb Lb Ro Ab Wb (pre ++ [x]) W' := by
  have hl := stkG_lt _ _ h1
  have hlen : pre.reverse.length = pre.length := List.length_reverse
  have old : ∀ {k}, k < pre.length → (fun i => if i = pre.length then bx else blk i) k = blk k := fun {k} hk => if_neg (by omega)
  have new : (fun i => if i = pre.length then bx else blk i) pre.length = bx := if_pos rfl
  have mapS : ∀ (T : List (Nat × Nat)), (∀ p ∈ T, p.1 < pre.length) → T.map (fun p => ptrV ((fun i => if i = pre.length then bx else blk i) p.1)) = T.map fun p => ptrV (blk p.1) := fun T hT => List.map_congr_left fun p hp => by rw [old (hT p hp)]
  have hlS : ∀ p ∈ S, p.1 < pre.length := fun p hp => by have := hl p hp; omega
  refine ⟨(pre.length, endG S x) :: S.drop (frk x), fun i => if i = pre.length then bx else blk i, fun i => if i = pre.length then pv else pvs i, wv', cs.setIfInBounds x.1 (ptrV bx), ?_, k2, ?_, k4, ⟨k5, by simp [hcs]⟩, ?_, k7, k8, ?_, hb⟩
  · rw [List.reverse_append, List.reverse_singleton, List.singleton_append, stkG_cons h1, if_pos ⟨hv, hf⟩, hlen]
  · rw [List.reverse_cons, List.map_append, List.map_singleton]
    have e := mapS (S.drop (frk x)).reverse (fun p hp => hlS p (List.mem_of_mem_drop (List.mem_reverse.1 hp)))
    rw [e]
    show W'.ownsRow D _ 1 wv' ((S.drop (frk x)).length + 1) (_ ++ [ptrV ((fun i => if i = pre.length then bx else blk i) pre.length)])
    rw [new]
    exact k3
  · intro k y hk hlast
    rcases Nat.lt_trichotomy k pre.length with hlt | rfl | hgt
    · rw [List.getElem?_append_left hlt] at hk
      rw [old hlt]
      have hne : x.1 ≠ y.1 := hlast pre.length x hlt (by simp)
      rw [Array.getElem?_setIfInBounds_ne hne]
      exact h6 k y hk (fun k' x' hlt' hk' => hlast k' x' hlt' (by rw [List.getElem?_append_left (List.getElem?_eq_some_iff.1 hk').1]; exact hk'))
    · obtain rfl : x = y := by simpa using hk
      rw [new, Array.getElem?_setIfInBounds_self, if_pos hxs]
    · rw [List.getElem?_eq_none (by simp; omega)] at hk; cases hk
  · intro k y hk
    rcases Nat.lt_trichotomy k pre.length with hlt | rfl | hgt
    · rw [List.getElem?_append_left hlt] at hk
      obtain ⟨a, b, c, S', d, e, f⟩ := h9 k y hk
      have hkb : blk k < W.heap.size := e.lt
      have hns : ¬ R (blk k) := fun hr => by
        rcases hR _ hr with h | h
        · omega
        · exact b h
      have hpk : (fun i => if i = pre.length then pv else pvs i) k = pvs k := if_neg (by omega)
      rw [List.take_append_of_le_length (by omega), old hlt, hpk]
      refine ⟨a, ?_, ?_, S', d, ?_, ?_⟩
      · intro e'
        rcases hwv _ e' with h | h
        · exact b h.1
        · omega
      · intro q hq e'
        rcases hwv _ e' with h | h
        · exact c q hq h.1
        · have := (f.lt q hq).2; omega
      · rw [old hlt]; exact e.same hs hns
      · have e' := mapS (S'.take (frk y)) (fun p hp => by have := stkG_lt _ _ d p (List.mem_of_mem_take hp); rw [List.length_reverse, List.length_take] at this; omega)
        rw [e']
        refine row_same f hs (fun q hq hr => ?_)
        rcases hR _ hr with h | h
        · have := (f.lt q hq).1; omega
        · exact c q hq h
    · obtain rfl : x = y := by simpa using hk
      have hpk : (fun i => if i = pre.length then pv else pvs i) pre.length = pv := if_pos rfl
      rw [List.take_append_of_le_length (Nat.le_refl _), List.take_length, new, hpk]
      refine ⟨hD, ?_, ?_, S, h1, ?_, ?_⟩
      · intro e'
        rcases hwv _ e' with h | h
        · omega
        · exact h.2.1 rfl
      · intro q hq e'
        rcases hwv _ e' with h | h
        · have := hpv q hq; omega
        · exact h.2.2 hq
      · rw [new]; exact k9
      · rw [mapS (S.take (frk x)) (fun p hp => hlS p (List.mem_of_mem_take hp))]; exact k10
    · rw [List.getElem?_eq_none (by simp; omega)] at hk; cases hk
theorem below_between {n : Nat} {w W W' : World} (h : Below n w W) (h' : Below n w W') (hs : W.heap.size ≤ W'.heap.size) : Below n W W' :=
  ⟨h'.os.trans h.os.symm, h'.tape.trans h.tape.symm, h'.output.trans h.output.symm, hs, fun k hk => (h'.block k hk).trans (h.block k hk).symm⟩
theorem own_block (A : Option Addr) (n m c c' : Nat) : (Value.slice A n c).ownBlock = (Value.slice A m c').ownBlock := by cases A <;> rfl
/-- All parts are laid: the node is among those that wait, and among all. -/
theorem LoopG.done {w W wr w3 : World} {n D Rb Lb Ro Ab Wb bx B0 : Nat} {pre : List PN} {x : PN} {S : List (Nat × Nat)} {blk : Nat → Nat} {pvs : Nat → Value} {A2 : Option Addr} {c2 g' cap' : Nat} {cs : Array Value} {o : Obj}
    (h1 : stkG pre.reverse = some S) (hv : nodeB x.2.x = true) (hf : frk x ≤ S.length) (h3 : W.ownsRow D 87 1 (.slice A2 S.length c2) S.length (S.reverse.map fun p => ptrV (blk p.1)))
    (h4 : BlkIs W Ab 78 #[.slice (some ⟨Ro, 0, none⟩) n n]) (h5 : BlkIs W Ro 87 cs) (h5' : cs.size = n)
    (h6 : ∀ k x, pre[k]? = some x → (∀ k' x', k < k' → pre[k']? = some x' → x'.1 ≠ x.1) → cs[x.1]? = some (ptrV (blk k)))
    (h7 : BlkIs W Rb 78 #[.slice none 0 0]) (h8 : BlkIs W Lb 4 #[.bool false])
    (h9 : ∀ k x, pre[k]? = some x → D ≤ blk k ∧ (Value.slice A2 S.length c2).ownBlock ≠ some (blk k) ∧ (∀ q, (pvs k).ownBlock = some q → (Value.slice A2 S.length c2).ownBlock ≠ some q) ∧ ∃ S', stkG (pre.take k).reverse = some S' ∧ SubG W D blk k x S' (pvs k)) (hBW : Below w.heap.size w W)
    (hL : LoopG w W D Wb bx x S blk A2 c2 (frk x) wr) (hg : (wr.alloc o).grownBy w3 (Value.slice A2 (S.length - frk x) c2).ownBlock)
    (hown : w3.ownsRow D 87 1 (.slice (some ⟨g', 0, none⟩) (S.length - frk x + 1) cap') (S.length - frk x + 1) (((S.drop (frk x)).reverse.map fun p => ptrV (blk p.1)) ++ [ptrV bx]))
    (hsep : some g' = (Value.slice A2 (S.length - frk x) c2).ownBlock ∨ (wr.alloc o).heap.size ≤ g') (hbx : W.heap.size ≤ bx) (hat : x.1 < n)
    (hR : w.heap.size ≤ Rb ∧ w.heap.size ≤ Lb ∧ w.heap.size ≤ Ro ∧ w.heap.size ≤ Ab ∧ w.heap.size ≤ Wb ∧ Rb < D ∧ Lb < D ∧ Ro < D ∧ Ab < D ∧ Wb < D ∧ D ≤ W.heap.size) (hne : Wb ≠ Ro ∧ Wb ≠ Rb ∧ Wb ≠ Lb ∧ Wb ≠ Ab ∧ Ro ≠ Rb ∧ Ro ≠ Lb ∧ Ro ≠ Ab) :
    KeepsFrom B0 W ((w3.setCell ⟨Wb, 0, none⟩ (.slice (some ⟨g', 0, none⟩) (S.length - frk x + 1) cap')).setCell ⟨Ro, x.1, none⟩ (ptrV bx)) ∧
      Below w.heap.size W ((w3.setCell ⟨Wb, 0, none⟩ (.slice (some ⟨g', 0, none⟩) (S.length - frk x + 1) cap')).setCell ⟨Ro, x.1, none⟩ (ptrV bx)) ∧
      InvG w n D Rb Lb Ro Ab Wb (pre ++ [x]) ((w3.setCell ⟨Wb, 0, none⟩ (.slice (some ⟨g', 0, none⟩) (S.length - frk x + 1) cap')).setCell ⟨Ro, x.1, none⟩ (ptrV bx)) ∧
      D ≤ ((w3.setCell ⟨Wb, 0, none⟩ (.slice (some ⟨g', 0, none⟩) (S.length - frk x + 1) cap')).setCell ⟨Ro, x.1, none⟩ (ptrV bx)).heap.size ∧
      ∀ {k t cs}, BlkIs W k t cs → k < D → k ≠ Wb → k ≠ Ro → BlkIs ((w3.setCell ⟨Wb, 0, none⟩ (.slice (some ⟨g', 0, none⟩) (S.length - frk x + 1) cap')).setCell ⟨Ro, x.1, none⟩ (ptrV bx)) k t cs := by
  obtain ⟨l1, l2, ⟨pv, l3, l4⟩, l5, l6, l7⟩ := hL
  obtain ⟨r1, r2, r3, r4, r5, r6, r7, r8, r9, r10, r11⟩ := hR
  obtain ⟨n1, n2, n3, n4, n5, n6, n7⟩ := hne
  have hob : (Value.slice A2 (S.length - frk x) c2).ownBlock = (Value.slice A2 S.length c2).ownBlock := own_block _ _ _ _ _
  have hs3 : Same (fun k => (Value.slice A2 S.length c2).ownBlock = some k) wr w3 := (same_alloc _ wr o).trans (same_grown hg (fun k e => by rw [← hob]; exact e))
  have hwD : ∀ k, (Value.slice A2 S.length c2).ownBlock = some k → D ≤ k ∧ k < W.heap.size := h3.lt
  have hbl := l3.lt
  have k3 := l3.same hs3 (fun e => by have := hwD _ e; omega)
  have hgb : g' ≠ bx := fun e => own_ne k3 hown (by decide) (by show some g' = some bx; rw [e])
  have hgD := (hown.lt g' rfl).1
  have hsz3 : wr.heap.size ≤ w3.heap.size := Nat.le_trans (by simp) hg.size
  have hszW := l6.size
  have hset : Same (fun k => k = Wb ∨ k = Ro) w3 ((w3.setCell ⟨Wb, 0, none⟩ (.slice (some ⟨g', 0, none⟩) (S.length - frk x + 1) cap')).setCell ⟨Ro, x.1, none⟩ (ptrV bx)) := (same_set (.inl rfl)).trans (same_set (.inr rfl))
  have hall : Same (fun k => k = Wb ∨ k = Ro ∨ (Value.slice A2 S.length c2).ownBlock = some k) W ((w3.setCell ⟨Wb, 0, none⟩ (.slice (some ⟨g', 0, none⟩) (S.length - frk x + 1) cap')).setCell ⟨Ro, x.1, none⟩ (ptrV bx)) :=
    ((l5.more (fun k e => .inl e)).trans (hs3.more (fun k e => .inr (.inr e)))).trans (hset.more (fun k e => e.elim .inl (fun e => .inr (.inl e))))
  have hb3 : Below w.heap.size w w3 := (l7.alloc l7.size o).grown hg (Nat.le_trans l7.size (by simp)) (fun k e => by rw [hob] at e; have := hwD k e; omega)
  have hb : Below w.heap.size w ((w3.setCell ⟨Wb, 0, none⟩ (.slice (some ⟨g', 0, none⟩) (S.length - frk x + 1) cap')).setCell ⟨Ro, x.1, none⟩ (ptrV bx)) := (hb3.setCell (p := ⟨Wb, 0, none⟩) r5 _).setCell (p := ⟨Ro, x.1, none⟩) r3 _
  have hko : KeepsOthers W ((w3.setCell ⟨Wb, 0, none⟩ (.slice (some ⟨g', 0, none⟩) (S.length - frk x + 1) cap')).setCell ⟨Ro, x.1, none⟩ (ptrV bx)) :=
    (((l6.trans (KeepsOthers.alloc _ _)).trans (KeepsOthers.of_grownBy hg (own_isCells (l2.alloc o)))).trans (KeepsOthers.setCell _ _ _)).trans (KeepsOthers.setCell _ _ _)
  have hnR : ∀ {k}, k < D → k ≠ Wb → k ≠ Ro → ¬ (k = Wb ∨ k = Ro ∨ (Value.slice A2 S.length c2).ownBlock = some k) := fun {k} h1 h2 h3 e => by
    rcases e with e | e | e
    · exact h2 e
    · exact h3 e
    · have := hwD k e; omega
  refine ⟨hko.from _, below_between hBW hb hko.size, ?_, Nat.le_trans r11 hko.size, fun h h1 h2 h3 => h.same hall (hnR h1 h2 h3)⟩
  have hdl : (S.drop (frk x)).length = S.length - frk x := List.length_drop
  refine InvG.step h1 hv hf h6 h9 hall ?_ (by rw [h5']; exact hat) h5' (wv' := .slice (some ⟨g', 0, none⟩) (S.length - frk x + 1) cap') (bx := bx) (pv := pv) ?_ ?_ (h4.same hall (hnR r9 (by omega) (by omega))) ?_ (h7.same hall (hnR r6 (by omega) (by omega))) (h8.same hall (hnR r7 (by omega) (by omega))) ?_ ?_ hbx (by omega) (fun q hq => (l4.lt q hq).1) ?_ hb
  · intro k e
    rcases e with e | e | e
    · left; omega
    · left; omega
    · exact .inr e
  · have := ((l1.same hs3 (fun e => by have := hwD _ e; omega)).set 0 (.slice (some ⟨g', 0, none⟩) (S.length - frk x + 1) cap')).far (g' := Ro) n1 x.1 (ptrV bx)
    simpa using this
  · rw [hdl]
    refine row_same hown hset (fun k hk e => ?_)
    obtain rfl : g' = k := Option.some.inj (show some g' = some k from hk)
    rcases e with e | e <;> omega
  · have h5w : BlkIs wr Ro 87 cs := h5.same l5 (by show ¬ Ro = Wb; omega)
    exact ((h5w.same hs3 (fun e => by have := hwD _ e; omega)).far (g' := Wb) (by omega) 0 _).set x.1 (ptrV bx)
  · exact k3.same hset (fun e => by rcases e with e | e <;> omega)
  · have hpv : ∀ q, pv.ownBlock = some q → W.heap.size ≤ q := fun q hq => (l4.lt q hq).1
    have h10 := row_same l4 hs3 (fun k hk e => by have := hpv k hk; have := hwD k e; omega)
    have h11 := row_same h10 hset (fun k hk e => by have := hpv k hk; rcases e with e | e <;> omega)
    exact own_less h11 r11
  · intro q hq
    obtain rfl : g' = q := Option.some.inj (show some g' = some q from hq)
    rcases hsep with e | e
    · rw [hob] at e
      exact .inl ⟨e.symm, (hwD _ e.symm).2⟩
    · simp at e
      refine .inr ⟨by omega, hgb, fun e' => ?_⟩
      have := (l4.lt g' e').2
      omega
end Go.Proofs.YtejgpooghengmaaDoor
