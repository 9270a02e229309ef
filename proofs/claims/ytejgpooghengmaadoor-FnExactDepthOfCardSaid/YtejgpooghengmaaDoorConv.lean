/-
  Subproofs in memory, by the index of their first node, when all nodes of a list have been read. No conditions.
-/
import Derived.Test.YtejgpooghengmaaDoorSubG
namespace Go.Proofs.YtejgpooghengmaaDoor
set_option linter.unusedVariables false
open Go.RowKit Go.Shelf Go.Deep

/-- The first nodes of the parts of a node's subproof. -/
def kids (xs : List N5) (i : Nat) : List Nat := (((stk (xs.drop (i + 1)) (i + 1)).getD []).take (forks (xs.getD i default).k)).map Prod.fst
/-- The index behind a node's subproof. -/
def endOf (xs : List N5) (i : Nat) : Nat := (endN 1 (xs.drop i) i).toNat
def turn (n : Nat) (p : Nat × Nat) : Nat × Nat := (n - 1 - p.1, p.2)

theorem conv {xs : List N5} {n : Nat} {g : Nat → NV} (hn : xs.length = n) (hx : ∀ j, j < n → xs[j]? = some (g j).x) : ∀ k, k ≤ n →
    (∀ S, stkG (upto (bk g n) k).reverse = some S → ∃ s, stk (xs.drop (n - k)) (n - k) = some s ∧ S = s.map (turn n) ∧ ∀ i, n - k ≤ i → i < n → nodeB (g i).x = true) ∧ (stkG (upto (bk g n) k).reverse = none → proofB xs = false)
  | 0, _ => by
    refine ⟨fun S hS => ⟨[], stk_nil (by omega), ?_, fun i h1 h2 => by omega⟩, fun h => by cases h⟩
    obtain rfl : [] = S := Option.some.inj hS
    rfl
  | k + 1, hk => by
    obtain ⟨ih1, ih2⟩ := conv hn hx k (by omega)
    have e : (upto (bk g n) (k + 1)).reverse = bk g n k :: (upto (bk g n) k).reverse := by rw [upto_succ, List.reverse_append]; rfl
    have hj : n - (k + 1) = n - 1 - k := by omega
    have hj1 : n - 1 - k + 1 = n - k := by omega
    have hxj := hx (n - 1 - k) (by omega)
    rw [e, hj]
    cases hS : stkG (upto (bk g n) k).reverse with
    | none =>
      refine ⟨fun S h => ?_, fun _ => ih2 hS⟩
      unfold stkG at h; rw [hS] at h; cases h
    | some S =>
      obtain ⟨s, hs, rfl, hv⟩ := ih1 S hS
      rw [stkG_cons hS]
      rw [← hj1] at hs
      have hf : frk (bk g n k) = forks (g (n - 1 - k)).x.k := rfl
      have hl : (s.map (turn n)).length = s.length := List.length_map _
      rw [hl]
      by_cases hc' : nodeB (bk g n k).2.x = true ∧ frk (bk g n k) ≤ s.length
      · have hc : nodeB (g (n - 1 - k)).x = true ∧ forks (g (n - 1 - k)).x.k ≤ s.length := hc'
        rw [if_pos hc']
        refine ⟨fun S h => ?_, fun h => by cases h⟩
        obtain rfl := Option.some.inj h
        refine ⟨_, by rw [stk_step hxj hs, if_neg (by omega)], ?_, fun i h1 h2 => ?_⟩
        · rw [List.map_cons, hf, List.map_drop]
          congr 1
          have hlen : (upto (bk g n) k).reverse.length = k := by rw [List.length_reverse, upto_length]
          unfold turn
          rw [hlen]
          refine Prod.ext (by show k = n - 1 - (n - 1 - k); omega) ?_
          show endG _ (bk g n k) = _
          unfold endG
          rw [hf]
          show (if _ then n - 1 - k + 1 else _) = _
          by_cases h0 : forks (g (n - 1 - k)).x.k = 0
          · rw [if_pos h0, if_pos h0]
          · rw [if_neg h0, if_neg h0, List.getD_eq_getElem?_getD, List.getD_eq_getElem?_getD, List.getElem?_map, List.getElem?_eq_getElem (by omega)]
            rfl
        · rcases Nat.eq_or_lt_of_le h1 with rfl | h1
          · exact hc.1
          · exact hv i (by omega) h2
      · have hc : ¬ (nodeB (g (n - 1 - k)).x = true ∧ forks (g (n - 1 - k)).x.k ≤ s.length) := hc'
        rw [if_neg hc']
        refine ⟨(fun S h => by cases h), fun _ => ?_⟩
        by_cases hv' : nodeB (g (n - 1 - k)).x = true
        · exact proofB_few hxj hs (Nat.lt_of_not_le (fun h => hc ⟨hv', h⟩))
        · exact proofB_elem hxj (by simpa using hv')
/-- All subproofs in memory. -/
def TreesAt (w' : World) (lo n : Nat) (xs : List N5) (ga : Nat) (g : Nat → NV) (blk : Nat → Nat) (pvs : Nat → Value) : Prop :=
  (∀ i, i < n → w'.cell? ⟨ga, i, none⟩ = some (ptrV (blk i))) ∧ ∀ i, i < n → lo ≤ blk i ∧ BlkIs w' (blk i) 86 (subC (i, g i) (endOf xs i) (pvs i)) ∧ w'.ownsRow lo 87 1 (pvs i) (kids xs i).length ((kids xs i).map fun c => ptrV (blk c))
theorem TreesAt.less {w' : World} {lo lo' n : Nat} {xs : List N5} {ga : Nat} {g : Nat → NV} {blk : Nat → Nat} {pvs : Nat → Value} (h : TreesAt w' lo n xs ga g blk pvs) (hl : lo' ≤ lo) : TreesAt w' lo' n xs ga g blk pvs :=
  ⟨h.1, fun i hi => by obtain ⟨a, b, c⟩ := h.2 i hi; exact ⟨Nat.le_trans hl a, b, own_less c hl⟩⟩
theorem TreesAt.same {R : Nat → Prop} {w w' : World} {lo n : Nat} {xs : List N5} {ga : Nat} {g : Nat → NV} {blk : Nat → Nat} {pvs : Nat → Value} {cs : Array Value} {t : TypeId} (h : TreesAt w lo n xs ga g blk pvs) (hg : BlkIs w ga t cs) (hs : Same R w w') (hR : ∀ k, R k → k < lo ∧ k ≠ ga) : TreesAt w' lo n xs ga g blk pvs :=
  ⟨fun i hi => ((hg.same hs (fun e => (hR _ e).2 rfl)).cell i).trans ((hg.cell i).symm.trans (h.1 i hi)), fun i hi => by
    obtain ⟨a, b, c⟩ := h.2 i hi
    exact ⟨a, b.same hs (fun e => by have := (hR _ e).1; omega), row_same c hs (fun k hk e => by have := (hR _ e).1; have := (c.lt k hk).1; omega)⟩⟩
theorem same_put {R : Nat → Prop} {W : World} {D : Nat} {o o' : Obj} (h : W.heap[D]? = some o) (hc : o.isCells = false) : Same R W (W.putObj D o') := fun k cs t f hk _ =>
  (World.putObj_heap_other (fun e => by rw [← e] at h; rw [hk] at h; obtain rfl := Option.some.inj h; cases hc)).trans hk
/-- What subproofsOf gives. -/
def SubsR (w : World) (B n : Nat) (xs : List N5) (e : Ending) (w' : World) : Prop := ∃ v, e = .returned (.tuple #[v, .bool (proofB xs)]) ∧ Below w.heap.size w w' ∧
  (proofB xs = true → ∃ ga g blk pvs, v = .slice (some ⟨ga, 0, none⟩) n n ∧ w.heap.size ≤ ga ∧ (∀ j, j < n → xs[j]? = some (g j).x ∧ InL w B (g j).A0 (g j).n0 (g j).x.t.2 ∧ InL w B (g j).A1 (g j).n1 (g j).x.m) ∧ TreesAt w' w.heap.size n xs ga g blk pvs)
theorem SubsR.no {w w' : World} {B n : Nat} {xs : List N5} {v : Value} (h : proofB xs = false) (hb : Below w.heap.size w w') : SubsR w B n xs (.returned (.tuple #[v, .bool false])) w' :=
  ⟨v, by rw [h], hb, fun e => by rw [h] at e; cases e⟩
theorem upto_at {α : Type} (f : Nat → α) {n k : Nat} (h : k < n) : (upto f n)[k]? = some (f k) := by
  unfold upto
  rw [List.getElem?_map, List.getElem?_range h]
  rfl
theorem upto_part {α : Type} (f : Nat → α) {n k : Nat} (h : k ≤ n) : (upto f n).take k = upto f k := by
  unfold upto
  rw [← List.map_take, List.take_range, Nat.min_eq_left h]
theorem InvG.trees {w W : World} {n D Rb Lb Ro Ab Wb : Nat} {xs : List N5} {g : Nat → NV} (h : InvG w n D Rb Lb Ro Ab Wb (upto (bk g n) n) W) (hn : xs.length = n) (hx : ∀ j, j < n → xs[j]? = some (g j).x) (h60 : n ≤ 60) :
    ∃ (d : Nat) (wv : Value), proofB xs = decide (d = 1) ∧ BlkIs W Wb 78 #[wv] ∧ (∃ A c, wv = .slice A d c) ∧ BlkIs W Ab 78 #[.slice (some ⟨Ro, 0, none⟩) n n] ∧ BlkIs W Rb 78 #[.slice none 0 0] ∧ BlkIs W Lb 4 #[.bool false] ∧
      (∃ cs, BlkIs W Ro 87 cs) ∧ ∃ blk pvs, TreesAt W D n xs Ro g blk pvs := by
  obtain ⟨S, blk, pvs, wv, cs, h1, h2, h3, h4, ⟨h5, h5'⟩, h6, h7, h8, h9, hb⟩ := h
  obtain ⟨s, hs, rfl, hv⟩ := (conv hn hx n (Nat.le_refl _)).1 S h1
  rw [Nat.sub_self, List.drop_zero] at hs
  obtain ⟨A, c, e, _⟩ := own_slice h3
  have hall : ∀ x ∈ xs, nodeB x = true := fun x hm => by
    obtain ⟨j, hj⟩ := List.getElem?_of_mem hm
    have hjn : j < n := by have := (List.getElem?_eq_some_iff.1 hj).1; omega
    rw [hx j hjn] at hj
    obtain rfl := Option.some.inj hj
    exact hv j (by omega) hjn
  have hlen : (s.map (turn n)).length = s.length := List.length_map _
  refine ⟨s.length, wv, proofB_stk (by omega) hall hs, h2, ⟨A, c, by rw [e, hlen]⟩, h4, h7, h8, ⟨cs, h5⟩, fun i => blk (n - 1 - i), fun i => pvs (n - 1 - i), fun i hi => ?_, fun i hi => ?_⟩
  · have hk : (upto (bk g n) n)[n - 1 - i]? = some (i, g i) := by rw [upto_at _ (by omega)]; unfold bk; rw [show n - 1 - (n - 1 - i) = i by omega]
    have := h6 (n - 1 - i) (i, g i) hk (fun k' x' hlt hk' => by
      have hk'n : k' < n := by have := (List.getElem?_eq_some_iff.1 hk').1; rw [upto_length] at this; exact this
      rw [upto_at _ hk'n] at hk'
      obtain rfl := Option.some.inj hk'
      show n - 1 - k' ≠ i
      omega)
    exact (h5.cell i).trans this
  · have hk : (upto (bk g n) n)[n - 1 - i]? = some (i, g i) := by rw [upto_at _ (by omega)]; unfold bk; rw [show n - 1 - (n - 1 - i) = i by omega]
    obtain ⟨a, _, _, S', hS', hsub, hrow⟩ := h9 (n - 1 - i) (i, g i) hk
    rw [upto_part _ (by omega)] at hS'
    obtain ⟨s', hs', rfl, _⟩ := (conv hn hx (n - 1 - i) (by omega)).1 S' hS'
    rw [show n - (n - 1 - i) = i + 1 by omega] at hs'
    have hxi := hx i hi
    have hgd : xs.getD i default = (g i).x := by rw [List.getD_eq_getElem?_getD, hxi]; rfl
    have hkid : kids xs i = ((s'.take (forks (g i).x.k)).map Prod.fst) := by unfold kids; rw [hs', hgd]; rfl
    have hfs : forks (g i).x.k ≤ s'.length := by
      have := hrow.1
      rw [List.length_map, List.length_take, List.length_map] at this
      have hf : frk (i, g i) = forks (g i).x.k := rfl
      rw [hf] at this
      omega
    have hstep := stk_step hxi hs'
    rw [if_neg (by omega)] at hstep
    refine ⟨a, ?_, ?_⟩
    · have e1 : endG (s'.map (turn n)) (i, g i) = endOf xs i := by
        unfold endOf
        rw [stk_end _ _ _ 1 hstep, if_neg (by omega), if_pos (by simp)]
        unfold endG
        show (if forks (g i).x.k = 0 then i + 1 else ((s'.map (turn n)).getD (forks (g i).x.k - 1) (0, 0)).2) = _
        simp only [Nat.sub_self, List.getD_cons_zero, Int.toNat_natCast]
        by_cases h0 : forks (g i).x.k = 0
        · rw [if_pos h0, if_pos h0]
        · rw [if_neg h0, if_neg h0, List.getD_eq_getElem?_getD, List.getD_eq_getElem?_getD, List.getElem?_map, List.getElem?_eq_getElem (by omega)]
          rfl
      rw [e1] at hsub
      exact hsub
    · have e2 : ((s'.map (turn n)).take (frk (i, g i))).map (fun p => ptrV (blk p.1)) = (kids xs i).map fun c => ptrV (blk (n - 1 - c)) := by
        rw [hkid, List.map_map, ← List.map_take, List.map_map]
        rfl
      have e3 : frk (i, g i) = (kids xs i).length := by rw [hkid, List.length_map, List.length_take, Nat.min_eq_left hfs]; rfl
      rw [e2] at hrow
      rw [← e3]
      exact hrow
/-- All nodes have been read, and the results are written. -/
theorem SubsR.yes {w W : World} {D B n d Ro Lb : Nat} {xs : List N5} {g : Nat → NV} {blk : Nat → Nat} {pvs : Nat → Value} {cs : Array Value} {t1 t2 t3 : TypeId}
    (hpb : proofB xs = decide (d = 1)) (hBW : Below w.heap.size w W) (k5 : BlkIs W Ro t3 cs) (k7 : BlkIs W w.heap.size t1 #[.slice none 0 0]) (k8 : BlkIs W Lb t2 #[.bool false]) (hT : TreesAt W (w.heap.size + 6) n xs Ro g blk pvs)
    (hx : ∀ j, j < n → xs[j]? = some (g j).x ∧ InL w B (g j).A0 (g j).n0 (g j).x.t.2 ∧ InL w B (g j).A1 (g j).n1 (g j).x.m) (hK : W.heap[D]? = some (.deferred (some []))) (hD : w.heap.size ≤ D) (hR : w.heap.size < Lb ∧ Lb < w.heap.size + 6 ∧ w.heap.size < Ro ∧ Lb ≠ Ro) :
    ((W.setCell ⟨w.heap.size, 0, none⟩ (.slice (some ⟨Ro, 0, none⟩) n n)).setCell ⟨Lb, 0, none⟩ (.bool ((d : Int) == 1))).heap[D]? = some (.deferred (some [])) ∧
      (((W.setCell ⟨w.heap.size, 0, none⟩ (.slice (some ⟨Ro, 0, none⟩) n n)).setCell ⟨Lb, 0, none⟩ (.bool ((d : Int) == 1))).putObj D (.deferred none)).cell? ⟨w.heap.size, 0, none⟩ = some (.slice (some ⟨Ro, 0, none⟩) n n) ∧
      (((W.setCell ⟨w.heap.size, 0, none⟩ (.slice (some ⟨Ro, 0, none⟩) n n)).setCell ⟨Lb, 0, none⟩ (.bool ((d : Int) == 1))).putObj D (.deferred none)).cell? ⟨Lb, 0, none⟩ = some (.bool ((d : Int) == 1)) ∧
      SubsR w B n xs (.returned (.tuple #[.slice (some ⟨Ro, 0, none⟩) n n, .bool ((d : Int) == 1)])) (((W.setCell ⟨w.heap.size, 0, none⟩ (.slice (some ⟨Ro, 0, none⟩) n n)).setCell ⟨Lb, 0, none⟩ (.bool ((d : Int) == 1))).putObj D (.deferred none)) := by
  obtain ⟨r1, r2, r3, r4⟩ := hR
  have hko : KeepsOthers W ((W.setCell ⟨w.heap.size, 0, none⟩ (.slice (some ⟨Ro, 0, none⟩) n n)).setCell ⟨Lb, 0, none⟩ (.bool ((d : Int) == 1))) := (KeepsOthers.setCell _ _ _).trans (KeepsOthers.setCell _ _ _)
  have hK' := hko.same D _ hK rfl
  have hs : Same (fun k => k = w.heap.size ∨ k = Lb) W ((W.setCell ⟨w.heap.size, 0, none⟩ (.slice (some ⟨Ro, 0, none⟩) n n)).setCell ⟨Lb, 0, none⟩ (.bool ((d : Int) == 1))) := (same_set (.inl rfl)).trans (same_set (.inr rfl))
  have b7 := (k7.set 0 (.slice (some ⟨Ro, 0, none⟩) n n)).far (g' := Lb) (by omega) 0 (.bool ((d : Int) == 1))
  have b8 := (k8.far (g' := w.heap.size) (by omega) 0 (.slice (some ⟨Ro, 0, none⟩) n n)).set 0 (.bool ((d : Int) == 1))
  have hput := same_put (R := fun _ => False) (o' := .deferred none) hK' rfl
  have c7 := (b7.same hput id).cell 0
  have c8 := (b8.same hput id).cell 0
  simp at c7 c8
  have hv : ((d : Int) == 1) = proofB xs := by rw [hpb, Bool.eq_iff_iff]; simp; omega
  have hT2 := hT.same k5 hs (fun k e => by rcases e with e | e <;> omega)
  have k5' := k5.same hs (fun e => by rcases e with e | e <;> omega)
  have hT3 := hT2.same k5' hput (fun k e => e.elim)
  refine ⟨hK', c7, c8, .slice (some ⟨Ro, 0, none⟩) n n, by rw [hv], ?_, fun _ => ⟨Ro, g, blk, pvs, rfl, by omega, hx, hT3.less (by omega)⟩⟩
  exact ((hBW.setCell (p := ⟨w.heap.size, 0, none⟩) (Nat.le_refl _) _).setCell (p := ⟨Lb, 0, none⟩) (by show w.heap.size ≤ Lb; omega) _).trans (belowK_b (w := w) (Nat.le_refl _) _ D _ _ hD hK' rfl rfl)
end Go.Proofs.YtejgpooghengmaaDoor
