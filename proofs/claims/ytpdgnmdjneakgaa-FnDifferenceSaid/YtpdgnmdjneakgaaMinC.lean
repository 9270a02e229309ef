/-
  What the model's making of a minimal policy holds in memory. No conditions.
-/
import Derived.Test.YtpdgnmdjneakgaaClasM
import Derived.Test.YtpdgnmdjneakgaaRowsO
namespace Go.Proofs.Ytpdgnmdjneakgaa
set_option linter.unusedVariables false
open Go.RowKit

theorem evT_row {st : Int → Nat → Int × Bool} {x : Int} {L : List Int} : ∀ j, j ≤ 4 → (evT st x L j).2.length = 4 ∧ ∀ e, j ≤ e → e < 4 → (evT st x L j).2[e]? = some (-1)
  | 0, _ => ⟨rfl, fun e _ he => by
    have : e = 0 ∨ e = 1 ∨ e = 2 ∨ e = 3 := by omega
    rcases this with rfl | rfl | rfl | rfl <;> rfl⟩
  | j + 1, hj => by
    obtain ⟨h1, h2⟩ := evT_row (st := st) (x := x) (L := L) j (by omega)
    rw [evT]
    cases hv : (st x j).2 with
    | false => rw [evS_no hv]; exact ⟨h1, fun e he h4 => h2 e (by omega) h4⟩
    | true =>
      rw [evS_yes hv]
      exact ⟨by simpa using h1, fun e he h4 => by rw [List.getElem?_set_ne (by omega)]; exact h2 e (by omega) h4⟩
theorem evT_no {st : Int → Nat → Int × Bool} {x : Int} {L : List Int} {j : Nat} (hj : j < 4) (hv : (st x j).2 = false) : (evT st x L (j + 1)).1 = (evT st x L j).1 ∧ (evT st x L (j + 1)).2.take (j + 1) = (evT st x L j).2.take j ++ [-1] := by
  rw [evT, evS_no hv, List.take_add_one, (evT_row j (by omega)).2 j (Nat.le_refl _) hj]
  exact ⟨rfl, rfl⟩
theorem evT_yes {st : Int → Nat → Int × Bool} {x : Int} {L : List Int} {j : Nat} (hj : j < 4) (hv : (st x j).2 = true) : (evT st x L (j + 1)).1 = addL (st x j).1 (evT st x L j).1 ∧ (evT st x L (j + 1)).2.take (j + 1) = (evT st x L j).2.take j ++ [((addL (st x j).1 (evT st x L j).1).idxOf (st x j).1 : Int)] := by
  rw [evT, evS_yes hv]
  refine ⟨rfl, ?_⟩
  show List.take (j + 1) ((evT st x L j).2.set j _) = _
  rw [List.take_add_one, List.getElem?_set_self (by rw [(evT_row j (by omega)).1]; exact hj), List.take_set_of_le (Nat.le_refl _)]
  rfl

/-- What the search for a kind knows behind m of the numbers. -/
def SrcL (L : List Int) (z : Int) (m : Nat) (y : Int) : Prop := (y = -1 ∧ z ∉ L.take m) ∨ ∃ a : Nat, y = (a : Int) ∧ L[a]? = some z
theorem SrcL.more {L : List Int} {z u : Int} {m : Nat} {y : Int} (h : SrcL L z m y) (hu : L[m]? = some u) (hn : u ≠ z) : SrcL L z (m + 1) y := by
  rcases h with ⟨h1, h2⟩ | h
  · refine .inl ⟨h1, fun hm => ?_⟩
    rw [List.take_add_one, hu] at hm
    rcases List.mem_append.1 hm with h' | h'
    · exact h2 h'
    · simp at h'; exact hn h'.symm
  · exact .inr h
theorem SrcL.end_no {L : List Int} {z y : Int} (h : SrcL L z L.length y) (hy : y < 0) : z ∉ L := by
  rcases h with ⟨_, h⟩ | ⟨a, rfl, _⟩
  · rwa [List.take_length] at h
  · omega
theorem SrcL.end_yes {L : List Int} {z y : Int} (hn : L.Nodup) (h : SrcL L z L.length y) (hy : ¬ y < 0) : z ∈ L ∧ y = (L.idxOf z : Int) := by
  rcases h with ⟨h, _⟩ | ⟨a, rfl, h⟩
  · omega
  · have hm := List.mem_of_getElem? h
    have h1 := List.idxOf_lt_length_of_mem hm
    have h2 := List.getElem_idxOf h1
    obtain ⟨ha, he⟩ := List.getElem?_eq_some_iff.1 h
    refine ⟨hm, ?_⟩
    have hp := List.pairwise_iff_getElem.1 hn
    rcases Nat.lt_trichotomy a (L.idxOf z) with k | k | k
    · exact absurd (he.trans h2.symm) (hp a _ ha h1 k)
    · rw [k]
    · exact absurd (h2.trans he.symm) (hp _ a h1 ha k)

/-- The rows of numbers, the policy's row, and the block that leads to it. -/
structure MinW (wc : World) (bO : Nat) (ps : List (Value × List Int)) (v : Value) (m : Nat) (vs : List Value) (W : World) : Prop where
  rows : RowsO W wc.heap.size ps
  out : W.ownsRow wc.heap.size 29 1 v m vs
  box : BlkIs W bO 26 #[v]
  below : Below wc.heap.size wc W
  lo : wc.heap.size ≤ bO
section
variable {wc W W' Wa : World} {bO m : Nat} {ps : List (Value × List Int)} {v : Value} {vs : List Value}
theorem MinW.keep (h : MinW wc bO ps v m vs W) (hb : Below W.heap.size W W') : MinW wc bO ps v m vs W' := ⟨h.rows.keep hb, own_below h.out hb, h.box.next hb, bon h.below hb, h.lo⟩
theorem MinW.app {i : Nat} {p : Value × List Int} {g' n' c' : Nat} {zs : List Int} (h : MinW wc bO ps v m vs W) (hp : ps[i]? = some p) (hb : Below W.heap.size W Wa) (hgrow : Wa.grownBy W' p.1.ownBlock) (hsep : some g' = p.1.ownBlock ∨ Wa.heap.size ≤ g')
    (hown : W'.ownsRow wc.heap.size 2 1 (.slice (some ⟨g', 0, none⟩) n' c') zs.length (zs.map ic)) : MinW wc bO (ps.set i (.slice (some ⟨g', 0, none⟩) n' c', zs)) v m vs W' := by
  have hpo := h.rows.own i p hp
  refine ⟨h.rows.app hp hb hgrow hsep hown, ?_, ?_, ?_, h.lo⟩
  · refine (own_below h.out hb).kept hgrow ?_
    cases e : v.ownBlock with
    | none => exact .inl rfl
    | some k => exact .inr (fun e' => own_ne_own h.out hpo (by decide) k e e'.symm)
  · exact (h.box.next hb).by_grown hgrow (own_ne_blk hpo h.box (by decide))
  · exact (bon h.below hb).grown hgrow (Nat.le_trans h.below.size hb.size) (fun k hk => (hpo.lt k hk).1)
theorem MinW.snoc {r : Value} {zs : List Int} (h : MinW wc bO ps v m vs W) (hb : Below W.heap.size W W') (hown : W'.ownsRow W.heap.size 2 1 r zs.length (zs.map ic)) : MinW wc bO (ps ++ [(r, zs)]) v m vs W' :=
  ⟨h.rows.snoc hb hown h.below.size, own_below h.out hb, h.box.next hb, bon h.below hb, h.lo⟩
theorem MinW.row {v' x : Value} (h : MinW wc bO ps v m vs W) (hb : Below W.heap.size W Wa) (hgrow : Wa.grownBy W' v.ownBlock) (hown : W'.ownsRow wc.heap.size 29 1 v' (m + 1) (vs ++ [x])) (hs : ∀ k, v'.ownBlock = some k → k ≠ bO) :
    MinW wc bO ps v' (m + 1) (vs ++ [x]) (W'.setCell ⟨bO, 0, none⟩ v') := by
  have hbx := (h.box.next hb).by_grown hgrow (own_ne_blk h.out h.box (by decide))
  refine ⟨(((h.rows.keep hb).other hgrow fun i p hp k hk e => ?_).other (only_set (g := bO)) fun i p hp k hk e => ?_), ?_, ?_, ?_, h.lo⟩
  · exact own_ne_own (h.rows.own i p hp) h.out (by decide) k hk e
  · obtain rfl : bO = k := Option.some.inj e
    exact own_ne_blk (h.rows.own i p hp) h.box (by decide) hk
  · refine hown.kept (only_set (g := bO)) ?_
    cases e : v'.ownBlock with
    | none => exact .inl rfl
    | some k => exact .inr (fun e' => hs k e (Option.some.inj e'))
  · simpa using hbx.set 0 v'
  · exact ((bon h.below hb).grown hgrow (Nat.le_trans h.below.size hb.size) (fun k hk => (h.out.lt k hk).1)).setCell (p := ⟨bO, 0, none⟩) h.lo v'
end
section
variable {wc W W' Wa : World} {bO k m n : Nat} {ps rs : List (Value × List Int)} {a b : Value × List Int} {v : Value} {vs : List Value} {A : Option Addr} {c g' c' : Nat} {zs : List Int} {z : Int}
theorem MinW.fst (h : MinW wc bO ((.slice A n c, zs) :: ps) v k vs W) (hl : zs.length = n) (hb : Below W.heap.size W Wa) (hgrow : Wa.grownBy W' (Value.slice A n c).ownBlock) (hsep : some g' = (Value.slice A n c).ownBlock ∨ Wa.heap.size ≤ g')
    (hown : W'.ownsRow wc.heap.size 2 1 (.slice (some ⟨g', 0, none⟩) (n + 1) c') (n + 1) (zs.map ic ++ [.int .i64 z])) : MinW wc bO ((.slice (some ⟨g', 0, none⟩) (n + 1) c', zs ++ [z]) :: ps) v k vs W' :=
  h.app (i := 0) rfl hb hgrow hsep (zs := zs ++ [z]) (by rw [List.length_append, hl, List.map_append]; exact hown)
theorem MinW.snd (h : MinW wc bO (a :: (.slice A n c, zs) :: ps) v k vs W) (hl : zs.length = n) (hb : Below W.heap.size W Wa) (hgrow : Wa.grownBy W' (Value.slice A n c).ownBlock) (hsep : some g' = (Value.slice A n c).ownBlock ∨ Wa.heap.size ≤ g')
    (hown : W'.ownsRow wc.heap.size 2 1 (.slice (some ⟨g', 0, none⟩) (n + 1) c') (n + 1) (zs.map ic ++ [.int .i64 z])) : MinW wc bO (a :: (.slice (some ⟨g', 0, none⟩) (n + 1) c', zs ++ [z]) :: ps) v k vs W' :=
  h.app (i := 1) rfl hb hgrow hsep (zs := zs ++ [z]) (by rw [List.length_append, hl, List.map_append]; exact hown)
theorem MinW.last (h : MinW wc bO (a :: b :: (rs ++ [(.slice A n c, zs)])) v k vs W) (hl : zs.length = n) (hb : Below W.heap.size W Wa) (hgrow : Wa.grownBy W' (Value.slice A n c).ownBlock) (hsep : some g' = (Value.slice A n c).ownBlock ∨ Wa.heap.size ≤ g')
    (hown : W'.ownsRow wc.heap.size 2 1 (.slice (some ⟨g', 0, none⟩) (n + 1) c') (n + 1) (zs.map ic ++ [.int .i64 z])) : MinW wc bO (a :: b :: (rs ++ [(.slice (some ⟨g', 0, none⟩) (n + 1) c', zs ++ [z])])) v k vs W' := by
  have h1 := h.app (i := rs.length + 2) (p := (.slice A n c, zs)) (by show (rs ++ [_])[rs.length]? = _; simp) hb hgrow hsep (zs := zs ++ [z]) (by rw [List.length_append, hl, List.map_append]; exact hown)
  have e : (a :: b :: (rs ++ [((Value.slice A n c, zs) : Value × List Int)])).set (rs.length + 2) (.slice (some ⟨g', 0, none⟩) (n + 1) c', zs ++ [z]) = a :: b :: (rs ++ [(.slice (some ⟨g', 0, none⟩) (n + 1) c', zs ++ [z])]) := by
    show a :: b :: ((rs ++ [_]).set rs.length _) = _
    rw [List.set_append_right _ _ (Nat.le_refl _), Nat.sub_self]; rfl
  rw [e] at h1
  exact h1
theorem MinW.ownFst (h : MinW wc bO ((.slice A n c, zs) :: ps) v k vs W) (hl : zs.length = n) : W.ownsRow wc.heap.size 2 1 (.slice A n c) n (zs.map ic) := by have := h.rows.own 0 _ rfl; rw [show ((Value.slice A n c, zs) : Value × List Int).2.length = n from hl] at this; exact this
theorem MinW.ownSnd (h : MinW wc bO (a :: (.slice A n c, zs) :: ps) v k vs W) (hl : zs.length = n) : W.ownsRow wc.heap.size 2 1 (.slice A n c) n (zs.map ic) := by have := h.rows.own 1 _ rfl; rw [show ((Value.slice A n c, zs) : Value × List Int).2.length = n from hl] at this; exact this
theorem MinW.ownLast (h : MinW wc bO (a :: b :: (rs ++ [(.slice A n c, zs)])) v k vs W) (hl : zs.length = n) : W.ownsRow wc.heap.size 2 1 (.slice A n c) n (zs.map ic) := by
  have := h.rows.own (rs.length + 2) (.slice A n c, zs) (by show (rs ++ [_])[rs.length]? = _; simp)
  rw [show ((Value.slice A n c, zs) : Value × List Int).2.length = n from hl] at this; exact this
end
theorem row_one (w : World) (y : Int) : (w.alloc (.cells #[.int .i64 y] 2)).ownsRow w.heap.size 2 1 (.slice (some ⟨w.heap.size, 0, none⟩) 1 1) [y].length ([y].map ic) := ⟨rfl, .inr ⟨w.heap.size, 1, #[.int .i64 y], rfl, Nat.le_refl _, heap_alloc_new w _, Nat.le_refl _, by unfold maxLen; omega, rfl, rfl⟩⟩
theorem MinW.init (wc : World) : MinW wc (wc.heap.size + 1 + 1) [(.slice (some ⟨wc.heap.size, 0, none⟩) 1 1, [0]), (.slice (some ⟨wc.heap.size + 1, 0, none⟩) 1 1, [0])] (.slice none 0 0) 0 [] (((wc.alloc (.cells #[.int .i64 0] 2)).alloc (.cells #[.int .i64 0] 2)).alloc (.cells #[.slice none 0 0] 26)) := by
  have h0 : RowsO wc wc.heap.size [] := ⟨(fun i p hp => by cases hp), (fun i j p q _ hp => by cases hp)⟩
  have h1 := h0.snoc (bnew wc _) (row_one wc 0) (Nat.le_refl _)
  have e1 : (wc.alloc (.cells #[.int .i64 0] 2)).heap.size = wc.heap.size + 1 := by simp
  have h2 := h1.snoc (bnew _ _) (row_one (wc.alloc (.cells #[.int .i64 0] 2)) 0) (by omega)
  rw [e1] at h2
  refine ⟨h2.keep (bnew _ _), World.ownsRow_nil _ _ _ _, blk_new _ _ _ _ (by simp), bon (bon (bnew _ _) (bnew _ _)) (bnew _ _), by omega⟩
end Go.Proofs.Ytpdgnmdjneakgaa
