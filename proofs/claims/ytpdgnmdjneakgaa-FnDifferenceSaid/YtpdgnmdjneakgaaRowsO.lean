/-
  Lists of numbers in rows of the call's own, no two in one block; rows of such rows. No conditions.
-/
import Derived.Test.YtpdgnmdjneakgaaWork
import Derived.Test.YtpdgnmdjneakgaaAppend
import Derived.Test.YtpdgnmdjneakgaaLLM
namespace Go.Proofs.Ytpdgnmdjneakgaa
set_option linter.unusedVariables false
open Go.RowKit

section
variable {w w' wa : World} {lo lo' n n' g : Nat} {e e' t : TypeId} {v v' : Value} {xs xs' : List Value} {cs : Array Value}
theorem own_ne_own (h : w.ownsRow lo e 1 v n xs) (h' : w.ownsRow lo' e' 1 v' n' xs') (he : e ≠ e') : ∀ k, v.ownBlock = some k → v'.ownBlock ≠ some k := fun k hk hk' => by
  rcases h.2 with ⟨e1, _⟩ | ⟨g, cap, cur, e1, _, h3, _⟩
  · rw [e1] at hk; cases hk
  rcases h'.2 with ⟨e2, _⟩ | ⟨g', cap', cur', e2, _, h4, _⟩
  · rw [e2] at hk'; cases hk'
  rw [e1] at hk
  rw [e2] at hk'
  obtain rfl : g = k := Option.some.inj hk
  obtain rfl : g' = g := Option.some.inj hk'
  rw [h3] at h4
  injection h4 with h4
  injection h4 with _ h4 _
  exact he h4
theorem own_ne_blk (h : w.ownsRow lo e 1 v n xs) (hb : BlkIs w g t cs) (ht : t ≠ e) : v.ownBlock ≠ some g := fun hk => by
  rcases h.2 with ⟨e1, _⟩ | ⟨g', cap, cur, e1, _, h3, _⟩
  · rw [e1] at hk; cases hk
  rw [e1] at hk
  obtain rfl : g' = g := Option.some.inj hk
  unfold BlkIs at hb
  rw [h3] at hb
  injection hb with hb
  injection hb with _ hb _
  exact ht hb.symm
end

/-- Lists of numbers in rows of the call's own, no two in one block. -/
structure RowsO (w : World) (lo : Nat) (ps : List (Value × List Int)) : Prop where
  own : ∀ (i : Nat) (p : Value × List Int), ps[i]? = some p → w.ownsRow lo 2 1 p.1 p.2.length (p.2.map ic)
  ne : ∀ (i j : Nat) (p q : Value × List Int), i ≠ j → ps[i]? = some p → ps[j]? = some q → ∀ k, p.1.ownBlock = some k → q.1.ownBlock ≠ some k
section
variable {w w' wa : World} {lo : Nat} {ps : List (Value × List Int)}
theorem RowsO.keep (h : RowsO w lo ps) (hb : Below w.heap.size w w') : RowsO w' lo ps := ⟨fun i p hp => own_below (h.own i p hp) hb, h.ne⟩
theorem RowsO.other {r : Option Nat} (h : RowsO w lo ps) (hg : w.grownBy w' r) (hr : ∀ (i : Nat) (p : Value × List Int), ps[i]? = some p → ∀ k, p.1.ownBlock = some k → r ≠ some k) : RowsO w' lo ps :=
  ⟨fun i p hp => (h.own i p hp).kept hg (by
    cases e : p.1.ownBlock with
    | none => exact .inl rfl
    | some k => exact .inr (fun e' => hr i p hp k e e'.symm)), h.ne⟩
/-- A row grows. -/
theorem RowsO.app {i : Nat} {p : Value × List Int} {g' n' c' : Nat} {zs : List Int} (h : RowsO w lo ps) (hp : ps[i]? = some p) (hb : Below w.heap.size w wa) (hgrow : wa.grownBy w' p.1.ownBlock) (hsep : some g' = p.1.ownBlock ∨ wa.heap.size ≤ g')
    (hown : w'.ownsRow lo 2 1 (.slice (some ⟨g', 0, none⟩) n' c') zs.length (zs.map ic)) : RowsO w' lo (ps.set i (.slice (some ⟨g', 0, none⟩) n' c', zs)) := by
  have hi := (List.getElem?_eq_some_iff.1 hp).1
  have hlt : ∀ (j : Nat) q, ps[j]? = some q → ∀ k, q.1.ownBlock = some k → k < w.heap.size := fun j q hq k hk => ((h.own j q hq).lt k hk).2
  have hout : ∀ (j : Nat) q, j ≠ i → ps[j]? = some q → q.1.ownBlock ≠ some g' := fun j q hji hq hk => by
    rcases hsep with e | e
    · exact h.ne j i q p hji hq hp g' hk e.symm
    · have := hlt j q hq g' hk; have := hb.size; omega
  refine ⟨fun j q hq => ?_, fun j k q r hjk hq hr b hb1 hb2 => ?_⟩
  · by_cases e : i = j
    · subst e
      rw [List.getElem?_set_self hi] at hq
      obtain rfl := Option.some.inj hq
      exact hown
    · rw [List.getElem?_set_ne e] at hq
      refine (own_below (h.own j q hq) hb).kept hgrow ?_
      cases e1 : q.1.ownBlock with
      | none => exact .inl rfl
      | some b => exact .inr (fun e2 => h.ne j i q p (fun x => e x.symm) hq hp b e1 e2.symm)
  · by_cases e : i = j
    · subst e
      rw [List.getElem?_set_self hi] at hq
      obtain rfl := Option.some.inj hq
      rw [List.getElem?_set_ne hjk] at hr
      obtain rfl : g' = b := Option.some.inj hb1
      exact hout k r (fun x => hjk x.symm) hr hb2
    · rw [List.getElem?_set_ne e] at hq
      by_cases e2 : i = k
      · subst e2
        rw [List.getElem?_set_self hi] at hr
        obtain rfl := Option.some.inj hr
        obtain rfl : g' = b := Option.some.inj hb2
        exact hout j q hjk hq hb1
      · rw [List.getElem?_set_ne e2] at hr
        exact h.ne j k q r hjk hq hr b hb1 hb2
/-- A row more, in a block of its own. -/
theorem RowsO.snoc {v : Value} {zs : List Int} (h : RowsO w lo ps) (hb : Below w.heap.size w w') (hown : w'.ownsRow w.heap.size 2 1 v zs.length (zs.map ic)) (hlo : lo ≤ w.heap.size) : RowsO w' lo (ps ++ [(v, zs)]) := by
  have hlt : ∀ (j : Nat) q, ps[j]? = some q → ∀ k, q.1.ownBlock = some k → k < w.heap.size := fun j q hq k hk => ((h.own j q hq).lt k hk).2
  have hge : ∀ k, v.ownBlock = some k → w.heap.size ≤ k := fun k hk => (hown.lt k hk).1
  have hl : ∀ (j : Nat) q, (ps ++ [(v, zs)])[j]? = some q → (j < ps.length ∧ ps[j]? = some q) ∨ (j = ps.length ∧ q = (v, zs)) := fun j q hq => by
    rcases Nat.lt_trichotomy j ps.length with k | k | k
    · rw [List.getElem?_append_left k] at hq; exact .inl ⟨k, hq⟩
    · subst k; simp at hq; exact .inr ⟨rfl, hq.symm⟩
    · rw [List.getElem?_eq_none (by simp; omega)] at hq; cases hq
  refine ⟨fun j q hq => ?_, fun i j p q hij hp hq k hk hk' => ?_⟩
  · rcases hl j q hq with ⟨_, e⟩ | ⟨_, rfl⟩
    · exact own_below (h.own j q e) hb
    · exact own_less hown hlo
  · rcases hl i p hp with ⟨a1, e1⟩ | ⟨a1, rfl⟩ <;> rcases hl j q hq with ⟨a2, e2⟩ | ⟨a2, rfl⟩
    · exact h.ne i j p q hij e1 e2 k hk hk'
    · have := hlt i p e1 k hk; have := hge k hk'; omega
    · have := hge k hk; have := hlt j q e2 k hk'; omega
    · omega
theorem RowsO.tail {p : Value × List Int} (h : RowsO w lo (p :: ps)) : RowsO w lo ps := ⟨fun i q hq => h.own (i + 1) q hq, fun i j q r hij hq hr => h.ne (i + 1) (j + 1) q r (by omega) hq hr⟩
theorem RowsO.less {lo' : Nat} (h : RowsO w lo ps) (hl : lo' ≤ lo) : RowsO w lo' ps := ⟨fun i q hq => own_less (h.own i q hq) hl, h.ne⟩
/-- A policy of rows of the call's own. -/
structure PolO (w : World) (lo : Nat) (A : Option Addr) (c : Nat) (R : List (List Int)) (rs : List (Value × List Int)) : Prop where
  eq : rs.map Prod.snd = R
  rows : RowsO w lo rs
  out : w.ownsRow lo 29 1 (.slice A R.length c) R.length (rs.map Prod.fst)
/-- The rows as a policy's. -/
theorem RowsO.inn {ps rs : List (Value × List Int)} (h : RowsO w lo (ps ++ rs)) {A : Option Addr} {c : Nat} (hv : w.ownsRow lo 29 1 (.slice A rs.length c) rs.length (rs.map Prod.fst)) : InLL w w.heap.size A rs.length (rs.map Prod.snd) := by
  refine ⟨by simp, fun j x hx => ?_⟩
  obtain ⟨p, hp, rfl⟩ : ∃ p, rs[j]? = some p ∧ p.2 = x := by
    rw [List.getElem?_map] at hx
    cases e : rs[j]? with
    | none => rw [e] at hx; cases hx
    | some p => rw [e] at hx; exact ⟨p, rfl, Option.some.inj hx⟩
  have hjl := (List.getElem?_eq_some_iff.1 hp).1
  obtain ⟨g, hg, hgl⟩ : ∃ g, A = some ⟨g, 0, none⟩ ∧ g < w.heap.size := by
    rcases hv.2 with ⟨_, h0⟩ | ⟨g, cap, cur, e1, _⟩
    · omega
    · injection e1 with e1; exact ⟨g, e1, (hv.lt g (by rw [e1]; rfl)).2⟩
  subst hg
  have hown := h.own (ps.length + j) p (by rw [List.getElem?_append_right (by omega), Nat.add_sub_cancel_left]; exact hp)
  obtain ⟨A0, c0, e0, _⟩ := own_slice hown
  have hc := hv.cellAt j (by omega)
  rw [List.getElem?_map, hp] at hc
  refine ⟨g, 0, rfl, hgl, A0, p.2.length, c0, ?_, ?_⟩
  · rw [Nat.zero_add, hc]; show some p.1 = _; rw [e0]
  · rw [e0] at hown
    exact (OwnL.of_own hown).inn
theorem PolO.inn {R : List (List Int)} {rs : List (Value × List Int)} {A : Option Addr} {c : Nat} (h : PolO w lo A c R rs) : InLL w w.heap.size A R.length R := by
  obtain ⟨rfl, h2, h3⟩ := h
  rw [List.length_map] at h3 ⊢
  exact RowsO.inn (ps := []) h2 h3
theorem PolO.far {R : List (List Int)} {rs : List (Value × List Int)} {A : Option Addr} {c g i : Nat} {u : Value} (h : PolO w lo A c R rs) (hg : g < lo) : PolO (w.setCell ⟨g, i, none⟩ u) lo A c R rs := by
  refine ⟨h.eq, h.rows.other (only_set (g := g)) (fun j p hp k hk e => ?_), h.out.kept (only_set (g := g)) (.inr fun e => ?_)⟩
  · obtain rfl : g = k := Option.some.inj e
    have := ((h.rows.own j p hp).lt g hk).1; omega
  · have := (h.out.lt g e).1; omega
theorem PolO.less {R : List (List Int)} {rs : List (Value × List Int)} {A : Option Addr} {c lo' : Nat} (h : PolO w lo A c R rs) (hl : lo' ≤ lo) : PolO w lo' A c R rs := ⟨h.eq, h.rows.less hl, own_less h.out hl⟩
theorem PolO.keep {R : List (List Int)} {rs : List (Value × List Int)} {A : Option Addr} {c : Nat} (h : PolO w lo A c R rs) (hb : Below w.heap.size w w') : PolO w' lo A c R rs := ⟨h.eq, h.rows.keep hb, own_below h.out hb⟩
theorem PolO.nil (w : World) (lo : Nat) : PolO w lo none 0 [] [] := ⟨rfl, ⟨fun i p hp => by simp at hp, fun i j p q _ hp => by simp at hp⟩, World.ownsRow_nil _ _ _ _⟩
end
end Go.Proofs.Ytpdgnmdjneakgaa
