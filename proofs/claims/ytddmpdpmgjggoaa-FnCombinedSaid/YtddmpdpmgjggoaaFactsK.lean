/-
  A list of terms that a call makes by appends: one row of its own, and a row for the coefficients of each; what stays of it behind other steps. No conditions.
-/
import Derived.Test.YtddmpdpmgjggoaaLawT
import Derived.Test.YtddmpdpmgjggoaaTermsK
namespace Go.Proofs.Ytddmpdpmgjggoaa
open Go.RowKit
set_option linter.unusedVariables false

/-- Numbers that a slice leads to, in a block of whole numbers. -/
def IntL (w : World) (A : Option Addr) (n : Nat) (zs : List Int) : Prop :=
  zs.length = n ∧ ∀ j, j < n → ∃ b off x cs, A = some ⟨b, off, none⟩ ∧ w.heap[b]? = some (.cells cs 2 (0, 0)) ∧ zs[j]? = some x ∧ w.cell? ⟨b, off + j, none⟩ = some (.int .i64 x)
section
variable {w w' : World} {A : Option Addr} {n : Nat} {zs : List Int}
theorem blk_lt {b : Nat} {o : Obj} (h : w.heap[b]? = some o) : b < w.heap.size := by
  rcases Nat.lt_or_ge b w.heap.size with hlt | hge
  · exact hlt
  · rw [Array.getElem?_eq_none hge] at h; cases h
theorem IntL.inn (h : IntL w A n zs) : InL w w.heap.size A n zs := by
  refine ⟨h.1, fun j hj => ?_⟩
  rw [List.length_map, h.1] at hj
  obtain ⟨b, off, x, cs, e, hb, hx, hc⟩ := h.2 j hj
  exact ⟨b, off, e, blk_lt hb, by rw [hc, List.getElem?_map, hx]; rfl⟩
theorem IntL.kept {r : Option Nat} (h : IntL w A n zs) (hg : w.grownBy w' r) (hr : ∀ k cs, r = some k → w.heap[k]? ≠ some (.cells cs 2 (0, 0))) : IntL w' A n zs := by
  refine ⟨h.1, fun j hj => ?_⟩
  obtain ⟨b, off, x, cs, e, hb, hx, hc⟩ := h.2 j hj
  have hblk := hg.block b (blk_lt hb) (fun e => hr b cs e.symm hb)
  exact ⟨b, off, x, cs, e, hblk.trans hb, hx, (World.cell?_of_block (a := ⟨b, off + j, none⟩) hblk).trans hc⟩
theorem grown_of {r : Option Nat} (h : Below w.heap.size w w') : w.grownBy w' r := ⟨h.os, h.tape, h.output, h.size, fun i hi _ => h.block i hi⟩
theorem IntL.next (h : IntL w A n zs) (hb : Below w.heap.size w w') : IntL w' A n zs := h.kept (r := none) (grown_of hb) (fun k cs e => by cases e)
theorem IntL.of_own {lo hi c : Nat} (h : OwnL w lo hi A n c zs) : IntL w A n zs := by
  refine ⟨h.1, fun j hj => ?_⟩
  rcases h.2.1.2 with ⟨_, h2⟩ | ⟨g, cap, cur, h1, h2, h3, h4⟩
  · omega
  · have hA : A = some ⟨g, 0, none⟩ := by injection h1
    subst hA
    obtain ⟨x, hx⟩ : ∃ x, zs[j]? = some x := ⟨_, List.getElem?_eq_getElem (by have := h.1; omega)⟩
    refine ⟨g, 0, x, cur, rfl, h3, hx, ?_⟩
    rw [Nat.zero_add, h.2.1.cellAt j (by have := h.2.1.1; omega), List.getElem?_map, hx]; rfl
end
/-- A source is no block of whole numbers. -/
theorem Src.noInts {w : World} {g K : Nat} (h : Src w g K) : ∀ k cs, some g = some k → w.heap[k]? ≠ some (.cells cs 2 (0, 0)) := by
  intro k cs e hk
  obtain rfl := Option.some.inj e
  obtain ⟨_, _, _, _, _, _, h1, _⟩ := h
  rw [h1] at hk
  injection hk with hk
  injection hk with _ h2 _
  revert h2
  decide
theorem own_noInts {w : World} {base n : Nat} {v : Value} {xs : List Value} (h : w.ownsRow base 26 2 v n xs) : ∀ k cs, v.ownBlock = some k → w.heap[k]? ≠ some (.cells cs 2 (0, 0)) := by
  intro k cs e hk
  rcases h.2 with ⟨rfl, _⟩ | ⟨g, cap, cur, rfl, _, h3, _⟩
  · cases e
  · have e' : some g = some k := e
    obtain rfl := Option.some.inj e'
    rw [h3] at hk
    injection hk with hk
    injection hk with _ h2 _
    revert h2
    decide

/-- Terms in a row of the call's own. -/
def FactsR (w : World) (base : Nat) (m : Int) (v : Value) (n : Nat) (ts : List (Int × List Int)) : Prop :=
  ts.length = n ∧ (∀ t ∈ ts, SmallT m 3 t) ∧ ∃ xs, w.ownsRow base 26 2 v n xs ∧
    ∀ j t, ts[j]? = some t → xs[j * 2]? = some (.int .i64 t.1) ∧ ∃ A' n' c', xs[j * 2 + 1]? = some (.slice A' n' c') ∧ IntL w A' n' t.2
section
variable {w w' : World} {base g K : Nat} {m : Int} {v : Value} {n : Nat} {ts : List (Int × List Int)}
theorem FactsR.kept (h : FactsR w base m v n ts) (hg : w.grownBy w' (some g)) (hs : Src w g K) (hb : g < base) : FactsR w' base m v n ts := by
  obtain ⟨h1, h2, xs, h3, h4⟩ := h
  refine ⟨h1, h2, xs, h3.kept hg (.inr (fun e => by have := (h3.lt _ e).1; omega)), fun j t hj => ?_⟩
  obtain ⟨a, A', n', c', b, c⟩ := h4 j t hj
  exact ⟨a, A', n', c', b, c.kept hg hs.noInts⟩
theorem FactsR.next (h : FactsR w base m v n ts) (hb : Below w.heap.size w w') : FactsR w' base m v n ts := by
  obtain ⟨h1, h2, xs, h3, h4⟩ := h
  refine ⟨h1, h2, xs, own_below h3 hb, fun j t hj => ?_⟩
  obtain ⟨a, A', n', c', b, c⟩ := h4 j t hj
  exact ⟨a, A', n', c', b, c.next hb⟩
theorem FactsR.inn (h : FactsR w base m v n ts) : ∃ A c, v = .slice A n c ∧ InTS w w.heap.size A n ts := by
  obtain ⟨h1, h2, xs, h3, h4⟩ := h
  have h3' := h3
  rcases h3.2 with ⟨rfl, hn⟩ | ⟨b, cap, cur, rfl, k2, k3, k4⟩
  · have : ts = [] := List.eq_nil_of_length_eq_zero (by omega)
    subst this
    subst hn
    exact ⟨none, 0, rfl, rfl, TRow.nil⟩
  · refine ⟨some ⟨b, 0, none⟩, cap, rfl, h1, fun j t hj => ?_⟩
    have hjl : j < ts.length := (List.getElem?_eq_some_iff.1 hj).1
    have hxl := h3.1
    obtain ⟨a, A', n', c', bb, c⟩ := h4 j t hj
    refine ⟨b, 0, A', n', c', rfl, (h3.lt b rfl).2, ?_, ?_, c.1, c.inn.2⟩
    · rw [Nat.zero_add, h3.cellAt (j * 2) (by omega), a]
    · rw [Nat.zero_add, h3.cellAt (j * 2 + 1) (by omega), bb]
/-- The term at a place, by its pointer. -/
theorem FactsR.ptr (h : FactsR w base m v n ts) {j : Nat} (hj : j < n) : ∃ b c t, v = .slice (some ⟨b, 0, none⟩) n c ∧ ts[j]? = some t ∧ SmallT m 3 t ∧ PtrT w w.heap.size b (j * 2) t := by
  obtain ⟨A, c, e, hin⟩ := h.inn
  obtain ⟨b, off, A', n', c', t, rfl, hb, ht, h0, h1, h2⟩ := hin.at_ hj
  obtain ⟨_, _, xs, h3, _⟩ := h
  have h0off : off = 0 := by
    rcases h3.2 with ⟨e2, _⟩ | ⟨b2, cap, cur, e2, _⟩
    · rw [e] at e2; cases e2
    · rw [e] at e2; injection e2 with e3; injection e3 with e4; injection e4
  subst h0off
  rw [Nat.zero_add] at h0 h1
  exact ⟨b, c, t, e, ht, (by assumption : ∀ t ∈ ts, SmallT m 3 t) t (List.mem_of_getElem? ht), A', n', c', hb, h0, h1, h2⟩
theorem SmallT.more {m m' k : Int} {t : Int × List Int} (h : SmallT m k t) (hm : m ≤ m') : SmallT m' k t := ⟨h.1, by have := h.2.1; omega, by have := h.2.2.1; omega, h.2.2.2⟩
/-- Behind an append. -/
theorem FactsR.push {m' : Int} {t : Int × List Int} {A : Option Addr} {k c : Nat} {v' : Value} (h : FactsR w base m v n ts) (ht : SmallT m' 3 t) (hm : m ≤ m') (hi : IntL w A k t.2)
    {xs : List Value} (hx : w.ownsRow base 26 2 v n xs)
    (hxs : ∀ j t, ts[j]? = some t → xs[j * 2]? = some (.int .i64 t.1) ∧ ∃ A' n' c', xs[j * 2 + 1]? = some (.slice A' n' c') ∧ IntL w A' n' t.2)
    (hr : w'.ownsRow base 26 2 v' (n + 1) (xs ++ [.int .i64 t.1, .slice A k c])) (hg : w.grownBy w' v.ownBlock) : FactsR w' base m' v' (n + 1) (ts ++ [t]) := by
  have hno := own_noInts hx
  have hxl := hx.1
  refine ⟨by simp [h.1], fun u hu => ?_, _, hr, fun j u hj => ?_⟩
  · rcases List.mem_append.1 hu with hu | hu
    · exact (h.2.1 u hu).more hm
    · rw [List.mem_singleton.1 hu]; exact ht
  · by_cases hjn : j < ts.length
    · rw [List.getElem?_append_left hjn] at hj
      obtain ⟨a, A', n', c', b, c⟩ := hxs j u hj
      have := h.1
      exact ⟨by rw [List.getElem?_append_left (by omega)]; exact a, A', n', c', by rw [List.getElem?_append_left (by omega)]; exact b, c.kept hg hno⟩
    · have hjl := (List.getElem?_eq_some_iff.1 hj).1
      have hje : j = ts.length := by simp at hjl; omega
      subst hje
      rw [List.getElem?_append_right (Nat.le_refl _), Nat.sub_self] at hj
      obtain rfl : t = u := by simpa using hj
      have := h.1
      refine ⟨?_, A, k, c, ?_, hi.kept hg hno⟩
      · rw [List.getElem?_append_right (by omega), show ts.length * 2 - xs.length = 0 by omega]; rfl
      · rw [List.getElem?_append_right (by omega), show ts.length * 2 + 1 - xs.length = 1 by omega]; rfl
end
/-- Steps that turn one row made since: the old blocks but one are as they were. -/
theorem grown_far {w0 w w' : World} {g : Nat} {r : Option Nat} (h : w0.grownBy w (some g)) (hg : w.grownBy w' r) (hr : ∀ k, r = some k → w0.heap.size ≤ k) : w0.grownBy w' (some g) :=
  ⟨hg.os.trans h.os, hg.tape.trans h.tape, hg.output.trans h.output, Nat.le_trans h.size hg.size, fun i hi hne =>
    (hg.block i (Nat.lt_of_lt_of_le hi h.size) (fun e => by have := hr i e.symm; omega)).trans (h.block i hi hne)⟩
theorem infoTerm2 : (Try.prog.info? 26).map (fun i => (i.zero, i.size, i.bytes)) = some (some (.agg #[.int .i64 0, .slice none 0 0]), 2, 32) := by kernel_rfl
end Go.Proofs.Ytddmpdpmgjggoaa
