/-
  Rows of points of the call's own, whose facts lie in typed blocks; a list of such points wherever it lies; append. Conditions: at most 1000 points.
-/
import Derived.Test.YtdmcpabpjhinhaaGreatDoorPointM
import Derived.Test.YtdmcpabpjhinhaaGreatDoorRowT
import Derived.Test.YtdmcpabpjhinhaaGreatDoorCodeA
import Derived.Lib.AppendZeros
namespace Go.Proofs.YtdmcpabpjhinhaaGreatDoor
set_option linter.unusedVariables false
open Go.RowKit

/-- Terms that a slice leads to, in a block of terms. -/
def TsL (w : World) (A : Option Addr) (n : Nat) (ts : List (Int × List Int)) : Prop :=
  ts.length = n ∧ ∀ j t, ts[j]? = some t → ∃ b off cs A' n' c', A = some ⟨b, off, none⟩ ∧ w.heap[b]? = some (.cells cs 88 (0, 0)) ∧ w.cell? ⟨b, off + j * 2, none⟩ = some (.int .i64 t.1) ∧ w.cell? ⟨b, off + j * 2 + 1, none⟩ = some (.slice A' n' c') ∧ IntL w A' n' t.2
section
variable {w w' : World} {A : Option Addr} {n : Nat} {ts : List (Int × List Int)}
theorem TsL.inn (h : TsL w A n ts) : InTS w w.heap.size A n ts := by
  refine ⟨h.1, fun j t hj => ?_⟩
  obtain ⟨b, off, cs, A', n', c', e, hb, h1, h2, h3⟩ := h.2 j t hj
  exact ⟨b, off, A', n', c', e, blk_lt hb, h1, h2, h3.1, h3.inn.2⟩
theorem TsL.kept {r : Option Nat} (h : TsL w A n ts) (hg : w.grownBy w' r) (hr : ∀ k cs, r = some k → w.heap[k]? ≠ some (.cells cs 2 (0, 0)) ∧ w.heap[k]? ≠ some (.cells cs 88 (0, 0))) : TsL w' A n ts := by
  refine ⟨h.1, fun j t hj => ?_⟩
  obtain ⟨b, off, cs, A', n', c', e, hb, h1, h2, h3⟩ := h.2 j t hj
  have hblk := hg.block b (blk_lt hb) (fun e => (hr b cs e.symm).2 hb)
  exact ⟨b, off, cs, A', n', c', e, hblk.trans hb, (World.cell?_of_block (a := ⟨b, off + j * 2, none⟩) hblk).trans h1, (World.cell?_of_block (a := ⟨b, off + j * 2 + 1, none⟩) hblk).trans h2, h3.kept hg (fun k cs e => (hr k cs e).1)⟩
theorem TsL.next (h : TsL w A n ts) (hb : Below w.heap.size w w') : TsL w' A n ts := h.kept (r := none) (grown_of hb) (fun k cs e => by cases e)
theorem TsL.of_row {base : Nat} {v : Value} (h : FRow w base v n ts) : ∃ A c, v = .slice A n c ∧ TsL w A n ts := by
  obtain ⟨h1, xs, h3, h4⟩ := h
  have h3' := h3
  rcases h3.2 with ⟨rfl, hn⟩ | ⟨b, cap, cur, rfl, k2, k3, k4⟩
  · have : ts = [] := List.eq_nil_of_length_eq_zero (by omega)
    subst this
    subst hn
    exact ⟨none, 0, rfl, rfl, fun j t hj => by simp at hj⟩
  · refine ⟨some ⟨b, 0, none⟩, cap, rfl, h1, fun j t hj => ?_⟩
    have hjl : j < ts.length := (List.getElem?_eq_some_iff.1 hj).1
    have hxl := h3.1
    obtain ⟨a, A', n', c', bb, c⟩ := h4 j t hj
    refine ⟨b, 0, cur, A', n', c', rfl, k3, ?_, ?_, c⟩
    · rw [Nat.zero_add, h3.cellAt (j * 2) (by omega), a]
    · rw [Nat.zero_add, h3.cellAt (j * 2 + 1) (by omega), bb]
end

/-- Points that a slice leads to, whose facts lie in typed blocks. -/
def PtL (w : World) (A : Option Addr) (n : Nat) (xs : List P2) : Prop :=
  xs.length = n ∧ ∀ j x, xs[j]? = some x → ∃ b off A' c', A = some ⟨b, off, none⟩ ∧ w.cell? ⟨b, off + j * 2, none⟩ = some (.int .i64 x.a) ∧ w.cell? ⟨b, off + j * 2 + 1, none⟩ = some (.slice A' x.s.length c') ∧ TsL w A' x.s.length x.s
/-- Points in a row of the call's own. -/
def PRow (w : World) (base : Nat) (v : Value) (n : Nat) (xs : List P2) : Prop :=
  xs.length = n ∧ ∃ cs, w.ownsRow base 83 2 v n cs ∧ ∀ j x, xs[j]? = some x → cs[j * 2]? = some (.int .i64 x.a) ∧ ∃ A' c', cs[j * 2 + 1]? = some (.slice A' x.s.length c') ∧ TsL w A' x.s.length x.s
section
variable {w w' : World} {A : Option Addr} {n base : Nat} {v : Value} {xs : List P2}
theorem PtL.next (h : PtL w A n xs) (hb : Below w.heap.size w w') : PtL w' A n xs := by
  refine ⟨h.1, fun j x hj => ?_⟩
  obtain ⟨b, off, A', c', e, h1, h2, h3⟩ := h.2 j x hj
  exact ⟨b, off, A', c', e, cell_next h1 hb, cell_next h2 hb, h3.next hb⟩
theorem PtL.inn (h : PtL w A n xs) : InP2 w w.heap.size A n xs := by
  refine ⟨h.1, fun j x hj => ?_⟩
  obtain ⟨b, off, A', c', e, h1, h2, h3⟩ := h.2 j x hj
  exact ⟨b, off, e, cell_lt h1, A', x.s.length, c', h1, h2, h3.inn⟩
theorem PtL.take {k : Nat} (h : PtL w A n xs) (hk : k ≤ n) : PtL w A k (xs.take k) := by
  refine ⟨by rw [List.length_take, h.1]; omega, fun j x hj => ?_⟩
  have hl := (List.getElem?_eq_some_iff.1 hj).1
  rw [List.length_take] at hl
  rw [List.getElem?_take_of_lt (by omega)] at hj
  exact h.2 j x hj
theorem PtL.drop {b off k : Nat} (h : PtL w (some ⟨b, off, none⟩) n xs) (hk : k ≤ n) : PtL w (some ⟨b, off + k * 2, none⟩) (n - k) (xs.drop k) := by
  refine ⟨by rw [List.length_drop, h.1], fun j x hj => ?_⟩
  rw [List.getElem?_drop] at hj
  obtain ⟨b', off', A', c', e, h1, h2, h3⟩ := h.2 (k + j) x hj
  cases e
  refine ⟨b, _, A', c', rfl, ?_, ?_, h3⟩
  · rw [show off + k * 2 + j * 2 = off + (k + j) * 2 by omega]; exact h1
  · rw [show off + k * 2 + j * 2 + 1 = off + (k + j) * 2 + 1 by omega]; exact h2
theorem PRow.next (h : PRow w base v n xs) (hb : Below w.heap.size w w') : PRow w' base v n xs := by
  obtain ⟨h1, cs, h3, h4⟩ := h
  refine ⟨h1, cs, own_below h3 hb, fun j x hj => ?_⟩
  obtain ⟨a, A', c', b, c⟩ := h4 j x hj
  exact ⟨a, A', c', b, c.next hb⟩
theorem PRow.out (h : PRow w base v n xs) : ∃ A c, v = .slice A n c ∧ PtL w A n xs := by
  obtain ⟨h1, cs, h3, h4⟩ := h
  have h3' := h3
  rcases h3.2 with ⟨rfl, hn⟩ | ⟨b, cap, cur, rfl, k2, k3, k4⟩
  · have : xs = [] := List.eq_nil_of_length_eq_zero (by omega)
    subst this
    subst hn
    exact ⟨none, 0, rfl, rfl, fun j t hj => by simp at hj⟩
  · refine ⟨some ⟨b, 0, none⟩, cap, rfl, h1, fun j x hj => ?_⟩
    have hjl : j < xs.length := (List.getElem?_eq_some_iff.1 hj).1
    have hxl := h3.1
    obtain ⟨a, A', c', bb, c⟩ := h4 j x hj
    refine ⟨b, 0, A', c', rfl, ?_, ?_, c⟩
    · rw [Nat.zero_add, h3.cellAt (j * 2) (by omega), a]
    · rw [Nat.zero_add, h3.cellAt (j * 2 + 1) (by omega), bb]
end
theorem own_noP {w : World} {base n : Nat} {v : Value} {xs : List Value} (h : w.ownsRow base 83 2 v n xs) : ∀ k cs, v.ownBlock = some k → w.heap[k]? ≠ some (.cells cs 2 (0, 0)) ∧ w.heap[k]? ≠ some (.cells cs 88 (0, 0)) := by
  intro k cs e
  rcases h.2 with ⟨rfl, _⟩ | ⟨g, cap, cur, rfl, _, h3, _⟩
  · cases e
  · have e' : some g = some k := e
    obtain rfl := Option.some.inj e'
    rw [h3]
    constructor <;> (intro hk; injection hk with hk; injection hk with _ h2 _; revert h2; decide)
theorem pt_cells {w : World} {b off n : Nat} {xs : List P2} (h : PtL w (some ⟨b, off, none⟩) n xs) :
    ∃ news : List Value, news.length = n * 2 ∧ (∀ j u, news[j]? = some u → w.cell? ((⟨b, off, none⟩ : Addr).add j) = some u) ∧ (∀ u ∈ news, u.oneCell' = true) ∧
      ∀ j x, xs[j]? = some x → news[j * 2]? = some (.int .i64 x.a) ∧ ∃ A' c', news[j * 2 + 1]? = some (.slice A' x.s.length c') ∧ TsL w A' x.s.length x.s := by
  have hat0 : ∀ j, j < n → ∃ x A' c', xs[j]? = some x ∧ w.cell? ⟨b, off + j * 2, none⟩ = some (.int .i64 x.a) ∧ w.cell? ⟨b, off + j * 2 + 1, none⟩ = some (.slice A' x.s.length c') ∧ TsL w A' x.s.length x.s := by
    intro j hj
    have hj' : j < xs.length := by rw [h.1]; exact hj
    obtain ⟨b', off', A', c', e, h1, h2, h3⟩ := h.2 j xs[j] (List.getElem?_eq_getElem hj')
    cases e
    exact ⟨_, A', c', List.getElem?_eq_getElem hj', h1, h2, h3⟩
  have key : ∀ j, j < n * 2 → ∃ u, w.cell? ⟨b, off + j, none⟩ = some u ∧ u.oneCell' = true := by
    intro j hj
    obtain ⟨x, A', c', _, h1, h2, h3⟩ := hat0 (j / 2) (by omega)
    by_cases hp : j % 2 = 0
    · exact ⟨_, by rw [show off + j = off + j / 2 * 2 by omega]; exact h1, rfl⟩
    · exact ⟨_, by rw [show off + j = off + j / 2 * 2 + 1 by omega]; exact h2, rfl⟩
  have hat : ∀ j, j < n * 2 → ((List.range (n * 2)).map fun j => (w.cell? ⟨b, off + j, none⟩).getD undef)[j]? = w.cell? ⟨b, off + j, none⟩ := by
    intro j hj
    obtain ⟨u, hu, _⟩ := key j hj
    rw [List.getElem?_map, List.getElem?_range hj, hu]
    simp [hu]
  refine ⟨(List.range (n * 2)).map fun j => (w.cell? ⟨b, off + j, none⟩).getD undef, by simp, fun j u hu => ?_, fun u hu => ?_, fun j x hx => ?_⟩
  · have hj : j < n * 2 := by have := (List.getElem?_eq_some_iff.1 hu).1; simpa using this
    rw [hat j hj] at hu
    rw [show ((⟨b, off, none⟩ : Addr).add j) = ⟨b, off + j, none⟩ by by_cases e : j = 0 <;> simp [Addr.add, e]]
    exact hu
  · obtain ⟨j, hj, rfl⟩ := List.mem_map.1 hu
    obtain ⟨u, hu, h1⟩ := key j (List.mem_range.1 hj)
    simp only [hu]
    exact h1
  · have hj : j < n := by have := (List.getElem?_eq_some_iff.1 hx).1; have := h.1; omega
    obtain ⟨x', A', c', hx', h1, h2, h3⟩ := hat0 j hj
    rw [hx] at hx'
    obtain rfl := Option.some.inj hx'
    exact ⟨by rw [hat _ (by omega)]; exact h1, A', c', by rw [hat _ (by omega)]; exact h2, h3⟩
/-- append of points, wherever they lie, onto a row of the call's own. -/
theorem app_pt {w : World} {base k n c : Nat} {v : Value} {A : Option Addr} {ys xs : List P2} (hr : PRow w base v k ys) (h : PtL w A n xs) (hbw : base ≤ w.heap.size) (hk : k ≤ 1000) (hn : n ≤ 1000) :
    ∃ v' w', (Builtin.append_ #[30, 30] 30 #[v, .slice A n c]).run Tryz.prog w = .ok v' w' ∧ PRow w' base v' (k + n) (ys ++ xs) ∧ Below base w w' ∧ w.grownBy w' v.ownBlock := by
  obtain ⟨i0, hi, hz0, hz1, hz2⟩ := info_parts infoPoint
  obtain ⟨hl, cs, ho, hc⟩ := hr
  rcases A with _ | ad
  · have hn0 : n = 0 := by
      rcases Nat.eq_zero_or_pos n with h0 | h0
      · exact h0
      · have h0' : 0 < xs.length := by rw [h.1]; exact h0
        obtain ⟨_, _, _, _, e, _⟩ := h.2 0 (xs[0]'h0') (List.getElem?_eq_getElem h0')
        cases e
    subst hn0
    have hxs : xs = [] := List.eq_nil_of_length_eq_zero h.1
    subst hxs
    exact ⟨v, w, nil_any w base _ _ 83 i0 2 Tryz.underlying30 hi v k _ ho c, (by rw [Nat.add_zero, List.append_nil]; exact ⟨hl, cs, ho, hc⟩), Below.refl _ _, grown_of (Below.refl _ _)⟩
  · obtain ⟨news, l1, l2, l3, l4⟩ : ∃ news : List Value, news.length = n * 2 ∧ (∀ j u, news[j]? = some u → w.cell? (ad.add j) = some u) ∧ (∀ u ∈ news, u.oneCell' = true) ∧
        ∀ j x, xs[j]? = some x → news[j * 2]? = some (.int .i64 x.a) ∧ ∃ A' c', news[j * 2 + 1]? = some (.slice A' x.s.length c') ∧ TsL w A' x.s.length x.s := by
      by_cases hn0 : n = 0
      · have hxs : xs = [] := List.eq_nil_of_length_eq_zero (h.1.trans hn0)
        subst hxs
        exact ⟨[], by simp [hn0], fun j u hu => by simp at hu, fun u hu => by simp at hu, fun j t ht => by simp at ht⟩
      · have h0' : 0 < xs.length := by rw [h.1]; omega
        obtain ⟨b, off, _, _, e, _⟩ := h.2 0 (xs[0]'h0') (List.getElem?_eq_getElem h0')
        cases e
        exact pt_cells h
    obtain ⟨v', w', e1, e2, e3, _⟩ := run_append_own w base 30 30 83 i0 (.agg #[.int .i64 0, .slice none 0 0]) 2 32 Tryz.underlying30 hi hz0 hz1 hz2 rfl (by decide) v k cs ho ad n c news l1 l2 l3 (by unfold maxLen; omega) (by omega) hbw
    have hno := own_noP ho
    have hcl := ho.1
    refine ⟨v', w', e1, ⟨by rw [List.length_append, hl, h.1], _, e2, fun j x hj => ?_⟩, (Below.refl base w).grown e3 hbw (fun j hj => (ho.lt j hj).1), e3⟩
    by_cases hjn : j < ys.length
    · rw [List.getElem?_append_left hjn] at hj
      obtain ⟨a, A', c', b, d⟩ := hc j x hj
      exact ⟨by rw [List.getElem?_append_left (by omega)]; exact a, A', c', by rw [List.getElem?_append_left (by omega)]; exact b, d.kept e3 hno⟩
    · rw [List.getElem?_append_right (by omega)] at hj
      obtain ⟨a, A', c', b, d⟩ := l4 _ x hj
      exact ⟨by rw [List.getElem?_append_right (by omega), show j * 2 - cs.length = (j - ys.length) * 2 by omega]; exact a, A', c', by rw [List.getElem?_append_right (by omega), show j * 2 + 1 - cs.length = (j - ys.length) * 2 + 1 by omega]; exact b, d.kept e3 hno⟩
/-- A point alone in a block. -/
theorem pt_one {w : World} {g : Nat} {x : P2} {A : Option Addr} {c : Nat} (h : BlkIs w g 83 #[.int .i64 x.a, .slice A x.s.length c]) (ht : TsL w A x.s.length x.s) : PtL w (some ⟨g, 0, none⟩) 1 [x] := by
  refine ⟨rfl, fun j y hj => ?_⟩
  have hjl := (List.getElem?_eq_some_iff.1 hj).1
  obtain rfl : j = 0 := by simpa using hjl
  obtain rfl : x = y := by simpa using hj
  exact ⟨g, 0, A, c, rfl, h.cell 0, h.cell 1, ht⟩
theorem pt_nil (w : World) (base : Nat) : PRow w base (.slice none 0 0) 0 [] := ⟨rfl, [], World.ownsRow_nil _ _ _ _, fun j x hj => by simp at hj⟩
/-! What a row and a list keep while another row grows. -/
theorem own_kept {w w' : World} {base n size : Nat} {e : TypeId} {v : Value} {xs : List Value} {r : Option Nat} (h : w.ownsRow base e size v n xs) (hg : w.grownBy w' r) (hr : ∀ k cs, r = some k → w.heap[k]? ≠ some (.cells cs e (0, 0))) : w'.ownsRow base e size v n xs := by
  refine ⟨h.1, ?_⟩
  rcases h.2 with h' | ⟨g, cap, cur, k1, k2, k3, k4⟩
  · exact .inl h'
  · exact .inr ⟨g, cap, cur, k1, k2, (hg.block g (blk_lt k3) (fun e => hr g cur e.symm k3)).trans k3, k4⟩
theorem PRow.kept {w w' : World} {base n : Nat} {v : Value} {xs : List P2} {r : Option Nat} (h : PRow w base v n xs) (hg : w.grownBy w' r) (hr : ∀ k cs, r = some k → w.heap[k]? ≠ some (.cells cs 2 (0, 0)) ∧ w.heap[k]? ≠ some (.cells cs 88 (0, 0))) (hp : ∀ k cs, r = some k → w.heap[k]? ≠ some (.cells cs 83 (0, 0))) : PRow w' base v n xs := by
  obtain ⟨h1, cs, h3, h4⟩ := h
  refine ⟨h1, cs, own_kept h3 hg hp, fun j x hj => ?_⟩
  obtain ⟨a, A', c', b, c⟩ := h4 j x hj
  exact ⟨a, A', c', b, c.kept hg hr⟩
theorem PRow.less {w : World} {base base' n : Nat} {v : Value} {xs : List P2} (h : PRow w base v n xs) (hb : base' ≤ base) : PRow w base' v n xs := by
  obtain ⟨h1, cs, h3, h4⟩ := h
  exact ⟨h1, cs, own_less h3 hb, h4⟩
theorem own_not {w : World} {base n size : Nat} {e e' : TypeId} {v : Value} {xs : List Value} (h : w.ownsRow base e size v n xs) (hne : (e == e') = false) : ∀ k cs, v.ownBlock = some k → w.heap[k]? ≠ some (.cells cs e' (0, 0)) := by
  intro k cs q
  rcases h.2 with ⟨rfl, _⟩ | ⟨g, cap, cur, rfl, _, h3, _⟩
  · cases q
  · have e' : some g = some k := q
    obtain rfl := Option.some.inj e'
    rw [h3]
    intro hk; injection hk with hk; injection hk with _ h2 _; subst h2; simp at hne
theorem blk_not {w : World} {g : Nat} {e e' : TypeId} {cs0 : Array Value} (h : BlkIs w g e cs0) (hne : (e == e') = false) : ∀ k cs, some g = some k → w.heap[k]? ≠ some (.cells cs e' (0, 0)) := by
  intro k cs q
  obtain rfl := Option.some.inj q
  have h' : w.heap[g]? = some (.cells cs0 e (0, 0)) := h
  rw [h']
  intro hk; injection hk with hk; injection hk with _ h2 _; subst h2; simp at hne
theorem blk_grown {w w' : World} {base n size g : Nat} {e e' : TypeId} {v : Value} {xs : List Value} {cs : Array Value} (hb : BlkIs w g e' cs) (h : w.ownsRow base e size v n xs) (hne : (e == e') = false) (hg : w.grownBy w' v.ownBlock) : BlkIs w' g e' cs :=
  (hg.block g hb.lt (fun q => own_not h hne g cs q.symm hb)).trans hb
end Go.Proofs.YtdmcpabpjhinhaaGreatDoor
