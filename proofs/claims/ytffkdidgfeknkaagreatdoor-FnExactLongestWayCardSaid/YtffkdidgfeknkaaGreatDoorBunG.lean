/-
  Several texts in one: CodeA, PtRow, BoxA, PtOwn, DropS, PtCopy. Conditions: as each says.
-/
import Derived.Test.YtffkdidgfeknkaaGreatDoorInstrL
import Derived.Maps.AppendAt
import Derived.OwnWalk
import Derived.Lib.AppendZeros
import Derived.Test.YtffkdidgfeknkaaGreatDoorPointM
import Derived.Test.YtffkdidgfeknkaaGreatDoorBunA
import Derived.Test.YtffkdidgfeknkaaGreatDoorBlk
import Derived.Test.YtffkdidgfeknkaaGreatDoorAnn
import Derived.Deep.RegionHeld3
import Derived.Test.YtffkdidgfeknkaaGreatDoorAnnV

/-! Instructions appended to a row of the call's own. Conditions: at most 2^20 instructions. -/
namespace Go.Proofs.YtffkdidgfeknkaaGreatDoor
set_option linter.unusedVariables false
open Go.RowKit

theorem nil_any {P : Program} (w : World) (base : Nat) (t ty e : TypeId) (i : TypeInfo) (size : Nat) (ht : P.underlying t = some (.slice e)) (hi : P.info? e = some i)
    (v : Value) (n : Nat) (xs : List Value) (hown : w.ownsRow base e size v n xs) (c : Nat) : (Builtin.append_ #[t, t] ty #[v, .slice none 0 c]).run P w = .ok v w := by
  rcases hown.2 with ⟨rfl, rfl⟩ | ⟨g, cap, cur, rfl, _, _, hnc, _⟩
  · simp [Builtin.append_, run_underlying ht, sizeOf, typeInfo, hi, Builtin.lenOf, Builtin.firstCells]
  · simp [Builtin.append_, run_underlying ht, sizeOf, typeInfo, hi, Builtin.lenOf, Builtin.firstCells, hnc, storeCells]
theorem flatC_one (l : List (Int × Int)) : ∀ u ∈ flatC l, u.oneCell' = true := by
  intro u hu
  obtain ⟨p, _, hp⟩ := List.mem_flatMap.1 hu
  simp at hp
  rcases hp with rfl | rfl <;> rfl
theorem flatC_news {w : World} {B n : Nat} {ad : Addr} {xs : List (Int × Int)} (h : InC w B (some ad) n xs) : ∀ j u, (flatC xs)[j]? = some u → w.cell? (ad.add j) = some u := by
  intro j u hu
  have hj := (List.getElem?_eq_some_iff.1 hu).1
  rw [flatC_len] at hj
  have hi : j / 2 < xs.length := by omega
  have hx : xs[j / 2]? = some xs[j / 2] := List.getElem?_eq_getElem hi
  obtain ⟨b, off, e, hb, h1, h2⟩ := h.2 (j / 2) _ hx
  obtain rfl : ad = ⟨b, off, none⟩ := by injection e
  obtain ⟨f1, f2⟩ := flatC_at hx
  have ha : (⟨b, off, none⟩ : Addr).add j = ⟨b, off + j, none⟩ := by unfold Addr.add; split <;> simp_all
  rw [ha]
  rcases Nat.mod_two_eq_zero_or_one j with e | e
  · rw [show j / 2 * 2 = j by omega] at h1 f1
    rw [h1, ← f1, hu]
  · rw [show off + j / 2 * 2 + 1 = off + j by omega] at h2
    rw [show j / 2 * 2 + 1 = j by omega] at f2
    rw [h2, ← f2, hu]
/-- append of instructions, wherever they lie, onto a row of the call's own. -/
theorem app_cs {w : World} {B base k n c : Nat} {v : Value} {A : Option Addr} {ys xs : List (Int × Int)} (hr : w.ownsRow base 92 2 v k (flatC ys)) (h : InC w B A n xs) (hbw : base ≤ w.heap.size) (hk : k ≤ 1048576) (hn : n ≤ 1048576) :
    ∃ v' w', (Builtin.append_ #[32, 32] 32 #[v, .slice A n c]).run Tryz.prog w = .ok v' w' ∧ w'.ownsRow base 92 2 v' (k + n) (flatC (ys ++ xs)) ∧ Below base w w' := by
  obtain ⟨i0, hi, hz0, hz1, hz2⟩ := info_parts infoInstr
  rcases A with _ | ad
  · have hn0 : n = 0 := by
      rcases Nat.eq_zero_or_pos n with h0 | h0
      · exact h0
      · obtain ⟨_, _, _, e, _⟩ := h.at_ (k := 0) h0
        cases e
    subst hn0
    have hxs : xs = [] := List.eq_nil_of_length_eq_zero h.1
    subst hxs
    exact ⟨v, w, nil_any w base _ _ 92 i0 2 Tryz.underlying32 hi v k _ hr c, by simpa using hr, Below.refl _ _⟩
  · obtain ⟨v', w', e1, e2, e3, _⟩ := run_append_own w base 32 32 92 i0 (.agg #[.int .i64 0, .int .i64 0]) 2 16 Tryz.underlying32 hi hz0 hz1 hz2 rfl (by decide) v k _ hr ad n c (flatC xs) (by rw [flatC_len, h.1]) (flatC_news h) (flatC_one xs) (by unfold maxLen; omega) (by omega) hbw
    rw [← flatC_app] at e2
    exact ⟨v', w', e1, e2, (Below.refl base w).grown e3 hbw (fun j hj => (hr.lt j hj).1)⟩
theorem own_empty2 (w : World) (e : TypeId) : (w.alloc (.cells #[] e)).ownsRow w.heap.size e 2 (.slice (some ⟨w.heap.size, 0, none⟩) 0 0) 0 [] :=
  ⟨rfl, .inr ⟨w.heap.size, 0, #[], rfl, Nat.le_refl _, heap_alloc_new w _, Nat.le_refl _, Nat.zero_le _, rfl, rfl⟩⟩
/-- A row of instructions of the call's own has a slice's value. -/
theorem own_sliceC {w : World} {base n : Nat} {v : Value} {xs : List (Int × Int)} (h : w.ownsRow base 92 2 v n (flatC xs)) (hx : xs.length = n) : ∃ A c, v = .slice A n c ∧ OwnC w base w.heap.size A n c xs := by
  rcases h.2 with ⟨rfl, rfl⟩ | ⟨g, cap, cur, rfl, h2, h3⟩
  · exact ⟨none, 0, rfl, OwnC.of_own h hx⟩
  · exact ⟨some ⟨g, 0, none⟩, cap, rfl, OwnC.of_own h hx⟩
end Go.Proofs.YtffkdidgfeknkaaGreatDoor

/-! Rows of points of the call's own, whose facts lie in typed blocks; a list of such points wherever it lies; append. Conditions: at most 1000 points. -/
namespace Go.Proofs.YtffkdidgfeknkaaGreatDoor
set_option linter.unusedVariables false
open Go.RowKit

/-- Terms that a slice leads to, in a block of terms. -/
def TsL (w : World) (A : Option Addr) (n : Nat) (ts : List (Int × List Int)) : Prop :=
  ts.length = n ∧ ∀ j t, ts[j]? = some t → ∃ b off cs A' n' c', A = some ⟨b, off, none⟩ ∧ w.heap[b]? = some (.cells cs 93 (0, 0)) ∧ w.cell? ⟨b, off + j * 2, none⟩ = some (.int .i64 t.1) ∧ w.cell? ⟨b, off + j * 2 + 1, none⟩ = some (.slice A' n' c') ∧ IntL w A' n' t.2
section
variable {w w' : World} {A : Option Addr} {n : Nat} {ts : List (Int × List Int)}
theorem TsL.inn (h : TsL w A n ts) : InTS w w.heap.size A n ts := by
  refine ⟨h.1, fun j t hj => ?_⟩
  obtain ⟨b, off, cs, A', n', c', e, hb, h1, h2, h3⟩ := h.2 j t hj
  exact ⟨b, off, A', n', c', e, blk_lt hb, h1, h2, h3.1, h3.inn.2⟩
theorem TsL.kept {r : Option Nat} (h : TsL w A n ts) (hg : w.grownBy w' r) (hr : ∀ k cs, r = some k → w.heap[k]? ≠ some (.cells cs 2 (0, 0)) ∧ w.heap[k]? ≠ some (.cells cs 93 (0, 0))) : TsL w' A n ts := by
  refine ⟨h.1, fun j t hj => ?_⟩
  obtain ⟨b, off, cs, A', n', c', e, hb, h1, h2, h3⟩ := h.2 j t hj
  have hblk := hg.block b (blk_lt hb) (fun e => (hr b cs e.symm).2 hb)
  exact ⟨b, off, cs, A', n', c', e, hblk.trans hb, (World.cell?_of_block (a := ⟨b, off + j * 2, none⟩) hblk).trans h1, (World.cell?_of_block (a := ⟨b, off + j * 2 + 1, none⟩) hblk).trans h2, h3.kept hg (fun k cs e => (hr k cs e).1)⟩
theorem TsL.next (h : TsL w A n ts) (hb : Below w.heap.size w w') : TsL w' A n ts := h.kept (r := none) (grown_of hb) (fun k cs e => by cases e)
theorem TsL.of_row {base : Nat} {v : Value} (h : FRow w base v n ts) : ∃ A c, v = .slice A n c ∧ TsL w A n ts := by
  obtain ⟨h1, xs, h3, h4⟩ := h
  have h3' := h3
  rcases h3.2 with ⟨rfl, hn⟩ | ⟨b, cap, cur, rfl, k2, k3, k4⟩
  · have : ts = [] := List.eq_nil_of_length_eq_zero (by omega)
    subst this
    subst hn
    exact ⟨none, 0, rfl, rfl, fun j t hj => by simp at hj⟩
  · refine ⟨some ⟨b, 0, none⟩, cap, rfl, h1, fun j t hj => ?_⟩
    have hjl : j < ts.length := (List.getElem?_eq_some_iff.1 hj).1
    have hxl := h3.1
    obtain ⟨a, A', n', c', bb, c⟩ := h4 j t hj
    refine ⟨b, 0, cur, A', n', c', rfl, k3, ?_, ?_, c⟩
    · rw [Nat.zero_add, h3.cellAt (j * 2) (by omega), a]
    · rw [Nat.zero_add, h3.cellAt (j * 2 + 1) (by omega), bb]
end

/-- Points that a slice leads to, whose facts lie in typed blocks. -/
def PtL (w : World) (A : Option Addr) (n : Nat) (xs : List P2) : Prop :=
  xs.length = n ∧ ∀ j x, xs[j]? = some x → ∃ b off A' c', A = some ⟨b, off, none⟩ ∧ w.cell? ⟨b, off + j * 2, none⟩ = some (.int .i64 x.a) ∧ w.cell? ⟨b, off + j * 2 + 1, none⟩ = some (.slice A' x.s.length c') ∧ TsL w A' x.s.length x.s
/-- Points in a row of the call's own. -/
def PRow (w : World) (base : Nat) (v : Value) (n : Nat) (xs : List P2) : Prop :=
  xs.length = n ∧ ∃ cs, w.ownsRow base 56 2 v n cs ∧ ∀ j x, xs[j]? = some x → cs[j * 2]? = some (.int .i64 x.a) ∧ ∃ A' c', cs[j * 2 + 1]? = some (.slice A' x.s.length c') ∧ TsL w A' x.s.length x.s
section
variable {w w' : World} {A : Option Addr} {n base : Nat} {v : Value} {xs : List P2}
theorem PtL.next (h : PtL w A n xs) (hb : Below w.heap.size w w') : PtL w' A n xs := by
  refine ⟨h.1, fun j x hj => ?_⟩
  obtain ⟨b, off, A', c', e, h1, h2, h3⟩ := h.2 j x hj
  exact ⟨b, off, A', c', e, cell_next h1 hb, cell_next h2 hb, h3.next hb⟩
theorem PtL.inn (h : PtL w A n xs) : InP2 w w.heap.size A n xs := by
  refine ⟨h.1, fun j x hj => ?_⟩
  obtain ⟨b, off, A', c', e, h1, h2, h3⟩ := h.2 j x hj
  exact ⟨b, off, e, cell_lt h1, A', x.s.length, c', h1, h2, h3.inn⟩
theorem PtL.take {k : Nat} (h : PtL w A n xs) (hk : k ≤ n) : PtL w A k (xs.take k) := by
  refine ⟨by rw [List.length_take, h.1]; omega, fun j x hj => ?_⟩
  have hl := (List.getElem?_eq_some_iff.1 hj).1
  rw [List.length_take] at hl
  rw [List.getElem?_take_of_lt (by omega)] at hj
  exact h.2 j x hj
theorem PtL.drop {b off k : Nat} (h : PtL w (some ⟨b, off, none⟩) n xs) (hk : k ≤ n) : PtL w (some ⟨b, off + k * 2, none⟩) (n - k) (xs.drop k) := by
  refine ⟨by rw [List.length_drop, h.1], fun j x hj => ?_⟩
  rw [List.getElem?_drop] at hj
  obtain ⟨b', off', A', c', e, h1, h2, h3⟩ := h.2 (k + j) x hj
  cases e
  refine ⟨b, _, A', c', rfl, ?_, ?_, h3⟩
  · rw [show off + k * 2 + j * 2 = off + (k + j) * 2 by omega]; exact h1
  · rw [show off + k * 2 + j * 2 + 1 = off + (k + j) * 2 + 1 by omega]; exact h2
theorem PRow.next (h : PRow w base v n xs) (hb : Below w.heap.size w w') : PRow w' base v n xs := by
  obtain ⟨h1, cs, h3, h4⟩ := h
  refine ⟨h1, cs, own_below h3 hb, fun j x hj => ?_⟩
  obtain ⟨a, A', c', b, c⟩ := h4 j x hj
  exact ⟨a, A', c', b, c.next hb⟩
theorem PRow.out (h : PRow w base v n xs) : ∃ A c, v = .slice A n c ∧ PtL w A n xs := by
  obtain ⟨h1, cs, h3, h4⟩ := h
  have h3' := h3
  rcases h3.2 with ⟨rfl, hn⟩ | ⟨b, cap, cur, rfl, k2, k3, k4⟩
  · have : xs = [] := List.eq_nil_of_length_eq_zero (by omega)
    subst this
    subst hn
    exact ⟨none, 0, rfl, rfl, fun j t hj => by simp at hj⟩
  · refine ⟨some ⟨b, 0, none⟩, cap, rfl, h1, fun j x hj => ?_⟩
    have hjl : j < xs.length := (List.getElem?_eq_some_iff.1 hj).1
    have hxl := h3.1
    obtain ⟨a, A', c', bb, c⟩ := h4 j x hj
    refine ⟨b, 0, A', c', rfl, ?_, ?_, c⟩
    · rw [Nat.zero_add, h3.cellAt (j * 2) (by omega), a]
    · rw [Nat.zero_add, h3.cellAt (j * 2 + 1) (by omega), bb]
end
theorem own_noP {w : World} {base n : Nat} {v : Value} {xs : List Value} (h : w.ownsRow base 56 2 v n xs) : ∀ k cs, v.ownBlock = some k → w.heap[k]? ≠ some (.cells cs 2 (0, 0)) ∧ w.heap[k]? ≠ some (.cells cs 93 (0, 0)) := by
  intro k cs e
  rcases h.2 with ⟨rfl, _⟩ | ⟨g, cap, cur, rfl, _, h3, _⟩
  · cases e
  · have e' : some g = some k := e
    obtain rfl := Option.some.inj e'
    rw [h3]
    constructor <;> (intro hk; injection hk with hk; injection hk with _ h2 _; revert h2; decide)
theorem pt_cells {w : World} {b off n : Nat} {xs : List P2} (h : PtL w (some ⟨b, off, none⟩) n xs) :
    ∃ news : List Value, news.length = n * 2 ∧ (∀ j u, news[j]? = some u → w.cell? ((⟨b, off, none⟩ : Addr).add j) = some u) ∧ (∀ u ∈ news, u.oneCell' = true) ∧
      ∀ j x, xs[j]? = some x → news[j * 2]? = some (.int .i64 x.a) ∧ ∃ A' c', news[j * 2 + 1]? = some (.slice A' x.s.length c') ∧ TsL w A' x.s.length x.s := by
  have hat0 : ∀ j, j < n → ∃ x A' c', xs[j]? = some x ∧ w.cell? ⟨b, off + j * 2, none⟩ = some (.int .i64 x.a) ∧ w.cell? ⟨b, off + j * 2 + 1, none⟩ = some (.slice A' x.s.length c') ∧ TsL w A' x.s.length x.s := by
    intro j hj
    have hj' : j < xs.length := by rw [h.1]; exact hj
    obtain ⟨b', off', A', c', e, h1, h2, h3⟩ := h.2 j xs[j] (List.getElem?_eq_getElem hj')
    cases e
    exact ⟨_, A', c', List.getElem?_eq_getElem hj', h1, h2, h3⟩
  have key : ∀ j, j < n * 2 → ∃ u, w.cell? ⟨b, off + j, none⟩ = some u ∧ u.oneCell' = true := by
    intro j hj
    obtain ⟨x, A', c', _, h1, h2, h3⟩ := hat0 (j / 2) (by omega)
    by_cases hp : j % 2 = 0
    · exact ⟨_, by rw [show off + j = off + j / 2 * 2 by omega]; exact h1, rfl⟩
    · exact ⟨_, by rw [show off + j = off + j / 2 * 2 + 1 by omega]; exact h2, rfl⟩
  have hat : ∀ j, j < n * 2 → ((List.range (n * 2)).map fun j => (w.cell? ⟨b, off + j, none⟩).getD undef)[j]? = w.cell? ⟨b, off + j, none⟩ := by
    intro j hj
    obtain ⟨u, hu, _⟩ := key j hj
    rw [List.getElem?_map, List.getElem?_range hj, hu]
    simp [hu]
  refine ⟨(List.range (n * 2)).map fun j => (w.cell? ⟨b, off + j, none⟩).getD undef, by simp, fun j u hu => ?_, fun u hu => ?_, fun j x hx => ?_⟩
  · have hj : j < n * 2 := by have := (List.getElem?_eq_some_iff.1 hu).1; simpa using this
    rw [hat j hj] at hu
    rw [show ((⟨b, off, none⟩ : Addr).add j) = ⟨b, off + j, none⟩ by by_cases e : j = 0 <;> simp [Addr.add, e]]
    exact hu
  · obtain ⟨j, hj, rfl⟩ := List.mem_map.1 hu
    obtain ⟨u, hu, h1⟩ := key j (List.mem_range.1 hj)
    simp only [hu]
    exact h1
  · have hj : j < n := by have := (List.getElem?_eq_some_iff.1 hx).1; have := h.1; omega
    obtain ⟨x', A', c', hx', h1, h2, h3⟩ := hat0 j hj
    rw [hx] at hx'
    obtain rfl := Option.some.inj hx'
    exact ⟨by rw [hat _ (by omega)]; exact h1, A', c', by rw [hat _ (by omega)]; exact h2, h3⟩
/-- append of points, wherever they lie, onto a row of the call's own. -/
theorem app_pt {w : World} {base k n c : Nat} {v : Value} {A : Option Addr} {ys xs : List P2} (hr : PRow w base v k ys) (h : PtL w A n xs) (hbw : base ≤ w.heap.size) (hk : k ≤ 1000) (hn : n ≤ 1000) :
    ∃ v' w', (Builtin.append_ #[33, 33] 33 #[v, .slice A n c]).run Tryz.prog w = .ok v' w' ∧ PRow w' base v' (k + n) (ys ++ xs) ∧ Below base w w' ∧ w.grownBy w' v.ownBlock := by
  obtain ⟨i0, hi, hz0, hz1, hz2⟩ := info_parts infoPoint
  obtain ⟨hl, cs, ho, hc⟩ := hr
  rcases A with _ | ad
  · have hn0 : n = 0 := by
      rcases Nat.eq_zero_or_pos n with h0 | h0
      · exact h0
      · have h0' : 0 < xs.length := by rw [h.1]; exact h0
        obtain ⟨_, _, _, _, e, _⟩ := h.2 0 (xs[0]'h0') (List.getElem?_eq_getElem h0')
        cases e
    subst hn0
    have hxs : xs = [] := List.eq_nil_of_length_eq_zero h.1
    subst hxs
    exact ⟨v, w, nil_any w base _ _ 56 i0 2 Tryz.underlying33 hi v k _ ho c, (by rw [Nat.add_zero, List.append_nil]; exact ⟨hl, cs, ho, hc⟩), Below.refl _ _, grown_of (Below.refl _ _)⟩
  · obtain ⟨news, l1, l2, l3, l4⟩ : ∃ news : List Value, news.length = n * 2 ∧ (∀ j u, news[j]? = some u → w.cell? (ad.add j) = some u) ∧ (∀ u ∈ news, u.oneCell' = true) ∧
        ∀ j x, xs[j]? = some x → news[j * 2]? = some (.int .i64 x.a) ∧ ∃ A' c', news[j * 2 + 1]? = some (.slice A' x.s.length c') ∧ TsL w A' x.s.length x.s := by
      by_cases hn0 : n = 0
      · have hxs : xs = [] := List.eq_nil_of_length_eq_zero (h.1.trans hn0)
        subst hxs
        exact ⟨[], by simp [hn0], fun j u hu => by simp at hu, fun u hu => by simp at hu, fun j t ht => by simp at ht⟩
      · have h0' : 0 < xs.length := by rw [h.1]; omega
        obtain ⟨b, off, _, _, e, _⟩ := h.2 0 (xs[0]'h0') (List.getElem?_eq_getElem h0')
        cases e
        exact pt_cells h
    obtain ⟨v', w', e1, e2, e3, _⟩ := run_append_own w base 33 33 56 i0 (.agg #[.int .i64 0, .slice none 0 0]) 2 32 Tryz.underlying33 hi hz0 hz1 hz2 rfl (by decide) v k cs ho ad n c news l1 l2 l3 (by unfold maxLen; omega) (by omega) hbw
    have hno := own_noP ho
    have hcl := ho.1
    refine ⟨v', w', e1, ⟨by rw [List.length_append, hl, h.1], _, e2, fun j x hj => ?_⟩, (Below.refl base w).grown e3 hbw (fun j hj => (ho.lt j hj).1), e3⟩
    by_cases hjn : j < ys.length
    · rw [List.getElem?_append_left hjn] at hj
      obtain ⟨a, A', c', b, d⟩ := hc j x hj
      exact ⟨by rw [List.getElem?_append_left (by omega)]; exact a, A', c', by rw [List.getElem?_append_left (by omega)]; exact b, d.kept e3 hno⟩
    · rw [List.getElem?_append_right (by omega)] at hj
      obtain ⟨a, A', c', b, d⟩ := l4 _ x hj
      exact ⟨by rw [List.getElem?_append_right (by omega), show j * 2 - cs.length = (j - ys.length) * 2 by omega]; exact a, A', c', by rw [List.getElem?_append_right (by omega), show j * 2 + 1 - cs.length = (j - ys.length) * 2 + 1 by omega]; exact b, d.kept e3 hno⟩
/-- A point alone in a block. -/
theorem pt_one {w : World} {g : Nat} {x : P2} {A : Option Addr} {c : Nat} (h : BlkIs w g 56 #[.int .i64 x.a, .slice A x.s.length c]) (ht : TsL w A x.s.length x.s) : PtL w (some ⟨g, 0, none⟩) 1 [x] := by
  refine ⟨rfl, fun j y hj => ?_⟩
  have hjl := (List.getElem?_eq_some_iff.1 hj).1
  obtain rfl : j = 0 := by simpa using hjl
  obtain rfl : x = y := by simpa using hj
  exact ⟨g, 0, A, c, rfl, h.cell 0, h.cell 1, ht⟩
theorem pt_nil (w : World) (base : Nat) : PRow w base (.slice none 0 0) 0 [] := ⟨rfl, [], World.ownsRow_nil _ _ _ _, fun j x hj => by simp at hj⟩
/-! What a row and a list keep while another row grows. -/
theorem own_kept {w w' : World} {base n size : Nat} {e : TypeId} {v : Value} {xs : List Value} {r : Option Nat} (h : w.ownsRow base e size v n xs) (hg : w.grownBy w' r) (hr : ∀ k cs, r = some k → w.heap[k]? ≠ some (.cells cs e (0, 0))) : w'.ownsRow base e size v n xs := by
  refine ⟨h.1, ?_⟩
  rcases h.2 with h' | ⟨g, cap, cur, k1, k2, k3, k4⟩
  · exact .inl h'
  · exact .inr ⟨g, cap, cur, k1, k2, (hg.block g (blk_lt k3) (fun e => hr g cur e.symm k3)).trans k3, k4⟩
theorem PRow.kept {w w' : World} {base n : Nat} {v : Value} {xs : List P2} {r : Option Nat} (h : PRow w base v n xs) (hg : w.grownBy w' r) (hr : ∀ k cs, r = some k → w.heap[k]? ≠ some (.cells cs 2 (0, 0)) ∧ w.heap[k]? ≠ some (.cells cs 93 (0, 0))) (hp : ∀ k cs, r = some k → w.heap[k]? ≠ some (.cells cs 56 (0, 0))) : PRow w' base v n xs := by
  obtain ⟨h1, cs, h3, h4⟩ := h
  refine ⟨h1, cs, own_kept h3 hg hp, fun j x hj => ?_⟩
  obtain ⟨a, A', c', b, c⟩ := h4 j x hj
  exact ⟨a, A', c', b, c.kept hg hr⟩
theorem PRow.less {w : World} {base base' n : Nat} {v : Value} {xs : List P2} (h : PRow w base v n xs) (hb : base' ≤ base) : PRow w base' v n xs := by
  obtain ⟨h1, cs, h3, h4⟩ := h
  exact ⟨h1, cs, own_less h3 hb, h4⟩
theorem own_not {w : World} {base n size : Nat} {e e' : TypeId} {v : Value} {xs : List Value} (h : w.ownsRow base e size v n xs) (hne : (e == e') = false) : ∀ k cs, v.ownBlock = some k → w.heap[k]? ≠ some (.cells cs e' (0, 0)) := by
  intro k cs q
  rcases h.2 with ⟨rfl, _⟩ | ⟨g, cap, cur, rfl, _, h3, _⟩
  · cases q
  · have e' : some g = some k := q
    obtain rfl := Option.some.inj e'
    rw [h3]
    intro hk; injection hk with hk; injection hk with _ h2 _; subst h2; simp at hne
theorem blk_not {w : World} {g : Nat} {e e' : TypeId} {cs0 : Array Value} (h : BlkIs w g e cs0) (hne : (e == e') = false) : ∀ k cs, some g = some k → w.heap[k]? ≠ some (.cells cs e' (0, 0)) := by
  intro k cs q
  obtain rfl := Option.some.inj q
  have h' : w.heap[g]? = some (.cells cs0 e (0, 0)) := h
  rw [h']
  intro hk; injection hk with hk; injection hk with _ h2 _; subst h2; simp at hne
theorem blk_grown {w w' : World} {base n size g : Nat} {e e' : TypeId} {v : Value} {xs : List Value} {cs : Array Value} (hb : BlkIs w g e' cs) (h : w.ownsRow base e size v n xs) (hne : (e == e') = false) (hg : w.grownBy w' v.ownBlock) : BlkIs w' g e' cs :=
  (hg.block g hb.lt (fun q => own_not h hne g cs q.symm hb)).trans hb
end Go.Proofs.YtffkdidgfeknkaaGreatDoor

/-! A new box beside a call: what the law holds of it while the region runs. No conditions. -/
namespace Go.Proofs.YtffkdidgfeknkaaGreatDoor
open Go.RowKit

theorem blk_call {D y v : World} {cs : Array Value} {t : TypeId} (hb : Below (y.alloc (.cells cs t)).heap.size (y.alloc (.cells cs t)) v) (h : Below D.heap.size D y) :
    BlkIs v y.heap.size t cs ∧ y.heap.size < (y.alloc (.cells cs t)).heap.size ∧ D.heap.size ≤ y.heap.size :=
  ⟨(blk_new y t cs _ rfl).next hb, by simp, h.size⟩
theorem blk_step {D x x0 v : World} {g : Nat} {cs : Array Value} {t : TypeId} (h : BlkIs x g t cs ∧ g < x0.heap.size ∧ D.heap.size ≤ g) (hb : Below x.heap.size x v) :
    BlkIs v g t cs ∧ g < x.heap.size ∧ D.heap.size ≤ g :=
  ⟨h.1.next hb, h.1.lt, h.2.2⟩
theorem below_set {D x : World} {g i : Nat} {v : Value} (hb : Below D.heap.size D x) (h : D.heap.size ≤ g) : Below D.heap.size D (x.setCell ⟨g, i, none⟩ v) := hb.setCell (p := ⟨g, i, none⟩) h v
theorem bel_ad (w : World) (o : Obj) : Below w.drew.heap.size w.drew (w.alloc o).drew := ⟨rfl, rfl, rfl, (bnew w o).size, (bnew w o).block⟩
theorem blk_call_d {y v : World} {cs : Array Value} {t : TypeId} (hb : Below (y.alloc (.cells cs t)).drew.heap.size (y.alloc (.cells cs t)).drew v) :
    BlkIs v y.heap.size t cs ∧ y.heap.size < (y.alloc (.cells cs t)).drew.heap.size ∧ y.drew.heap.size ≤ y.heap.size :=
  ⟨(blk_new y t cs _ rfl).next (bstep hb), by show _ < (y.alloc (.cells cs t)).heap.size; simp, Nat.le_refl _⟩
end Go.Proofs.YtffkdidgfeknkaaGreatDoor

/-! Annotated code of its own: the model's l08Own. Conditions: at most 1000 elements, 100000 numbers each. -/
namespace Go.Proofs.YtffkdidgfeknkaaGreatDoor
set_option linter.unusedVariables false
open Go.RowKit

/-- The builtin append in a region that draws, by its run. -/
theorem wp_app_run {o : Oper} {a : Act} {w : World} {K : Act → World → Prop} {Q : Exit → Act → World → Prop} (x y : Operand) (ts : TypeId) (ho : o.op = .call { callee := .builtin .append, args := #[x, y], argTypes := #[ts, ts] })
    (vx vy : Value) (hx : a.eval x = vx) (hy : a.eval y = vy) (v' : Value) (w' : World) (hr : (Builtin.append_ #[ts, ts] o.type #[vx, vy]).run Tryz.prog w = .ok v' w') (h : K (a.put o.dst v') w') : o.wp Tryz.prog a w K Q := by
  unfold Oper.wp
  simp only [execOp, ho, resolve, Sem.run_bind, Sem.run_pure, Result.andThen_ok, invoke, builtin]
  simp only [List.map_toArray, List.map_cons, List.map_nil, hx, hy]
  rw [hr]
  exact h
theorem TsL.set4 {w : World} {A : Option Addr} {n g : Nat} {ts : List (Int × List Int)} {cs : Array Value} (h : TsL w A n ts) (hb : BlkIs w g 35 cs) (o : Nat) (v : Value) : TsL (w.setCell ⟨g, o, none⟩ v) A n ts :=
  h.kept (r := some g) only_set (fun k cs' e => by
    injection e with e
    subst e
    have hb' : w.heap[g]? = some (.cells cs 35 (0, 0)) := hb
    rw [hb']
    constructor <;> (intro hk; injection hk with hk; injection hk with _ h2 _; revert h2; decide))
theorem row_set4 {w : World} {base n g : Nat} {v : Value} {xs : List Value} {cs : Array Value} (h : w.ownsRow base 92 2 v n xs) (hb : BlkIs w g 35 cs) (o : Nat) (u : Value) : (w.setCell ⟨g, o, none⟩ u).ownsRow base 92 2 v n xs := by
  refine ⟨h.1, ?_⟩
  rcases h.2 with h' | ⟨g', cap, cur, k1, k2, k3, k4⟩
  · exact .inl h'
  · refine .inr ⟨g', cap, cur, k1, k2, ?_, k4⟩
    have hne : g' ≠ g := by
      intro e
      subst e
      have hb' : w.heap[g']? = some (.cells cs 35 (0, 0)) := hb
      rw [hb'] at k3
      injection k3 with k3
      injection k3 with _ h2 _
      revert h2
      decide
    rw [Below.heap_setCell w ⟨g, o, none⟩ u g' hne]
    exact k3

theorem own_noI {w : World} {base n : Nat} {v : Value} {xs : List Value} (h : w.ownsRow base 92 2 v n xs) : ∀ k cs, v.ownBlock = some k → w.heap[k]? ≠ some (.cells cs 2 (0, 0)) ∧ w.heap[k]? ≠ some (.cells cs 93 (0, 0)) := by
  intro k cs e
  rcases h.2 with ⟨rfl, _⟩ | ⟨g, cap, cur, rfl, _, h3, _⟩
  · cases e
  · have e' : some g = some k := e
    obtain rfl := Option.some.inj e'
    rw [h3]
    constructor <;> (intro hk; injection hk with hk; injection hk with _ h2 _; revert h2; decide)
theorem box_app {w w' : World} {base n g : Nat} {v : Value} {xs : List Value} {cs : Array Value} (hb : BlkIs w g 35 cs) (h : w.ownsRow base 92 2 v n xs) (hg : w.grownBy w' v.ownBlock) : BlkIs w' g 35 cs := by
  refine (hg.block g hb.lt (fun e => ?_)).trans hb
  rcases h.2 with ⟨rfl, _⟩ | ⟨g', cap, cur, rfl, _, h3, _⟩
  · cases e
  · have e' : some g = some g' := e
    obtain rfl := Option.some.inj e'
    have hb' : w.heap[g]? = some (.cells cs 35 (0, 0)) := hb
    rw [hb'] at h3
    injection h3 with h3
    injection h3 with _ h2 _
    revert h2
    decide
theorem app_csG {w : World} {B base n c : Nat} {v : Value} {A : Option Addr} {xs : List (Int × Int)} (hr : w.ownsRow base 92 2 v 0 []) (h : InC w B A n xs) (hbw : base ≤ w.heap.size) (hn : n ≤ 1048576) :
    ∃ A' c' w', (Builtin.append_ #[32, 32] 32 #[v, .slice A n c]).run Tryz.prog w = .ok (.slice A' n c') w' ∧ w'.ownsRow base 92 2 (.slice A' n c') n (flatC xs) ∧ w.grownBy w' v.ownBlock := by
  obtain ⟨i0, hi, hz0, hz1, hz2⟩ := info_parts infoInstr
  obtain ⟨v', w', h1, h2, h3⟩ : ∃ v' w', (Builtin.append_ #[32, 32] 32 #[v, .slice A n c]).run Tryz.prog w = .ok v' w' ∧ w'.ownsRow base 92 2 v' n (flatC xs) ∧ w.grownBy w' v.ownBlock := by
    rcases A with _ | ad
    · have hn0 : n = 0 := by
        rcases Nat.eq_zero_or_pos n with h0 | h0
        · exact h0
        · obtain ⟨_, _, _, e, _⟩ := h.at_ (k := 0) h0
          cases e
      subst hn0
      have hxs : xs = [] := List.eq_nil_of_length_eq_zero h.1
      subst hxs
      exact ⟨v, w, nil_any w base _ _ 92 i0 2 Tryz.underlying32 hi v 0 _ hr c, hr, grown_of (Below.refl _ _)⟩
    · obtain ⟨v', w', e1, e2, e3, _⟩ := run_append_own w base 32 32 92 i0 (.agg #[.int .i64 0, .int .i64 0]) 2 16 Tryz.underlying32 hi hz0 hz1 hz2 rfl (by decide) v 0 _ hr ad n c (flatC xs) (by rw [flatC_len, h.1]) (flatC_news h) (flatC_one xs) (by unfold maxLen; omega) (by omega) hbw
      rw [Nat.zero_add, List.nil_append] at e2
      exact ⟨v', w', e1, e2, e3⟩
  obtain ⟨A', c', rfl, _⟩ := own_sliceC h2 h.1
  exact ⟨A', c', w', h1, h2, h3⟩

end Go.Proofs.YtffkdidgfeknkaaGreatDoor

/-! The model's DropPoint. Conditions: at most 2^20 elements and numbers. -/
namespace Go.Proofs.YtffkdidgfeknkaaGreatDoor
set_option linter.unusedVariables false
open Go.RowKit

theorem oversB_small {ts : List (Int × List Int)} (h : oversB 6 ts = true) : ts.length ≤ 1000 ∧ ∀ t ∈ ts, t.2.length ≤ 100000 := by
  unfold oversB at h
  simp only [Bool.and_eq_true, decide_eq_true_eq, List.all_eq_true] at h
  refine ⟨by omega, fun t ht => ?_⟩
  have := h.1 t ht
  unfold overB at this
  simp only [Bool.and_eq_true, decide_eq_true_eq] at this
  omega
theorem ptsF_small {len : Int} : ∀ {ps : List P2} {l : Int}, ptsF len l ps = true → ∀ p ∈ ps, p.s.length ≤ 1000 ∧ ∀ t ∈ p.s, t.2.length ≤ 100000 := by
  intro ps
  induction ps with
  | nil => intro l _ p hp; cases hp
  | cons q ps ih =>
    intro l h p hp
    unfold ptsF at h
    simp only [Bool.and_eq_true] at h
    rcases List.mem_cons.1 hp with rfl | hp
    · exact oversB_small h.1.2
    · exact ih h.2 p hp
theorem annB_small {t0 t1 : List (Int × List Int)} {xs : List (Int × Int)} {ps : List P2} (h : annB t0 t1 xs ps = true) :
    (t0.length ≤ 1000 ∧ ∀ t ∈ t0, t.2.length ≤ 100000) ∧ (t1.length ≤ 1000 ∧ ∀ t ∈ t1, t.2.length ≤ 100000) ∧ xs.length ≤ 80 ∧ ps.length ≤ 8 ∧ ∀ p ∈ ps, p.s.length ≤ 1000 ∧ ∀ t ∈ p.s, t.2.length ≤ 100000 := by
  obtain ⟨hc, h0, h1, hp⟩ := annB_parts h
  unfold ptsB at hp
  simp only [Bool.and_eq_true, decide_eq_true_eq] at hp
  have := (codeB_parts hc).2.1
  exact ⟨oversB_small h0, oversB_small h1, by omega, hp.1, ptsF_small hp.2⟩
theorem PRow.cap {w : World} {base n c : Nat} {A : Option Addr} {xs : List P2} (h : PRow w base (.slice A n c) n xs) (hn : 0 < n) : ∃ g, A = some ⟨g, 0, none⟩ ∧ n ≤ c := by
  obtain ⟨_, cs, h3, _⟩ := h
  rcases h3.2 with ⟨h', hn'⟩ | ⟨b, cap, cur, k1, k2, k3, k4, _⟩
  · omega
  · injection k1 with e1 e2 e3
    exact ⟨b, e1, by omega⟩
theorem prow_empty (w : World) : PRow (w.alloc (.cells #[] 56)) w.heap.size (.slice (some ⟨w.heap.size, 0, none⟩) 0 0) 0 [] := ⟨rfl, [], own_empty2 w _, fun j x hj => by simp at hj⟩

/-- A box of four cells that is filled. -/
theorem fill4 {w : World} {g : Nat} {T : TypeId} {x0 x1 x2 x3 : Value} (h : BlkIs w g T #[x0, x1, x2, x3]) (a b c d : Value) :
    BlkIs ((((w.setCell ⟨g, 0, none⟩ a).setCell ⟨g, 1, none⟩ b).setCell ⟨g, 2, none⟩ c).setCell ⟨g, 3, none⟩ d) g T #[a, b, c, d] ∧ w.grownBy ((((w.setCell ⟨g, 0, none⟩ a).setCell ⟨g, 1, none⟩ b).setCell ⟨g, 2, none⟩ c).setCell ⟨g, 3, none⟩ d) (some g) := by
  have hX := (((h.set 0 a).set 1 b).set 2 c).set 3 d
  simp at hX
  exact ⟨hX, only_trans (only_trans (only_trans only_set only_set) only_set) only_set⟩
/-- Annotated code as the model hands it out. -/
def AnS (w w' : World) (e : Ending) (n0 n1 n2 n3 : Nat) (t0 t1 : List (Int × List Int)) (t2 : List (Int × Int)) (t3 : List P2) (r : Bool) : Prop :=
  ∃ R0 d0 R1 d1 R2 d2 R3 d3, e = .returned (.tuple #[.agg #[.slice R0 n0 d0, .slice R1 n1 d1, .slice R2 n2 d2, .slice R3 n3 d3], .bool r]) ∧ InTS w' w'.heap.size R0 n0 t0 ∧ InTS w' w'.heap.size R1 n1 t1 ∧ InC w' w'.heap.size R2 n2 t2 ∧ InP2 w' w'.heap.size R3 n3 t3 ∧ Below w.heap.size w w'
theorem inTS_none (w : World) (B : Nat) : InTS w B none 0 [] := ⟨rfl, fun j t hj => by simp at hj⟩
theorem inC_none (w : World) (B : Nat) : InC w B none 0 [] := ⟨rfl, fun j t hj => by simp at hj⟩
theorem inP2_none (w : World) (B : Nat) : InP2 w B none 0 [] := ⟨rfl, fun j t hj => by simp at hj⟩

section
variable (A0 : Option Addr) (n0 c0 : Nat) (t0 : List (Int × List Int)) (A1 : Option Addr) (n1 c1 : Nat) (t1 : List (Int × List Int)) (A2 : Option Addr) (n2 c2 : Nat) (t2 : List (Int × Int)) (A3 : Option Addr) (n3 c3 : Nat) (t3 : List P2) (i : Int) (w : World) (h0 : InTS w w.heap.size A0 n0 t0) (h1 : InTS w w.heap.size A1 n1 t1) (h2 : InC w w.heap.size A2 n2 t2) (h3 : InP2 w w.heap.size A3 n3 t3) (hn0 : n0 ≤ 1048576) (he0 : totT t0 ≤ 1048576) (hn1 : n1 ≤ 1048576) (he1 : totT t1 ≤ 1048576) (hn2 : n2 ≤ 1048576) (hn3 : n3 ≤ 1048576) (he3 : totP2 t3 ≤ 1048576)
include h0 h1 h2 h3 hn0 he0 hn1 he1 hn2 hn3 he3
end
end Go.Proofs.YtffkdidgfeknkaaGreatDoor

/-! Copies of points: the program's copyOfPoint and eachOf. Conditions: at most 1000 points and facts, 100000 coefficients each. -/
namespace Go.Proofs.YtffkdidgfeknkaaGreatDoor
set_option linter.unusedVariables false
open Go.RowKit

end Go.Proofs.YtffkdidgfeknkaaGreatDoor
