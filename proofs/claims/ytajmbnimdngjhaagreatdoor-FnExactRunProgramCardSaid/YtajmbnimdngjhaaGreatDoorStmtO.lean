/-
  Elements of bodies in rows of one's own; the copy that the law makes. Conditions: at most 2^20 elements, terms and coefficients.
-/
import Derived.Test.YtajmbnimdngjhaaGreatDoorStmtC
namespace Go.Proofs.YtajmbnimdngjhaaGreatDoor
set_option linter.unusedVariables false
open Go.RowKit

/-- Elements in memory of the call's own, between two blocks. -/
def OwnST (w : World) (lo hi : Nat) (A : Option Addr) (n c : Nat) (ts : List S8) : Prop :=
  ts.length = n ∧ hi ≤ w.heap.size ∧ (∀ k, (Value.slice A n c).ownBlock = some k → k < hi) ∧ ∃ xs : List Value, w.ownsRow lo 83 8 (.slice A n c) n xs ∧
    ∀ j t, ts[j]? = some t → ∃ As ns cs Ai ni ci Af nf cf, (xs[j * 8]? = some (.int .i64 t.k) ∧ xs[j * 8 + 1]? = some (.int .i64 t.v) ∧ xs[j * 8 + 2]? = some (.int .i64 t.e) ∧ xs[j * 8 + 3]? = some (.int .i64 t.s.1) ∧ xs[j * 8 + 4]? = some (.slice As ns cs) ∧ xs[j * 8 + 5]? = some (.int .i64 t.i.1) ∧ xs[j * 8 + 6]? = some (.slice Ai ni ci) ∧ xs[j * 8 + 7]? = some (.slice Af nf cf)) ∧
      OwnL w lo hi As ns cs t.s.2 ∧ OwnL w lo hi Ai ni ci t.i.2 ∧ OwnTS w lo hi Af nf cf t.f
section
variable {w w' : World} {lo hi lo' hi' : Nat} {A : Option Addr} {n c : Nat} {ts : List S8}
theorem OwnST.next (h : OwnST w lo hi A n c ts) (hb : Below w.heap.size w w') : OwnST w' lo hi A n c ts := by
  obtain ⟨h1, h2, h4, xs, h3, h5⟩ := h
  refine ⟨h1, Nat.le_trans h2 hb.size, h4, xs, own_below h3 hb, fun j t hj => ?_⟩
  obtain ⟨As, ns, cs, Ai, ni, ci, Af, nf, cf, q, k1, k2, k3⟩ := h5 j t hj
  exact ⟨As, ns, cs, Ai, ni, ci, Af, nf, cf, q, k1.next hb, k2.next hb, k3.next hb⟩
theorem OwnST.out (h : OwnST w lo hi A n c ts) (ho : Out lo' hi' w w') (hd : hi' ≤ lo ∨ hi ≤ lo') : OwnST w' lo hi A n c ts := by
  obtain ⟨h1, h2, h4, xs, h3, h5⟩ := h
  refine ⟨h1, Nat.le_trans h2 ho.size, h4, xs, ⟨h3.1, ?_⟩, fun j t hj => ?_⟩
  · rcases h3.2 with h' | ⟨g, cap, cur, k1, k2, k3, k4⟩
    · exact .inl h'
    · refine .inr ⟨g, cap, cur, k1, k2, ?_, k4⟩
      have hg : g < hi := h4 g (by rw [k1]; rfl)
      rw [ho.block g (by omega) (by omega)]
      exact k3
  · obtain ⟨As, ns, cs, Ai, ni, ci, Af, nf, cf, q, k1, k2, k3⟩ := h5 j t hj
    exact ⟨As, ns, cs, Ai, ni, ci, Af, nf, cf, q, k1.out ho hd, k2.out ho hd, k3.out ho hd⟩
theorem OwnST.inn (h : OwnST w lo hi A n c ts) : InST w hi A n ts := by
  obtain ⟨h1, h2, h4, xs, h3, h5⟩ := h
  refine ⟨h1, fun j t hj => ?_⟩
  have hjl : j < ts.length := (List.getElem?_eq_some_iff.1 hj).1
  obtain ⟨As, ns, cs, Ai, ni, ci, Af, nf, cf, ⟨q0, q1, q2, q3, q4, q5, q6, q7⟩, k1, k2, k3⟩ := h5 j t hj
  rcases h3.2 with ⟨_, k2⟩ | ⟨g, cap, cur, e1, _⟩
  · omega
  · have hA : A = some ⟨g, 0, none⟩ := by injection e1
    subst hA
    refine ⟨g, 0, rfl, h4 g rfl, As, ns, cs, Ai, ni, ci, Af, nf, cf, ?_, ?_, ?_, ?_, ?_, ?_, ?_, ?_, ⟨k1.1, k1.inn.2⟩, ⟨k2.1, k2.inn.2⟩, k3.inn⟩ <;> rw [Nat.zero_add]
    · exact (h3.cellAt (j * 8) (by omega)).trans q0
    · exact (h3.cellAt (j * 8 + 1) (by omega)).trans q1
    · exact (h3.cellAt (j * 8 + 2) (by omega)).trans q2
    · exact (h3.cellAt (j * 8 + 3) (by omega)).trans q3
    · exact (h3.cellAt (j * 8 + 4) (by omega)).trans q4
    · exact (h3.cellAt (j * 8 + 5) (by omega)).trans q5
    · exact (h3.cellAt (j * 8 + 6) (by omega)).trans q6
    · exact (h3.cellAt (j * 8 + 7) (by omega)).trans q7
theorem InST.more {B B' : Nat} (h : InST w B A n ts) (hB : B ≤ B') : InST w B' A n ts := ⟨h.1, fun j t hj => by
  obtain ⟨b, off, e, hlt, As, ns, cs, Ai, ni, ci, Af, nf, cf, q0, q1, q2, q3, q4, q5, q6, q7, k1, k2, k3⟩ := h.2 j t hj
  exact ⟨b, off, e, by omega, As, ns, cs, Ai, ni, ci, Af, nf, cf, q0, q1, q2, q3, q4, q5, q6, q7, k1.more hB, k2.more hB, k3.more hB⟩⟩
theorem OwnST.less (h : OwnST w lo hi A n c ts) (hl : lo' ≤ lo) : OwnST w lo' hi A n c ts := by
  obtain ⟨h1, h2, h4, xs, h3, h5⟩ := h
  refine ⟨h1, h2, h4, xs, own_less h3 hl, fun j t hj => ?_⟩
  obtain ⟨As, ns, cs, Ai, ni, ci, Af, nf, cf, q, k1, k2, k3⟩ := h5 j t hj
  exact ⟨As, ns, cs, Ai, ni, ci, Af, nf, cf, q, k1.less hl, k2.less hl, k3.less hl⟩
theorem OwnST.wide (h : OwnST w lo hi A n c ts) (hl : hi ≤ hi') (hs : hi' ≤ w.heap.size) : OwnST w lo hi' A n c ts := by
  obtain ⟨h1, h2, h4, xs, h3, h5⟩ := h
  refine ⟨h1, hs, fun k hk => Nat.lt_of_lt_of_le (h4 k hk) hl, xs, h3, fun j t hj => ?_⟩
  obtain ⟨As, ns, cs, Ai, ni, ci, Af, nf, cf, q, k1, k2, k3⟩ := h5 j t hj
  exact ⟨As, ns, cs, Ai, ni, ci, Af, nf, cf, q, k1.wide hl hs, k2.wide hl hs, k3.wide hl hs⟩
theorem OwnST.all (h : OwnST w lo hi A n c ts) : InST w w.heap.size A n ts := h.inn.more h.2.1
end
theorem laidS_own {wr : World} {B n : Nat} {ts : List S8} (h : LaidS wr B n n ts) (hl : ts.length = n) (hB : B < wr.heap.size) : OwnST wr B wr.heap.size (some ⟨B, 0, none⟩) n n ts := by
  obtain ⟨xs, h1, h2⟩ := h
  refine ⟨hl, Nat.le_refl _, fun k hk => by have hk' : some B = some k := hk; injection hk' with hk'; omega, xs, h1, fun j t hj => ?_⟩
  have hjl : j < ts.length := (List.getElem?_eq_some_iff.1 hj).1
  obtain ⟨As, ns, cs, Ai, ni, ci, Af, nf, cf, q, k1, k2, k3⟩ := h2 j (by omega) t hj
  exact ⟨As, ns, cs, Ai, ni, ci, Af, nf, cf, q, k1.less (by omega), k2.less (by omega), k3.less (by omega)⟩

set_option maxRecDepth 100000 in
set_option maxHeartbeats 4000000 in
theorem toStmtS_o (A : Option Addr) (n c B : Nat) (ts : List S8) (w : World) (h : InST w B A n ts) (hB : B ≤ w.heap.size) (hn : n ≤ 1048576) (he : totS ts ≤ 1048576) :
    Calls Tryz.prog 39 #[.slice A n c] w fun e w' => ∃ g, e = .returned (.slice (some ⟨g, 0, none⟩) n n) ∧ OwnST w' w.heap.size w'.heap.size (some ⟨g, 0, none⟩) n n ts ∧ Below w.heap.size w w' := by
  obtain ⟨i0, hi, hz0, hz1, hz2⟩ := info_parts infoStmt
  go_enter Tryz.func39, Tryz.ntmps39
  go_wp2_with (at_make; refine wpList_make_full _ rfl _ _ 35 rfl w.heap.size 83 i0 (.agg #[.int .i64 0, .int .i64 0, .int .i64 0, .int .i64 0, .slice none 0 0, .int .i64 0, .slice none 0 0, .slice none 0 0]) 8 Tryz.underlying35 hi hz0 hz1 .i64 .i64 _ _ n rfl rfl rfl rfl (by rw [hz2]; omega) (by unfold maxLen; omega) (Nat.le_refl _) ?_; intro w1 hown hgrow)
  have hb1 := (Below.refl w.heap.size w).grown hgrow (Nat.le_refl _) (fun _ h => by cases h)
  have hlt0 : w.heap.size < w1.heap.size := (hown.lt w.heap.size rfl).2
  have hl0 : LaidS w1 w.heap.size n 0 ts := ⟨_, hown, fun j hj => by omega⟩
  clear hgrow hown
  go_loopw [4] (fun i wr => ∃ k : Nat, k ≤ n ∧ i = .int .i64 k ∧ LaidS wr w.heap.size n k ts ∧ w.heap.size < wr.heap.size ∧ Below w.heap.size w wr) (fun i _ => n - (intOf i).toNat)
  case atStart => exact ⟨0, Nat.zero_le _, rfl, hl0, hlt0, hb1⟩
  case round =>
    clear hl0 hlt0 hb1
    obtain ⟨k, hk, rfl, hl, hlt0, hbel⟩ := hrel
    by_cases hlt : k < n
    · obtain ⟨b, off, t, rfl, hb, ht, As, ns, cs, Ai, ni, ci, Af, nf, cf, q0, q1, q2, q3, q4, q5, q6, q7, k1, k2, k3⟩ := (h.next hbel hB).at_ hlt
      have hmx := totS_mem (List.mem_of_getElem? ht)
      unfold S8.tot at hmx
      rw [k1.1, k2.1, k3.1] at hmx
      have HI := Lib.hid (toStmt_k t As ns cs Ai ni ci Af nf cf B wr k1 k2 k3 (by omega) (by omega) (by omega) (by omega) (by omega))
      unfold S8.val at HI
      have HT := Lib.hid ht
      clear k1 k2 k3 ht
      go_wp2_with fail
      refine HI.out.mono ?_
      rintro e w2 ⟨g1, g2, g3, rfl, o1, o2, o3, hb2⟩
      have HL := Lib.hid (laidS_step hl HT.out hlt hlt0 hb2 o1 o2 o3)
      have hs2 := hb2.size
      obtain ⟨xs, hox, _⟩ := hl
      have hox2 := own_below hox hb2
      have hxl : xs.length = n * 8 := hox.1
      have c0 := hox2.cellAt (k * 8) (by omega)
      have c1 := hox2.cellAt (k * 8 + 1) (by omega)
      have c2 := hox2.cellAt (k * 8 + 2) (by omega)
      have c3 := hox2.cellAt (k * 8 + 3) (by omega)
      have c4 := hox2.cellAt (k * 8 + 4) (by omega)
      have c5 := hox2.cellAt (k * 8 + 5) (by omega)
      have c6 := hox2.cellAt (k * 8 + 6) (by omega)
      have c7 := hox2.cellAt (k * 8 + 7) (by omega)
      rw [List.getElem?_eq_getElem (by omega)] at c0 c1 c2 c3 c4 c5 c6 c7
      have f0 := hox2.frozenAt (k * 8)
      have f1 := hox2.frozenAt (k * 8 + 1)
      have f2 := hox2.frozenAt (k * 8 + 2)
      have f3 := hox2.frozenAt (k * 8 + 3)
      have f4 := hox2.frozenAt (k * 8 + 4)
      have f5 := hox2.frozenAt (k * 8 + 5)
      have f6 := hox2.frozenAt (k * 8 + 6)
      have f7 := hox2.frozenAt (k * 8 + 7)
      have hb3 := ((((((((hbel.trans (hb2.mono (by omega))).setCell (p := ⟨w.heap.size, k * 8, none⟩) (Nat.le_refl _) (.int .i64 t.k)).setCell (p := ⟨w.heap.size, k * 8 + 1, none⟩) (Nat.le_refl _) (.int .i64 t.v)).setCell (p := ⟨w.heap.size, k * 8 + 2, none⟩) (Nat.le_refl _) (.int .i64 t.e)).setCell (p := ⟨w.heap.size, k * 8 + 3, none⟩) (Nat.le_refl _) (.int .i64 t.s.1)).setCell (p := ⟨w.heap.size, k * 8 + 4, none⟩) (Nat.le_refl _) (.slice (some ⟨g1, 0, none⟩) ns ns)).setCell (p := ⟨w.heap.size, k * 8 + 5, none⟩) (Nat.le_refl _) (.int .i64 t.i.1)).setCell (p := ⟨w.heap.size, k * 8 + 6, none⟩) (Nat.le_refl _) (.slice (some ⟨g2, 0, none⟩) ni ni)).setCell (p := ⟨w.heap.size, k * 8 + 7, none⟩) (Nat.le_refl _) (.slice (some ⟨g3, 0, none⟩) nf nf)
      clear hox hox2 o1 o2 o3 q0 q1 q2 q3 q4 q5 q6 q7
      go_wp2_with fail
      go_roundw
      case rel => exact ⟨k + 1, by omega, by go_num, HL.out, by simp; omega, hb3⟩
      case measure => simp [intOf]; omega
    · have e : k = n := by omega
      subst e
      go_wp2_with fail
      go_ret
      exact ⟨_, rfl, laidS_own hl h.1 hlt0, hbel⟩
end Go.Proofs.YtajmbnimdngjhaaGreatDoor
