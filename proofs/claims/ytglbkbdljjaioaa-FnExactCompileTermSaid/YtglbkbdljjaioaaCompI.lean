/-
  The program's builder: an instruction written, the code of a term, CompileTerm. Conditions: at most 2^20 coefficients.
-/
import Derived.Test.YtglbkbdljjaioaaCompP
import Derived.Test.YtglbkbdljjaioaaOverI
import Derived.Test.YtglbkbdljjaioaaPtRow
import Derived.Test.YtglbkbdljjaioaaBoxA
namespace Go.Proofs.Ytglbkbdljjaioaa
set_option linter.unusedVariables false
open Go.RowKit

/-- The builtin append in a region that draws, by its run. -/
theorem wp_app_runC {o : Oper} {a : Act} {w : World} {K : Act → World → Prop} {Q : Exit → Act → World → Prop} (x y : Operand) (ts : TypeId) (ho : o.op = .call { callee := .builtin .append, args := #[x, y], argTypes := #[ts, ts] })
    (vx vy : Value) (hx : a.eval x = vx) (hy : a.eval y = vy) (v' : Value) (w' : World) (hr : (Builtin.append_ #[ts, ts] o.type #[vx, vy]).run Try.prog w = .ok v' w') (h : K (a.put o.dst v') w') : o.wp Try.prog a w K Q := by
  unfold Oper.wp
  simp only [execOp, ho, resolve, Sem.run_bind, Sem.run_pure, Result.andThen_ok, invoke, builtin]
  simp only [List.map_toArray, List.map_cons, List.map_nil, hx, hy]
  rw [hr]
  exact h
theorem infoInt64 : (Try.prog.info? 2).map (fun i => (i.zero, i.size, i.bytes)) = some (some (.int .i64 0), 1, 8) := by kernel_rfl
/-- append of one number to a row of the call's own. -/
theorem app_oneL {w : World} {base : Nat} {v : Value} {ys : List Int} (p : Int) (hr : w.ownsRow base 2 1 v ys.length (ys.map ic)) (hbw : base ≤ w.heap.size) (hk : ys.length ≤ 100000) :
    ∃ g' c' w', (Builtin.append_ #[52, 52] 52 #[v, .slice (some ⟨w.heap.size, 0, none⟩) 1 1]).run Try.prog (w.alloc (.cells #[.int .i64 p] 2)) = .ok (.slice (some ⟨g', 0, none⟩) (ys ++ [p]).length c') w' ∧
      w'.ownsRow base 2 1 (.slice (some ⟨g', 0, none⟩) (ys ++ [p]).length c') (ys ++ [p]).length ((ys ++ [p]).map ic) ∧ Below base w w' ∧ (w.alloc (.cells #[.int .i64 p] 2)).grownBy w' v.ownBlock ∧ (some g' = v.ownBlock ∨ w.heap.size ≤ g') := by
  have hb := bnew w (.cells #[.int .i64 p] 2)
  obtain ⟨i0, hi, hz0, hz1, hz2⟩ := info_parts infoInt64
  have hr' := own_below hr hb
  obtain ⟨g', c', w', e1, e2, e3, e4⟩ := run_append_sep (P := Try.prog) (w := w.alloc (.cells #[.int .i64 p] 2)) base 52 52 2 i0 (.int .i64 0) 1 8 Try.underlying52 hi hz0 hz1 hz2 rfl (by decide) v ys.length _ hr' ⟨w.heap.size, 0, none⟩ 1 1 [.int .i64 p] rfl (one_new w (.int .i64 p) _ _ rfl) (fun u hu => by simp at hu; subst hu; rfl) (by unfold maxLen; omega) (by omega) (Nat.le_trans hbw hb.size) (by omega)
  have hl : (ys ++ [p]).length = ys.length + 1 := by simp
  have hm : (ys ++ [p]).map ic = ys.map ic ++ [.int .i64 p] := by simp [ic]
  rw [← hm] at e2
  rw [hl]
  exact ⟨g', c', w', e1, e2, (hb.mono hbw).trans ((Below.refl base _).grown e3 (Nat.le_trans hbw hb.size) (fun j hj => (hr'.lt j hj).1)), e3, e4.imp id (fun h => Nat.le_trans hb.size h)⟩

/-- Some blocks are as they were. -/
structure Kept (P : Nat → Prop) (w w' : World) : Prop where
  os : w'.os = w.os
  tape : w'.tape = w.tape
  output : w'.output = w.output
  size : w.heap.size ≤ w'.heap.size
  block : ∀ k, P k → w'.heap[k]? = w.heap[k]?
section
variable {P : Nat → Prop} {u w w' : World}
theorem Kept.refl (P : Nat → Prop) (w : World) : Kept P w w := ⟨rfl, rfl, rfl, Nat.le_refl _, fun _ _ => rfl⟩
theorem Kept.trans (h : Kept P u w) (h' : Kept P w w') : Kept P u w' := ⟨h'.os.trans h.os, h'.tape.trans h.tape, h'.output.trans h.output, Nat.le_trans h.size h'.size, fun k hk => (h'.block k hk).trans (h.block k hk)⟩
theorem Kept.next (h : Kept P u w) (hP : ∀ k, P k → k < w.heap.size) (hb : Below w.heap.size w w') : Kept P u w' := h.trans ⟨hb.os, hb.tape, hb.output, hb.size, fun k hk => hb.block k (hP k hk)⟩
theorem Kept.grown {r : Option Nat} (h : Kept P u w) (hP : ∀ k, P k → k < w.heap.size) (hg : w.grownBy w' r) (hr : ∀ k, P k → some k ≠ r) : Kept P u w' := h.trans ⟨hg.os, hg.tape, hg.output, hg.size, fun k hk => hg.block k (hP k hk) (hr k hk)⟩
theorem Kept.drew (h : Kept P u w) : Kept P u w.drew := ⟨h.os, h.tape, h.output, h.size, h.block⟩
theorem Kept.below {B : Nat} (h : Kept P u w) (hB : ∀ k, k < B → P k) : Below B u w := ⟨h.os, h.tape, h.output, h.size, fun k hk => h.block k (hB k hk)⟩
end

/-- The builder's block, with the code L and the origins O; the other cells as they are; and blocks P that are none of its own. -/
def Bld (w : World) (g base : Nat) (P : Nat → Prop) (R : Nat → Value) (L : List (Int × Int)) (O : List Int) : Prop :=
  ∃ (A : Option Addr) (c : Nat) (A' : Option Addr) (c' : Nat), BlkIs w g 131 #[R 0, R 1, .slice A L.length c, R 3, R 4, R 5, R 6, .slice A' O.length c', R 8] ∧
    w.ownsRow base 66 2 (.slice A L.length c) L.length (flatC L) ∧ w.ownsRow base 2 1 (.slice A' O.length c') O.length (O.map ic) ∧ base ≤ g ∧
    ∀ k, P k → k < w.heap.size ∧ k ≠ g ∧ some k ≠ (Value.slice A L.length c).ownBlock ∧ some k ≠ (Value.slice A' O.length c').ownBlock
theorem Bld.next {w w' : World} {g base : Nat} {P : Nat → Prop} {R : Nat → Value} {L : List (Int × Int)} {O : List Int} (h : Bld w g base P R L O) (hb : Below w.heap.size w w') : Bld w' g base P R L O := by
  obtain ⟨A, c, A', c', h1, h2, h3, h4, h5⟩ := h
  exact ⟨A, c, A', c', h1.next hb, own_below h2 hb, own_below h3 hb, h4, fun k hk => ⟨Nat.lt_of_lt_of_le (h5 k hk).1 hb.size, (h5 k hk).2⟩⟩
theorem Bld.with {w : World} {g base : Nat} {P Q : Nat → Prop} {R : Nat → Value} {L : List (Int × Int)} {O : List Int} (h : Bld w g base P R L O) (hQ : ∀ k, Q k → P k) : Bld w g base Q R L O := by
  obtain ⟨A, c, A', c', h1, h2, h3, h4, h5⟩ := h
  exact ⟨A, c, A', c', h1, h2, h3, h4, fun k hk => h5 k (hQ k hk)⟩

set_option maxRecDepth 100000 in
set_option maxHeartbeats 4000000 in
theorem write_c (g base : Nat) (P : Nat → Prop) (R : Nat → Value) (L : List (Int × Int)) (O : List Int) (e op arg : Int) (w : World) (h : Bld w g base P R L O) (he : R 8 = .int .i64 e) (hL : L.length ≤ 50000) (hO : O.length ≤ 50000) :
    Calls Try.prog 111 #[.pointer (some ⟨g, 0, none⟩), .int .i64 op, .int .i64 arg] w fun e' w' => e' = .returned (.pointer (some ⟨g, 0, none⟩)) ∧ Bld w' g base P R (L ++ [(op, arg)]) (O ++ [e]) ∧ Kept P w w' := by
  obtain ⟨A, c, A', c', hG, hC, hN, hge, hap⟩ := h
  have hgs := hG.lt
  have z2 := hG.cell 2
  simp at z2
  obtain ⟨j1, c1, w1, x1, r1, b1, g1, s1⟩ := app_oneC op arg hC (by omega) (by omega)
  have hb0 := bnew w (.cells #[.int .i64 op, .int .i64 arg] 66)
  have hG1 := blk_grown (hG.next hb0) (own_below hC hb0) (by decide) g1
  have hN1 := own_kept (own_below hN hb0) g1 (own_not (own_below hC hb0) (by decide))
  obtain ⟨L1, Y1⟩ : ∃ x, Hid (L ++ [(op, arg)] = x) := ⟨_, Lib.hid rfl⟩
  rw [Y1.out] at x1 r1 ⊢
  obtain ⟨O1, YO⟩ : ∃ x, Hid (O ++ [e] = x) := ⟨_, Lib.hid rfl⟩
  rw [YO.out]
  have f2 := hG1.frozen 2
  have y2 := hG1.cell 2
  simp at y2
  have hG2 := hG1.set 2 (.slice (some ⟨j1, 0, none⟩) L1.length c1)
  simp at hG2
  have hC2 := own_kept (w' := w1.setCell ⟨g, 2, none⟩ (.slice (some ⟨j1, 0, none⟩) L1.length c1)) r1 (r := some g) only_set (blk_not hG1 (by decide))
  have hN2 := own_kept (w' := w1.setCell ⟨g, 2, none⟩ (.slice (some ⟨j1, 0, none⟩) L1.length c1)) hN1 (r := some g) only_set (blk_not hG1 (by decide))
  have hPw : ∀ k, P k → k < w.heap.size := fun k hk => (hap k hk).1
  have hK1 : Kept P w w1 := ((Kept.refl P w).next hPw hb0).grown (fun k hk => Nat.lt_of_lt_of_le (hPw k hk) hb0.size) g1 (fun k hk => (hap k hk).2.2.1)
  have hb2 : Kept P w (w1.setCell ⟨g, 2, none⟩ (.slice (some ⟨j1, 0, none⟩) L1.length c1)) := hK1.grown (fun k hk => Nat.lt_of_lt_of_le (hPw k hk) hK1.size) (r := some g) only_set (fun k hk e => (hap k hk).2.1 (Option.some.inj e))
  have hs1 : ∀ k, P k → some k ≠ some j1 := fun k hk e => by
    rcases s1 with s1 | s1
    · exact (hap k hk).2.2.1 (e.trans s1)
    · have := hPw k hk; have := Option.some.inj e; omega
  have hKs := hb2.size
  have X1 := Lib.hid x1
  clear x1 r1 b1 g1 hG1 hN1 hG hC hN
  go_enter Try.func111, Try.ntmps111
  go_wp2_with (at_builtin; refine Lib.wpList_append_run (w.alloc (.cells #[.int .i64 op, .int .i64 arg] 66)) rfl _ _ _ _ rfl _ _ rfl rfl _ _ X1.out ?_)
  generalize w1.setCell ⟨g, 2, none⟩ (.slice (some ⟨j1, 0, none⟩) L1.length c1) = W at hG2 hC2 hN2 hb2 ⊢
  clear y2 f2 z2 X1 hgs
  have hGd : BlkIs W.drew g 131 #[R 0, R 1, .slice (some ⟨j1, 0, none⟩) L1.length c1, R 3, R 4, R 5, R 6, .slice A' O.length c', R 8] := hG2
  have hCd : W.drew.ownsRow base 66 2 (.slice (some ⟨j1, 0, none⟩) L1.length c1) L1.length (flatC L1) := hC2
  have hNd : W.drew.ownsRow base 2 1 (.slice A' O.length c') O.length (O.map ic) := hN2
  have hbd : Kept P w W.drew := hb2.drew
  have z8 : W.drew.cell? ⟨g, 8, none⟩ = some (.int .i64 e) := (hGd.cell 8).trans (by simp [he])
  clear hG2 hC2 hN2 hb2
  refine wp_region_held_drew (S := fun w' => w'.cell? ⟨g, 8, none⟩ = some (.int .i64 e)) (by kernel_rfl) z8 ?_
  intro hHeld0
  generalize W.drew = W0 at hGd hCd hNd hbd z8 hHeld0 ⊢
  refine wpAnyH_take (i := 0) (v := ?_) rfl (by kernel_rfl) (by kernel_rfl) (by kernel_rfl) (fun _ _ _ h => h) (Or.inl ⟨by kernel_rfl, ?_⟩) (by assumption) ?_
  rotate_left
  · intro w9 hS9; (try dsimp only at hS9); go_simp; (try with_reducible rfl)
  set_option linter.unusedSimpArgs false in try simp only [Act.put, List.getElem_toArray, List.getElem_cons_succ, List.getElem_cons_zero, List.setIfInBounds_toArray, List.set_cons_zero, List.set_cons_succ]
  refine wpAnyH_take (i := 1) (v := ?_) rfl (by kernel_rfl) (by kernel_rfl) (by kernel_rfl) (fun _ _ _ h => h) (Or.inl ⟨by kernel_rfl, ?_⟩) (by assumption) ?_
  rotate_left
  · intro w9 hS9; (try dsimp only at hS9); go_simp; (try with_reducible rfl)
  set_option linter.unusedSimpArgs false in try simp only [Act.put, List.getElem_toArray, List.getElem_cons_succ, List.getElem_cons_zero, List.setIfInBounds_toArray, List.set_cons_zero, List.set_cons_succ]
  refine wpAnyH_take (i := 2) (v := ?_) rfl (by kernel_rfl) (by kernel_rfl) (by kernel_rfl) (fun _ _ _ h => h) (Or.inl ⟨by kernel_rfl, ?_⟩) (by assumption) ?_
  rotate_left
  · intro w9 hS9; (try dsimp only at hS9); go_simp; (try with_reducible rfl)
  set_option linter.unusedSimpArgs false in try simp only [Act.put, List.getElem_toArray, List.getElem_cons_succ, List.getElem_cons_zero, List.setIfInBounds_toArray, List.set_cons_zero, List.set_cons_succ]
  refine wpAnyH_take (i := 3) (v := ?_) rfl (by kernel_rfl) (by kernel_rfl) (by kernel_rfl) (fun _ _ _ h => h) (Or.inl ⟨by kernel_rfl, ?_⟩) (by assumption) ?_
  rotate_left
  · intro w9 hS9; (try dsimp only at hS9); go_simp; (try with_reducible rfl)
  set_option linter.unusedSimpArgs false in try simp only [Act.put, List.getElem_toArray, List.getElem_cons_succ, List.getElem_cons_zero, List.setIfInBounds_toArray, List.set_cons_zero, List.set_cons_succ]
  refine wpAnyH_take (i := 5) (v := ?_) rfl (by kernel_rfl) (by kernel_rfl) (by kernel_rfl) (fun _ _ _ h => h) (Or.inl ⟨by kernel_rfl, ?_⟩) (by assumption) ?_
  rotate_left
  · intro w9 hS9; (try dsimp only at hS9); go_simp; (try with_reducible rfl)
  set_option linter.unusedSimpArgs false in try simp only [Act.put, List.getElem_toArray, List.getElem_cons_succ, List.getElem_cons_zero, List.setIfInBounds_toArray, List.set_cons_zero, List.set_cons_succ]
  refine wpAnyH_take (i := 6) (v := ?_) rfl (by kernel_rfl) (by kernel_rfl) (by kernel_rfl) (fun _ _ _ h => h) (Or.inl ⟨by kernel_rfl, ?_⟩) (by assumption) ?_
  rotate_left
  · intro w9 hS9; (try dsimp only at hS9); go_simp; (try with_reducible rfl)
  set_option linter.unusedSimpArgs false in try simp only [Act.put, List.getElem_toArray, List.getElem_cons_succ, List.getElem_cons_zero, List.setIfInBounds_toArray, List.set_cons_zero, List.set_cons_succ]
  refine wpAnyH_take (i := 7) (v := ?_) rfl (by kernel_rfl) (by kernel_rfl) (by kernel_rfl) (fun _ _ _ h => h) (Or.inl ⟨by kernel_rfl, ?_⟩) (by assumption) ?_
  rotate_left
  · intro w9 hS9; (try dsimp only at hS9); go_simp; (try with_reducible rfl)
  set_option linter.unusedSimpArgs false in try simp only [Act.put, List.getElem_toArray, List.getElem_cons_succ, List.getElem_cons_zero, List.setIfInBounds_toArray, List.set_cons_zero, List.set_cons_succ]
  refine wpAnyH_take (i := 8) (v := ?_) rfl (by kernel_rfl) (by kernel_rfl) (by kernel_rfl) (fun _ _ _ h => h) (Or.inl ⟨by kernel_rfl, ?_⟩) (by assumption) ?_
  rotate_left
  · intro w9 hS9; (try dsimp only at hS9); go_simp; (try with_reducible rfl)
  set_option linter.unusedSimpArgs false in try simp only [Act.put, List.getElem_toArray, List.getElem_cons_succ, List.getElem_cons_zero, List.setIfInBounds_toArray, List.set_cons_zero, List.set_cons_succ]
  refine wpAnyH_ready (rs := [4, 9]) (by kernel_rfl) (by simp) ?_
  refine AllReadyH.cons rfl (fun K hK => ?_) (AllReadyH.cons rfl (fun K hK => ?_) (AllReadyH.nil))
  · have z1 := hGd.cell 7
    simp at z1
    go_simp
    refine hK.out _ _ z8 (fun hHeld2 => ?_)
    clear hK K hHeld0
    set_option linter.unusedSimpArgs false in try simp only [Act.put, List.getElem_toArray, List.getElem_cons_succ, List.getElem_cons_zero, List.setIfInBounds_toArray, List.set_cons_zero, List.set_cons_succ]
    refine wpAnyH_ready (rs := [9]) (by kernel_rfl) (by simp) ?_
    refine AllReadyH.cons rfl (fun K hK => ?_) (AllReadyH.nil)
    go_simp
    obtain ⟨j3, c3, w3, x3, r3, b3, g3, s3⟩ := app_oneL e hNd (Nat.le_trans (Nat.le_trans hge (Nat.le_of_lt hGd.lt)) (Nat.le_refl _)) (by omega)
    rw [YO.out] at x3 r3
    have bx3 := hGd.next (bnew W0 (.cells #[.int .i64 e] 2))
    have rc3 := own_below hCd (bnew W0 (.cells #[.int .i64 e] 2))
    have rn3 := own_below hNd (bnew W0 (.cells #[.int .i64 e] 2))
    have hG3 := blk_grown bx3 rn3 (by decide) g3
    have hC3 := own_kept rc3 g3 (own_not rn3 (by decide))
    have hPu : ∀ k, P k → k < W0.heap.size := fun k hk => Nat.lt_of_lt_of_le (hPw k hk) hbd.size
    have hb3 : Kept P w w3 := (hbd.next hPu (bnew W0 (.cells #[.int .i64 e] 2))).grown (fun k hk => Nat.lt_of_lt_of_le (hPu k hk) (bnew W0 (.cells #[.int .i64 e] 2)).size) g3 (fun k hk => (hap k hk).2.2.2)
    have hs3 : ∀ k, P k → some k ≠ some j3 := fun k hk e => s3.elim (fun s => (hap k hk).2.2.2 (e.trans s)) (fun s => absurd (Option.some.inj e) (by have := hPu k hk; omega))
    have q3 := cell_next z8 (bnew W0 (.cells #[.int .i64 e] 2))
    have x3' : (Builtin.append_ #[52, 52] 52 #[.slice A' O.length c', .slice (some ⟨W0.heap.size, 0, none⟩) 1 1]).run Try.prog (W0.alloc (.cells #[.int .i64 e] 2)) = _ := x3
    generalize (W0.alloc (.cells #[.int .i64 e] 2)) = V4 at x3' bx3 q3 ⊢
    refine hK.out _ _ q3 (fun hHeld5 => ?_)
    clear hK K hHeld2
    set_option linter.unusedSimpArgs false in try simp only [Act.put, List.getElem_toArray, List.getElem_cons_succ, List.getElem_cons_zero, List.setIfInBounds_toArray, List.set_cons_zero, List.set_cons_succ]
    refine wpAnyH_ready (rs := [10]) (by kernel_rfl) (by simp) ?_
    refine AllReadyH.cons rfl (fun K hK => ?_) (AllReadyH.nil)
    refine Eq.mpr (if_pos (by kernel_rfl)) ?_
    have q6 : w3.cell? ⟨g, 8, none⟩ = some (.int .i64 e) := (hG3.cell 8).trans (by simp [he])
    refine wp_app_runC _ _ 52 rfl (.slice A' O.length c') (.slice (some ⟨W0.heap.size, 0, none⟩) 1 1) rfl rfl (.slice (some ⟨j3, 0, none⟩) O1.length c3) w3 x3' ?_
    clear x3 x3'
    refine hK.out _ _ q6 (fun hHeld7 => ?_)
    clear hK K hHeld5
    set_option linter.unusedSimpArgs false in try simp only [Act.put, List.getElem_toArray, List.getElem_cons_succ, List.getElem_cons_zero, List.setIfInBounds_toArray, List.set_cons_zero, List.set_cons_succ]
    refine wpAnyH_take (i := 11) (v := ?_) rfl (by kernel_rfl) (by kernel_rfl) (by kernel_rfl) (fun _ _ _ h => h) (Or.inl ⟨by kernel_rfl, ?_⟩) (by assumption) ?_
    rotate_left
    · intro w9 hS9; (try dsimp only at hS9); go_simp; (try with_reducible rfl)
    set_option linter.unusedSimpArgs false in try simp only [Act.put, List.getElem_toArray, List.getElem_cons_succ, List.getElem_cons_zero, List.setIfInBounds_toArray, List.set_cons_zero, List.set_cons_succ]
    refine wpAnyH_take (i := 12) (v := ?_) rfl (by kernel_rfl) (by kernel_rfl) (by kernel_rfl) (fun _ _ _ h => h) (Or.inl ⟨by kernel_rfl, ?_⟩) (by assumption) ?_
    rotate_left
    · intro w9 hS9; (try dsimp only at hS9); go_simp; (try with_reducible rfl)
    set_option linter.unusedSimpArgs false in try simp only [Act.put, List.getElem_toArray, List.getElem_cons_succ, List.getElem_cons_zero, List.setIfInBounds_toArray, List.set_cons_zero, List.set_cons_succ]
    refine wpAnyH_ready (rs := [13]) (by kernel_rfl) (by simp) ?_
    refine AllReadyH.cons rfl (fun K hK => ?_) (AllReadyH.nil)
    have z7 := hG3.cell 7
    have f7 := hG3.frozen 7
    simp at z7
    have hG4 := hG3.set 7 (.slice (some ⟨j3, 0, none⟩) O1.length c3)
    simp only [List.setIfInBounds_toArray, List.set_cons_succ, List.set_cons_zero] at hG4
    have hC4 := own_kept (w' := w3.setCell ⟨g, 7, none⟩ (.slice (some ⟨j3, 0, none⟩) O1.length c3)) hC3 (r := some g) only_set (blk_not hG3 (by decide))
    have hN4 := own_kept (w' := w3.setCell ⟨g, 7, none⟩ (.slice (some ⟨j3, 0, none⟩) O1.length c3)) r3 (r := some g) only_set (blk_not hG3 (by decide))
    have hb4 : Kept P w (w3.setCell ⟨g, 7, none⟩ (.slice (some ⟨j3, 0, none⟩) O1.length c3)) := hb3.grown (fun k hk => Nat.lt_of_lt_of_le (hPw k hk) hb3.size) (r := some g) only_set (fun k hk e => (hap k hk).2.1 (Option.some.inj e))
    have q8 : (w3.setCell ⟨g, 7, none⟩ (.slice (some ⟨j3, 0, none⟩) O1.length c3)).cell? ⟨g, 8, none⟩ = some (.int .i64 e) := (hG4.cell 8).trans (by simp [he])
    go_simp
    refine hK.out _ _ q8 (fun hHeld9 => ?_)
    clear hK K hHeld7
    set_option linter.unusedSimpArgs false in try simp only [Act.put, List.getElem_toArray, List.getElem_cons_succ, List.getElem_cons_zero, List.setIfInBounds_toArray, List.set_cons_zero, List.set_cons_succ]
    refine wpAnyH_done (by kernel_rfl) ?_ _
    go_wp2_with fail
    go_ret
    exact ⟨rfl, ⟨_, c1, _, c3, hG4, hC4, hN4, hge, fun k hk => ⟨Nat.lt_of_lt_of_le (hPw k hk) hb4.size, (hap k hk).2.1, hs1 k hk, hs3 k hk⟩⟩, hb4⟩
  · go_simp
    obtain ⟨j3, c3, w3, x3, r3, b3, g3, s3⟩ := app_oneL e hNd (Nat.le_trans (Nat.le_trans hge (Nat.le_of_lt hGd.lt)) (Nat.le_refl _)) (by omega)
    rw [YO.out] at x3 r3
    have bx3 := hGd.next (bnew W0 (.cells #[.int .i64 e] 2))
    have rc3 := own_below hCd (bnew W0 (.cells #[.int .i64 e] 2))
    have rn3 := own_below hNd (bnew W0 (.cells #[.int .i64 e] 2))
    have hG3 := blk_grown bx3 rn3 (by decide) g3
    have hC3 := own_kept rc3 g3 (own_not rn3 (by decide))
    have hPu : ∀ k, P k → k < W0.heap.size := fun k hk => Nat.lt_of_lt_of_le (hPw k hk) hbd.size
    have hb3 : Kept P w w3 := (hbd.next hPu (bnew W0 (.cells #[.int .i64 e] 2))).grown (fun k hk => Nat.lt_of_lt_of_le (hPu k hk) (bnew W0 (.cells #[.int .i64 e] 2)).size) g3 (fun k hk => (hap k hk).2.2.2)
    have hs3 : ∀ k, P k → some k ≠ some j3 := fun k hk e => s3.elim (fun s => (hap k hk).2.2.2 (e.trans s)) (fun s => absurd (Option.some.inj e) (by have := hPu k hk; omega))
    have q10 := cell_next z8 (bnew W0 (.cells #[.int .i64 e] 2))
    have x3' : (Builtin.append_ #[52, 52] 52 #[.slice A' O.length c', .slice (some ⟨W0.heap.size, 0, none⟩) 1 1]).run Try.prog (W0.alloc (.cells #[.int .i64 e] 2)) = _ := x3
    generalize (W0.alloc (.cells #[.int .i64 e] 2)) = V11 at x3' bx3 q10 ⊢
    refine hK.out _ _ q10 (fun hHeld12 => ?_)
    clear hK K hHeld0
    set_option linter.unusedSimpArgs false in try simp only [Act.put, List.getElem_toArray, List.getElem_cons_succ, List.getElem_cons_zero, List.setIfInBounds_toArray, List.set_cons_zero, List.set_cons_succ]
    refine wpAnyH_ready (rs := [4]) (by kernel_rfl) (by simp) ?_
    refine AllReadyH.cons rfl (fun K hK => ?_) (AllReadyH.nil)
    have z13 := bx3.cell 7
    simp at z13
    go_simp
    refine hK.out _ _ q10 (fun hHeld14 => ?_)
    clear hK K hHeld12
    set_option linter.unusedSimpArgs false in try simp only [Act.put, List.getElem_toArray, List.getElem_cons_succ, List.getElem_cons_zero, List.setIfInBounds_toArray, List.set_cons_zero, List.set_cons_succ]
    refine wpAnyH_ready (rs := [10]) (by kernel_rfl) (by simp) ?_
    refine AllReadyH.cons rfl (fun K hK => ?_) (AllReadyH.nil)
    refine Eq.mpr (if_pos (by kernel_rfl)) ?_
    have q15 : w3.cell? ⟨g, 8, none⟩ = some (.int .i64 e) := (hG3.cell 8).trans (by simp [he])
    refine wp_app_runC _ _ 52 rfl (.slice A' O.length c') (.slice (some ⟨W0.heap.size, 0, none⟩) 1 1) rfl rfl (.slice (some ⟨j3, 0, none⟩) O1.length c3) w3 x3' ?_
    clear x3 x3'
    refine hK.out _ _ q15 (fun hHeld16 => ?_)
    clear hK K hHeld14
    set_option linter.unusedSimpArgs false in try simp only [Act.put, List.getElem_toArray, List.getElem_cons_succ, List.getElem_cons_zero, List.setIfInBounds_toArray, List.set_cons_zero, List.set_cons_succ]
    refine wpAnyH_take (i := 11) (v := ?_) rfl (by kernel_rfl) (by kernel_rfl) (by kernel_rfl) (fun _ _ _ h => h) (Or.inl ⟨by kernel_rfl, ?_⟩) (by assumption) ?_
    rotate_left
    · intro w9 hS9; (try dsimp only at hS9); go_simp; (try with_reducible rfl)
    set_option linter.unusedSimpArgs false in try simp only [Act.put, List.getElem_toArray, List.getElem_cons_succ, List.getElem_cons_zero, List.setIfInBounds_toArray, List.set_cons_zero, List.set_cons_succ]
    refine wpAnyH_take (i := 12) (v := ?_) rfl (by kernel_rfl) (by kernel_rfl) (by kernel_rfl) (fun _ _ _ h => h) (Or.inl ⟨by kernel_rfl, ?_⟩) (by assumption) ?_
    rotate_left
    · intro w9 hS9; (try dsimp only at hS9); go_simp; (try with_reducible rfl)
    set_option linter.unusedSimpArgs false in try simp only [Act.put, List.getElem_toArray, List.getElem_cons_succ, List.getElem_cons_zero, List.setIfInBounds_toArray, List.set_cons_zero, List.set_cons_succ]
    refine wpAnyH_ready (rs := [13]) (by kernel_rfl) (by simp) ?_
    refine AllReadyH.cons rfl (fun K hK => ?_) (AllReadyH.nil)
    have z7 := hG3.cell 7
    have f7 := hG3.frozen 7
    simp at z7
    have hG4 := hG3.set 7 (.slice (some ⟨j3, 0, none⟩) O1.length c3)
    simp only [List.setIfInBounds_toArray, List.set_cons_succ, List.set_cons_zero] at hG4
    have hC4 := own_kept (w' := w3.setCell ⟨g, 7, none⟩ (.slice (some ⟨j3, 0, none⟩) O1.length c3)) hC3 (r := some g) only_set (blk_not hG3 (by decide))
    have hN4 := own_kept (w' := w3.setCell ⟨g, 7, none⟩ (.slice (some ⟨j3, 0, none⟩) O1.length c3)) r3 (r := some g) only_set (blk_not hG3 (by decide))
    have hb4 : Kept P w (w3.setCell ⟨g, 7, none⟩ (.slice (some ⟨j3, 0, none⟩) O1.length c3)) := hb3.grown (fun k hk => Nat.lt_of_lt_of_le (hPw k hk) hb3.size) (r := some g) only_set (fun k hk e => (hap k hk).2.1 (Option.some.inj e))
    have q17 : (w3.setCell ⟨g, 7, none⟩ (.slice (some ⟨j3, 0, none⟩) O1.length c3)).cell? ⟨g, 8, none⟩ = some (.int .i64 e) := (hG4.cell 8).trans (by simp [he])
    go_simp
    refine hK.out _ _ q17 (fun hHeld18 => ?_)
    clear hK K hHeld16
    set_option linter.unusedSimpArgs false in try simp only [Act.put, List.getElem_toArray, List.getElem_cons_succ, List.getElem_cons_zero, List.setIfInBounds_toArray, List.set_cons_zero, List.set_cons_succ]
    refine wpAnyH_done (by kernel_rfl) ?_ _
    go_wp2_with fail
    go_ret
    exact ⟨rfl, ⟨_, c1, _, c3, hG4, hC4, hN4, hge, fun k hk => ⟨Nat.lt_of_lt_of_le (hPw k hk) hb4.size, (hap k hk).2.1, hs1 k hk, hs3 k hk⟩⟩, hb4⟩

def ctO (m : Nat) (e : Int) : List Int := List.replicate m e
theorem ctO_one (m : Nat) (e : Int) : ctO m e ++ [e] = ctO (m + 1) e := List.replicate_succ'.symm
theorem ctO_len (m : Nat) (e : Int) : (ctO m e).length = m := List.length_replicate
theorem Bld.one {w : World} {g base : Nat} {P : Nat → Prop} {R : Nat → Value} {L M : List (Int × Int)} {O : List Int} {e : Int} {x : Int × Int} (h : Bld w g base P R (L ++ M ++ [x]) (O ++ ctO M.length e ++ [e])) : Bld w g base P R (L ++ (M ++ [x])) (O ++ ctO (M ++ [x]).length e) := by
  rw [List.append_assoc, List.append_assoc, ctO_one] at h
  rw [List.length_append]
  exact h

set_option maxRecDepth 100000 in
set_option maxHeartbeats 4000000 in
theorem term_c (g base : Nat) (P : Nat → Prop) (R : Nat → Value) (L : List (Int × Int)) (O : List Int) (e c0 : Int) (A : Option Addr) (n c B : Nat) (zs : List Int) (w : World) (h : Bld w g base P R L O) (he : R 8 = .int .i64 e) (hi : InL w B A n zs) (hB : ∀ k, k < B → P k) (hn : n ≤ 1000) (hL : L.length ≤ 10000) (hO : O.length ≤ 10000) :
    Calls Try.prog 78 #[.pointer (some ⟨g, 0, none⟩), .agg #[.int .i64 c0, .slice A n c]] w fun e' w' => e' = .returned (.pointer (some ⟨g, 0, none⟩)) ∧ Bld w' g base P R (L ++ ctL (c0, zs)) (O ++ ctO (ctL (c0, zs)).length e) ∧ Kept P w w' := by
  have hlen := Lib.hid hi.1
  have hb0 := bnew w (.cells #[.int .i64 c0, .slice A n c] 74)
  have hX : BlkIs (w.alloc (.cells #[.int .i64 c0, .slice A n c] 74)) w.heap.size 74 #[.int .i64 c0, .slice A n c] := blk_new _ _ _ _ rfl
  have hPw : ∀ k, P k → k < w.heap.size := fun k hk => by obtain ⟨_, _, _, _, _, _, _, _, h5⟩ := h; exact (h5 k hk).1
  have hQ : ∀ k, k < B → k < w.heap.size := fun k hk => hPw k (hB k hk)
  -- the blocks that are kept: those of P and the box of the term
  have h1 : Bld (w.alloc (.cells #[.int .i64 c0, .slice A n c] 74)) g base (fun k => P k ∨ k = w.heap.size) R L O := by
    obtain ⟨A2, c2, A3, c3, k1, k2, k3, k4, k5⟩ := h
    refine ⟨A2, c2, A3, c3, k1.next hb0, own_below k2 hb0, own_below k3 hb0, k4, fun k hk => ?_⟩
    rcases hk with hk | hk
    · exact ⟨Nat.lt_of_lt_of_le (k5 k hk).1 hb0.size, (k5 k hk).2⟩
    · subst hk
      refine ⟨by simp, fun e => ?_, fun e => ?_, fun e => ?_⟩
      · have := k1.lt; omega
      · have := (k2.lt _ e.symm).2; omega
      · have := (k3.lt _ e.symm).2; omega
  have hK0 : Kept P w (w.alloc (.cells #[.int .i64 c0, .slice A n c] 74)) := (Kept.refl P w).next hPw hb0
  have HW0 := Lib.hid (write_c g base _ R L O e 0 c0 _ h1 he (by omega) (by omega))
  have HI := Lib.hid hi
  clear h h1 hi
  go_enter Try.func78, Try.ntmps78
  go_wp2_with fail
  generalize w.alloc (.cells #[.int .i64 c0, .slice A n c] 74) = W at hb0 hX hK0 HW0 ⊢
  refine HW0.out.mono ?_
  rintro e' w1 ⟨rfl, hb1, kk1⟩
  have hX1 : BlkIs w1 w.heap.size 74 #[.int .i64 c0, .slice A n c] := (kk1.block _ (.inr rfl)).trans hX
  have hK1 : Kept P w w1 := hK0.trans ⟨kk1.os, kk1.tape, kk1.output, kk1.size, fun k hk => kk1.block k (.inl hk)⟩
  have p1 := hX1.cell 1
  simp at p1
  have hst : Hid (Bld w1 g base P R (L ++ ((0, c0) :: cosC zs 0)) (O ++ ctO ((0, c0) :: cosC zs 0).length e)) := by show Bld _ _ _ _ _ _ _; exact hb1.with (fun k hk => .inl hk)
  clear hb1 kk1 HW0 hX hK0
  go_wp2_with fail
  go_loopw [5, 6, 14] (fun _ _ i wr => ∃ k : Nat, k ≤ n ∧ i = .int .i64 k ∧ Hid (Bld wr g base P R (L ++ ((0, c0) :: cosC zs k)) (O ++ ctO ((0, c0) :: cosC zs k).length e)) ∧ Kept P w wr) (fun _ _ i _ => n - (intOf i).toNat)
  case atStart => exact ⟨0, Nat.zero_le _, rfl, hst, hK1⟩
  case round =>
    clear hst hK1
    obtain ⟨k, hk, rfl, hbk, hK⟩ := hrel
    have hBw := hK.below hB
    by_cases hlt : k < n
    · obtain ⟨b', off, z, rfl, hb', hz, q0⟩ := (HI.out.next hBw (Nat.le_refl _)).2.int_at (k := k) (by rw [hlen.out]; exact hlt)
      have hcl := cosC_len zs k
      have HS := Lib.hid (cosC_succ hz)
      by_cases hz0 : z = 0
      · subst hz0
        have HN : Hid (cosC zs (k + 1) = cosC zs k) := by show _ = _; rw [HS.out, one1_0, List.append_nil]
        clear hz HS
        go_wp2_with fail
        go_roundw
        case rel => exact ⟨k + 1, by omega, by go_num, (by rw [HN.out]; exact hbk), hK⟩
        case measure => simp [intOf]; omega
      · have e0 : (z == 0) = false := by simp [hz0]
        obtain ⟨M, YM⟩ : ∃ x, Hid ((0, c0) :: cosC zs k = x) := ⟨_, Lib.hid rfl⟩
        have hMl : M.length ≤ 3001 := by rw [← YM.out]; simp only [List.length_cons]; omega
        rw [YM.out] at hbk
        have HW1 := Lib.hid (write_c g base P R _ _ e 1 (k : Int) wr hbk.out he (by rw [List.length_append]; omega) (by rw [List.length_append, ctO_len]; omega))
        by_cases hz1 : z = 1
        · subst hz1
          have e1 : ((1 : Int) != 1) = false := by simp
          have HN : Hid ((0, c0) :: cosC zs (k + 1) = M ++ [(1, (k : Int))] ++ [(3, 0)]) := by show _ = _; rw [HS.out, one1_1, ← YM.out]; simp
          clear hz HS e0 hcl hbk
          go_wp2_with fail
          refine HW1.out.mono ?_
          rintro e' w2 ⟨rfl, hb2, kk2⟩
          have hM2 : (M ++ [(1, (k : Int))]).length ≤ 3002 := by simp; omega
          have HW2 := Lib.hid (write_c g base P R _ _ e 3 0 w2 hb2.one he (by rw [List.length_append]; omega) (by rw [List.length_append, ctO_len]; omega))
          clear hb2 HW1
          go_wp2_with fail
          refine HW2.out.mono ?_
          rintro e' w3 ⟨rfl, hb3, kk3⟩
          have hB3 := Lib.hid hb3.one
          clear hb3 HW2
          go_wp2_with fail
          go_roundw
          case rel => exact ⟨k + 1, by omega, by go_num, (by rw [HN.out]; exact hB3), (hK.trans kk2).trans kk3⟩
          case measure => simp [intOf]; omega
        · have e1 : (z != 1) = true := by simp [hz1]
          have HN : Hid ((0, c0) :: cosC zs (k + 1) = M ++ [(1, (k : Int))] ++ [(4, z)] ++ [(3, 0)]) := by show _ = _; rw [HS.out, one1_n k hz0 hz1, ← YM.out]; simp
          clear hz HS hcl hbk hz0 hz1
          go_wp2_with fail
          refine HW1.out.mono ?_
          rintro e' w2 ⟨rfl, hb2, kk2⟩
          have hM2 : (M ++ [(1, (k : Int))]).length ≤ 3002 := by simp; omega
          have HW2 := Lib.hid (write_c g base P R _ _ e 4 z w2 hb2.one he (by rw [List.length_append]; omega) (by rw [List.length_append, ctO_len]; omega))
          clear hb2 HW1
          go_wp2_with fail
          refine HW2.out.mono ?_
          rintro e' w3 ⟨rfl, hb3, kk3⟩
          have hM3 : (M ++ [(1, (k : Int))] ++ [(4, z)]).length ≤ 3003 := by simp; omega
          have HW3 := Lib.hid (write_c g base P R _ _ e 3 0 w3 hb3.one he (by rw [List.length_append]; omega) (by rw [List.length_append, ctO_len]; omega))
          clear hb3 HW2
          go_wp2_with fail
          refine HW3.out.mono ?_
          rintro e' w4 ⟨rfl, hb4, kk4⟩
          have hB4 := Lib.hid hb4.one
          clear hb4 HW3
          go_wp2_with fail
          go_roundw
          case rel => exact ⟨k + 1, by omega, by go_num, (by rw [HN.out]; exact hB4), ((hK.trans kk2).trans kk3).trans kk4⟩
          case measure => simp [intOf]; omega
    · have e : k = n := by omega
      subst e
      have HE : Hid ((0, c0) :: cosC zs k = ctL (c0, zs)) := by show _ = _; unfold ctL; rw [hlen.out]
      rw [HE.out] at hbk
      clear HE
      go_wp2_with fail
      go_ret
      exact ⟨rfl, hbk, hK⟩
end Go.Proofs.Ytglbkbdljjaioaa
