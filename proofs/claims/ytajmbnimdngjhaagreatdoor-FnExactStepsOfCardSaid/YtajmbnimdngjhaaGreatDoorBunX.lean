/-
  Several texts in one: ExeE, ExeT, StOf, ExeI, StepsOf. Conditions: as each says.
-/
import Derived.Test.YtajmbnimdngjhaaGreatDoorExeR
import Derived.Test.YtajmbnimdngjhaaGreatDoorExe
import Derived.Test.YtajmbnimdngjhaaGreatDoorStmtO
import Derived.Deep.RegionHeld3
import Derived.Lib.Hide
import Derived.Test.YtajmbnimdngjhaaGreatDoorRunX
import Derived.Test.YtajmbnimdngjhaaGreatDoorOwn64
import Derived.Test.YtajmbnimdngjhaaGreatDoorMdR

/-! The run method of emit. Conditions: a valid element, a run as ExM tells it, a fuel up to 2000. -/
namespace Go.Proofs.YtajmbnimdngjhaaGreatDoor
set_option linter.unusedVariables false
open Go.RowKit

theorem wp_app_runE {o : Oper} {a : Act} {w : World} {K : Act → World → Prop} {Q : Exit → Act → World → Prop} (x y : Operand) (ts : TypeId) (ho : o.op = .call { callee := .builtin .append, args := #[x, y], argTypes := #[ts, ts] })
    (vx vy : Value) (hx : a.eval x = vx) (hy : a.eval y = vy) (v' : Value) (w' : World) (hr : (Builtin.append_ #[ts, ts] o.type #[vx, vy]).run Tryz.prog w = .ok v' w') (h : K (a.put o.dst v') w') : o.wp Tryz.prog a w K Q := by
  unfold Oper.wp
  simp only [execOp, ho, resolve, Sem.run_bind, Sem.run_pure, Result.andThen_ok, invoke, builtin]
  simp only [List.map_toArray, List.map_cons, List.map_nil, hx, hy]
  rw [hr]
  exact h
theorem infoE : (Tryz.prog.info? 2).map (fun i => (i.zero, i.size, i.bytes)) = some (some (.int .i64 0), 1, 8) := by kernel_rfl
section
variable {w w' : World} {x : S8} {s : RS} {base gx gv cv gc cc : Nat} {E : Option Addr} {ce fuel : Nat}
theorem ExM.own_at (h : ExM w base gx gv cv gc cc E ce fuel s) {k : Nat} (hk : (Value.slice E s.e.length ce).ownBlock = some k) : E = some ⟨k, 0, none⟩ := by
  rcases h.e.2 with ⟨h1, _⟩ | ⟨g, cap, cur, h1, _⟩
  · injection h1 with e1 _ _
    subst e1
    simp [Value.ownBlock] at hk
  · injection h1 with e
    subst e
    simp [Value.ownBlock] at hk
    subst hk
    rfl
theorem ExM.kept_blk (h : ExM w base gx gv cv gc cc E ce fuel s) (hg : w.grownBy w' (Value.slice E s.e.length ce).ownBlock) : BlkIs w' gx 74 #[.slice (some ⟨gv, 0, none⟩) 4 cv, .slice (some ⟨gc, 0, none⟩) 8 cc, .slice E s.e.length ce, .int .i64 (s.n : Int), .int .i64 (fuel : Int)] :=
  (hg.block gx h.lt.1 (fun e => (h.ea gx (h.own_at e.symm)).1 rfl)).trans h.blk
theorem ExM.far_emit (h : ExM w base gx gv cv gc cc E ce fuel s) {g' i : Nat} {v : Value} (hg : w.grownBy w' (Value.slice E s.e.length ce).ownBlock) (hs : some g' = (Value.slice E s.e.length ce).ownBlock ∨ w.heap.size ≤ g') : FarX w (w'.setCell ⟨gx, i, none⟩ v) base gx gv gc E (some ⟨g', 0, none⟩) := by
  have hk : ∀ k, k < w.heap.size → E ≠ some ⟨k, 0, none⟩ → w'.heap[k]? = w.heap[k]? := fun k hk he => hg.block k hk (fun e => he (h.own_at e.symm))
  have hb : Below base w w' := ⟨hg.os, hg.tape, hg.output, hg.size, fun k hlt => by
    have hkk : k < w.heap.size := Nat.lt_of_lt_of_le hlt h.size
    refine hk k hkk (fun e => ?_)
    subst e
    have := (h.e.lt k rfl).1
    omega⟩
  refine ⟨hb.trans (only_below only_set h.bx (Nat.le_trans h.size hg.size)), fun k hlt h1 _ _ h4 => (Below.heap_setCell w' ⟨gx, i, none⟩ v k h1).trans (hk k hlt h4), fun k e => ?_⟩
  injection e with e
  injection e with e
  subst e
  rcases hs with hs | hs
  · exact .inl (h.own_at hs.symm)
  · exact .inr hs
end
section
variable {x : S8} {s : RS} {base gx gv cv gc cc : Nat} {E : Option Addr} {ce fuel : Nat}
set_option maxRecDepth 100000 in
set_option maxHeartbeats 2000000 in
theorem run_emit (hk : x.k = 5) (w : World) (hx : stmtB x = true) (h : ExM w base gx gv cv gc cc E ce fuel s) (g : GoodR fuel s) :
    Calls Tryz.prog 223 #[.agg #[.int .i64 x.e], .pointer (some ⟨gx, 0, none⟩)] w (RunQ w base gx gv cv gc cc E fuel (.leaf x) s) := by
  obtain ⟨i0, hif, hz0, hz1, hz2⟩ := info_parts infoE
  have hb0 := bnew w (.cells #[.int .i64 x.e] 136)
  have p0 : (w.alloc (.cells #[.int .i64 x.e] 136)).cell? ⟨w.heap.size, 0, none⟩ = some (.int .i64 x.e) := by simp
  have hsz : (w.alloc (.cells #[.int .i64 x.e] 136)).heap.size = w.heap.size + 1 := by simp
  have hbase := h.size
  have hnf := g.n
  have hf2 := g.f
  have h0 := h.next hb0
  have hfr := h.fresh (Nat.le_refl _)
  have F0 : FarX w (w.alloc (.cells #[.int .i64 x.e] 136)) base gx gv gc E E := FarX.of_below hbase hb0
  by_cases hn : s.n = fuel
  · have C := Lib.hid (step_no _ h0 hn)
    have HX := Lib.hid h0
    clear h h0
    go_enter Tryz.func223, Tryz.ntmps223
    go_wp2_with fail
    refine C.out.mono ?_
    rintro e w1 ⟨rfl, hb1⟩
    go_wp2_with fail
    go_ret
    exact ⟨1, s, E, ce, rfl, HX.out.next hb1, g, F0.trans (FarX.of_below (by omega) hb1), Nat.le_refl _, ends_fuel (show x.k ≠ 1 by omega) hn⟩
  · have C := Lib.hid (step_yes _ h0 (by omega) hf2)
    have hst : stepS x s.more = (0, s.more) := stepS_no (.inr (.inr (.inl hk)))
    clear h h0
    go_enter Tryz.func223, Tryz.ntmps223
    go_wp2_with fail
    refine C.out.mono ?_
    rintro e w1 ⟨rfl, h1, F1⟩
    have p1 := F1.cell p0 hfr.1 hfr.2.1 hfr.2.2.1 hfr.2.2.2
    have FF := F0.trans F1
    clear C F0 F1 p0
    go_wp2_with fail
    have hd : ExM w1.drew base gx gv cv gc cc E ce fuel s.more := h1.drew
    have FD : FarX w w1.drew base gx gv gc E E := FF.drew
    have pd : w1.drew.cell? ⟨w.heap.size, 0, none⟩ = some (.int .i64 x.e) := p1
    have hE : s.more.e.length ≤ 2000 := by have := g.e; show s.e.length ≤ 2000; omega
    clear h1 FF p1
    refine wp_region_held_drew (S := fun w' => w'.cell? ⟨w.heap.size, 0, none⟩ = some (.int .i64 x.e)) (by kernel_rfl) pd ?_
    intro hHeld0
    generalize w1.drew = W at hd FD pd hHeld0 ⊢
    have hbA := bnew W (.cells #[.int .i64 x.e] 2)
    have hA := hd.next hbA
    obtain ⟨g3, c3, w3, x3, r3, gr3, s3⟩ := run_append_sep (P := Tryz.prog) (w := (W.alloc (.cells #[.int .i64 x.e] 2))) base 26 26 2 i0 (.int .i64 0) 1 8 Tryz.underlying26 hif hz0 hz1 hz2 rfl (by decide) (.slice E s.more.e.length ce) s.more.e.length (s.more.e.map ic) hA.e ⟨W.heap.size, 0, none⟩ 1 1 [.int .i64 x.e] rfl (one_at W (.int .i64 x.e) 2 _ rfl) (fun u hu => by simp at hu; subst hu; rfl) (by unfold maxLen; omega) (by omega) hA.size (by decide)
    have hM := hA.emit r3 gr3 s3
    have hFE := FD.trans ((FarX.of_below hd.size hbA).trans (hA.far_emit (i := 2) (v := .slice (some ⟨g3, 0, none⟩) (s.more.e.length + 1) c3) gr3 s3))
    have hB3 := hA.kept_blk gr3
    have y2 : w3.cell? ⟨gx, 2, none⟩ = some (.slice E s.more.e.length ce) := hB3.cell 2
    have f2 := hB3.frozen 2
    have v2 : W.cell? ⟨gx, 2, none⟩ = some (.slice E s.more.e.length ce) := hd.blk.cell 2
    have v2a : (W.alloc (.cells #[.int .i64 x.e] 2)).cell? ⟨gx, 2, none⟩ = some (.slice E s.more.e.length ce) := hA.blk.cell 2
    have qA : (W.alloc (.cells #[.int .i64 x.e] 2)).cell? ⟨w.heap.size, 0, none⟩ = some (.int .i64 x.e) := cell_next pd hbA
    have q3 : w3.cell? ⟨w.heap.size, 0, none⟩ = some (.int .i64 x.e) := (World.cell?_of_block (a := ⟨w.heap.size, 0, none⟩) (gr3.block w.heap.size (cell_lt qA) (fun e => hfr.2.2.2 (hA.own_at e.symm)))).trans qA
    have q4 : (w3.setCell ⟨gx, 2, none⟩ (.slice (some ⟨g3, 0, none⟩) (s.more.e.length + 1) c3)).cell? ⟨w.heap.size, 0, none⟩ = some (.int .i64 x.e) := (World.cell?_of_block (a := ⟨w.heap.size, 0, none⟩) (Below.heap_setCell w3 ⟨gx, 2, none⟩ _ w.heap.size hfr.1)).trans q3
    have HM := Lib.hid hM
    have HFE := Lib.hid hFE
    have X3 := Lib.hid x3
    clear hM hFE r3 gr3 s3 hB3 hA hd FD x3
    refine wpAnyH_take (i := 0) (v := ?_) rfl (by kernel_rfl) (by kernel_rfl) (by kernel_rfl) (fun _ _ _ h => h) (Or.inl ⟨by kernel_rfl, ?_⟩) (by assumption) ?_
    rotate_left
    · intro w9 hS9; (try dsimp only at hS9); go_simp; (try with_reducible rfl)
    set_option linter.unusedSimpArgs false in try simp only [Act.put, List.getElem_toArray, List.getElem_cons_succ, List.getElem_cons_zero, List.setIfInBounds_toArray, List.set_cons_zero, List.set_cons_succ]
    refine wpAnyH_take (i := 1) (v := ?_) rfl (by kernel_rfl) (by kernel_rfl) (by kernel_rfl) (fun _ _ _ h => h) (Or.inl ⟨by kernel_rfl, ?_⟩) (by assumption) ?_
    rotate_left
    · intro w9 hS9; (try dsimp only at hS9); go_simp; (try with_reducible rfl)
    set_option linter.unusedSimpArgs false in try simp only [Act.put, List.getElem_toArray, List.getElem_cons_succ, List.getElem_cons_zero, List.setIfInBounds_toArray, List.set_cons_zero, List.set_cons_succ]
    refine wpAnyH_take (i := 2) (v := ?_) rfl (by kernel_rfl) (by kernel_rfl) (by kernel_rfl) (fun _ _ _ h => h) (Or.inl ⟨by kernel_rfl, ?_⟩) (by assumption) ?_
    rotate_left
    · intro w9 hS9; (try dsimp only at hS9); go_simp; (try with_reducible rfl)
    set_option linter.unusedSimpArgs false in try simp only [Act.put, List.getElem_toArray, List.getElem_cons_succ, List.getElem_cons_zero, List.setIfInBounds_toArray, List.set_cons_zero, List.set_cons_succ]
    refine wpAnyH_take (i := 3) (v := ?_) rfl (by kernel_rfl) (by kernel_rfl) (by kernel_rfl) (fun _ _ _ h => h) (Or.inl ⟨by kernel_rfl, ?_⟩) (by assumption) ?_
    rotate_left
    · intro w9 hS9; (try dsimp only at hS9); go_simp; (try with_reducible rfl)
    set_option linter.unusedSimpArgs false in try simp only [Act.put, List.getElem_toArray, List.getElem_cons_succ, List.getElem_cons_zero, List.setIfInBounds_toArray, List.set_cons_zero, List.set_cons_succ]
    refine wpAnyH_take (i := 5) (v := ?_) rfl (by kernel_rfl) (by kernel_rfl) (by kernel_rfl) (fun _ _ _ h => h) (Or.inl ⟨by kernel_rfl, ?_⟩) (by assumption) ?_
    rotate_left
    · intro w9 hS9; (try dsimp only at hS9); go_simp; (try with_reducible rfl)
    set_option linter.unusedSimpArgs false in try simp only [Act.put, List.getElem_toArray, List.getElem_cons_succ, List.getElem_cons_zero, List.setIfInBounds_toArray, List.set_cons_zero, List.set_cons_succ]
    refine wpAnyH_take (i := 6) (v := ?_) rfl (by kernel_rfl) (by kernel_rfl) (by kernel_rfl) (fun _ _ _ h => h) (Or.inl ⟨by kernel_rfl, ?_⟩) (by assumption) ?_
    rotate_left
    · intro w9 hS9; (try dsimp only at hS9); go_simp; (try with_reducible rfl)
    set_option linter.unusedSimpArgs false in try simp only [Act.put, List.getElem_toArray, List.getElem_cons_succ, List.getElem_cons_zero, List.setIfInBounds_toArray, List.set_cons_zero, List.set_cons_succ]
    refine wpAnyH_ready (rs := [4, 7]) (by kernel_rfl) (by simp) ?_
    refine AllReadyH.cons rfl (fun K hK => ?_) (AllReadyH.cons rfl (fun K hK => ?_) (AllReadyH.nil))
    · go_simp
      refine hK.out _ _ pd (fun hHeld1 => ?_)
      clear hK K hHeld0
      set_option linter.unusedSimpArgs false in try simp only [Act.put, List.getElem_toArray, List.getElem_cons_succ, List.getElem_cons_zero, List.setIfInBounds_toArray, List.set_cons_zero, List.set_cons_succ]
      refine wpAnyH_ready (rs := [7]) (by kernel_rfl) (by simp) ?_
      refine AllReadyH.cons rfl (fun K hK => ?_) (AllReadyH.nil)
      go_simp
      refine hK.out _ _ qA (fun hHeld2 => ?_)
      clear hK K hHeld1
      set_option linter.unusedSimpArgs false in try simp only [Act.put, List.getElem_toArray, List.getElem_cons_succ, List.getElem_cons_zero, List.setIfInBounds_toArray, List.set_cons_zero, List.set_cons_succ]
      refine wpAnyH_ready (rs := [8]) (by kernel_rfl) (by simp) ?_
      refine AllReadyH.cons rfl (fun K hK => ?_) (AllReadyH.nil)
      refine Eq.mpr (if_pos (by kernel_rfl)) ?_
      refine wp_app_runE _ _ 26 rfl (.slice E s.more.e.length ce) (.slice (some ⟨W.heap.size, 0, none⟩) 1 1) rfl rfl (.slice (some ⟨g3, 0, none⟩) (s.more.e.length + 1) c3) w3 X3.out ?_
      refine hK.out _ _ q3 (fun hHeld3 => ?_)
      clear hK K hHeld2
      set_option linter.unusedSimpArgs false in try simp only [Act.put, List.getElem_toArray, List.getElem_cons_succ, List.getElem_cons_zero, List.setIfInBounds_toArray, List.set_cons_zero, List.set_cons_succ]
      refine wpAnyH_take (i := 9) (v := ?_) rfl (by kernel_rfl) (by kernel_rfl) (by kernel_rfl) (fun _ _ _ h => h) (Or.inl ⟨by kernel_rfl, ?_⟩) (by assumption) ?_
      rotate_left
      · intro w9 hS9; (try dsimp only at hS9); go_simp; (try with_reducible rfl)
      set_option linter.unusedSimpArgs false in try simp only [Act.put, List.getElem_toArray, List.getElem_cons_succ, List.getElem_cons_zero, List.setIfInBounds_toArray, List.set_cons_zero, List.set_cons_succ]
      refine wpAnyH_take (i := 10) (v := ?_) rfl (by kernel_rfl) (by kernel_rfl) (by kernel_rfl) (fun _ _ _ h => h) (Or.inl ⟨by kernel_rfl, ?_⟩) (by assumption) ?_
      rotate_left
      · intro w9 hS9; (try dsimp only at hS9); go_simp; (try with_reducible rfl)
      set_option linter.unusedSimpArgs false in try simp only [Act.put, List.getElem_toArray, List.getElem_cons_succ, List.getElem_cons_zero, List.setIfInBounds_toArray, List.set_cons_zero, List.set_cons_succ]
      refine wpAnyH_ready (rs := [11]) (by kernel_rfl) (by simp) ?_
      refine AllReadyH.cons rfl (fun K hK => ?_) (AllReadyH.nil)
      go_simp
      refine hK.out _ _ q4 (fun hHeld4 => ?_)
      clear hK K hHeld3
      set_option linter.unusedSimpArgs false in try simp only [Act.put, List.getElem_toArray, List.getElem_cons_succ, List.getElem_cons_zero, List.setIfInBounds_toArray, List.set_cons_zero, List.set_cons_succ]
      refine wpAnyH_done (by kernel_rfl) ?_ _
      go_wp2_with fail
      go_ret
      exact ⟨0, _, _, c3, rfl, HM.out, ⟨⟨g.g.lv, g.g.lc, g.g.v, g.g.c⟩, by have := g.e; show (s.e ++ [x.e]).length ≤ s.n + 1; rw [List.length_append]; simp; omega, by show s.n + 1 ≤ fuel; omega, g.f⟩, HFE.out, Nat.le_succ _, by have := ends_leaf (by omega) hn hst; simp only [nextS] at this; rw [if_pos hk] at this; exact this⟩
    · go_simp
      refine hK.out _ _ qA (fun hHeld5 => ?_)
      clear hK K hHeld0
      set_option linter.unusedSimpArgs false in try simp only [Act.put, List.getElem_toArray, List.getElem_cons_succ, List.getElem_cons_zero, List.setIfInBounds_toArray, List.set_cons_zero, List.set_cons_succ]
      refine wpAnyH_ready (rs := [4]) (by kernel_rfl) (by simp) ?_
      refine AllReadyH.cons rfl (fun K hK => ?_) (AllReadyH.nil)
      go_simp
      refine hK.out _ _ qA (fun hHeld6 => ?_)
      clear hK K hHeld5
      set_option linter.unusedSimpArgs false in try simp only [Act.put, List.getElem_toArray, List.getElem_cons_succ, List.getElem_cons_zero, List.setIfInBounds_toArray, List.set_cons_zero, List.set_cons_succ]
      refine wpAnyH_ready (rs := [8]) (by kernel_rfl) (by simp) ?_
      refine AllReadyH.cons rfl (fun K hK => ?_) (AllReadyH.nil)
      refine Eq.mpr (if_pos (by kernel_rfl)) ?_
      refine wp_app_runE _ _ 26 rfl (.slice E s.more.e.length ce) (.slice (some ⟨W.heap.size, 0, none⟩) 1 1) rfl rfl (.slice (some ⟨g3, 0, none⟩) (s.more.e.length + 1) c3) w3 X3.out ?_
      refine hK.out _ _ q3 (fun hHeld7 => ?_)
      clear hK K hHeld6
      set_option linter.unusedSimpArgs false in try simp only [Act.put, List.getElem_toArray, List.getElem_cons_succ, List.getElem_cons_zero, List.setIfInBounds_toArray, List.set_cons_zero, List.set_cons_succ]
      refine wpAnyH_take (i := 9) (v := ?_) rfl (by kernel_rfl) (by kernel_rfl) (by kernel_rfl) (fun _ _ _ h => h) (Or.inl ⟨by kernel_rfl, ?_⟩) (by assumption) ?_
      rotate_left
      · intro w9 hS9; (try dsimp only at hS9); go_simp; (try with_reducible rfl)
      set_option linter.unusedSimpArgs false in try simp only [Act.put, List.getElem_toArray, List.getElem_cons_succ, List.getElem_cons_zero, List.setIfInBounds_toArray, List.set_cons_zero, List.set_cons_succ]
      refine wpAnyH_take (i := 10) (v := ?_) rfl (by kernel_rfl) (by kernel_rfl) (by kernel_rfl) (fun _ _ _ h => h) (Or.inl ⟨by kernel_rfl, ?_⟩) (by assumption) ?_
      rotate_left
      · intro w9 hS9; (try dsimp only at hS9); go_simp; (try with_reducible rfl)
      set_option linter.unusedSimpArgs false in try simp only [Act.put, List.getElem_toArray, List.getElem_cons_succ, List.getElem_cons_zero, List.setIfInBounds_toArray, List.set_cons_zero, List.set_cons_succ]
      refine wpAnyH_ready (rs := [11]) (by kernel_rfl) (by simp) ?_
      refine AllReadyH.cons rfl (fun K hK => ?_) (AllReadyH.nil)
      go_simp
      refine hK.out _ _ q4 (fun hHeld8 => ?_)
      clear hK K hHeld7
      set_option linter.unusedSimpArgs false in try simp only [Act.put, List.getElem_toArray, List.getElem_cons_succ, List.getElem_cons_zero, List.setIfInBounds_toArray, List.set_cons_zero, List.set_cons_succ]
      refine wpAnyH_done (by kernel_rfl) ?_ _
      go_wp2_with fail
      go_ret
      exact ⟨0, _, _, c3, rfl, HM.out, ⟨⟨g.g.lv, g.g.lc, g.g.v, g.g.c⟩, by have := g.e; show (s.e ++ [x.e]).length ≤ s.n + 1; rw [List.length_append]; simp; omega, by show s.n + 1 ≤ fuel; omega, g.f⟩, HFE.out, Nat.le_succ _, by have := ends_leaf (by omega) hn hst; simp only [nextS] at this; rw [if_pos hk] at this; exact this⟩
end
end Go.Proofs.YtajmbnimdngjhaaGreatDoor

/-! The run method of every statement of a tree. Conditions: a valid body, a run as ExM tells it, a fuel up to 2000. -/
namespace Go.Proofs.YtajmbnimdngjhaaGreatDoor
set_option linter.unusedVariables false
open Go.RowKit

/-- What a value's method run is. -/
def MethodIs (u : Value) (F : FuncId) (r : Value) : Prop := ∃ (T : TypeId) (c : Value), u = .iface T c ∧ (∀ w : World, (method 380 T c "loop.example/g01105/impl.run").run Tryz.prog w = .ok (F, r) w) ∧ ∀ (args : Array Value) (w : World), (callFunc F args).run Tryz.prog w = .ok (.enter F args) w
def Runs (w0 : World) (B fuel : Nat) (t : Tr) (u : Value) : Prop := ∃ (F : FuncId) (r : Value), MethodIs u F r ∧ ∀ (w : World) (base gx gv cv gc cc : Nat) (E : Option Addr) (ce : Nat) (s : RS), Below B w0 w → B ≤ base → ExM w base gx gv cv gc cc E ce fuel s → GoodR fuel s →
  Calls Tryz.prog F #[r, .pointer (some ⟨gx, 0, none⟩)] w (RunQ w base gx gv cv gc cc E fuel t s)
def readN (w : World) (g : Nat) : Nat := (intOf ((w.cell? ⟨g, 3, none⟩).getD undef)).toNat
theorem ExM.readN {w : World} {base gx gv cv gc cc : Nat} {E : Option Addr} {ce fuel : Nat} {s : RS} (h : ExM w base gx gv cv gc cc E ce fuel s) : readN w gx = s.n := by
  have : w.cell? ⟨gx, 3, none⟩ = some (.int .i64 (s.n : Int)) := h.blk.cell 3
  unfold Go.Proofs.YtajmbnimdngjhaaGreatDoor.readN
  rw [this]
  simp [intOf]
section
variable {x : S8} {s : RS} {base gx gv cv gc cc : Nat} {E : Option Addr} {ce fuel B : Nat} {w0 : World} {a b : Tr} {u v : Value}
set_option maxRecDepth 100000 in
set_option maxHeartbeats 1000000 in
theorem run_seq (hk : x.k = 1) (ha : Runs w0 B fuel a u) (hb : Runs w0 B fuel b v) (w : World) (hw : Below B w0 w) (hB : B ≤ base) (h : ExM w base gx gv cv gc cc E ce fuel s) (g : GoodR fuel s) :
    Calls Tryz.prog 204 #[.agg #[u, v], .pointer (some ⟨gx, 0, none⟩)] w (RunQ w base gx gv cv gc cc E fuel (.two x a b) s) := by
  obtain ⟨Fa, ra, ⟨Ta, xa, rfl, hma, hfa⟩, ca⟩ := ha
  obtain ⟨Fb, rb, ⟨Tb, xb, rfl, hmb, hfb⟩, cb⟩ := hb
  have hb0 := bnew w (.cells #[.iface Ta xa, .iface Tb xb] 90)
  have p0 : (w.alloc (.cells #[.iface Ta xa, .iface Tb xb] 90)).cell? ⟨w.heap.size, 0, none⟩ = some (.iface Ta xa) := by simp
  have p1 : (w.alloc (.cells #[.iface Ta xa, .iface Tb xb] 90)).cell? ⟨w.heap.size, 1, none⟩ = some (.iface Tb xb) := by simp
  have hbase := h.size
  have hfr := h.fresh (Nat.le_refl _)
  have hw1 := hw.trans (hb0.mono (Nat.le_trans hB hbase))
  have F0 : FarX w (w.alloc (.cells #[.iface Ta xa, .iface Tb xb] 90)) base gx gv gc E E := FarX.of_below hbase hb0
  have CA := Lib.hid (ca _ base gx gv cv gc cc E ce s hw1 hB (h.next hb0) g)
  have CB := Lib.hid cb
  have MB := Lib.hid hmb
  clear h ca cb hmb
  go_enter Tryz.func204, Tryz.ntmps204
  go_wp2_with fail
  generalize w.alloc (.cells #[.iface Ta xa, .iface Tb xb] 90) = W at hb0 p0 p1 hw1 F0 CA ⊢
  refine CA.out.mono ?_
  rintro e w1 ⟨o, s1, E1, ce1, rfl, h1, g1, F1, hle, he⟩
  replace p1 := F1.cell p1 hfr.1 hfr.2.1 hfr.2.2.1 hfr.2.2.2
  have hw2 := hw1.trans (F1.below.mono hB)
  have FF := F0.trans F1
  clear CA hma F0 F1
  by_cases ho : o = 0
  · subst ho
    have CC := Lib.hid (CB.out w1 base gx gv cv gc cc E1 ce1 s1 hw2 hB h1 g1)
    have hmb := MB.out
    clear h1 CB
    go_wp2_with fail
    refine CC.out.mono ?_
    rintro e w2 ⟨o, s2, E2, ce2, rfl, h2, g2, F2, hle2, he2⟩
    clear hmb
    go_wp2_with fail
    go_ret
    exact ⟨o, s2, E2, ce2, rfl, h2, g2, FF.trans F2, by omega, ends_seq hk he he2⟩
  · have HX := Lib.hid h1
    clear h1 CB
    go_wp2_with fail
    go_ret
    exact ⟨o, s1, E1, ce1, rfl, HX.out, g1, FF, hle, ends_seq_stop hk he ho⟩
set_option maxRecDepth 100000 in
set_option maxHeartbeats 1000000 in
theorem run_if (hk : x.k = 7) (As : Option Addr) (ns cs : Nat) (ha : Runs w0 B fuel a u) (hb : Runs w0 B fuel b v) (w : World) (hx : stmtB x = true) (hi : InL w base As ns x.s.2) (hw : Below B w0 w) (hB : B ≤ base) (h : ExM w base gx gv cv gc cc E ce fuel s) (g : GoodR fuel s) :
    Calls Tryz.prog 231 #[.agg #[.int .i64 x.s.1, .slice As ns cs, u, v], .pointer (some ⟨gx, 0, none⟩)] w (RunQ w base gx gv cv gc cc E fuel (.two x a b) s) := by
  obtain ⟨Fa, ra, ⟨Ta, xa, rfl, hma, hfa⟩, ca⟩ := ha
  obtain ⟨Fb, rb, ⟨Tb, xb, rfl, hmb, hfb⟩, cb⟩ := hb
  have hb0 := bnew w (.cells #[.int .i64 x.s.1, .slice As ns cs, .iface Ta xa, .iface Tb xb] 140)
  have p0 : (w.alloc (.cells #[.int .i64 x.s.1, .slice As ns cs, .iface Ta xa, .iface Tb xb] 140)).cell? ⟨w.heap.size, 0, none⟩ = some (.int .i64 x.s.1) := by simp
  have p1 : (w.alloc (.cells #[.int .i64 x.s.1, .slice As ns cs, .iface Ta xa, .iface Tb xb] 140)).cell? ⟨w.heap.size, 1, none⟩ = some (.slice As ns cs) := by simp
  have p2 : (w.alloc (.cells #[.int .i64 x.s.1, .slice As ns cs, .iface Ta xa, .iface Tb xb] 140)).cell? ⟨w.heap.size, 2, none⟩ = some (.iface Ta xa) := by simp
  have p3 : (w.alloc (.cells #[.int .i64 x.s.1, .slice As ns cs, .iface Ta xa, .iface Tb xb] 140)).cell? ⟨w.heap.size, 3, none⟩ = some (.iface Tb xb) := by simp
  have hbase := h.size
  have hnf := g.n
  have hf2 := g.f
  have hfr := h.fresh (Nat.le_refl _)
  have h0 := h.next hb0
  obtain ⟨hkk, hokS, _⟩ := stmt_ok hx
  have hw1 := hw.trans (hb0.mono (Nat.le_trans hB hbase))
  have F0 : FarX w (w.alloc (.cells #[.int .i64 x.s.1, .slice As ns cs, .iface Ta xa, .iface Tb xb] 140)) base gx gv gc E E := FarX.of_below hbase hb0
  obtain ⟨n, HN⟩ : ∃ n, Hid (numS s.v x.s = n) := ⟨_, rfl⟩
  by_cases hn : s.n = fuel
  · have C := Lib.hid (step_no _ h0 hn)
    have HX := Lib.hid h0
    clear h h0 ca cb hma hmb
    go_enter Tryz.func231, Tryz.ntmps231
    go_wp2_with fail
    refine C.out.mono ?_
    rintro e w1 ⟨rfl, hb1⟩
    go_wp2_with fail
    go_ret
    exact ⟨1, s, E, ce, rfl, HX.out.next hb1, g, F0.trans (FarX.of_below (Nat.le_trans hbase F0.below.size) hb1), Nat.le_refl _, ends_fuel (show x.k ≠ 1 by omega) hn⟩
  · have C := Lib.hid (step_yes _ h0 (by omega) hf2)
    have CA := Lib.hid ca
    have CB := Lib.hid cb
    have MA := Lib.hid hma
    have MB := Lib.hid hmb
    have h1g := g.g.more
    clear h h0 ca cb hma hmb
    go_enter Tryz.func231, Tryz.ntmps231
    go_wp2_with fail
    generalize w.alloc (.cells #[.int .i64 x.s.1, .slice As ns cs, .iface Ta xa, .iface Tb xb] 140) = W at hb0 p0 p1 p2 p3 hw1 F0 C ⊢
    refine C.out.mono ?_
    rintro e w1 ⟨rfl, h1, F1⟩
    replace p0 := F1.cell p0 hfr.1 hfr.2.1 hfr.2.2.1 hfr.2.2.2
    replace p1 := F1.cell p1 hfr.1 hfr.2.1 hfr.2.2.1 hfr.2.2.2
    replace p2 := F1.cell p2 hfr.1 hfr.2.1 hfr.2.2.1 hfr.2.2.2
    replace p3 := F1.cell p3 hfr.1 hfr.2.1 hfr.2.2.1 hfr.2.2.2
    have FF := F0.trans F1
    have hw2 := hw1.trans (F1.below.mono hB)
    have HI1 := (hi.next FF.below (Nat.le_refl _)).more h1.size
    have CN := number_c x.s.1 As ns cs x.s.2 w1 h1 h1g HI1 hokS.1 hokS.2
    rw [show numS s.more.v (x.s.1, x.s.2) = n from HN.out] at CN
    have CH := Lib.hid CN
    have HX := Lib.hid h1
    have hz1 := h1.size
    clear CN h1 F0 F1 C
    go_wp2_with fail
    refine CH.out.mono ?_
    rintro e w2 ⟨rfl, hb2⟩
    replace p2 := cell_next p2 hb2
    replace p3 := cell_next p3 hb2
    have h2 := HX.out.next hb2
    have FG := FF.trans (FarX.of_below hz1 hb2)
    have hw3 := hw2.trans (hb2.mono (Nat.le_trans hB hz1))
    have gm := g.more hn
    clear CH HX FF p0 p1
    by_cases hr : 0 ≤ n
    · have CC := Lib.hid (CA.out w2 base gx gv cv gc cc E ce s.more hw3 hB h2 gm)
      have hm := MA.out
      clear h2 CB CA
      go_wp2_with fail
      refine CC.out.mono ?_
      rintro e w3 ⟨o, s2, E2, ce2, rfl, h3, g2, F2, hle2, he2⟩
      clear hm
      go_wp2_with fail
      go_ret
      exact ⟨o, s2, E2, ce2, rfl, h3, g2, FG.trans F2, Nat.le_trans (Nat.le_succ _) hle2, ends_then hk hn (by rw [HN.out]; exact hr) he2⟩
    · have CC := Lib.hid (CB.out w2 base gx gv cv gc cc E ce s.more hw3 hB h2 gm)
      have hm := MB.out
      clear h2 CB CA
      go_wp2_with fail
      refine CC.out.mono ?_
      rintro e w3 ⟨o, s2, E2, ce2, rfl, h3, g2, F2, hle2, he2⟩
      clear hm
      go_wp2_with fail
      go_ret
      exact ⟨o, s2, E2, ce2, rfl, h3, g2, FG.trans F2, Nat.le_trans (Nat.le_succ _) hle2, ends_else hk hn (by rw [HN.out]; omega) he2⟩
set_option maxRecDepth 100000 in
set_option maxHeartbeats 1000000 in
theorem run_whl (hk : x.k = 8) (As : Option Addr) (ns cs : Nat) (Af : Option Addr) (nf cf : Nat) (ha : Runs w0 B fuel a u) (w : World) (hx : stmtB x = true) (hi : InL w base As ns x.s.2) (hw : Below B w0 w) (hB : B ≤ base) (h : ExM w base gx gv cv gc cc E ce fuel s) (g : GoodR fuel s) :
    Calls Tryz.prog 235 #[.agg #[.int .i64 x.s.1, .slice As ns cs, .slice Af nf cf, u], .pointer (some ⟨gx, 0, none⟩)] w (RunQ w base gx gv cv gc cc E fuel (.one x a) s) := by
  obtain ⟨Fa, ra, ⟨Ta, xa, rfl, hma, hfa⟩, ca⟩ := ha
  have hb0 := bnew w (.cells #[.int .i64 x.s.1, .slice As ns cs, .slice Af nf cf, .iface Ta xa] 142)
  have p0 : (w.alloc (.cells #[.int .i64 x.s.1, .slice As ns cs, .slice Af nf cf, .iface Ta xa] 142)).cell? ⟨w.heap.size, 0, none⟩ = some (.int .i64 x.s.1) := by simp
  have p1 : (w.alloc (.cells #[.int .i64 x.s.1, .slice As ns cs, .slice Af nf cf, .iface Ta xa] 142)).cell? ⟨w.heap.size, 1, none⟩ = some (.slice As ns cs) := by simp
  have p3 : (w.alloc (.cells #[.int .i64 x.s.1, .slice As ns cs, .slice Af nf cf, .iface Ta xa] 142)).cell? ⟨w.heap.size, 3, none⟩ = some (.iface Ta xa) := by simp
  have hlt : w.heap.size < (w.alloc (.cells #[.int .i64 x.s.1, .slice As ns cs, .slice Af nf cf, .iface Ta xa] 142)).heap.size := by simp
  have hbase := h.size
  have hfr := h.fresh (Nat.le_refl _)
  have h0 := h.next hb0
  obtain ⟨hkk, hokS, _⟩ := stmt_ok hx
  have hw1 := hw.trans (hb0.mono (Nat.le_trans hB hbase))
  have F0 : FarX w (w.alloc (.cells #[.int .i64 x.s.1, .slice As ns cs, .slice Af nf cf, .iface Ta xa] 142)) base gx gv gc E E := FarX.of_below hbase hb0
  have CA := Lib.hid ca
  have MA := Lib.hid hma
  have HX0 := Lib.hid h0
  have G0 := Lib.hid g
  clear h h0 g ca hma
  go_enter Tryz.func235, Tryz.ntmps235
  go_wp2_with fail
  generalize w.alloc (.cells #[.int .i64 x.s.1, .slice As ns cs, .slice Af nf cf, .iface Ta xa] 142) = W at hb0 p0 p1 p3 hlt hw1 F0 HX0 ⊢
  go_loopw [5] (fun _ wr => ∃ (s' : RS) (E' : Option Addr) (ce' : Nat), ExM wr base gx gv cv gc cc E' ce' fuel s' ∧ GoodR fuel s' ∧ FarX W wr base gx gv gc E E' ∧ s.n ≤ s'.n ∧ Rounds fuel (.one x a) s s') (fun _ wr => fuel - readN wr gx)
  case atStart => exact ⟨s, E, ce, HX0.out, G0.out, FarX.refl HX0.out.size, Nat.le_refl _, Rounds.refl⟩
  case round =>
    obtain ⟨s', E', ce', h1, g1, F1, hle, hR⟩ := hrel
    have hrd := h1.readN
    have hnf := g1.n
    have hf2 := g1.f
    have q0 := F1.cell p0 hfr.1 hfr.2.1 hfr.2.2.1 hfr.2.2.2
    have q1 := F1.cell p1 hfr.1 hfr.2.1 hfr.2.2.1 hfr.2.2.2
    have q3 := F1.cell p3 hfr.1 hfr.2.1 hfr.2.2.1 hfr.2.2.2
    have hfr' : E' ≠ some ⟨w.heap.size, 0, none⟩ := fun e => by
      rcases F1.ev _ e with e | e
      · exact hfr.2.2.2 e
      · omega
    by_cases hn : s'.n = fuel
    · have C := Lib.hid (step_no _ h1 hn)
      have HX := Lib.hid h1
      have hz1 := h1.size
      clear h1
      go_wp2_with fail
      refine C.out.mono ?_
      rintro e w1 ⟨rfl, hb1⟩
      go_wp2_with fail
      go_ret
      exact ⟨1, s', E', ce', rfl, HX.out.next hb1, g1, F0.trans (F1.trans (FarX.of_below hz1 hb1)), hle, hR.ends (ends_fuel (show x.k ≠ 1 by omega) hn)⟩
    · have C := Lib.hid (step_yes _ h1 (by omega) hf2)
      have h1g := g1.g.more
      obtain ⟨n, HN⟩ : ∃ n, Hid (numS s'.v x.s = n) := ⟨_, rfl⟩
      clear h1
      go_wp2_with fail
      refine C.out.mono ?_
      rintro e w1 ⟨rfl, h2, F2⟩
      replace q0 := F2.cell q0 hfr.1 hfr.2.1 hfr.2.2.1 hfr'
      replace q1 := F2.cell q1 hfr.1 hfr.2.1 hfr.2.2.1 hfr'
      replace q3 := F2.cell q3 hfr.1 hfr.2.1 hfr.2.2.1 hfr'
      have FF := F1.trans F2
      have HI1 := (hi.next (F0.below.trans FF.below) (Nat.le_refl _)).more h2.size
      have CN := number_c x.s.1 As ns cs x.s.2 w1 h2 h1g HI1 hokS.1 hokS.2
      rw [show numS s'.more.v (x.s.1, x.s.2) = n from HN.out] at CN
      have CH := Lib.hid CN
      have HX := Lib.hid h2
      have hz1 := h2.size
      clear CN h2 F1 F2 C
      go_wp2_with fail
      refine CH.out.mono ?_
      rintro e w2 ⟨rfl, hb2⟩
      replace q3 := cell_next q3 hb2
      have h2 := HX.out.next hb2
      have FG := FF.trans (FarX.of_below hz1 hb2)
      have hw3 := hw1.trans (FG.below.mono hB)
      have gm := g1.more hn
      clear CH HX FF q0 q1
      by_cases hr : 0 ≤ n
      · have CC := Lib.hid (CA.out w2 base gx gv cv gc cc E' ce' s'.more hw3 hB h2 gm)
        have hm := MA.out
        clear h2
        go_wp2_with fail
        refine CC.out.mono ?_
        rintro e w3 ⟨o, s2, E2, ce2, rfl, h3, g2, F3, hle2, he2⟩
        have hle3 : s'.n + 1 ≤ s2.n := hle2
        have FH := FG.trans F3
        clear hm FG F3
        by_cases ho : o = 0
        · subst ho
          have hR2 := hR.trans (rounds_one hk hn (by rw [HN.out]; exact hr) he2)
          have hrd2 := h3.readN
          have g2n := g2.n
          have HX := Lib.hid h3
          clear h3
          go_wp2_with fail
          go_roundw
          case rel => exact ⟨s2, E2, ce2, HX.out, g2, FH, by omega, hR2⟩
          case measure => omega
        · have HX := Lib.hid h3
          clear h3
          go_wp2_with fail
          go_ret
          exact ⟨o, s2, E2, ce2, rfl, HX.out, g2, F0.trans FH, by omega, hR.ends (ends_in hk hn (by rw [HN.out]; exact hr) he2 ho)⟩
      · have HX := Lib.hid h2
        clear h2
        go_wp2_with fail
        go_ret
        exact ⟨0, s'.more, E', ce', rfl, HX.out, gm, F0.trans FG, Nat.le_trans hle (Nat.le_succ _), hR.ends (ends_out hk hn (by rw [HN.out]; omega))⟩
end
section
variable {fuel B : Nat} {w0 : World}
theorem runs_all {t : Tr} {u : Value} (h : TV w0 B t u) : (∀ x ∈ flatT t, stmtB x = true) → Runs w0 B fuel t u := by
  induction h with
  | skip hk => exact fun ok => ⟨239, .agg #[], ⟨_, _, rfl, fun w => by kernel_rfl, fun args w => by kernel_rfl⟩, fun w base gx gv cv gc cc E ce s hw hB h g => run_skip hk w (ok _ (by simp [flatT])) h g⟩
  | @set x As ns cs hk hi => exact fun ok => ⟨209, .agg #[.int .i64 x.v, .int .i64 x.s.1, .slice As ns cs], ⟨_, _, rfl, fun w => by kernel_rfl, fun args w => by kernel_rfl⟩, fun w base gx gv cv gc cc E ce s hw hB h g => run_set hk As ns cs w (ok _ (by simp [flatT])) ((hi.next hw (Nat.le_refl _)).more (Nat.le_trans hB h.size)) h g⟩
  | @get x As ns cs hk hi => exact fun ok => ⟨215, .agg #[.int .i64 x.v, .int .i64 x.i.1, .slice As ns cs], ⟨_, _, rfl, fun w => by kernel_rfl, fun args w => by kernel_rfl⟩, fun w base gx gv cv gc cc E ce s hw hB h g => run_get hk As ns cs w (ok _ (by simp [flatT])) ((hi.next hw (Nat.le_refl _)).more (Nat.le_trans hB h.size)) h g⟩
  | @put x As ns cs Ai ni ci hk hi hj => exact fun ok => ⟨219, .agg #[.int .i64 x.i.1, .slice Ai ni ci, .int .i64 x.s.1, .slice As ns cs], ⟨_, _, rfl, fun w => by kernel_rfl, fun args w => by kernel_rfl⟩, fun w base gx gv cv gc cc E ce s hw hB h g => run_put hk As ns cs Ai ni ci w (ok _ (by simp [flatT])) ((hi.next hw (Nat.le_refl _)).more (Nat.le_trans hB h.size)) ((hj.next hw (Nat.le_refl _)).more (Nat.le_trans hB h.size)) h g⟩
  | @emit x hk => exact fun ok => ⟨223, .agg #[.int .i64 x.e], ⟨_, _, rfl, fun w => by kernel_rfl, fun args w => by kernel_rfl⟩, fun w base gx gv cv gc cc E ce s hw hB h g => run_emit hk w (ok _ (by simp [flatT])) h g⟩
  | @assert x As ns cs hk hi => exact fun ok => ⟨227, .agg #[.int .i64 x.s.1, .slice As ns cs], ⟨_, _, rfl, fun w => by kernel_rfl, fun args w => by kernel_rfl⟩, fun w base gx gv cv gc cc E ce s hw hB h g => run_ass hk As ns cs w (ok _ (by simp [flatT])) ((hi.next hw (Nat.le_refl _)).more hB) h g⟩
  | @seq x a b u v hk _ _ i1 i2 => exact fun ok => ⟨204, .agg #[u, v], ⟨_, _, rfl, fun w => by kernel_rfl, fun args w => by kernel_rfl⟩, fun w base gx gv cv gc cc E ce s hw hB h g => run_seq hk (i1 fun y hy => ok y (by simp [flatT, hy])) (i2 fun y hy => ok y (by simp [flatT, hy])) w hw hB h g⟩
  | @iff x a b u v As ns cs hk hi _ _ i1 i2 => exact fun ok => ⟨231, .agg #[.int .i64 x.s.1, .slice As ns cs, u, v], ⟨_, _, rfl, fun w => by kernel_rfl, fun args w => by kernel_rfl⟩, fun w base gx gv cv gc cc E ce s hw hB h g => run_if hk As ns cs (i1 fun y hy => ok y (by simp [flatT, hy])) (i2 fun y hy => ok y (by simp [flatT, hy])) w (ok _ (by simp [flatT])) ((hi.next hw (Nat.le_refl _)).more hB) hw hB h g⟩
  | @whl x a u As ns cs Af nf cf hk hi _ _ i1 => exact fun ok => ⟨235, .agg #[.int .i64 x.s.1, .slice As ns cs, .slice Af nf cf, u], ⟨_, _, rfl, fun w => by kernel_rfl, fun args w => by kernel_rfl⟩, fun w base gx gv cv gc cc E ce s hw hB h g => run_whl hk As ns cs Af nf cf (i1 fun y hy => ok y (by simp [flatT, hy])) w (ok _ (by simp [flatT])) ((hi.next hw (Nat.le_refl _)).more hB) hw hB h g⟩
end
end Go.Proofs.YtajmbnimdngjhaaGreatDoor

/-! The program's tree of a body. Conditions: a valid body. -/
namespace Go.Proofs.YtajmbnimdngjhaaGreatDoor
set_option linter.unusedVariables false
open Go.RowKit

theorem run_store_funcE {P : Program} {w : World} {a : Addr} {m : Mode} (fn : Fn) (x y : Array Value) : (store a (.func fn x y) m).run P w = stored P w a (.func fn x y) m := run_store P w a _ m rfl
attribute [local go_sem] run_store_funcE
theorem InST.tailE {w : World} {B b off n : Nat} {x : S8} {xs : List S8} (h : InST w B (some ⟨b, off, none⟩) (n + 1) (x :: xs)) : InST w B (some ⟨b, off + 8, none⟩) n xs := by
  refine ⟨by have := h.1; simpa using this, fun j y hj => ?_⟩
  obtain ⟨b', off', e, hb, hs⟩ := h.2 (j + 1) y (by simpa using hj)
  cases e
  refine ⟨_, _, rfl, hb, ?_⟩
  rw [show off + 8 + j * 8 = off + (j + 1) * 8 by omega]
  exact hs
theorem TV.iface {w : World} {B : Nat} {t : Tr} {v : Value} (h : TV w B t v) : ∃ T c, v = .iface T c := by cases h <;> exact ⟨_, _, rfl⟩
/-- What the tree's function leaves: a statement's value, and the rest of the body. -/
def NextT (bb nb B : Nat) (t : Tr) (r : List S8) (w : World) : Ending → World → Prop := fun e w' =>
  ∃ v A' n' c', e = .returned v ∧ TV w' B t v ∧ BlkIs w' bb 35 #[.slice A' n' c'] ∧ InST w' B A' n' r ∧ n' ≤ c' ∧ Out bb (bb + 1) w w'
def NextIn (bb nb B : Nat) (t : Tr) : Prop := ∀ (r : List S8) (A : Option Addr) (n c : Nat) (w : World), BlkIs w bb 35 #[.slice A n c] → InST w B A n (flatT t ++ r) → n ≤ c → w.cell? ⟨nb, 0, none⟩ = some (.func (.func 84) #[] #[.pointer (some ⟨bb, 0, none⟩), .pointer (some ⟨nb, 0, none⟩)]) →
  Calls Tryz.prog 84 #[.pointer (some ⟨bb, 0, none⟩), .pointer (some ⟨nb, 0, none⟩)] w (NextT bb nb B t r w)

set_option maxRecDepth 100000 in
set_option maxHeartbeats 1000000 in
theorem next_skip {x : S8} (hk : x.k = 0) (bb nb B : Nat) (hbb : B ≤ bb) (hnb : B ≤ nb) (hbn : bb ≠ nb) : NextIn bb nb B (.leaf x) := by
  intro r A n c w hB1 hin hcap hnx
  have hlen := hin.1
  obtain ⟨bk, off, x', rfl, hbB, hx0, hst⟩ := hin.at_ (k := 0) (by rw [← hlen]; simp [flatT])
  have ex : x = x' := by simpa [flatT] using hx0
  subst ex
  obtain ⟨As, ns, cs, Ai, ni, ci, Af, nf, cf, s0, s1, s2, s3, s4, s5, s6, s7, hS, hI, hF⟩ := hst
  rw [hk] at s0
  simp only [Nat.zero_mul, Nat.add_zero] at s0 s1 s2 s3 s4 s5 s6 s7
  have hn1 : 1 ≤ n := by rw [← hlen]; simp [flatT]
  obtain ⟨m, rfl⟩ : ∃ m, n = m + 1 := ⟨n - 1, by omega⟩
  have hT : InST w B (some ⟨bk, off, none⟩) (m + 1) (x :: r) := by simpa [flatT] using hin
  have hbl := hB1.lt
  have y0 : w.cell? ⟨bb, 0, none⟩ = some (.slice (some ⟨bk, off, none⟩) (m + 1) c) := hB1.cell 0
  have hb0 := bnew w (.cells #[.int .i64 0, .int .i64 x.v, .int .i64 x.e, .int .i64 x.s.1, .slice As ns cs, .int .i64 x.i.1, .slice Ai ni ci, .slice Af nf cf] 83)
  have hB2 := (hB1.next hb0)
  have y1 := hB2.cell 0
  have f1 := hB2.frozen 0
  simp only [List.getElem?_toArray, List.getElem?_cons_zero] at y1
  have hEB : BlkIs (w.alloc (.cells #[.int .i64 0, .int .i64 x.v, .int .i64 x.e, .int .i64 x.s.1, .slice As ns cs, .int .i64 x.i.1, .slice Ai ni ci, .slice Af nf cf] 83)) w.heap.size 83 #[.int .i64 0, .int .i64 x.v, .int .i64 x.e, .int .i64 x.s.1, .slice As ns cs, .int .i64 x.i.1, .slice Ai ni ci, .slice Af nf cf] := blk_new _ _ _ _ rfl
  have hnl := cell_lt hnx
  have hne : bb ≠ nb := hbn
  by_cases hc1 : c = 1
  · have hm0 : m = 0 := by omega
    subst hm0
    subst hc1
    have hr : r = [] := by have := hT.1; simpa using this
    subst hr
    have hbn9 := bnew (w.setCell ⟨bb, 0, none⟩ (.slice (some ⟨bk, off, none⟩) 0 0)) (.cells #[.int .i64 0, .int .i64 x.v, .int .i64 x.e, .int .i64 x.s.1, .slice As ns cs, .int .i64 x.i.1, .slice Ai ni ci, .slice Af nf cf] 83)
    have ho9 : Out bb (bb + 1) w ((w.setCell ⟨bb, 0, none⟩ (.slice (some ⟨bk, off, none⟩) 0 0)).alloc (.cells #[.int .i64 0, .int .i64 x.v, .int .i64 x.e, .int .i64 x.s.1, .slice As ns cs, .int .i64 x.i.1, .slice Ai ni ci, .slice Af nf cf] 83)) := (out_set (Out.refl _ _ _) (by omega)).trans (Out.of_below hbn9)
    have hB9 : BlkIs ((w.setCell ⟨bb, 0, none⟩ (.slice (some ⟨bk, off, none⟩) 0 0)).alloc (.cells #[.int .i64 0, .int .i64 x.v, .int .i64 x.e, .int .i64 x.s.1, .slice As ns cs, .int .i64 x.i.1, .slice Ai ni ci, .slice Af nf cf] 83)) bb 35 #[.slice (some ⟨bk, off, none⟩) 0 0] := (hB1.set 0 _).next hbn9
    have hbe : Below B w ((w.setCell ⟨bb, 0, none⟩ (.slice (some ⟨bk, off, none⟩) 0 0)).alloc (.cells #[.int .i64 0, .int .i64 x.v, .int .i64 x.e, .int .i64 x.s.1, .slice As ns cs, .int .i64 x.i.1, .slice Ai ni ci, .slice Af nf cf] 83)) := ho9.below hbb (by omega)
    have hI9 : InST ((w.setCell ⟨bb, 0, none⟩ (.slice (some ⟨bk, off, none⟩) 0 0)).alloc (.cells #[.int .i64 0, .int .i64 x.v, .int .i64 x.e, .int .i64 x.s.1, .slice As ns cs, .int .i64 x.i.1, .slice Ai ni ci, .slice Af nf cf] 83)) B (some ⟨bk, off, none⟩) 0 (([] : List S8)) := ⟨rfl, fun j y hj => by simp at hj⟩
    have HR : Hid (TV ((w.setCell ⟨bb, 0, none⟩ (.slice (some ⟨bk, off, none⟩) 0 0)).alloc (.cells #[.int .i64 0, .int .i64 x.v, .int .i64 x.e, .int .i64 x.s.1, .slice As ns cs, .int .i64 x.i.1, .slice Ai ni ci, .slice Af nf cf] 83)) B (.leaf x) _) := .skip hk
    have HB := Lib.hid hB9
    have HI9 := Lib.hid hI9
    have HO := Lib.hid ho9
    clear hin hB1 hB2 hB9 hI9 ho9 hbe hEB hT
    go_enter Tryz.func84, Tryz.ntmps84
    go_wp2_with fail
    go_ret
    exact ⟨_, _, 0, 0, rfl, HR.out, HB.out, HI9.out, Nat.le_refl _, HO.out⟩
  · have hc2 : m ≤ c - 1 := by omega
    have hbn9 := bnew (w.setCell ⟨bb, 0, none⟩ (.slice (some ⟨bk, off + 8, none⟩) m (c - 1))) (.cells #[.int .i64 0, .int .i64 x.v, .int .i64 x.e, .int .i64 x.s.1, .slice As ns cs, .int .i64 x.i.1, .slice Ai ni ci, .slice Af nf cf] 83)
    have ho9 : Out bb (bb + 1) w ((w.setCell ⟨bb, 0, none⟩ (.slice (some ⟨bk, off + 8, none⟩) m (c - 1))).alloc (.cells #[.int .i64 0, .int .i64 x.v, .int .i64 x.e, .int .i64 x.s.1, .slice As ns cs, .int .i64 x.i.1, .slice Ai ni ci, .slice Af nf cf] 83)) := (out_set (Out.refl _ _ _) (by omega)).trans (Out.of_below hbn9)
    have hB9 : BlkIs ((w.setCell ⟨bb, 0, none⟩ (.slice (some ⟨bk, off + 8, none⟩) m (c - 1))).alloc (.cells #[.int .i64 0, .int .i64 x.v, .int .i64 x.e, .int .i64 x.s.1, .slice As ns cs, .int .i64 x.i.1, .slice Ai ni ci, .slice Af nf cf] 83)) bb 35 #[.slice (some ⟨bk, off + 8, none⟩) m (c - 1)] := (hB1.set 0 _).next hbn9
    have hbe : Below B w ((w.setCell ⟨bb, 0, none⟩ (.slice (some ⟨bk, off + 8, none⟩) m (c - 1))).alloc (.cells #[.int .i64 0, .int .i64 x.v, .int .i64 x.e, .int .i64 x.s.1, .slice As ns cs, .int .i64 x.i.1, .slice Ai ni ci, .slice Af nf cf] 83)) := ho9.below hbb (by omega)
    have hI9 : InST ((w.setCell ⟨bb, 0, none⟩ (.slice (some ⟨bk, off + 8, none⟩) m (c - 1))).alloc (.cells #[.int .i64 0, .int .i64 x.v, .int .i64 x.e, .int .i64 x.s.1, .slice As ns cs, .int .i64 x.i.1, .slice Ai ni ci, .slice Af nf cf] 83)) B (some ⟨bk, off + 8, none⟩) m (r) := (hT.tailE.next hbe (Nat.le_refl _))
    have HR : Hid (TV ((w.setCell ⟨bb, 0, none⟩ (.slice (some ⟨bk, off + 8, none⟩) m (c - 1))).alloc (.cells #[.int .i64 0, .int .i64 x.v, .int .i64 x.e, .int .i64 x.s.1, .slice As ns cs, .int .i64 x.i.1, .slice Ai ni ci, .slice Af nf cf] 83)) B (.leaf x) _) := .skip hk
    have HB := Lib.hid hB9
    have HI9 := Lib.hid hI9
    have HO := Lib.hid ho9
    clear hin hB1 hB2 hB9 hI9 ho9 hbe hEB hT
    go_enter Tryz.func84, Tryz.ntmps84
    go_wp2_with fail
    go_ret
    exact ⟨_, _, m, c - 1, rfl, HR.out, HB.out, HI9.out, hc2, HO.out⟩
set_option maxRecDepth 100000 in
set_option maxHeartbeats 1000000 in
theorem next_set {x : S8} (hk : x.k = 2) (bb nb B : Nat) (hbb : B ≤ bb) (hnb : B ≤ nb) (hbn : bb ≠ nb) : NextIn bb nb B (.leaf x) := by
  intro r A n c w hB1 hin hcap hnx
  have hlen := hin.1
  obtain ⟨bk, off, x', rfl, hbB, hx0, hst⟩ := hin.at_ (k := 0) (by rw [← hlen]; simp [flatT])
  have ex : x = x' := by simpa [flatT] using hx0
  subst ex
  obtain ⟨As, ns, cs, Ai, ni, ci, Af, nf, cf, s0, s1, s2, s3, s4, s5, s6, s7, hS, hI, hF⟩ := hst
  rw [hk] at s0
  simp only [Nat.zero_mul, Nat.add_zero] at s0 s1 s2 s3 s4 s5 s6 s7
  have hn1 : 1 ≤ n := by rw [← hlen]; simp [flatT]
  obtain ⟨m, rfl⟩ : ∃ m, n = m + 1 := ⟨n - 1, by omega⟩
  have hT : InST w B (some ⟨bk, off, none⟩) (m + 1) (x :: r) := by simpa [flatT] using hin
  have hbl := hB1.lt
  have y0 : w.cell? ⟨bb, 0, none⟩ = some (.slice (some ⟨bk, off, none⟩) (m + 1) c) := hB1.cell 0
  have hb0 := bnew w (.cells #[.int .i64 2, .int .i64 x.v, .int .i64 x.e, .int .i64 x.s.1, .slice As ns cs, .int .i64 x.i.1, .slice Ai ni ci, .slice Af nf cf] 83)
  have hB2 := (hB1.next hb0)
  have y1 := hB2.cell 0
  have f1 := hB2.frozen 0
  simp only [List.getElem?_toArray, List.getElem?_cons_zero] at y1
  have hEB : BlkIs (w.alloc (.cells #[.int .i64 2, .int .i64 x.v, .int .i64 x.e, .int .i64 x.s.1, .slice As ns cs, .int .i64 x.i.1, .slice Ai ni ci, .slice Af nf cf] 83)) w.heap.size 83 #[.int .i64 2, .int .i64 x.v, .int .i64 x.e, .int .i64 x.s.1, .slice As ns cs, .int .i64 x.i.1, .slice Ai ni ci, .slice Af nf cf] := blk_new _ _ _ _ rfl
  have hnl := cell_lt hnx
  have hne : bb ≠ nb := hbn
  by_cases hc1 : c = 1
  · have hm0 : m = 0 := by omega
    subst hm0
    subst hc1
    have hr : r = [] := by have := hT.1; simpa using this
    subst hr
    have hbn9 := bnew (w.setCell ⟨bb, 0, none⟩ (.slice (some ⟨bk, off, none⟩) 0 0)) (.cells #[.int .i64 2, .int .i64 x.v, .int .i64 x.e, .int .i64 x.s.1, .slice As ns cs, .int .i64 x.i.1, .slice Ai ni ci, .slice Af nf cf] 83)
    have ho9 : Out bb (bb + 1) w ((w.setCell ⟨bb, 0, none⟩ (.slice (some ⟨bk, off, none⟩) 0 0)).alloc (.cells #[.int .i64 2, .int .i64 x.v, .int .i64 x.e, .int .i64 x.s.1, .slice As ns cs, .int .i64 x.i.1, .slice Ai ni ci, .slice Af nf cf] 83)) := (out_set (Out.refl _ _ _) (by omega)).trans (Out.of_below hbn9)
    have hB9 : BlkIs ((w.setCell ⟨bb, 0, none⟩ (.slice (some ⟨bk, off, none⟩) 0 0)).alloc (.cells #[.int .i64 2, .int .i64 x.v, .int .i64 x.e, .int .i64 x.s.1, .slice As ns cs, .int .i64 x.i.1, .slice Ai ni ci, .slice Af nf cf] 83)) bb 35 #[.slice (some ⟨bk, off, none⟩) 0 0] := (hB1.set 0 _).next hbn9
    have hbe : Below B w ((w.setCell ⟨bb, 0, none⟩ (.slice (some ⟨bk, off, none⟩) 0 0)).alloc (.cells #[.int .i64 2, .int .i64 x.v, .int .i64 x.e, .int .i64 x.s.1, .slice As ns cs, .int .i64 x.i.1, .slice Ai ni ci, .slice Af nf cf] 83)) := ho9.below hbb (by omega)
    have hI9 : InST ((w.setCell ⟨bb, 0, none⟩ (.slice (some ⟨bk, off, none⟩) 0 0)).alloc (.cells #[.int .i64 2, .int .i64 x.v, .int .i64 x.e, .int .i64 x.s.1, .slice As ns cs, .int .i64 x.i.1, .slice Ai ni ci, .slice Af nf cf] 83)) B (some ⟨bk, off, none⟩) 0 (([] : List S8)) := ⟨rfl, fun j y hj => by simp at hj⟩
    have HR : Hid (TV ((w.setCell ⟨bb, 0, none⟩ (.slice (some ⟨bk, off, none⟩) 0 0)).alloc (.cells #[.int .i64 2, .int .i64 x.v, .int .i64 x.e, .int .i64 x.s.1, .slice As ns cs, .int .i64 x.i.1, .slice Ai ni ci, .slice Af nf cf] 83)) B (.leaf x) _) := .set (cs := cs) hk (hS.next hbe (Nat.le_refl _))
    have HB := Lib.hid hB9
    have HI9 := Lib.hid hI9
    have HO := Lib.hid ho9
    clear hin hB1 hB2 hB9 hI9 ho9 hbe hEB hT
    go_enter Tryz.func84, Tryz.ntmps84
    go_wp2_with fail
    go_ret
    exact ⟨_, _, 0, 0, rfl, HR.out, HB.out, HI9.out, Nat.le_refl _, HO.out⟩
  · have hc2 : m ≤ c - 1 := by omega
    have hbn9 := bnew (w.setCell ⟨bb, 0, none⟩ (.slice (some ⟨bk, off + 8, none⟩) m (c - 1))) (.cells #[.int .i64 2, .int .i64 x.v, .int .i64 x.e, .int .i64 x.s.1, .slice As ns cs, .int .i64 x.i.1, .slice Ai ni ci, .slice Af nf cf] 83)
    have ho9 : Out bb (bb + 1) w ((w.setCell ⟨bb, 0, none⟩ (.slice (some ⟨bk, off + 8, none⟩) m (c - 1))).alloc (.cells #[.int .i64 2, .int .i64 x.v, .int .i64 x.e, .int .i64 x.s.1, .slice As ns cs, .int .i64 x.i.1, .slice Ai ni ci, .slice Af nf cf] 83)) := (out_set (Out.refl _ _ _) (by omega)).trans (Out.of_below hbn9)
    have hB9 : BlkIs ((w.setCell ⟨bb, 0, none⟩ (.slice (some ⟨bk, off + 8, none⟩) m (c - 1))).alloc (.cells #[.int .i64 2, .int .i64 x.v, .int .i64 x.e, .int .i64 x.s.1, .slice As ns cs, .int .i64 x.i.1, .slice Ai ni ci, .slice Af nf cf] 83)) bb 35 #[.slice (some ⟨bk, off + 8, none⟩) m (c - 1)] := (hB1.set 0 _).next hbn9
    have hbe : Below B w ((w.setCell ⟨bb, 0, none⟩ (.slice (some ⟨bk, off + 8, none⟩) m (c - 1))).alloc (.cells #[.int .i64 2, .int .i64 x.v, .int .i64 x.e, .int .i64 x.s.1, .slice As ns cs, .int .i64 x.i.1, .slice Ai ni ci, .slice Af nf cf] 83)) := ho9.below hbb (by omega)
    have hI9 : InST ((w.setCell ⟨bb, 0, none⟩ (.slice (some ⟨bk, off + 8, none⟩) m (c - 1))).alloc (.cells #[.int .i64 2, .int .i64 x.v, .int .i64 x.e, .int .i64 x.s.1, .slice As ns cs, .int .i64 x.i.1, .slice Ai ni ci, .slice Af nf cf] 83)) B (some ⟨bk, off + 8, none⟩) m (r) := (hT.tailE.next hbe (Nat.le_refl _))
    have HR : Hid (TV ((w.setCell ⟨bb, 0, none⟩ (.slice (some ⟨bk, off + 8, none⟩) m (c - 1))).alloc (.cells #[.int .i64 2, .int .i64 x.v, .int .i64 x.e, .int .i64 x.s.1, .slice As ns cs, .int .i64 x.i.1, .slice Ai ni ci, .slice Af nf cf] 83)) B (.leaf x) _) := .set (cs := cs) hk (hS.next hbe (Nat.le_refl _))
    have HB := Lib.hid hB9
    have HI9 := Lib.hid hI9
    have HO := Lib.hid ho9
    clear hin hB1 hB2 hB9 hI9 ho9 hbe hEB hT
    go_enter Tryz.func84, Tryz.ntmps84
    go_wp2_with fail
    go_ret
    exact ⟨_, _, m, c - 1, rfl, HR.out, HB.out, HI9.out, hc2, HO.out⟩
set_option maxRecDepth 100000 in
set_option maxHeartbeats 1000000 in
theorem next_get {x : S8} (hk : x.k = 3) (bb nb B : Nat) (hbb : B ≤ bb) (hnb : B ≤ nb) (hbn : bb ≠ nb) : NextIn bb nb B (.leaf x) := by
  intro r A n c w hB1 hin hcap hnx
  have hlen := hin.1
  obtain ⟨bk, off, x', rfl, hbB, hx0, hst⟩ := hin.at_ (k := 0) (by rw [← hlen]; simp [flatT])
  have ex : x = x' := by simpa [flatT] using hx0
  subst ex
  obtain ⟨As, ns, cs, Ai, ni, ci, Af, nf, cf, s0, s1, s2, s3, s4, s5, s6, s7, hS, hI, hF⟩ := hst
  rw [hk] at s0
  simp only [Nat.zero_mul, Nat.add_zero] at s0 s1 s2 s3 s4 s5 s6 s7
  have hn1 : 1 ≤ n := by rw [← hlen]; simp [flatT]
  obtain ⟨m, rfl⟩ : ∃ m, n = m + 1 := ⟨n - 1, by omega⟩
  have hT : InST w B (some ⟨bk, off, none⟩) (m + 1) (x :: r) := by simpa [flatT] using hin
  have hbl := hB1.lt
  have y0 : w.cell? ⟨bb, 0, none⟩ = some (.slice (some ⟨bk, off, none⟩) (m + 1) c) := hB1.cell 0
  have hb0 := bnew w (.cells #[.int .i64 3, .int .i64 x.v, .int .i64 x.e, .int .i64 x.s.1, .slice As ns cs, .int .i64 x.i.1, .slice Ai ni ci, .slice Af nf cf] 83)
  have hB2 := (hB1.next hb0)
  have y1 := hB2.cell 0
  have f1 := hB2.frozen 0
  simp only [List.getElem?_toArray, List.getElem?_cons_zero] at y1
  have hEB : BlkIs (w.alloc (.cells #[.int .i64 3, .int .i64 x.v, .int .i64 x.e, .int .i64 x.s.1, .slice As ns cs, .int .i64 x.i.1, .slice Ai ni ci, .slice Af nf cf] 83)) w.heap.size 83 #[.int .i64 3, .int .i64 x.v, .int .i64 x.e, .int .i64 x.s.1, .slice As ns cs, .int .i64 x.i.1, .slice Ai ni ci, .slice Af nf cf] := blk_new _ _ _ _ rfl
  have hnl := cell_lt hnx
  have hne : bb ≠ nb := hbn
  by_cases hc1 : c = 1
  · have hm0 : m = 0 := by omega
    subst hm0
    subst hc1
    have hr : r = [] := by have := hT.1; simpa using this
    subst hr
    have hbn9 := bnew (w.setCell ⟨bb, 0, none⟩ (.slice (some ⟨bk, off, none⟩) 0 0)) (.cells #[.int .i64 3, .int .i64 x.v, .int .i64 x.e, .int .i64 x.s.1, .slice As ns cs, .int .i64 x.i.1, .slice Ai ni ci, .slice Af nf cf] 83)
    have ho9 : Out bb (bb + 1) w ((w.setCell ⟨bb, 0, none⟩ (.slice (some ⟨bk, off, none⟩) 0 0)).alloc (.cells #[.int .i64 3, .int .i64 x.v, .int .i64 x.e, .int .i64 x.s.1, .slice As ns cs, .int .i64 x.i.1, .slice Ai ni ci, .slice Af nf cf] 83)) := (out_set (Out.refl _ _ _) (by omega)).trans (Out.of_below hbn9)
    have hB9 : BlkIs ((w.setCell ⟨bb, 0, none⟩ (.slice (some ⟨bk, off, none⟩) 0 0)).alloc (.cells #[.int .i64 3, .int .i64 x.v, .int .i64 x.e, .int .i64 x.s.1, .slice As ns cs, .int .i64 x.i.1, .slice Ai ni ci, .slice Af nf cf] 83)) bb 35 #[.slice (some ⟨bk, off, none⟩) 0 0] := (hB1.set 0 _).next hbn9
    have hbe : Below B w ((w.setCell ⟨bb, 0, none⟩ (.slice (some ⟨bk, off, none⟩) 0 0)).alloc (.cells #[.int .i64 3, .int .i64 x.v, .int .i64 x.e, .int .i64 x.s.1, .slice As ns cs, .int .i64 x.i.1, .slice Ai ni ci, .slice Af nf cf] 83)) := ho9.below hbb (by omega)
    have hI9 : InST ((w.setCell ⟨bb, 0, none⟩ (.slice (some ⟨bk, off, none⟩) 0 0)).alloc (.cells #[.int .i64 3, .int .i64 x.v, .int .i64 x.e, .int .i64 x.s.1, .slice As ns cs, .int .i64 x.i.1, .slice Ai ni ci, .slice Af nf cf] 83)) B (some ⟨bk, off, none⟩) 0 (([] : List S8)) := ⟨rfl, fun j y hj => by simp at hj⟩
    have HR : Hid (TV ((w.setCell ⟨bb, 0, none⟩ (.slice (some ⟨bk, off, none⟩) 0 0)).alloc (.cells #[.int .i64 3, .int .i64 x.v, .int .i64 x.e, .int .i64 x.s.1, .slice As ns cs, .int .i64 x.i.1, .slice Ai ni ci, .slice Af nf cf] 83)) B (.leaf x) _) := .get (cs := ci) hk (hI.next hbe (Nat.le_refl _))
    have HB := Lib.hid hB9
    have HI9 := Lib.hid hI9
    have HO := Lib.hid ho9
    clear hin hB1 hB2 hB9 hI9 ho9 hbe hEB hT
    go_enter Tryz.func84, Tryz.ntmps84
    go_wp2_with fail
    go_ret
    exact ⟨_, _, 0, 0, rfl, HR.out, HB.out, HI9.out, Nat.le_refl _, HO.out⟩
  · have hc2 : m ≤ c - 1 := by omega
    have hbn9 := bnew (w.setCell ⟨bb, 0, none⟩ (.slice (some ⟨bk, off + 8, none⟩) m (c - 1))) (.cells #[.int .i64 3, .int .i64 x.v, .int .i64 x.e, .int .i64 x.s.1, .slice As ns cs, .int .i64 x.i.1, .slice Ai ni ci, .slice Af nf cf] 83)
    have ho9 : Out bb (bb + 1) w ((w.setCell ⟨bb, 0, none⟩ (.slice (some ⟨bk, off + 8, none⟩) m (c - 1))).alloc (.cells #[.int .i64 3, .int .i64 x.v, .int .i64 x.e, .int .i64 x.s.1, .slice As ns cs, .int .i64 x.i.1, .slice Ai ni ci, .slice Af nf cf] 83)) := (out_set (Out.refl _ _ _) (by omega)).trans (Out.of_below hbn9)
    have hB9 : BlkIs ((w.setCell ⟨bb, 0, none⟩ (.slice (some ⟨bk, off + 8, none⟩) m (c - 1))).alloc (.cells #[.int .i64 3, .int .i64 x.v, .int .i64 x.e, .int .i64 x.s.1, .slice As ns cs, .int .i64 x.i.1, .slice Ai ni ci, .slice Af nf cf] 83)) bb 35 #[.slice (some ⟨bk, off + 8, none⟩) m (c - 1)] := (hB1.set 0 _).next hbn9
    have hbe : Below B w ((w.setCell ⟨bb, 0, none⟩ (.slice (some ⟨bk, off + 8, none⟩) m (c - 1))).alloc (.cells #[.int .i64 3, .int .i64 x.v, .int .i64 x.e, .int .i64 x.s.1, .slice As ns cs, .int .i64 x.i.1, .slice Ai ni ci, .slice Af nf cf] 83)) := ho9.below hbb (by omega)
    have hI9 : InST ((w.setCell ⟨bb, 0, none⟩ (.slice (some ⟨bk, off + 8, none⟩) m (c - 1))).alloc (.cells #[.int .i64 3, .int .i64 x.v, .int .i64 x.e, .int .i64 x.s.1, .slice As ns cs, .int .i64 x.i.1, .slice Ai ni ci, .slice Af nf cf] 83)) B (some ⟨bk, off + 8, none⟩) m (r) := (hT.tailE.next hbe (Nat.le_refl _))
    have HR : Hid (TV ((w.setCell ⟨bb, 0, none⟩ (.slice (some ⟨bk, off + 8, none⟩) m (c - 1))).alloc (.cells #[.int .i64 3, .int .i64 x.v, .int .i64 x.e, .int .i64 x.s.1, .slice As ns cs, .int .i64 x.i.1, .slice Ai ni ci, .slice Af nf cf] 83)) B (.leaf x) _) := .get (cs := ci) hk (hI.next hbe (Nat.le_refl _))
    have HB := Lib.hid hB9
    have HI9 := Lib.hid hI9
    have HO := Lib.hid ho9
    clear hin hB1 hB2 hB9 hI9 ho9 hbe hEB hT
    go_enter Tryz.func84, Tryz.ntmps84
    go_wp2_with fail
    go_ret
    exact ⟨_, _, m, c - 1, rfl, HR.out, HB.out, HI9.out, hc2, HO.out⟩
set_option maxRecDepth 100000 in
set_option maxHeartbeats 1000000 in
theorem next_put {x : S8} (hk : x.k = 4) (bb nb B : Nat) (hbb : B ≤ bb) (hnb : B ≤ nb) (hbn : bb ≠ nb) : NextIn bb nb B (.leaf x) := by
  intro r A n c w hB1 hin hcap hnx
  have hlen := hin.1
  obtain ⟨bk, off, x', rfl, hbB, hx0, hst⟩ := hin.at_ (k := 0) (by rw [← hlen]; simp [flatT])
  have ex : x = x' := by simpa [flatT] using hx0
  subst ex
  obtain ⟨As, ns, cs, Ai, ni, ci, Af, nf, cf, s0, s1, s2, s3, s4, s5, s6, s7, hS, hI, hF⟩ := hst
  rw [hk] at s0
  simp only [Nat.zero_mul, Nat.add_zero] at s0 s1 s2 s3 s4 s5 s6 s7
  have hn1 : 1 ≤ n := by rw [← hlen]; simp [flatT]
  obtain ⟨m, rfl⟩ : ∃ m, n = m + 1 := ⟨n - 1, by omega⟩
  have hT : InST w B (some ⟨bk, off, none⟩) (m + 1) (x :: r) := by simpa [flatT] using hin
  have hbl := hB1.lt
  have y0 : w.cell? ⟨bb, 0, none⟩ = some (.slice (some ⟨bk, off, none⟩) (m + 1) c) := hB1.cell 0
  have hb0 := bnew w (.cells #[.int .i64 4, .int .i64 x.v, .int .i64 x.e, .int .i64 x.s.1, .slice As ns cs, .int .i64 x.i.1, .slice Ai ni ci, .slice Af nf cf] 83)
  have hB2 := (hB1.next hb0)
  have y1 := hB2.cell 0
  have f1 := hB2.frozen 0
  simp only [List.getElem?_toArray, List.getElem?_cons_zero] at y1
  have hEB : BlkIs (w.alloc (.cells #[.int .i64 4, .int .i64 x.v, .int .i64 x.e, .int .i64 x.s.1, .slice As ns cs, .int .i64 x.i.1, .slice Ai ni ci, .slice Af nf cf] 83)) w.heap.size 83 #[.int .i64 4, .int .i64 x.v, .int .i64 x.e, .int .i64 x.s.1, .slice As ns cs, .int .i64 x.i.1, .slice Ai ni ci, .slice Af nf cf] := blk_new _ _ _ _ rfl
  have hnl := cell_lt hnx
  have hne : bb ≠ nb := hbn
  by_cases hc1 : c = 1
  · have hm0 : m = 0 := by omega
    subst hm0
    subst hc1
    have hr : r = [] := by have := hT.1; simpa using this
    subst hr
    have hbn9 := bnew (w.setCell ⟨bb, 0, none⟩ (.slice (some ⟨bk, off, none⟩) 0 0)) (.cells #[.int .i64 4, .int .i64 x.v, .int .i64 x.e, .int .i64 x.s.1, .slice As ns cs, .int .i64 x.i.1, .slice Ai ni ci, .slice Af nf cf] 83)
    have ho9 : Out bb (bb + 1) w ((w.setCell ⟨bb, 0, none⟩ (.slice (some ⟨bk, off, none⟩) 0 0)).alloc (.cells #[.int .i64 4, .int .i64 x.v, .int .i64 x.e, .int .i64 x.s.1, .slice As ns cs, .int .i64 x.i.1, .slice Ai ni ci, .slice Af nf cf] 83)) := (out_set (Out.refl _ _ _) (by omega)).trans (Out.of_below hbn9)
    have hB9 : BlkIs ((w.setCell ⟨bb, 0, none⟩ (.slice (some ⟨bk, off, none⟩) 0 0)).alloc (.cells #[.int .i64 4, .int .i64 x.v, .int .i64 x.e, .int .i64 x.s.1, .slice As ns cs, .int .i64 x.i.1, .slice Ai ni ci, .slice Af nf cf] 83)) bb 35 #[.slice (some ⟨bk, off, none⟩) 0 0] := (hB1.set 0 _).next hbn9
    have hbe : Below B w ((w.setCell ⟨bb, 0, none⟩ (.slice (some ⟨bk, off, none⟩) 0 0)).alloc (.cells #[.int .i64 4, .int .i64 x.v, .int .i64 x.e, .int .i64 x.s.1, .slice As ns cs, .int .i64 x.i.1, .slice Ai ni ci, .slice Af nf cf] 83)) := ho9.below hbb (by omega)
    have hI9 : InST ((w.setCell ⟨bb, 0, none⟩ (.slice (some ⟨bk, off, none⟩) 0 0)).alloc (.cells #[.int .i64 4, .int .i64 x.v, .int .i64 x.e, .int .i64 x.s.1, .slice As ns cs, .int .i64 x.i.1, .slice Ai ni ci, .slice Af nf cf] 83)) B (some ⟨bk, off, none⟩) 0 (([] : List S8)) := ⟨rfl, fun j y hj => by simp at hj⟩
    have HR : Hid (TV ((w.setCell ⟨bb, 0, none⟩ (.slice (some ⟨bk, off, none⟩) 0 0)).alloc (.cells #[.int .i64 4, .int .i64 x.v, .int .i64 x.e, .int .i64 x.s.1, .slice As ns cs, .int .i64 x.i.1, .slice Ai ni ci, .slice Af nf cf] 83)) B (.leaf x) _) := .put (cs := cs) (ci := ci) hk (hS.next hbe (Nat.le_refl _)) (hI.next hbe (Nat.le_refl _))
    have HB := Lib.hid hB9
    have HI9 := Lib.hid hI9
    have HO := Lib.hid ho9
    clear hin hB1 hB2 hB9 hI9 ho9 hbe hEB hT
    go_enter Tryz.func84, Tryz.ntmps84
    go_wp2_with fail
    go_ret
    exact ⟨_, _, 0, 0, rfl, HR.out, HB.out, HI9.out, Nat.le_refl _, HO.out⟩
  · have hc2 : m ≤ c - 1 := by omega
    have hbn9 := bnew (w.setCell ⟨bb, 0, none⟩ (.slice (some ⟨bk, off + 8, none⟩) m (c - 1))) (.cells #[.int .i64 4, .int .i64 x.v, .int .i64 x.e, .int .i64 x.s.1, .slice As ns cs, .int .i64 x.i.1, .slice Ai ni ci, .slice Af nf cf] 83)
    have ho9 : Out bb (bb + 1) w ((w.setCell ⟨bb, 0, none⟩ (.slice (some ⟨bk, off + 8, none⟩) m (c - 1))).alloc (.cells #[.int .i64 4, .int .i64 x.v, .int .i64 x.e, .int .i64 x.s.1, .slice As ns cs, .int .i64 x.i.1, .slice Ai ni ci, .slice Af nf cf] 83)) := (out_set (Out.refl _ _ _) (by omega)).trans (Out.of_below hbn9)
    have hB9 : BlkIs ((w.setCell ⟨bb, 0, none⟩ (.slice (some ⟨bk, off + 8, none⟩) m (c - 1))).alloc (.cells #[.int .i64 4, .int .i64 x.v, .int .i64 x.e, .int .i64 x.s.1, .slice As ns cs, .int .i64 x.i.1, .slice Ai ni ci, .slice Af nf cf] 83)) bb 35 #[.slice (some ⟨bk, off + 8, none⟩) m (c - 1)] := (hB1.set 0 _).next hbn9
    have hbe : Below B w ((w.setCell ⟨bb, 0, none⟩ (.slice (some ⟨bk, off + 8, none⟩) m (c - 1))).alloc (.cells #[.int .i64 4, .int .i64 x.v, .int .i64 x.e, .int .i64 x.s.1, .slice As ns cs, .int .i64 x.i.1, .slice Ai ni ci, .slice Af nf cf] 83)) := ho9.below hbb (by omega)
    have hI9 : InST ((w.setCell ⟨bb, 0, none⟩ (.slice (some ⟨bk, off + 8, none⟩) m (c - 1))).alloc (.cells #[.int .i64 4, .int .i64 x.v, .int .i64 x.e, .int .i64 x.s.1, .slice As ns cs, .int .i64 x.i.1, .slice Ai ni ci, .slice Af nf cf] 83)) B (some ⟨bk, off + 8, none⟩) m (r) := (hT.tailE.next hbe (Nat.le_refl _))
    have HR : Hid (TV ((w.setCell ⟨bb, 0, none⟩ (.slice (some ⟨bk, off + 8, none⟩) m (c - 1))).alloc (.cells #[.int .i64 4, .int .i64 x.v, .int .i64 x.e, .int .i64 x.s.1, .slice As ns cs, .int .i64 x.i.1, .slice Ai ni ci, .slice Af nf cf] 83)) B (.leaf x) _) := .put (cs := cs) (ci := ci) hk (hS.next hbe (Nat.le_refl _)) (hI.next hbe (Nat.le_refl _))
    have HB := Lib.hid hB9
    have HI9 := Lib.hid hI9
    have HO := Lib.hid ho9
    clear hin hB1 hB2 hB9 hI9 ho9 hbe hEB hT
    go_enter Tryz.func84, Tryz.ntmps84
    go_wp2_with fail
    go_ret
    exact ⟨_, _, m, c - 1, rfl, HR.out, HB.out, HI9.out, hc2, HO.out⟩
set_option maxRecDepth 100000 in
set_option maxHeartbeats 1000000 in
theorem next_emit {x : S8} (hk : x.k = 5) (bb nb B : Nat) (hbb : B ≤ bb) (hnb : B ≤ nb) (hbn : bb ≠ nb) : NextIn bb nb B (.leaf x) := by
  intro r A n c w hB1 hin hcap hnx
  have hlen := hin.1
  obtain ⟨bk, off, x', rfl, hbB, hx0, hst⟩ := hin.at_ (k := 0) (by rw [← hlen]; simp [flatT])
  have ex : x = x' := by simpa [flatT] using hx0
  subst ex
  obtain ⟨As, ns, cs, Ai, ni, ci, Af, nf, cf, s0, s1, s2, s3, s4, s5, s6, s7, hS, hI, hF⟩ := hst
  rw [hk] at s0
  simp only [Nat.zero_mul, Nat.add_zero] at s0 s1 s2 s3 s4 s5 s6 s7
  have hn1 : 1 ≤ n := by rw [← hlen]; simp [flatT]
  obtain ⟨m, rfl⟩ : ∃ m, n = m + 1 := ⟨n - 1, by omega⟩
  have hT : InST w B (some ⟨bk, off, none⟩) (m + 1) (x :: r) := by simpa [flatT] using hin
  have hbl := hB1.lt
  have y0 : w.cell? ⟨bb, 0, none⟩ = some (.slice (some ⟨bk, off, none⟩) (m + 1) c) := hB1.cell 0
  have hb0 := bnew w (.cells #[.int .i64 5, .int .i64 x.v, .int .i64 x.e, .int .i64 x.s.1, .slice As ns cs, .int .i64 x.i.1, .slice Ai ni ci, .slice Af nf cf] 83)
  have hB2 := (hB1.next hb0)
  have y1 := hB2.cell 0
  have f1 := hB2.frozen 0
  simp only [List.getElem?_toArray, List.getElem?_cons_zero] at y1
  have hEB : BlkIs (w.alloc (.cells #[.int .i64 5, .int .i64 x.v, .int .i64 x.e, .int .i64 x.s.1, .slice As ns cs, .int .i64 x.i.1, .slice Ai ni ci, .slice Af nf cf] 83)) w.heap.size 83 #[.int .i64 5, .int .i64 x.v, .int .i64 x.e, .int .i64 x.s.1, .slice As ns cs, .int .i64 x.i.1, .slice Ai ni ci, .slice Af nf cf] := blk_new _ _ _ _ rfl
  have hnl := cell_lt hnx
  have hne : bb ≠ nb := hbn
  by_cases hc1 : c = 1
  · have hm0 : m = 0 := by omega
    subst hm0
    subst hc1
    have hr : r = [] := by have := hT.1; simpa using this
    subst hr
    have hbn9 := bnew (w.setCell ⟨bb, 0, none⟩ (.slice (some ⟨bk, off, none⟩) 0 0)) (.cells #[.int .i64 5, .int .i64 x.v, .int .i64 x.e, .int .i64 x.s.1, .slice As ns cs, .int .i64 x.i.1, .slice Ai ni ci, .slice Af nf cf] 83)
    have ho9 : Out bb (bb + 1) w ((w.setCell ⟨bb, 0, none⟩ (.slice (some ⟨bk, off, none⟩) 0 0)).alloc (.cells #[.int .i64 5, .int .i64 x.v, .int .i64 x.e, .int .i64 x.s.1, .slice As ns cs, .int .i64 x.i.1, .slice Ai ni ci, .slice Af nf cf] 83)) := (out_set (Out.refl _ _ _) (by omega)).trans (Out.of_below hbn9)
    have hB9 : BlkIs ((w.setCell ⟨bb, 0, none⟩ (.slice (some ⟨bk, off, none⟩) 0 0)).alloc (.cells #[.int .i64 5, .int .i64 x.v, .int .i64 x.e, .int .i64 x.s.1, .slice As ns cs, .int .i64 x.i.1, .slice Ai ni ci, .slice Af nf cf] 83)) bb 35 #[.slice (some ⟨bk, off, none⟩) 0 0] := (hB1.set 0 _).next hbn9
    have hbe : Below B w ((w.setCell ⟨bb, 0, none⟩ (.slice (some ⟨bk, off, none⟩) 0 0)).alloc (.cells #[.int .i64 5, .int .i64 x.v, .int .i64 x.e, .int .i64 x.s.1, .slice As ns cs, .int .i64 x.i.1, .slice Ai ni ci, .slice Af nf cf] 83)) := ho9.below hbb (by omega)
    have hI9 : InST ((w.setCell ⟨bb, 0, none⟩ (.slice (some ⟨bk, off, none⟩) 0 0)).alloc (.cells #[.int .i64 5, .int .i64 x.v, .int .i64 x.e, .int .i64 x.s.1, .slice As ns cs, .int .i64 x.i.1, .slice Ai ni ci, .slice Af nf cf] 83)) B (some ⟨bk, off, none⟩) 0 (([] : List S8)) := ⟨rfl, fun j y hj => by simp at hj⟩
    have HR : Hid (TV ((w.setCell ⟨bb, 0, none⟩ (.slice (some ⟨bk, off, none⟩) 0 0)).alloc (.cells #[.int .i64 5, .int .i64 x.v, .int .i64 x.e, .int .i64 x.s.1, .slice As ns cs, .int .i64 x.i.1, .slice Ai ni ci, .slice Af nf cf] 83)) B (.leaf x) _) := .emit hk
    have HB := Lib.hid hB9
    have HI9 := Lib.hid hI9
    have HO := Lib.hid ho9
    clear hin hB1 hB2 hB9 hI9 ho9 hbe hEB hT
    go_enter Tryz.func84, Tryz.ntmps84
    go_wp2_with fail
    go_ret
    exact ⟨_, _, 0, 0, rfl, HR.out, HB.out, HI9.out, Nat.le_refl _, HO.out⟩
  · have hc2 : m ≤ c - 1 := by omega
    have hbn9 := bnew (w.setCell ⟨bb, 0, none⟩ (.slice (some ⟨bk, off + 8, none⟩) m (c - 1))) (.cells #[.int .i64 5, .int .i64 x.v, .int .i64 x.e, .int .i64 x.s.1, .slice As ns cs, .int .i64 x.i.1, .slice Ai ni ci, .slice Af nf cf] 83)
    have ho9 : Out bb (bb + 1) w ((w.setCell ⟨bb, 0, none⟩ (.slice (some ⟨bk, off + 8, none⟩) m (c - 1))).alloc (.cells #[.int .i64 5, .int .i64 x.v, .int .i64 x.e, .int .i64 x.s.1, .slice As ns cs, .int .i64 x.i.1, .slice Ai ni ci, .slice Af nf cf] 83)) := (out_set (Out.refl _ _ _) (by omega)).trans (Out.of_below hbn9)
    have hB9 : BlkIs ((w.setCell ⟨bb, 0, none⟩ (.slice (some ⟨bk, off + 8, none⟩) m (c - 1))).alloc (.cells #[.int .i64 5, .int .i64 x.v, .int .i64 x.e, .int .i64 x.s.1, .slice As ns cs, .int .i64 x.i.1, .slice Ai ni ci, .slice Af nf cf] 83)) bb 35 #[.slice (some ⟨bk, off + 8, none⟩) m (c - 1)] := (hB1.set 0 _).next hbn9
    have hbe : Below B w ((w.setCell ⟨bb, 0, none⟩ (.slice (some ⟨bk, off + 8, none⟩) m (c - 1))).alloc (.cells #[.int .i64 5, .int .i64 x.v, .int .i64 x.e, .int .i64 x.s.1, .slice As ns cs, .int .i64 x.i.1, .slice Ai ni ci, .slice Af nf cf] 83)) := ho9.below hbb (by omega)
    have hI9 : InST ((w.setCell ⟨bb, 0, none⟩ (.slice (some ⟨bk, off + 8, none⟩) m (c - 1))).alloc (.cells #[.int .i64 5, .int .i64 x.v, .int .i64 x.e, .int .i64 x.s.1, .slice As ns cs, .int .i64 x.i.1, .slice Ai ni ci, .slice Af nf cf] 83)) B (some ⟨bk, off + 8, none⟩) m (r) := (hT.tailE.next hbe (Nat.le_refl _))
    have HR : Hid (TV ((w.setCell ⟨bb, 0, none⟩ (.slice (some ⟨bk, off + 8, none⟩) m (c - 1))).alloc (.cells #[.int .i64 5, .int .i64 x.v, .int .i64 x.e, .int .i64 x.s.1, .slice As ns cs, .int .i64 x.i.1, .slice Ai ni ci, .slice Af nf cf] 83)) B (.leaf x) _) := .emit hk
    have HB := Lib.hid hB9
    have HI9 := Lib.hid hI9
    have HO := Lib.hid ho9
    clear hin hB1 hB2 hB9 hI9 ho9 hbe hEB hT
    go_enter Tryz.func84, Tryz.ntmps84
    go_wp2_with fail
    go_ret
    exact ⟨_, _, m, c - 1, rfl, HR.out, HB.out, HI9.out, hc2, HO.out⟩
set_option maxRecDepth 100000 in
set_option maxHeartbeats 1000000 in
theorem next_assert {x : S8} (hk : x.k = 6) (bb nb B : Nat) (hbb : B ≤ bb) (hnb : B ≤ nb) (hbn : bb ≠ nb) : NextIn bb nb B (.leaf x) := by
  intro r A n c w hB1 hin hcap hnx
  have hlen := hin.1
  obtain ⟨bk, off, x', rfl, hbB, hx0, hst⟩ := hin.at_ (k := 0) (by rw [← hlen]; simp [flatT])
  have ex : x = x' := by simpa [flatT] using hx0
  subst ex
  obtain ⟨As, ns, cs, Ai, ni, ci, Af, nf, cf, s0, s1, s2, s3, s4, s5, s6, s7, hS, hI, hF⟩ := hst
  rw [hk] at s0
  simp only [Nat.zero_mul, Nat.add_zero] at s0 s1 s2 s3 s4 s5 s6 s7
  have hn1 : 1 ≤ n := by rw [← hlen]; simp [flatT]
  obtain ⟨m, rfl⟩ : ∃ m, n = m + 1 := ⟨n - 1, by omega⟩
  have hT : InST w B (some ⟨bk, off, none⟩) (m + 1) (x :: r) := by simpa [flatT] using hin
  have hbl := hB1.lt
  have y0 : w.cell? ⟨bb, 0, none⟩ = some (.slice (some ⟨bk, off, none⟩) (m + 1) c) := hB1.cell 0
  have hb0 := bnew w (.cells #[.int .i64 6, .int .i64 x.v, .int .i64 x.e, .int .i64 x.s.1, .slice As ns cs, .int .i64 x.i.1, .slice Ai ni ci, .slice Af nf cf] 83)
  have hB2 := (hB1.next hb0)
  have y1 := hB2.cell 0
  have f1 := hB2.frozen 0
  simp only [List.getElem?_toArray, List.getElem?_cons_zero] at y1
  have hEB : BlkIs (w.alloc (.cells #[.int .i64 6, .int .i64 x.v, .int .i64 x.e, .int .i64 x.s.1, .slice As ns cs, .int .i64 x.i.1, .slice Ai ni ci, .slice Af nf cf] 83)) w.heap.size 83 #[.int .i64 6, .int .i64 x.v, .int .i64 x.e, .int .i64 x.s.1, .slice As ns cs, .int .i64 x.i.1, .slice Ai ni ci, .slice Af nf cf] := blk_new _ _ _ _ rfl
  have hnl := cell_lt hnx
  have hne : bb ≠ nb := hbn
  by_cases hc1 : c = 1
  · have hm0 : m = 0 := by omega
    subst hm0
    subst hc1
    have hr : r = [] := by have := hT.1; simpa using this
    subst hr
    have hbn9 := bnew (w.setCell ⟨bb, 0, none⟩ (.slice (some ⟨bk, off, none⟩) 0 0)) (.cells #[.int .i64 6, .int .i64 x.v, .int .i64 x.e, .int .i64 x.s.1, .slice As ns cs, .int .i64 x.i.1, .slice Ai ni ci, .slice Af nf cf] 83)
    have ho9 : Out bb (bb + 1) w ((w.setCell ⟨bb, 0, none⟩ (.slice (some ⟨bk, off, none⟩) 0 0)).alloc (.cells #[.int .i64 6, .int .i64 x.v, .int .i64 x.e, .int .i64 x.s.1, .slice As ns cs, .int .i64 x.i.1, .slice Ai ni ci, .slice Af nf cf] 83)) := (out_set (Out.refl _ _ _) (by omega)).trans (Out.of_below hbn9)
    have hB9 : BlkIs ((w.setCell ⟨bb, 0, none⟩ (.slice (some ⟨bk, off, none⟩) 0 0)).alloc (.cells #[.int .i64 6, .int .i64 x.v, .int .i64 x.e, .int .i64 x.s.1, .slice As ns cs, .int .i64 x.i.1, .slice Ai ni ci, .slice Af nf cf] 83)) bb 35 #[.slice (some ⟨bk, off, none⟩) 0 0] := (hB1.set 0 _).next hbn9
    have hbe : Below B w ((w.setCell ⟨bb, 0, none⟩ (.slice (some ⟨bk, off, none⟩) 0 0)).alloc (.cells #[.int .i64 6, .int .i64 x.v, .int .i64 x.e, .int .i64 x.s.1, .slice As ns cs, .int .i64 x.i.1, .slice Ai ni ci, .slice Af nf cf] 83)) := ho9.below hbb (by omega)
    have hI9 : InST ((w.setCell ⟨bb, 0, none⟩ (.slice (some ⟨bk, off, none⟩) 0 0)).alloc (.cells #[.int .i64 6, .int .i64 x.v, .int .i64 x.e, .int .i64 x.s.1, .slice As ns cs, .int .i64 x.i.1, .slice Ai ni ci, .slice Af nf cf] 83)) B (some ⟨bk, off, none⟩) 0 (([] : List S8)) := ⟨rfl, fun j y hj => by simp at hj⟩
    have HR : Hid (TV ((w.setCell ⟨bb, 0, none⟩ (.slice (some ⟨bk, off, none⟩) 0 0)).alloc (.cells #[.int .i64 6, .int .i64 x.v, .int .i64 x.e, .int .i64 x.s.1, .slice As ns cs, .int .i64 x.i.1, .slice Ai ni ci, .slice Af nf cf] 83)) B (.leaf x) _) := .assert (cs := cs) hk (hS.next hbe (Nat.le_refl _))
    have HB := Lib.hid hB9
    have HI9 := Lib.hid hI9
    have HO := Lib.hid ho9
    clear hin hB1 hB2 hB9 hI9 ho9 hbe hEB hT
    go_enter Tryz.func84, Tryz.ntmps84
    go_wp2_with fail
    go_ret
    exact ⟨_, _, 0, 0, rfl, HR.out, HB.out, HI9.out, Nat.le_refl _, HO.out⟩
  · have hc2 : m ≤ c - 1 := by omega
    have hbn9 := bnew (w.setCell ⟨bb, 0, none⟩ (.slice (some ⟨bk, off + 8, none⟩) m (c - 1))) (.cells #[.int .i64 6, .int .i64 x.v, .int .i64 x.e, .int .i64 x.s.1, .slice As ns cs, .int .i64 x.i.1, .slice Ai ni ci, .slice Af nf cf] 83)
    have ho9 : Out bb (bb + 1) w ((w.setCell ⟨bb, 0, none⟩ (.slice (some ⟨bk, off + 8, none⟩) m (c - 1))).alloc (.cells #[.int .i64 6, .int .i64 x.v, .int .i64 x.e, .int .i64 x.s.1, .slice As ns cs, .int .i64 x.i.1, .slice Ai ni ci, .slice Af nf cf] 83)) := (out_set (Out.refl _ _ _) (by omega)).trans (Out.of_below hbn9)
    have hB9 : BlkIs ((w.setCell ⟨bb, 0, none⟩ (.slice (some ⟨bk, off + 8, none⟩) m (c - 1))).alloc (.cells #[.int .i64 6, .int .i64 x.v, .int .i64 x.e, .int .i64 x.s.1, .slice As ns cs, .int .i64 x.i.1, .slice Ai ni ci, .slice Af nf cf] 83)) bb 35 #[.slice (some ⟨bk, off + 8, none⟩) m (c - 1)] := (hB1.set 0 _).next hbn9
    have hbe : Below B w ((w.setCell ⟨bb, 0, none⟩ (.slice (some ⟨bk, off + 8, none⟩) m (c - 1))).alloc (.cells #[.int .i64 6, .int .i64 x.v, .int .i64 x.e, .int .i64 x.s.1, .slice As ns cs, .int .i64 x.i.1, .slice Ai ni ci, .slice Af nf cf] 83)) := ho9.below hbb (by omega)
    have hI9 : InST ((w.setCell ⟨bb, 0, none⟩ (.slice (some ⟨bk, off + 8, none⟩) m (c - 1))).alloc (.cells #[.int .i64 6, .int .i64 x.v, .int .i64 x.e, .int .i64 x.s.1, .slice As ns cs, .int .i64 x.i.1, .slice Ai ni ci, .slice Af nf cf] 83)) B (some ⟨bk, off + 8, none⟩) m (r) := (hT.tailE.next hbe (Nat.le_refl _))
    have HR : Hid (TV ((w.setCell ⟨bb, 0, none⟩ (.slice (some ⟨bk, off + 8, none⟩) m (c - 1))).alloc (.cells #[.int .i64 6, .int .i64 x.v, .int .i64 x.e, .int .i64 x.s.1, .slice As ns cs, .int .i64 x.i.1, .slice Ai ni ci, .slice Af nf cf] 83)) B (.leaf x) _) := .assert (cs := cs) hk (hS.next hbe (Nat.le_refl _))
    have HB := Lib.hid hB9
    have HI9 := Lib.hid hI9
    have HO := Lib.hid ho9
    clear hin hB1 hB2 hB9 hI9 ho9 hbe hEB hT
    go_enter Tryz.func84, Tryz.ntmps84
    go_wp2_with fail
    go_ret
    exact ⟨_, _, m, c - 1, rfl, HR.out, HB.out, HI9.out, hc2, HO.out⟩
set_option maxRecDepth 100000 in
set_option maxHeartbeats 2000000 in
theorem next_seq {x : S8} {a b : Tr} (hk : x.k = 1) (bb nb B : Nat) (hbb : B ≤ bb) (hnb : B ≤ nb) (hbn : bb ≠ nb) (ha : NextIn bb nb B a) (hb : NextIn bb nb B b) : NextIn bb nb B (.two x a b) := by
  intro r A n c w hB1 hin hcap hnx
  have hlen := hin.1
  obtain ⟨bk, off, x', rfl, hbB, hx0, hst⟩ := hin.at_ (k := 0) (by rw [← hlen]; simp [flatT])
  have ex : x = x' := by simpa [flatT] using hx0
  subst ex
  obtain ⟨As, ns, cs, Ai, ni, ci, Af, nf, cf, s0, s1, s2, s3, s4, s5, s6, s7, hS, hI, hF⟩ := hst
  rw [hk] at s0
  simp only [Nat.zero_mul, Nat.add_zero] at s0 s1 s2 s3 s4 s5 s6 s7
  have hn1 : 1 ≤ n := by rw [← hlen]; simp [flatT]
  obtain ⟨m, rfl⟩ : ∃ m, n = m + 1 := ⟨n - 1, by omega⟩
  have hT : InST w B (some ⟨bk, off, none⟩) (m + 1) (x :: flatT a ++ (flatT b ++ r)) := by simpa [flatT] using hin
  have hbl := hB1.lt
  have y0 : w.cell? ⟨bb, 0, none⟩ = some (.slice (some ⟨bk, off, none⟩) (m + 1) c) := hB1.cell 0
  have hb0 := bnew w (.cells #[.int .i64 1, .int .i64 x.v, .int .i64 x.e, .int .i64 x.s.1, .slice As ns cs, .int .i64 x.i.1, .slice Ai ni ci, .slice Af nf cf] 83)
  have hB2 := (hB1.next hb0)
  have y1 := hB2.cell 0
  have f1 := hB2.frozen 0
  simp only [List.getElem?_toArray, List.getElem?_cons_zero] at y1
  have hEB : BlkIs (w.alloc (.cells #[.int .i64 1, .int .i64 x.v, .int .i64 x.e, .int .i64 x.s.1, .slice As ns cs, .int .i64 x.i.1, .slice Ai ni ci, .slice Af nf cf] 83)) w.heap.size 83 #[.int .i64 1, .int .i64 x.v, .int .i64 x.e, .int .i64 x.s.1, .slice As ns cs, .int .i64 x.i.1, .slice Ai ni ci, .slice Af nf cf] := blk_new _ _ _ _ rfl
  have hnl := cell_lt hnx
  have hne : bb ≠ nb := hbn
  have hfa := flatT_pos a
  have hm1 : 1 ≤ m := by
    have := hT.1
    simp at this
    omega
  have hc1 : ¬ c = 1 := by omega
  have hc2 : m ≤ c - 1 := by omega
  have hbn9 := bnew (w.setCell ⟨bb, 0, none⟩ (.slice (some ⟨bk, off + 8, none⟩) m (c - 1))) (.cells #[.int .i64 1, .int .i64 x.v, .int .i64 x.e, .int .i64 x.s.1, .slice As ns cs, .int .i64 x.i.1, .slice Ai ni ci, .slice Af nf cf] 83)
  have ho9 : Out bb (bb + 1) w ((w.setCell ⟨bb, 0, none⟩ (.slice (some ⟨bk, off + 8, none⟩) m (c - 1))).alloc (.cells #[.int .i64 1, .int .i64 x.v, .int .i64 x.e, .int .i64 x.s.1, .slice As ns cs, .int .i64 x.i.1, .slice Ai ni ci, .slice Af nf cf] 83)) := (out_set (Out.refl _ _ _) (by omega)).trans (Out.of_below hbn9)
  have hB9 : BlkIs ((w.setCell ⟨bb, 0, none⟩ (.slice (some ⟨bk, off + 8, none⟩) m (c - 1))).alloc (.cells #[.int .i64 1, .int .i64 x.v, .int .i64 x.e, .int .i64 x.s.1, .slice As ns cs, .int .i64 x.i.1, .slice Ai ni ci, .slice Af nf cf] 83)) bb 35 #[.slice (some ⟨bk, off + 8, none⟩) m (c - 1)] := (hB1.set 0 _).next hbn9
  have hbe : Below B w ((w.setCell ⟨bb, 0, none⟩ (.slice (some ⟨bk, off + 8, none⟩) m (c - 1))).alloc (.cells #[.int .i64 1, .int .i64 x.v, .int .i64 x.e, .int .i64 x.s.1, .slice As ns cs, .int .i64 x.i.1, .slice Ai ni ci, .slice Af nf cf] 83)) := ho9.below hbb (by omega)
  have hI9 : InST ((w.setCell ⟨bb, 0, none⟩ (.slice (some ⟨bk, off + 8, none⟩) m (c - 1))).alloc (.cells #[.int .i64 1, .int .i64 x.v, .int .i64 x.e, .int .i64 x.s.1, .slice As ns cs, .int .i64 x.i.1, .slice Ai ni ci, .slice Af nf cf] 83)) B (some ⟨bk, off + 8, none⟩) m (flatT a ++ (flatT b ++ r)) := (hT.tailE.next hbe (Nat.le_refl _))
  have q0 : ((w.setCell ⟨bb, 0, none⟩ (.slice (some ⟨bk, off + 8, none⟩) m (c - 1))).alloc (.cells #[.int .i64 1, .int .i64 x.v, .int .i64 x.e, .int .i64 x.s.1, .slice As ns cs, .int .i64 x.i.1, .slice Ai ni ci, .slice Af nf cf] 83)).cell? ⟨nb, 0, none⟩ = some (.func (.func 84) #[] #[.pointer (some ⟨bb, 0, none⟩), .pointer (some ⟨nb, 0, none⟩)]) := ho9.cell hnx (by omega)
  have hsz9 : w.heap.size < ((w.setCell ⟨bb, 0, none⟩ (.slice (some ⟨bk, off + 8, none⟩) m (c - 1))).alloc (.cells #[.int .i64 1, .int .i64 x.v, .int .i64 x.e, .int .i64 x.s.1, .slice As ns cs, .int .i64 x.i.1, .slice Ai ni ci, .slice Af nf cf] 83)).heap.size := by simp
  have HA := Lib.hid ha
  have HBB := Lib.hid hb
  clear hin hB1 hB2 hbe hEB hT ha hb hbn9
  go_enter Tryz.func84, Tryz.ntmps84
  go_wp2_with fail
  generalize ((w.setCell ⟨bb, 0, none⟩ (.slice (some ⟨bk, off + 8, none⟩) m (c - 1))).alloc (.cells #[.int .i64 1, .int .i64 x.v, .int .i64 x.e, .int .i64 x.s.1, .slice As ns cs, .int .i64 x.i.1, .slice Ai ni ci, .slice Af nf cf] 83)) = W at hB9 ho9 hI9 q0  hsz9 ⊢
  have HC := Lib.hid (HA.out (flatT b ++ r) _ _ _ W.drew hB9 hI9 hc2 q0)
  go_region_held3 (fun w' => w'.cell? ⟨nb, 0, none⟩ = some (.func (.func 84) #[] #[.pointer (some ⟨bb, 0, none⟩), .pointer (some ⟨nb, 0, none⟩)]))
    (first | go_keep | exact ho2.cell (ho1.cell q0 (by omega)) (by omega) | exact ho1.cell q0 (by omega) | fail)
    (first | (go_at_call 84; refine (HBB.out r _ _ _ v1 hB1 hI1 hc3 (ho1.cell q0 (by omega))).mono ?_; rintro e v2 ⟨vb, A2, n2, c2, rfl, tv2, hB2, hI2, hc4, ho2⟩; obtain ⟨Tb, xb, rfl⟩ := tv2.iface) | (go_at_call 84; refine HC.out.mono ?_; rintro e v1 ⟨va, A1, n1, c1, rfl, tv1, hB1, hI1, hc3, ho1⟩; obtain ⟨Ta, xa, rfl⟩ := tv1.iface) | fail)
  all_goals (
    have hbl1 : Below B v1 v2 := ho2.below hbb (Nat.le_trans hbb (Nat.le_of_lt hB1.lt))
    have hbl2 : Below B W v1 := (Below.refl _ _).drew.trans (ho1.below hbb (Nat.le_trans hbb (Nat.le_of_lt hB9.lt)))
    go_wp2_with fail
    go_ret
    exact ⟨_, A2, n2, c2, rfl, .seq hk (tv1.next hbl1 (Nat.le_refl _)) tv2, hB2, hI2, hc4, ho9.trans ((Out.of_below ((Below.refl _ _).drew)).trans (ho1.trans ho2))⟩)

set_option maxRecDepth 100000 in
set_option maxHeartbeats 2000000 in
theorem next_iff {x : S8} {a b : Tr} (hk : x.k = 7) (bb nb B : Nat) (hbb : B ≤ bb) (hnb : B ≤ nb) (hbn : bb ≠ nb) (ha : NextIn bb nb B a) (hb : NextIn bb nb B b) : NextIn bb nb B (.two x a b) := by
  intro r A n c w hB1 hin hcap hnx
  have hlen := hin.1
  obtain ⟨bk, off, x', rfl, hbB, hx0, hst⟩ := hin.at_ (k := 0) (by rw [← hlen]; simp [flatT])
  have ex : x = x' := by simpa [flatT] using hx0
  subst ex
  obtain ⟨As, ns, cs, Ai, ni, ci, Af, nf, cf, s0, s1, s2, s3, s4, s5, s6, s7, hS, hI, hF⟩ := hst
  rw [hk] at s0
  simp only [Nat.zero_mul, Nat.add_zero] at s0 s1 s2 s3 s4 s5 s6 s7
  have hn1 : 1 ≤ n := by rw [← hlen]; simp [flatT]
  obtain ⟨m, rfl⟩ : ∃ m, n = m + 1 := ⟨n - 1, by omega⟩
  have hT : InST w B (some ⟨bk, off, none⟩) (m + 1) (x :: flatT a ++ (flatT b ++ r)) := by simpa [flatT] using hin
  have hbl := hB1.lt
  have y0 : w.cell? ⟨bb, 0, none⟩ = some (.slice (some ⟨bk, off, none⟩) (m + 1) c) := hB1.cell 0
  have hb0 := bnew w (.cells #[.int .i64 7, .int .i64 x.v, .int .i64 x.e, .int .i64 x.s.1, .slice As ns cs, .int .i64 x.i.1, .slice Ai ni ci, .slice Af nf cf] 83)
  have hB2 := (hB1.next hb0)
  have y1 := hB2.cell 0
  have f1 := hB2.frozen 0
  simp only [List.getElem?_toArray, List.getElem?_cons_zero] at y1
  have hEB : BlkIs (w.alloc (.cells #[.int .i64 7, .int .i64 x.v, .int .i64 x.e, .int .i64 x.s.1, .slice As ns cs, .int .i64 x.i.1, .slice Ai ni ci, .slice Af nf cf] 83)) w.heap.size 83 #[.int .i64 7, .int .i64 x.v, .int .i64 x.e, .int .i64 x.s.1, .slice As ns cs, .int .i64 x.i.1, .slice Ai ni ci, .slice Af nf cf] := blk_new _ _ _ _ rfl
  have hnl := cell_lt hnx
  have hne : bb ≠ nb := hbn
  have hfa := flatT_pos a
  have hm1 : 1 ≤ m := by
    have := hT.1
    simp at this
    omega
  have hc1 : ¬ c = 1 := by omega
  have hc2 : m ≤ c - 1 := by omega
  have hbn9 := bnew (w.setCell ⟨bb, 0, none⟩ (.slice (some ⟨bk, off + 8, none⟩) m (c - 1))) (.cells #[.int .i64 7, .int .i64 x.v, .int .i64 x.e, .int .i64 x.s.1, .slice As ns cs, .int .i64 x.i.1, .slice Ai ni ci, .slice Af nf cf] 83)
  have ho9 : Out bb (bb + 1) w ((w.setCell ⟨bb, 0, none⟩ (.slice (some ⟨bk, off + 8, none⟩) m (c - 1))).alloc (.cells #[.int .i64 7, .int .i64 x.v, .int .i64 x.e, .int .i64 x.s.1, .slice As ns cs, .int .i64 x.i.1, .slice Ai ni ci, .slice Af nf cf] 83)) := (out_set (Out.refl _ _ _) (by omega)).trans (Out.of_below hbn9)
  have hB9 : BlkIs ((w.setCell ⟨bb, 0, none⟩ (.slice (some ⟨bk, off + 8, none⟩) m (c - 1))).alloc (.cells #[.int .i64 7, .int .i64 x.v, .int .i64 x.e, .int .i64 x.s.1, .slice As ns cs, .int .i64 x.i.1, .slice Ai ni ci, .slice Af nf cf] 83)) bb 35 #[.slice (some ⟨bk, off + 8, none⟩) m (c - 1)] := (hB1.set 0 _).next hbn9
  have hbe : Below B w ((w.setCell ⟨bb, 0, none⟩ (.slice (some ⟨bk, off + 8, none⟩) m (c - 1))).alloc (.cells #[.int .i64 7, .int .i64 x.v, .int .i64 x.e, .int .i64 x.s.1, .slice As ns cs, .int .i64 x.i.1, .slice Ai ni ci, .slice Af nf cf] 83)) := ho9.below hbb (by omega)
  have hI9 : InST ((w.setCell ⟨bb, 0, none⟩ (.slice (some ⟨bk, off + 8, none⟩) m (c - 1))).alloc (.cells #[.int .i64 7, .int .i64 x.v, .int .i64 x.e, .int .i64 x.s.1, .slice As ns cs, .int .i64 x.i.1, .slice Ai ni ci, .slice Af nf cf] 83)) B (some ⟨bk, off + 8, none⟩) m (flatT a ++ (flatT b ++ r)) := (hT.tailE.next hbe (Nat.le_refl _))
  have q0 : ((w.setCell ⟨bb, 0, none⟩ (.slice (some ⟨bk, off + 8, none⟩) m (c - 1))).alloc (.cells #[.int .i64 7, .int .i64 x.v, .int .i64 x.e, .int .i64 x.s.1, .slice As ns cs, .int .i64 x.i.1, .slice Ai ni ci, .slice Af nf cf] 83)).cell? ⟨nb, 0, none⟩ = some (.func (.func 84) #[] #[.pointer (some ⟨bb, 0, none⟩), .pointer (some ⟨nb, 0, none⟩)]) := ho9.cell hnx (by omega)
  have hE9 : BlkIs ((w.setCell ⟨bb, 0, none⟩ (.slice (some ⟨bk, off + 8, none⟩) m (c - 1))).alloc (.cells #[.int .i64 7, .int .i64 x.v, .int .i64 x.e, .int .i64 x.s.1, .slice As ns cs, .int .i64 x.i.1, .slice Ai ni ci, .slice Af nf cf] 83)) w.heap.size 83 #[.int .i64 7, .int .i64 x.v, .int .i64 x.e, .int .i64 x.s.1, .slice As ns cs, .int .i64 x.i.1, .slice Ai ni ci, .slice Af nf cf] := blk_new _ _ _ _ (by simp)
  have e3 : ((w.setCell ⟨bb, 0, none⟩ (.slice (some ⟨bk, off + 8, none⟩) m (c - 1))).alloc (.cells #[.int .i64 7, .int .i64 x.v, .int .i64 x.e, .int .i64 x.s.1, .slice As ns cs, .int .i64 x.i.1, .slice Ai ni ci, .slice Af nf cf] 83)).cell? ⟨w.heap.size, 3, none⟩ = some (.int .i64 x.s.1) := hE9.cell 3
  have e4 : ((w.setCell ⟨bb, 0, none⟩ (.slice (some ⟨bk, off + 8, none⟩) m (c - 1))).alloc (.cells #[.int .i64 7, .int .i64 x.v, .int .i64 x.e, .int .i64 x.s.1, .slice As ns cs, .int .i64 x.i.1, .slice Ai ni ci, .slice Af nf cf] 83)).cell? ⟨w.heap.size, 4, none⟩ = some (.slice As ns cs) := hE9.cell 4
  have hS9 : InL ((w.setCell ⟨bb, 0, none⟩ (.slice (some ⟨bk, off + 8, none⟩) m (c - 1))).alloc (.cells #[.int .i64 7, .int .i64 x.v, .int .i64 x.e, .int .i64 x.s.1, .slice As ns cs, .int .i64 x.i.1, .slice Ai ni ci, .slice Af nf cf] 83)) B As ns x.s.2 := hS.next hbe (Nat.le_refl _)
  have hsz9 : w.heap.size < ((w.setCell ⟨bb, 0, none⟩ (.slice (some ⟨bk, off + 8, none⟩) m (c - 1))).alloc (.cells #[.int .i64 7, .int .i64 x.v, .int .i64 x.e, .int .i64 x.s.1, .slice As ns cs, .int .i64 x.i.1, .slice Ai ni ci, .slice Af nf cf] 83)).heap.size := by simp
  have HA := Lib.hid ha
  have HBB := Lib.hid hb
  clear hin hB1 hB2 hbe hEB hT ha hb hbn9 hE9
  go_enter Tryz.func84, Tryz.ntmps84
  go_wp2_with fail
  generalize ((w.setCell ⟨bb, 0, none⟩ (.slice (some ⟨bk, off + 8, none⟩) m (c - 1))).alloc (.cells #[.int .i64 7, .int .i64 x.v, .int .i64 x.e, .int .i64 x.s.1, .slice As ns cs, .int .i64 x.i.1, .slice Ai ni ci, .slice Af nf cf] 83)) = W at hB9 ho9 hI9 q0 e3 e4 hS9 hsz9 ⊢
  have HC := Lib.hid (HA.out (flatT b ++ r) _ _ _ W.drew hB9 hI9 hc2 q0)
  go_region_held3 (fun w' => w'.cell? ⟨nb, 0, none⟩ = some (.func (.func 84) #[] #[.pointer (some ⟨bb, 0, none⟩), .pointer (some ⟨nb, 0, none⟩)]) ∧ w'.cell? ⟨w.heap.size, 3, none⟩ = some (.int .i64 x.s.1) ∧ w'.cell? ⟨w.heap.size, 4, none⟩ = some (.slice As ns cs))
    (first | go_keep | exact ⟨ho2.cell (ho1.cell q0 (by omega)) (by omega), ho2.cell (ho1.cell e3 (by omega)) (by omega), ho2.cell (ho1.cell e4 (by omega)) (by omega)⟩ | exact ⟨ho1.cell q0 (by omega), ho1.cell e3 (by omega), ho1.cell e4 (by omega)⟩ | fail)
    (first | (go_at_call 84; refine (HBB.out r _ _ _ v1 hB1 hI1 hc3 (ho1.cell q0 (by omega))).mono ?_; rintro e v2 ⟨vb, A2, n2, c2, rfl, tv2, hB2, hI2, hc4, ho2⟩; obtain ⟨Tb, xb, rfl⟩ := tv2.iface) | (go_at_call 84; refine HC.out.mono ?_; rintro e v1 ⟨va, A1, n1, c1, rfl, tv1, hB1, hI1, hc3, ho1⟩; obtain ⟨Ta, xa, rfl⟩ := tv1.iface) | fail)
  all_goals (
    have hbl1 : Below B v1 v2 := ho2.below hbb (Nat.le_trans hbb (Nat.le_of_lt hB1.lt))
    have hbl2 : Below B W v1 := (Below.refl _ _).drew.trans (ho1.below hbb (Nat.le_trans hbb (Nat.le_of_lt hB9.lt)))
    go_wp2_with fail
    go_ret
    exact ⟨_, A2, n2, c2, rfl, .iff hk (hS9.next (hbl2.trans hbl1) (Nat.le_refl _)) (tv1.next hbl1 (Nat.le_refl _)) tv2, hB2, hI2, hc4, ho9.trans ((Out.of_below ((Below.refl _ _).drew)).trans (ho1.trans ho2))⟩)

set_option maxRecDepth 100000 in
set_option maxHeartbeats 2000000 in
theorem next_whl {x : S8} {a : Tr} (hk : x.k = 8) (bb nb B : Nat) (hbb : B ≤ bb) (hnb : B ≤ nb) (hbn : bb ≠ nb) (ha : NextIn bb nb B a) : NextIn bb nb B (.one x a) := by
  intro r A n c w hB1 hin hcap hnx
  have hlen := hin.1
  obtain ⟨bk, off, x', rfl, hbB, hx0, hst⟩ := hin.at_ (k := 0) (by rw [← hlen]; simp [flatT])
  have ex : x = x' := by simpa [flatT] using hx0
  subst ex
  obtain ⟨As, ns, cs, Ai, ni, ci, Af, nf, cf, s0, s1, s2, s3, s4, s5, s6, s7, hS, hI, hF⟩ := hst
  rw [hk] at s0
  simp only [Nat.zero_mul, Nat.add_zero] at s0 s1 s2 s3 s4 s5 s6 s7
  have hn1 : 1 ≤ n := by rw [← hlen]; simp [flatT]
  obtain ⟨m, rfl⟩ : ∃ m, n = m + 1 := ⟨n - 1, by omega⟩
  have hT : InST w B (some ⟨bk, off, none⟩) (m + 1) (x :: flatT a ++ r) := by simpa [flatT] using hin
  have hbl := hB1.lt
  have y0 : w.cell? ⟨bb, 0, none⟩ = some (.slice (some ⟨bk, off, none⟩) (m + 1) c) := hB1.cell 0
  have hb0 := bnew w (.cells #[.int .i64 8, .int .i64 x.v, .int .i64 x.e, .int .i64 x.s.1, .slice As ns cs, .int .i64 x.i.1, .slice Ai ni ci, .slice Af nf cf] 83)
  have hB2 := (hB1.next hb0)
  have y1 := hB2.cell 0
  have f1 := hB2.frozen 0
  simp only [List.getElem?_toArray, List.getElem?_cons_zero] at y1
  have hEB : BlkIs (w.alloc (.cells #[.int .i64 8, .int .i64 x.v, .int .i64 x.e, .int .i64 x.s.1, .slice As ns cs, .int .i64 x.i.1, .slice Ai ni ci, .slice Af nf cf] 83)) w.heap.size 83 #[.int .i64 8, .int .i64 x.v, .int .i64 x.e, .int .i64 x.s.1, .slice As ns cs, .int .i64 x.i.1, .slice Ai ni ci, .slice Af nf cf] := blk_new _ _ _ _ rfl
  have hnl := cell_lt hnx
  have hne : bb ≠ nb := hbn
  have hfa := flatT_pos a
  have hm1 : 1 ≤ m := by
    have := hT.1
    simp at this
    omega
  have hc1 : ¬ c = 1 := by omega
  have hc2 : m ≤ c - 1 := by omega
  have hbn9 := bnew (w.setCell ⟨bb, 0, none⟩ (.slice (some ⟨bk, off + 8, none⟩) m (c - 1))) (.cells #[.int .i64 8, .int .i64 x.v, .int .i64 x.e, .int .i64 x.s.1, .slice As ns cs, .int .i64 x.i.1, .slice Ai ni ci, .slice Af nf cf] 83)
  have ho9 : Out bb (bb + 1) w ((w.setCell ⟨bb, 0, none⟩ (.slice (some ⟨bk, off + 8, none⟩) m (c - 1))).alloc (.cells #[.int .i64 8, .int .i64 x.v, .int .i64 x.e, .int .i64 x.s.1, .slice As ns cs, .int .i64 x.i.1, .slice Ai ni ci, .slice Af nf cf] 83)) := (out_set (Out.refl _ _ _) (by omega)).trans (Out.of_below hbn9)
  have hB9 : BlkIs ((w.setCell ⟨bb, 0, none⟩ (.slice (some ⟨bk, off + 8, none⟩) m (c - 1))).alloc (.cells #[.int .i64 8, .int .i64 x.v, .int .i64 x.e, .int .i64 x.s.1, .slice As ns cs, .int .i64 x.i.1, .slice Ai ni ci, .slice Af nf cf] 83)) bb 35 #[.slice (some ⟨bk, off + 8, none⟩) m (c - 1)] := (hB1.set 0 _).next hbn9
  have hbe : Below B w ((w.setCell ⟨bb, 0, none⟩ (.slice (some ⟨bk, off + 8, none⟩) m (c - 1))).alloc (.cells #[.int .i64 8, .int .i64 x.v, .int .i64 x.e, .int .i64 x.s.1, .slice As ns cs, .int .i64 x.i.1, .slice Ai ni ci, .slice Af nf cf] 83)) := ho9.below hbb (by omega)
  have hI9 : InST ((w.setCell ⟨bb, 0, none⟩ (.slice (some ⟨bk, off + 8, none⟩) m (c - 1))).alloc (.cells #[.int .i64 8, .int .i64 x.v, .int .i64 x.e, .int .i64 x.s.1, .slice As ns cs, .int .i64 x.i.1, .slice Ai ni ci, .slice Af nf cf] 83)) B (some ⟨bk, off + 8, none⟩) m (flatT a ++ r) := (hT.tailE.next hbe (Nat.le_refl _))
  have q0 : ((w.setCell ⟨bb, 0, none⟩ (.slice (some ⟨bk, off + 8, none⟩) m (c - 1))).alloc (.cells #[.int .i64 8, .int .i64 x.v, .int .i64 x.e, .int .i64 x.s.1, .slice As ns cs, .int .i64 x.i.1, .slice Ai ni ci, .slice Af nf cf] 83)).cell? ⟨nb, 0, none⟩ = some (.func (.func 84) #[] #[.pointer (some ⟨bb, 0, none⟩), .pointer (some ⟨nb, 0, none⟩)]) := ho9.cell hnx (by omega)
  have hE9 : BlkIs ((w.setCell ⟨bb, 0, none⟩ (.slice (some ⟨bk, off + 8, none⟩) m (c - 1))).alloc (.cells #[.int .i64 8, .int .i64 x.v, .int .i64 x.e, .int .i64 x.s.1, .slice As ns cs, .int .i64 x.i.1, .slice Ai ni ci, .slice Af nf cf] 83)) w.heap.size 83 #[.int .i64 8, .int .i64 x.v, .int .i64 x.e, .int .i64 x.s.1, .slice As ns cs, .int .i64 x.i.1, .slice Ai ni ci, .slice Af nf cf] := blk_new _ _ _ _ (by simp)
  have e3 : ((w.setCell ⟨bb, 0, none⟩ (.slice (some ⟨bk, off + 8, none⟩) m (c - 1))).alloc (.cells #[.int .i64 8, .int .i64 x.v, .int .i64 x.e, .int .i64 x.s.1, .slice As ns cs, .int .i64 x.i.1, .slice Ai ni ci, .slice Af nf cf] 83)).cell? ⟨w.heap.size, 3, none⟩ = some (.int .i64 x.s.1) := hE9.cell 3
  have e4 : ((w.setCell ⟨bb, 0, none⟩ (.slice (some ⟨bk, off + 8, none⟩) m (c - 1))).alloc (.cells #[.int .i64 8, .int .i64 x.v, .int .i64 x.e, .int .i64 x.s.1, .slice As ns cs, .int .i64 x.i.1, .slice Ai ni ci, .slice Af nf cf] 83)).cell? ⟨w.heap.size, 4, none⟩ = some (.slice As ns cs) := hE9.cell 4
  have e7 : ((w.setCell ⟨bb, 0, none⟩ (.slice (some ⟨bk, off + 8, none⟩) m (c - 1))).alloc (.cells #[.int .i64 8, .int .i64 x.v, .int .i64 x.e, .int .i64 x.s.1, .slice As ns cs, .int .i64 x.i.1, .slice Ai ni ci, .slice Af nf cf] 83)).cell? ⟨w.heap.size, 7, none⟩ = some (.slice Af nf cf) := hE9.cell 7
  have hS9 : InL ((w.setCell ⟨bb, 0, none⟩ (.slice (some ⟨bk, off + 8, none⟩) m (c - 1))).alloc (.cells #[.int .i64 8, .int .i64 x.v, .int .i64 x.e, .int .i64 x.s.1, .slice As ns cs, .int .i64 x.i.1, .slice Ai ni ci, .slice Af nf cf] 83)) B As ns x.s.2 := hS.next hbe (Nat.le_refl _)
  have hF9 : InTS ((w.setCell ⟨bb, 0, none⟩ (.slice (some ⟨bk, off + 8, none⟩) m (c - 1))).alloc (.cells #[.int .i64 8, .int .i64 x.v, .int .i64 x.e, .int .i64 x.s.1, .slice As ns cs, .int .i64 x.i.1, .slice Ai ni ci, .slice Af nf cf] 83)) B Af nf x.f := hF.next hbe (Nat.le_refl _)
  have hsz9 : w.heap.size < ((w.setCell ⟨bb, 0, none⟩ (.slice (some ⟨bk, off + 8, none⟩) m (c - 1))).alloc (.cells #[.int .i64 8, .int .i64 x.v, .int .i64 x.e, .int .i64 x.s.1, .slice As ns cs, .int .i64 x.i.1, .slice Ai ni ci, .slice Af nf cf] 83)).heap.size := by simp
  have HA := Lib.hid ha
  clear hin hB1 hB2 hbe hEB hT ha hbn9 hE9
  go_enter Tryz.func84, Tryz.ntmps84
  go_wp2_with fail
  generalize ((w.setCell ⟨bb, 0, none⟩ (.slice (some ⟨bk, off + 8, none⟩) m (c - 1))).alloc (.cells #[.int .i64 8, .int .i64 x.v, .int .i64 x.e, .int .i64 x.s.1, .slice As ns cs, .int .i64 x.i.1, .slice Ai ni ci, .slice Af nf cf] 83)) = W at hB9 ho9 hI9 q0 e3 e4 e7 hS9 hF9 hsz9 ⊢
  have HC := Lib.hid (HA.out r _ _ _ W.drew hB9 hI9 hc2 q0)
  go_region_held3 (fun w' => w'.cell? ⟨nb, 0, none⟩ = some (.func (.func 84) #[] #[.pointer (some ⟨bb, 0, none⟩), .pointer (some ⟨nb, 0, none⟩)]) ∧ w'.cell? ⟨w.heap.size, 3, none⟩ = some (.int .i64 x.s.1) ∧ w'.cell? ⟨w.heap.size, 4, none⟩ = some (.slice As ns cs) ∧ w'.cell? ⟨w.heap.size, 7, none⟩ = some (.slice Af nf cf))
    (first | go_keep | exact ⟨ho1.cell q0 (by omega), ho1.cell e3 (by omega), ho1.cell e4 (by omega), ho1.cell e7 (by omega)⟩ | fail)
    (first | (go_at_call 84; refine HC.out.mono ?_; rintro e v1 ⟨va, A1, n1, c1, rfl, tv1, hB1, hI1, hc3, ho1⟩; obtain ⟨Ta, xa, rfl⟩ := tv1.iface) | fail)
  all_goals (
    have hbl2 : Below B W v1 := (Below.refl _ _).drew.trans (ho1.below hbb (Nat.le_trans hbb (Nat.le_of_lt hB9.lt)))
    go_wp2_with fail
    go_ret
    exact ⟨_, A1, n1, c1, rfl, .whl hk (hS9.next hbl2 (Nat.le_refl _)) (hF9.next hbl2 (Nat.le_refl _)) tv1, hB1, hI1, hc3, ho9.trans ((Out.of_below ((Below.refl _ _).drew)).trans ho1)⟩)

theorem next_all (bb nb B : Nat) (hbb : B ≤ bb) (hnb : B ≤ nb) (hbn : bb ≠ nb) : ∀ t : Tr, WfT t → (∀ x ∈ flatT t, stmtB x = true) → NextIn bb nb B t
  | .leaf x, hw, ok => by
    have hx := (stmt_ok (ok x (by simp [flatT]))).1
    have hb : below x.k = 0 := hw
    have hc : x.k = 0 ∨ x.k = 2 ∨ x.k = 3 ∨ x.k = 4 ∨ x.k = 5 ∨ x.k = 6 := by
      unfold below at hb
      split at hb
      · omega
      · split at hb <;> omega
    rcases hc with h | h | h | h | h | h
    · exact next_skip h bb nb B hbb hnb hbn
    · exact next_set h bb nb B hbb hnb hbn
    · exact next_get h bb nb B hbb hnb hbn
    · exact next_put h bb nb B hbb hnb hbn
    · exact next_emit h bb nb B hbb hnb hbn
    · exact next_assert h bb nb B hbb hnb hbn
  | .one x a, hw, ok => by
    have hb : below x.k = 1 := hw.1
    have h : x.k = 8 := by
      unfold below at hb
      split at hb
      · omega
      · split at hb <;> omega
    exact next_whl h bb nb B hbb hnb hbn (next_all bb nb B hbb hnb hbn a hw.2 (fun y hy => ok y (by simp [flatT, hy])))
  | .two x a b, hw, ok => by
    have hb : below x.k = 2 := hw.1
    have h : x.k = 1 ∨ x.k = 7 := by
      unfold below at hb
      split at hb
      · omega
      · split at hb <;> omega
    have ia := next_all bb nb B hbb hnb hbn a hw.2.1 (fun y hy => ok y (by simp [flatT, hy]))
    have ib := next_all bb nb B hbb hnb hbn b hw.2.2 (fun y hy => ok y (by simp [flatT, hy]))
    rcases h with h | h
    · exact next_seq h bb nb B hbb hnb hbn ia ib
    · exact next_iff h bb nb B hbb hnb hbn ia ib
set_option maxRecDepth 100000 in
set_option maxHeartbeats 1000000 in
theorem statementOf_c (t : Tr) (hw : WfT t) (ok : ∀ x ∈ flatT t, stmtB x = true) (A : Option Addr) (n c B : Nat) (w : World) (h : InST w B A n (flatT t)) (hB : B ≤ w.heap.size) (hc : n ≤ c) :
    Calls Tryz.prog 49 #[.slice A n c] w fun e w' => ∃ v, e = .returned v ∧ TV w' B t v ∧ Below w.heap.size w w' := by
  have NX := Lib.hid (next_all w.heap.size (w.heap.size + 1) B hB (by omega) (by omega) t hw ok [] A n c)
  have hb0 : Below w.heap.size w ((w.alloc (.cells #[.slice A n c] 35)).alloc (.cells #[.func (.func 84) #[] #[.pointer (some ⟨w.heap.size, 0, none⟩), .pointer (some ⟨w.heap.size + 1, 0, none⟩)]] 128)) := bon (bnew _ _) (bnew _ _)
  have hB1 : BlkIs ((w.alloc (.cells #[.slice A n c] 35)).alloc (.cells #[.func (.func 84) #[] #[.pointer (some ⟨w.heap.size, 0, none⟩), .pointer (some ⟨w.heap.size + 1, 0, none⟩)]] 128)) w.heap.size 35 #[.slice A n c] := (blk_new w _ _ _ rfl).next (bnew _ _)
  have hq : ((w.alloc (.cells #[.slice A n c] 35)).alloc (.cells #[.func (.func 84) #[] #[.pointer (some ⟨w.heap.size, 0, none⟩), .pointer (some ⟨w.heap.size + 1, 0, none⟩)]] 128)).cell? ⟨w.heap.size + 1, 0, none⟩ = some (.func (.func 84) #[] #[.pointer (some ⟨w.heap.size, 0, none⟩), .pointer (some ⟨w.heap.size + 1, 0, none⟩)]) := by simp
  have hz : ((w.alloc (.cells #[.slice A n c] 35)).alloc (.cells #[.func (.func 84) #[] #[.pointer (some ⟨w.heap.size, 0, none⟩), .pointer (some ⟨w.heap.size + 1, 0, none⟩)]] 128)).heap.size = w.heap.size + 2 := by simp
  have HC := Lib.hid (NX.out _ hB1 (by rw [List.append_nil]; exact h.next hb0 hB) hc hq)
  clear h hB1
  go_enter Tryz.func49, Tryz.ntmps49
  go_wp2_with fail
  refine HC.out.mono ?_
  rintro e w1 ⟨v, A', n', c', rfl, tv, _, _, _, ho⟩
  go_wp2_with fail
  go_ret
  exact ⟨v, rfl, tv, hb0.trans (ho.below (Nat.le_refl _) (by omega))⟩
end Go.Proofs.YtajmbnimdngjhaaGreatDoor

/-! The program's run of a program: executed, StepsOf, RunProgram. Conditions: at most 2^20 of everything. -/
namespace Go.Proofs.YtajmbnimdngjhaaGreatDoor
set_option linter.unusedVariables false
open Go.RowKit

theorem OwnL.exactX {w : World} {base n c g hi : Nat} {l : List Int} (h : OwnL w base hi (some ⟨g, 0, none⟩) n c l) : OwnL w g (g + 1) (some ⟨g, 0, none⟩) n c l := by
  have hlt := h.2.2.1 g rfl
  have hw := h.2.2.2
  refine ⟨h.1, ⟨h.2.1.1, ?_⟩, (fun k hk => by have hk' : some g = some k := hk; injection hk' with e; omega), by omega⟩
  rcases h.2.1.2 with ⟨h1, h2⟩ | ⟨b, cap, cur, h1, h2, r⟩
  · cases h1
  · have h1' := h1
    injection h1 with e _ _
    injection e with e
    injection e with e _ _
    exact .inr ⟨b, cap, cur, h1', by omega, r⟩
theorem OwnL.someX {w : World} {lo hi n c : Nat} {A : Option Addr} {l : List Int} (h : OwnL w lo hi A n c l) (hn : 0 < n) : ∃ b, A = some ⟨b, 0, none⟩ ∧ lo ≤ b ∧ b < hi := by
  rcases h.2.1.2 with ⟨h1, h2⟩ | ⟨b, cap, cur, h1, h2, r⟩
  · omega
  · have h1' := h1
    injection h1 with e _ _
    subst e
    exact ⟨b, rfl, h2, h.2.2.1 b rfl⟩
section
variable (A : Option Addr) (n c : Nat) (ts : List (Int × List Int)) (D : Option Addr) (m d : Nat) (xs : List S8) (E : Option Addr) (q e' : Nat) (us : List (Int × List Int)) (A1 : Option Addr) (n1 c1 : Nat) (vs : List Int) (A2 : Option Addr) (n2 c2 : Nat) (zs : List Int) (f : Int) (w : World)
/-- What the run leaves in memory. -/
def ExecQ (w : World) (F : Nat) (o : Int) (s : RS) : Ending → World → Prop := fun e w' => ∃ (gx gv cv gc cc : Nat) (E : Option Addr) (ce : Nat), e = .returned (.tuple #[.pointer (some ⟨gx, 0, none⟩), .int .i64 o, .bool true]) ∧ ExM w' w.heap.size gx gv cv gc cc E ce F s ∧ gv < gc ∧ Below w.heap.size w w'
set_option maxRecDepth 100000 in
set_option maxHeartbeats 2000000 in
theorem executed_no (hT : TabE w) (h : PIn w w.heap.size A n ts D m xs E q us) (h1 : InL w w.heap.size A1 n1 vs) (h2 : InL w w.heap.size A2 n2 zs) (hn : progN n ts m xs q us ≤ 1048576) (hn1 : n1 ≤ 1048576) (hn2 : n2 ≤ 1048576) (hv : ¬ (progB ts xs us = true ∧ stB vs zs = true ∧ 0 ≤ f ∧ f ≤ 2000)) :
    Calls Tryz.prog 41 #[.agg #[.slice A n c, .slice D m d, .slice E q e'], .agg #[.slice A1 n1 c1, .slice A2 n2 c2], .int .i64 f] w fun e w' => e = .returned (.tuple #[.pointer none, .int .i64 0, .bool false]) ∧ Below w.heap.size w w' := by
  have hb0 : Below w.heap.size w ((w.alloc (.cells #[.slice A n c, .slice D m d, .slice E q e'] 37)).alloc (.cells #[.slice A1 n1 c1, .slice A2 n2 c2] 31)) := bon (bnew _ _) (bnew _ _)
  have hP : BlkIs ((w.alloc (.cells #[.slice A n c, .slice D m d, .slice E q e'] 37)).alloc (.cells #[.slice A1 n1 c1, .slice A2 n2 c2] 31)) w.heap.size 37 #[.slice A n c, .slice D m d, .slice E q e'] := (blk_new w _ _ _ rfl).next (bnew _ _)
  have hS : BlkIs ((w.alloc (.cells #[.slice A n c, .slice D m d, .slice E q e'] 37)).alloc (.cells #[.slice A1 n1 c1, .slice A2 n2 c2] 31)) (w.heap.size + 1) 31 #[.slice A1 n1 c1, .slice A2 n2 c2] := blk_new _ _ _ _ (by simp)
  have C0 := validProg_c A n c ts D m d xs E q e' w.heap.size us ((w.alloc (.cells #[.slice A n c, .slice D m d, .slice E q e'] 37)).alloc (.cells #[.slice A1 n1 c1, .slice A2 n2 c2] 31)) (hT.next hb0) (h.next hb0 (Nat.le_refl _)) hb0.size hn
  have HS1 := Lib.hid (fun (X : World) (hX : Below w.heap.size w X) => implState_c A1 n1 c1 w.heap.size vs A2 n2 c2 zs X (h1.next hX (Nat.le_refl _)) (h2.next hX (Nat.le_refl _)) hX.size hn1 hn2)
  have HP := Lib.hid hP
  have HSB := Lib.hid hS
  have HV := Lib.hid hv
  cases hp : progB ts xs us with
  | false =>
    rw [hp] at C0
    have HC := Lib.hid C0
    clear C0 h h1 h2 hT hP hS hv
    go_enter Tryz.func41, Tryz.ntmps41
    go_wp2_with fail
    refine HC.out.mono ?_
    rintro e w1 ⟨rfl, hb1⟩
    go_wp2_with fail
    exact bodyPost_ret (v := .tuple #[.pointer none, .int .i64 0, .bool false]) (by simp [results, Tryz.results41, go_sem]) rfl ⟨rfl, bon hb0 hb1⟩
  | true =>
    rw [hp] at C0
    have HC := Lib.hid C0
    cases hs : stB vs zs with
    | false =>
      rw [hs] at HS1
      clear C0 h h1 h2 hT hP hS hv hp hs
      go_enter Tryz.func41, Tryz.ntmps41
      go_wp2_with fail
      generalize ((w.alloc (.cells #[.slice A n c, .slice D m d, .slice E q e'] 37)).alloc (.cells #[.slice A1 n1 c1, .slice A2 n2 c2] 31)) = W at hb0 HP HSB HC ⊢
      refine HC.out.mono ?_
      rintro e w1 ⟨rfl, hb1⟩
      have c0 : w1.cell? ⟨w.heap.size + 1, 0, none⟩ = some (.slice A1 n1 c1) := (HSB.out.next hb1).cell 0
      have c1' : w1.cell? ⟨w.heap.size + 1, 1, none⟩ = some (.slice A2 n2 c2) := (HSB.out.next hb1).cell 1
      have hb01 := bon hb0 hb1
      clear HC
      go_wp2_with fail
      refine (HS1.out w1 hb01).mono ?_
      rintro e w2 ⟨rfl, hb2⟩
      go_wp2_with fail
      exact bodyPost_ret (v := .tuple #[.pointer none, .int .i64 0, .bool false]) (by simp [results, Tryz.results41, go_sem]) rfl ⟨rfl, bon hb01 hb2⟩
    | true =>
      rw [hs] at HS1
      have hf : (decide (0 ≤ f ∧ f ≤ 2000)) = false := decide_eq_false (fun a => HV.out ⟨hp, hs, a⟩)
      have hf' : (decide (0 ≤ f) && decide (f ≤ 2000)) = false := by rw [← Bool.decide_and]; exact hf
      clear C0 h h1 h2 hT hP hS hv hp hs
      go_enter Tryz.func41, Tryz.ntmps41
      go_wp2_with fail
      generalize ((w.alloc (.cells #[.slice A n c, .slice D m d, .slice E q e'] 37)).alloc (.cells #[.slice A1 n1 c1, .slice A2 n2 c2] 31)) = W at hb0 HP HSB HC ⊢
      refine HC.out.mono ?_
      rintro e w1 ⟨rfl, hb1⟩
      have c0 : w1.cell? ⟨w.heap.size + 1, 0, none⟩ = some (.slice A1 n1 c1) := (HSB.out.next hb1).cell 0
      have c1' : w1.cell? ⟨w.heap.size + 1, 1, none⟩ = some (.slice A2 n2 c2) := (HSB.out.next hb1).cell 1
      have hb01 := bon hb0 hb1
      clear HC
      go_wp2_with fail
      refine (HS1.out w1 hb01).mono ?_
      rintro e w2 ⟨rfl, hb2⟩
      go_wp2_with fail
      refine (isBetween_k f 0 2000 w2).mono ?_
      rintro e w3 ⟨rfl, rfl⟩
      rw [hf]
      go_wp2_with fail
      exact bodyPost_ret (v := .tuple #[.pointer none, .int .i64 0, .bool false]) (by simp [results, Tryz.results41, go_sem]) rfl ⟨rfl, bon hb01 hb2⟩
set_option maxRecDepth 100000 in
set_option maxHeartbeats 4000000 in
theorem executed_c (t : Tr) (o : Int) (s' : RS) (hxs : xs = flatT t) (hw : WfT t) (ok : ∀ x ∈ flatT t, stmtB x = true) (hgo : Go f.toNat [t] ⟨vs, zs, [], 0⟩ o s') (g : GoodR f.toNat ⟨vs, zs, [], 0⟩) (hT : TabE w) (h : PIn w w.heap.size A n ts D m xs E q us) (h1 : InL w w.heap.size A1 n1 vs) (h2 : InL w w.heap.size A2 n2 zs) (hn : progN n ts m xs q us ≤ 1048576) (hn1 : n1 ≤ 1048576) (hn2 : n2 ≤ 1048576) (hmd : m ≤ d) (hp : progB ts xs us = true) (hs : stB vs zs = true) (hf0 : 0 ≤ f) (hf1 : f ≤ 2000) :
    Calls Tryz.prog 41 #[.agg #[.slice A n c, .slice D m d, .slice E q e'], .agg #[.slice A1 n1 c1, .slice A2 n2 c2], .int .i64 f] w (ExecQ w f.toNat o s') := by
  have hb0 : Below w.heap.size w ((w.alloc (.cells #[.slice A n c, .slice D m d, .slice E q e'] 37)).alloc (.cells #[.slice A1 n1 c1, .slice A2 n2 c2] 31)) := bon (bnew _ _) (bnew _ _)
  have hP : BlkIs ((w.alloc (.cells #[.slice A n c, .slice D m d, .slice E q e'] 37)).alloc (.cells #[.slice A1 n1 c1, .slice A2 n2 c2] 31)) w.heap.size 37 #[.slice A n c, .slice D m d, .slice E q e'] := (blk_new w _ _ _ rfl).next (bnew _ _)
  have hS : BlkIs ((w.alloc (.cells #[.slice A n c, .slice D m d, .slice E q e'] 37)).alloc (.cells #[.slice A1 n1 c1, .slice A2 n2 c2] 31)) (w.heap.size + 1) 31 #[.slice A1 n1 c1, .slice A2 n2 c2] := blk_new _ _ _ _ (by simp)
  have hsz : ((w.alloc (.cells #[.slice A n c, .slice D m d, .slice E q e'] 37)).alloc (.cells #[.slice A1 n1 c1, .slice A2 n2 c2] 31)).heap.size = w.heap.size + 2 := by simp
  have C0 := validProg_c A n c ts D m d xs E q e' w.heap.size us ((w.alloc (.cells #[.slice A n c, .slice D m d, .slice E q e'] 37)).alloc (.cells #[.slice A1 n1 c1, .slice A2 n2 c2] 31)) (hT.next hb0) (h.next hb0 (Nat.le_refl _)) hb0.size hn
  rw [hp] at C0
  have HC := Lib.hid C0
  have hlv : n1 = 4 := by have := g.g.lv; have := h1.1; simp at *; omega
  have hlc : n2 = 8 := by have := g.g.lc; have := h2.1; simp at *; omega
  subst hlv
  subst hlc
  have HS1 := Lib.hid (fun (X : World) (hX : Below w.heap.size w X) => implState_c A1 4 c1 w.heap.size vs A2 8 c2 zs X (h1.next hX (Nat.le_refl _)) (h2.next hX (Nat.le_refl _)) hX.size hn1 hn2)
  rw [hs] at HS1
  have HP := Lib.hid hP
  have HSB := Lib.hid hS
  have H1 := Lib.hid h1
  have H2 := Lib.hid h2
  have HD := Lib.hid h.2.1
  have HG := Lib.hid g
  have HGO := Lib.hid hgo
  have HW := Lib.hid hw
  have HOK := Lib.hid ok
  have HXS := Lib.hid hxs
  obtain ⟨F, rfl⟩ : ∃ F : Nat, f = (F : Int) := ⟨f.toNat, by omega⟩
  have eF : ((F : Int)).toNat = F := by omega
  rw [eF] at HG HGO ⊢
  have hF2 : F ≤ 2000 := by omega
  have e1 : decide ((0 : Int) ≤ (F : Int)) = true := decide_eq_true hf0
  have e2 : decide ((F : Int) ≤ 2000) = true := decide_eq_true hf1
  clear C0 h h1 h2 hT hP hS hp hs g hgo hw ok hxs
  go_enter Tryz.func41, Tryz.ntmps41
  go_wp2_with fail
  generalize ((w.alloc (.cells #[.slice A n c, .slice D m d, .slice E q e'] 37)).alloc (.cells #[.slice A1 4 c1, .slice A2 8 c2] 31)) = W at hb0 HP HSB HC hsz ⊢
  refine HC.out.mono ?_
  rintro e w1 ⟨rfl, hb1⟩
  have hc0 : w1.cell? ⟨w.heap.size + 1, 0, none⟩ = some (.slice A1 4 c1) := (HSB.out.next hb1).cell 0
  have hc1 : w1.cell? ⟨w.heap.size + 1, 1, none⟩ = some (.slice A2 8 c2) := (HSB.out.next hb1).cell 1
  have hb01 := bon hb0 hb1
  clear HC
  go_wp2_with fail
  refine (HS1.out w1 hb01).mono ?_
  rintro e w2 ⟨rfl, hb2⟩
  have hb02 := bon hb01 hb2
  replace hc0 := cell_next hc0 hb2
  replace hc1 := cell_next hc1 hb2
  clear HS1
  go_wp2_with fail
  refine (isBetween_k (F : Int) 0 2000 w2).mono ?_
  rintro e w3 ⟨rfl, rfl⟩
  go_wp2_with fail
  have HV := Lib.hid (clone64_c A1 4 c1 w.heap.size vs w2.drew (InL.drew (H1.out.next hb02 (Nat.le_refl _))) (show w.heap.size ≤ w2.heap.size from hb02.size) (by omega))
  have HZ := Lib.hid (fun (X : World) (hX : Below w2.drew.heap.size w2.drew X) => clone64_c A2 8 c2 w.heap.size zs X (H2.out.next (bon hb02 (bstep hX)) (Nat.le_refl _)) (bon hb02 (bstep hX)).size (by omega))
  have hz2 := hb2.size
  have hz1 := hb1.size
  go_cut [9] (fun x9 wx => ∃ gv cv gc cc, x9 = .pointer (some ⟨wx.heap.size - 1, 0, none⟩) ∧ 0 < wx.heap.size ∧ BlkIs wx (wx.heap.size - 1) 74 #[.slice (some ⟨gv, 0, none⟩) 4 cv, .slice (some ⟨gc, 0, none⟩) 8 cc, .slice none 0 0, .int .i64 0, .int .i64 (F : Int)] ∧ OwnL wx gv (gv + 1) (some ⟨gv, 0, none⟩) 4 cv vs ∧ OwnL wx gc (gc + 1) (some ⟨gc, 0, none⟩) 8 cc zs ∧ w2.heap.size ≤ gv ∧ gv < gc ∧ gc < wx.heap.size - 1 ∧ Below w2.heap.size w2 wx)
  case first =>
    go_region_held3 (fun w' => w'.cell? ⟨w.heap.size + 1, 0, none⟩ = some (.slice A1 4 c1) ∧ w'.cell? ⟨w.heap.size + 1, 1, none⟩ = some (.slice A2 8 c2))
      (first | go_keep | exact ⟨cell_on hc0 hbv, cell_on hc1 hbv⟩ | exact ⟨cell_on2 hc0 hbv hbz, cell_on2 hc1 hbv hbz⟩ | exact ⟨cell_next (cell_on2 hc0 hbv hbz) (bnew _ _), cell_next (cell_on2 hc1 hbv hbz) (bnew _ _)⟩ | fail)
      (first | (go_at_call_of 77 A1; refine HV.out.mono ?_; rintro e v1 ⟨X, cv, rfl, ow1, hbv⟩) | (go_at_call_of 77 A2; refine (HZ.out _ hbv).mono ?_; rintro e v2 ⟨X', cc, rfl, ow2, hbz⟩) | fail)
    all_goals (
      obtain ⟨gv, rfl, hv1, hv2⟩ := ow1.someX (by omega)
      obtain ⟨gc, rfl, hv3, hv4⟩ := ow2.someX (by omega)
      have hww : w2.drew.heap.size = w2.heap.size := rfl
      have hbzs := hbz.size
      go_wp2_with fail
      go_meet
      refine ⟨gv, cv, gc, cc, by simp, by simp, ?_, (ow1.exactX.next hbz).next (bnew _ _), ow2.exactX.next (bnew _ _), by omega, by omega, by simp; omega, bon (bon (bstep hbv) hbz) (bnew _ _)⟩
      have := blk_new v2 74 #[.slice (some ⟨gv, 0, none⟩) 4 cv, .slice (some ⟨gc, 0, none⟩) 8 cc, .slice none 0 0, .int .i64 0, .int .i64 (F : Int)] _ rfl
      simpa using this)
  case rest =>
    obtain ⟨gv, cv, gc, cc, rfl, hpos, hXB, ow1, ow2, hv1, hv2, hv3, hb3⟩ := hcut
    obtain ⟨gx, hgx⟩ : ∃ g, wc.heap.size - 1 = g := ⟨_, rfl⟩
    rw [hgx] at hXB hv3 ⊢
    have hb03 := bon hb02 hb3
    have hM : ExM wc w.heap.size gx gv cv gc cc none 0 F ⟨vs, zs, [], 0⟩ := ⟨hXB, ow1, ow2, World.ownsRow_nil _ _ _ _, (fun b hb => by cases hb), by omega, by omega, by omega, by omega, by omega, by omega⟩
    have hb23 := bon hb1 (bon hb2 hb3)
    have p1 : wc.cell? ⟨w.heap.size, 1, none⟩ = some (.slice D m d) := (HP.out.next hb23).cell 1
    have CS := Lib.hid (statementOf_c t HW.out HOK.out D m d w.heap.size wc (by rw [← HXS.out]; exact HD.out.next hb03 (Nat.le_refl _)) hb03.size hmd)
    have HM := Lib.hid hM
    clear hM hXB ow1 ow2 HV HZ hc0 hc1 H1 H2
    go_wp2_with fail
    refine CS.out.mono ?_
    rintro e w4 ⟨v, rfl, tv, hb4⟩
    obtain ⟨FR, r, ⟨Ta, xa, rfl, hma, hfa⟩, hcr⟩ := runs_all (fuel := F) tv HOK.out
    have CR := Lib.hid (hcr w4 w.heap.size gx gv cv gc cc none 0 ⟨vs, zs, [], 0⟩ (Below.refl _ _) (Nat.le_refl _) (HM.out.next hb4) HG.out)
    have hb04 := bon hb03 hb4
    clear hcr CS HM
    go_wp2_with fail
    refine CR.out.mono ?_
    rintro e w5 ⟨o9, s9, E9, ce9, rfl, h9, g9, F9, hle, hends⟩
    clear hma hfa CR
    obtain ⟨rfl, rfl⟩ := Go.det HGO.out hends.go
    go_wp2_with fail
    exact bodyPost_ret (v := .tuple #[.pointer (some ⟨gx, 0, none⟩), .int .i64 o, .bool true]) (by simp [results, Tryz.results41, go_sem]) rfl ⟨gx, gv, cv, gc, cc, E9, ce9, rfl, h9, hv2, hb04.trans F9.below⟩
end
end Go.Proofs.YtajmbnimdngjhaaGreatDoor

/-! StepsOf: the model's answer and the program's. Conditions: at most 2^20 of everything. -/
namespace Go.Proofs.YtajmbnimdngjhaaGreatDoor
set_option linter.unusedVariables false
open Go.RowKit

theorem l03Fuel_c (n : Int) (w : World) : Calls Tryz.prog 36 #[.int .i64 n] w fun e w' => e = .returned (.bool (decide (0 ≤ n) && decide (n ≤ 2000))) ∧ w = w' := by
  go_enter Tryz.func36, Tryz.ntmps36
  go_wp2_with fail
  refine (l00In_k n 0 2000 w).mono ?_
  rintro e w1 ⟨rfl, rfl⟩
  go_wp2_with fail
  go_ret
  exact ⟨rfl, rfl⟩
section
variable {ts : List (Int × List Int)} {xs : List S8} {us : List (Int × List Int)} {vs zs : List Int} {f o : Int} {s : RS} {ok : Bool}

set_option maxRecDepth 100000 in
set_option maxHeartbeats 4000000 in
theorem specSteps_c (hr : RunIs ts xs us vs zs f o s ok) (A : Option Addr) (n c : Nat) (D : Option Addr) (m d : Nat) (E : Option Addr) (q e' : Nat) (A1 : Option Addr) (n1 c1 : Nat) (A2 : Option Addr) (n2 c2 : Nat) (w : World) (h : PIn w w.heap.size A n ts D m xs E q us) (h1 : InL w w.heap.size A1 n1 vs) (h2 : InL w w.heap.size A2 n2 zs) (hn : progN n ts m xs q us ≤ 1048576) (hn1 : n1 ≤ 1048576) (hn2 : n2 ≤ 1048576) (hmd : m ≤ d) :
    Calls Tryz.prog 21 #[.agg #[.slice A n c, .slice D m d, .slice E q e'], .agg #[.slice A1 n1 c1, .slice A2 n2 c2], .int .i64 f] w fun e w' => e = .returned (.tuple #[.int .i64 (s.n : Int), .bool ok]) ∧ Below w.heap.size w w' := by
  obtain ⟨W, hW⟩ : ∃ W, ((w.alloc (.cells #[.slice A n c, .slice D m d, .slice E q e'] 37)).alloc (.cells #[.slice A1 n1 c1, .slice A2 n2 c2] 31)) = W := ⟨_, rfl⟩
  have hb0 : Below w.heap.size w W := by rw [← hW]; exact bon (bnew _ _) (bnew _ _)
  have hP : BlkIs W w.heap.size 37 #[.slice A n c, .slice D m d, .slice E q e'] := by rw [← hW]; exact (blk_new w _ _ _ rfl).next (bnew _ _)
  have hS : BlkIs W (w.heap.size + 1) 31 #[.slice A1 n1 c1, .slice A2 n2 c2] := by rw [← hW]; exact blk_new _ _ _ _ (by simp)
  have hsz : W.heap.size = w.heap.size + 2 := by rw [← hW]; simp
  have p0 : W.cell? ⟨w.heap.size, 0, none⟩ = some (.slice A n c) := hP.cell 0
  have p1 : W.cell? ⟨w.heap.size, 1, none⟩ = some (.slice D m d) := hP.cell 1
  have p2 : W.cell? ⟨w.heap.size, 2, none⟩ = some (.slice E q e') := hP.cell 2
  have x0 : W.cell? ⟨w.heap.size + 1, 0, none⟩ = some (.slice A1 n1 c1) := hS.cell 0
  have x1 : W.cell? ⟨w.heap.size + 1, 1, none⟩ = some (.slice A2 n2 c2) := hS.cell 1
  have hin := h.next hb0 (Nat.le_refl _)
  have k1 := h1.next hb0 (Nat.le_refl _)
  have k2 := h2.next hb0 (Nat.le_refl _)
  have HC0 := Lib.hid (l03Is_c w.heap.size A n c ts D m d xs E q e' w.heap.size us W hin p0 p1 p2 hn)
  have HC1 := Lib.hid (l03State_c (w.heap.size + 1) 0 A1 n1 c1 vs A2 n2 c2 zs w.heap.size W x0 x1 k1 k2 hn1 hn2)
  rcases hr with ⟨hp, hs, ⟨hf0, hf1⟩, rfl, t, rfl, hw, hok, hl, hgo, g, g'⟩ | ⟨hv, rfl, rfl, rfl⟩
  · rw [hp] at HC0
    rw [hs] at HC1
    obtain ⟨F, rfl⟩ : ∃ F : Nat, f = (F : Int) := ⟨f.toNat, by omega⟩
    have eF : ((F : Int)).toNat = F := by omega
    rw [eF] at g hgo g'
    have hlv : n1 = 4 := by have := g.g.lv; have := h1.1; simp at *; omega
    have hlc : n2 = 8 := by have := g.g.lc; have := h2.1; simp at *; omega
    subst hlv
    subst hlc
    have e1 : decide ((0 : Int) ≤ (F : Int)) = true := decide_eq_true hf0
    have e2 : decide ((F : Int) ≤ 2000) = true := decide_eq_true hf1
    have HRUN := Lib.hid (l03Run_c w.heap.size D m d w.heap.size (flatT t) (w.heap.size + 1) A1 c1 vs A2 c2 zs F o s t W p1 hin.2.1 hb0.size rfl hw hok hl hmd x0 x1 (k1.more hb0.size) (k2.more hb0.size) g hgo)
    have hgl := g'.g.lv
    have hgc := g'.g.lc
    clear h h1 h2 hin k1 k2 hgo g hp hs hw hok
    go_enter Tryz.func21, Tryz.ntmps21
    go_wp2_with fail
    (try simp only [hW])
    refine HC0.out.mono ?_
    rintro e w1 ⟨rfl, rfl⟩
    go_wp2_with fail
    refine HC1.out.mono ?_
    rintro e w1 ⟨rfl, rfl⟩
    go_wp2_with fail
    refine (l03Fuel_c (F : Int) W).mono ?_
    rintro e w1 ⟨rfl, rfl⟩
    clear HC0 HC1
    go_wp2_with fail
    refine HRUN.out.mono ?_
    rintro e w2 ⟨B1, b1, B2, b2, B3, b3, rfl, o1, o2, o3, hb2⟩
    clear HRUN
    go_wp2_with fail
    go_ret2
    exact ⟨rfl, (hb0.trans (hb2.mono hb0.size)).trans ((bnew _ _).mono (Nat.le_trans hb0.size hb2.size))⟩
  · have HV := Lib.hid hv
    clear h h1 h2 hin k1 k2 hv
    cases hp : progB ts xs us with
    | false =>
      rw [hp] at HC0
      clear hp
      go_enter Tryz.func21, Tryz.ntmps21
      go_wp2_with fail
      (try simp only [hW])
      refine HC0.out.mono ?_
      rintro e w1 ⟨rfl, rfl⟩
      go_wp2_with fail
      go_ret2
      exact ⟨rfl, hb0⟩
    | true =>
      rw [hp] at HC0
      cases hs : stB vs zs with
      | false =>
        rw [hs] at HC1
        clear hp hs
        go_enter Tryz.func21, Tryz.ntmps21
        go_wp2_with fail
        (try simp only [hW])
        refine HC0.out.mono ?_
        rintro e w1 ⟨rfl, rfl⟩
        go_wp2_with fail
        refine HC1.out.mono ?_
        rintro e w1 ⟨rfl, rfl⟩
        go_wp2_with fail
        go_ret2
        exact ⟨rfl, hb0⟩
      | true =>
        rw [hs] at HC1
        have hf : (decide (0 ≤ f) && decide (f ≤ 2000)) = false := by rw [← Bool.decide_and]; exact decide_eq_false (fun a => HV.out ⟨hp, hs, a⟩)
        clear hp hs
        go_enter Tryz.func21, Tryz.ntmps21
        go_wp2_with fail
        (try simp only [hW])
        refine HC0.out.mono ?_
        rintro e w1 ⟨rfl, rfl⟩
        go_wp2_with fail
        refine HC1.out.mono ?_
        rintro e w1 ⟨rfl, rfl⟩
        go_wp2_with fail
        refine (l03Fuel_c f W).mono ?_
        rintro e w1 ⟨rfl, rfl⟩
        rw [hf]
        go_wp2_with fail
        go_ret2
        exact ⟨rfl, hb0⟩

set_option maxRecDepth 100000 in
set_option maxHeartbeats 4000000 in
theorem implSteps_c (hr : RunIs ts xs us vs zs f o s ok) (A : Option Addr) (n c : Nat) (D : Option Addr) (m d : Nat) (E : Option Addr) (q e' : Nat) (A1 : Option Addr) (n1 c1 : Nat) (A2 : Option Addr) (n2 c2 : Nat) (w : World) (h : PIn w w.heap.size A n ts D m xs E q us) (h1 : InL w w.heap.size A1 n1 vs) (h2 : InL w w.heap.size A2 n2 zs) (hn : progN n ts m xs q us ≤ 1048576) (hn1 : n1 ≤ 1048576) (hn2 : n2 ≤ 1048576) (hmd : m ≤ d) (hT : TabE w) :
    Calls Tryz.prog 22 #[.agg #[.slice A n c, .slice D m d, .slice E q e'], .agg #[.slice A1 n1 c1, .slice A2 n2 c2], .int .i64 f] w fun e w' => e = .returned (.tuple #[.int .i64 (s.n : Int), .bool ok]) ∧ Below w.heap.size w w' := by
  obtain ⟨W, hW⟩ : ∃ W, ((w.alloc (.cells #[.slice A n c, .slice D m d, .slice E q e'] 37)).alloc (.cells #[.slice A1 n1 c1, .slice A2 n2 c2] 31)) = W := ⟨_, rfl⟩
  have hb0 : Below w.heap.size w W := by rw [← hW]; exact bon (bnew _ _) (bnew _ _)
  have hsz : W.heap.size = w.heap.size + 2 := by rw [← hW]; simp
  have hP : BlkIs W w.heap.size 37 #[.slice A n c, .slice D m d, .slice E q e'] := by rw [← hW]; exact (blk_new w _ _ _ rfl).next (bnew _ _)
  have hS : BlkIs W (w.heap.size + 1) 31 #[.slice A1 n1 c1, .slice A2 n2 c2] := by rw [← hW]; exact blk_new _ _ _ _ (by simp)
  have p0 : W.cell? ⟨w.heap.size, 0, none⟩ = some (.slice A n c) := hP.cell 0
  have p1 : W.cell? ⟨w.heap.size, 1, none⟩ = some (.slice D m d) := hP.cell 1
  have p2 : W.cell? ⟨w.heap.size, 2, none⟩ = some (.slice E q e') := hP.cell 2
  have x0 : W.cell? ⟨w.heap.size + 1, 0, none⟩ = some (.slice A1 n1 c1) := hS.cell 0
  have x1 : W.cell? ⟨w.heap.size + 1, 1, none⟩ = some (.slice A2 n2 c2) := hS.cell 1
  have HT := Lib.hid (hT.next hb0)
  have HH := Lib.hid ((h.next hb0 (Nat.le_refl _)).more hb0.size)
  have K1 := Lib.hid ((h1.next hb0 (Nat.le_refl _)).more hb0.size)
  have K2 := Lib.hid ((h2.next hb0 (Nat.le_refl _)).more hb0.size)
  rcases hr with ⟨hp, hs, ⟨hf0, hf1⟩, rfl, t, hxs, hw, hok, hl, hgo, g, g'⟩ | ⟨hv, rfl, rfl, rfl⟩
  · have HX := Lib.hid (executed_c A n c ts D m d xs E q e' us A1 n1 c1 vs A2 n2 c2 zs f W t o s hxs hw hok hgo g HT.out HH.out K1.out K2.out hn hn1 hn2 hmd hp hs hf0 hf1)
    have hgl := g'.g.lv
    have hgc := g'.g.lc
    clear h h1 h2 hT hgo g hp hs hw hok HT HH K1 K2 hxs
    go_enter Tryz.func22, Tryz.ntmps22
    go_wp2_with fail
    (try simp only [hW])
    refine HX.out.mono ?_
    rintro e w1 ⟨gx, gv, cv, gc, cc, E9, ce, rfl, hM, hgg, hb1⟩
    have hb01 := hb0.trans (hb1.mono hb0.size)
    have v0 : w1.cell? ⟨gx, 0, none⟩ = some (.slice (some ⟨gv, 0, none⟩) 4 cv) := hM.blk.cell 0
    have v1 : w1.cell? ⟨gx, 1, none⟩ = some (.slice (some ⟨gc, 0, none⟩) 8 cc) := hM.blk.cell 1
    have v2 : w1.cell? ⟨gx, 2, none⟩ = some (.slice E9 s.e.length ce) := hM.blk.cell 2
    have v3 : w1.cell? ⟨gx, 3, none⟩ = some (.int .i64 (s.n : Int)) := hM.blk.cell 3
    have HM := Lib.hid hM
    clear hM HX
    go_wp2_with fail
    go_ret2
    exact ⟨rfl, hb01⟩
  · have HX := Lib.hid (executed_no A n c ts D m d xs E q e' us A1 n1 c1 vs A2 n2 c2 zs f W HT.out HH.out K1.out K2.out hn hn1 hn2 hv)
    clear h h1 h2 hT hv HT HH K1 K2
    go_enter Tryz.func22, Tryz.ntmps22
    go_wp2_with fail
    (try simp only [hW])
    refine HX.out.mono ?_
    rintro e w1 ⟨rfl, hb1⟩
    have hb01 := hb0.trans (hb1.mono hb0.size)
    clear HX
    go_wp2_with fail
    go_ret2
    exact ⟨rfl, hb01⟩
-- MULTI
end
end Go.Proofs.YtajmbnimdngjhaaGreatDoor
