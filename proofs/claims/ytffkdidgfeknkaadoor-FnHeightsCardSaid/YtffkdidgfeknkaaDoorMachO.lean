/-
  The machine of a config. Conditions: a valid config.
-/
import Derived.Test.YtffkdidgfeknkaaDoorAfter
import Derived.Test.YtffkdidgfeknkaaDoorCfg
import Derived.Laws.CopyRow
import Derived.Laws.Cover3
import Derived.Deep.MidRow
import Derived.Deep.RegionHeld3
namespace Go.Proofs.YtffkdidgfeknkaaDoor
set_option linter.unusedVariables false
open Go.RowKit

section
variable {P : Program} {o : Oper} {a : Act} {w : World}
theorem exec_load (ty : TypeId) (x : Operand) (ho : o.op = .load ty x) (v u : Value) (hx : a.eval x = v) (h : (Instr.loadAt ty v).run P w = .ok u w) : (execOp a.eval o).run P w = .ok (.value u) w := by
  unfold execOp; simp only [ho, hx, Sem.run_bind, Sem.run_pure, h, Result.andThen_ok]
theorem exec_build (t : TypeId) (parts : Array (Nat × Operand)) (ho : o.op = .build t parts) (cells : Array Value) (hf : P.built t (parts.map fun (i, x) => (i, a.eval x)).toList = some cells) : (execOp a.eval o).run P w = .ok (.value (.agg cells)) w := by
  unfold execOp; simp only [ho, Sem.run_bind, Sem.run_pure, run_build w t _ cells hf, Result.andThen_ok]
theorem exec_array (t : TypeId) (x : Operand) (ho : o.op = .sliceToArrayPointer t x) (A : Option Addr) (n c : Nat) (e : TypeId) (hx : a.eval x = .slice A n c) (hu : P.underlying t = some (.array n e)) : (execOp a.eval o).run P w = .ok (.value (.pointer A)) w := by
  unfold execOp; simp only [ho, hx, Sem.run_bind, Sem.run_pure, run_arrayAt (P := P) (w := w) t e n A n c hu (Nat.le_refl _), Result.andThen_ok]
theorem run_copy_none (w : World) (dT sT ty elem : TypeId) (a : Addr) (dLen dCap c : Nat) (hu : P.underlying dT = some (.slice elem)) (hs : ((P.info? elem).map (·.size)).isSome = true) :
    (Builtin.copy_ #[dT, sT] ty #[.slice (some a) dLen dCap, .slice none 0 c]).run P w = .ok (goInt 0) w := by
  cases hq : P.info? elem with
  | none => simp [hq] at hs
  | some i => simp [Builtin.copy_, run_underlying hu, Builtin.lenOf, Builtin.firstCells, sizeOf, typeInfo, hq, storeCells]
end
/-- The numbers that a slice leads to lie side by side. -/
theorem InL.side {w : World} {B n : Nat} {A : Option Addr} {zs : List Int} (h : InL w B A n zs) (hn : 0 < n) : ∃ b off, A = some ⟨b, off, none⟩ ∧ b < B ∧ w.rangeAt b off (zs.map ic) := by
  have hl := h.1
  obtain ⟨b, off, rfl, hb, _⟩ := h.2 0 (by simp; omega)
  refine ⟨b, off, rfl, hb, fun j v hj => ?_⟩
  have hj' := (List.getElem?_eq_some_iff.1 hj).1
  obtain ⟨b', off', e, _, hc⟩ := h.2 j hj'
  injection e with e
  injection e with e1 e2
  subst e1; subst e2
  rw [hc, hj]
theorem ints1 (zs : List Int) : ∀ u ∈ zs.map ic, u.oneCell' = true := by
  intro u hu
  obtain ⟨z, _, rfl⟩ := List.mem_map.1 hu
  rfl
/-- The builtin copy, into the middle of a block known whole. -/
theorem wp_copy_side {o : Oper} {a : Act} {w : World} {K : Act → World → Prop} {Q : Exit → Act → World → Prop} (x y : Operand) (ts : TypeId) (ho : o.op = .call { callee := .builtin .copy, args := #[x, y], argTypes := #[ts, ts] })
    (g off q c2 : Nat) (A2 : Option Addr) (st : List Int) (B : Nat) (cur : Array Value) (t : TypeId) (hx : a.eval x = .slice (some ⟨g, off, none⟩) 6 6) (hy : a.eval y = .slice A2 q c2) (hu : Tryd.prog.underlying ts = some (.slice 2)) (hin : InL w B A2 q st) (hq : q ≤ 6)
    (hg : w.heap[g]? = some (.cells cur t (0, 0))) (hfit : off + 6 ≤ cur.size)
    (h : K (a.put o.dst (.int .i64 q)) (w.setRow g (cur.toList.take off ++ st.map ic ++ cur.toList.drop (off + q)).toArray)) : o.wp Tryd.prog a w K Q := by
  have hl := hin.1
  have hinf : (Tryd.prog.info? 2).map (·.size) = some 1 := by kernel_rfl
  have e1 : (Builtin.copy_ #[ts, ts] o.type #[.slice (some ⟨g, off, none⟩) 6 6, .slice A2 q c2]).run Tryd.prog w = .ok (.int .i64 q) (w.setRow g (cur.toList.take off ++ st.map ic ++ cur.toList.drop (off + q)).toArray) := by
    rcases Nat.eq_zero_or_pos q with h0 | h0
    · subst h0
      have hst : st = [] := List.eq_nil_of_length_eq_zero hl
      subst hst
      have hrow : w.setRow g (cur.toList.take off ++ ([] : List Int).map ic ++ cur.toList.drop (off + 0)).toArray = w := by
        have : (cur.toList.take off ++ ([] : List Int).map ic ++ cur.toList.drop (off + 0)).toArray = cur := by simp
        rw [this]; exact setRow_self w g cur t (0, 0) hg
      rw [hrow]
      rcases A2 with _ | ad
      · exact run_copy_none w ts ts o.type 2 ⟨g, off, none⟩ 6 6 c2 hu (by rw [hinf]; rfl)
      · have := run_copy_row (P := Tryd.prog) w ts ts o.type 2 g off 6 6 ad 0 c2 cur t [] hu hinf hg rfl (fun j v hv => by simp at hv) (by simp; omega) (fun v hv => by cases hv)
        rw [this]
        have e2 : (cur.toList.take off ++ ([] : List Value) ++ cur.toList.drop (off + ([] : List Value).length)).toArray = cur := by simp
        rw [e2, setRow_self w g cur t (0, 0) hg]
        rfl
    · obtain ⟨b, o', rfl, hb, hr⟩ := hin.side h0
      have := run_copy_row (P := Tryd.prog) w ts ts o.type 2 g off 6 6 ⟨b, o', none⟩ q c2 cur t (st.map ic) hu hinf hg (by rw [List.length_map, hl]; exact (Nat.min_eq_left hq).symm) (fun j v hv => by rw [Addr.add_mid]; exact hr j v hv) (by rw [List.length_map]; omega) (ints1 st)
      rw [this, List.length_map, hl]
      rfl
  unfold Oper.wp
  simp only [execOp, ho, resolve, Sem.run_bind, Sem.run_pure, Result.andThen_ok, invoke, builtin]
  simp only [List.map_toArray, List.map_cons, List.map_nil, hx, hy]
  rw [e1]
  exact h
theorem results_one {fn : Func} {p : Tmp} (h : fn.results = #[.cell p 94]) (tmps : Array Value) (w : World) (g : Nat) (L : List Int) (hl : L.length = 20)
    (hp : tmps.getD p undef = .pointer (some ⟨g, 0, none⟩)) (hg : BlkIs w g 94 (mc L)) :
    (results fn tmps).run Tryd.prog w = .ok (.agg (mc L)) w := by
  have hp' : tmps[p]?.getD undef = .pointer (some ⟨g, 0, none⟩) := by simpa using hp
  simp [results, h, hp', asAddr, run_loadVar_row w g 94 94 (mc L) (0, 0) _ hg Tryd.underlying94 rfl (mach_info hl)]

theorem Out.undrew {lo hi : Nat} {w w' : World} (h : Out lo hi w.drew w') : Out lo hi w w' := ⟨h.os, h.tape, h.output, h.size, h.block⟩
/-- The machine's twenty numbers behind the copy. -/
def mofL (vs zs st : List Int) (p : Int) : List Int := ((vs ++ zs ++ st ++ List.replicate (7 - st.length) 0) ++ [p]).set 18 (st.length : Int)
theorem mofL_len {vs zs st : List Int} {p : Int} (h1 : vs.length = 4) (h2 : zs.length = 8) (h3 : st.length ≤ 6) : (mofL vs zs st p).length = 20 := by unfold mofL; simp; omega
theorem mofL_rep {vs zs st : List Int} {p : Int} (h1 : vs.length = 4) (h2 : zs.length = 8) (h3 : st.length ≤ 6) : Rep (mofL vs zs st p) vs zs st p := by
  refine ⟨mofL_len h1 h2 h3, ?_, ?_, ?_, ?_, ?_⟩ <;> unfold mofL
  · intro i hi
    rw [List.getElem?_set_ne (by omega), List.getElem?_append_left (by simp; omega), List.getElem?_append_left (by simp; omega), List.getElem?_append_left (by simp; omega), List.getElem?_append_left (by omega)]
  · intro i hi
    rw [List.getElem?_set_ne (by omega), List.getElem?_append_left (by simp; omega), List.getElem?_append_left (by simp; omega), List.getElem?_append_left (by simp; omega), List.getElem?_append_right (by omega)]
    congr 1; omega
  · intro i hi
    rw [List.getElem?_set_ne (by omega), List.getElem?_append_left (by simp; omega), List.getElem?_append_left (by simp; omega), List.getElem?_append_right (by simp; omega)]
    congr 1; simp; omega
  · rw [List.getElem?_set_self (by simp; omega)]
  · rw [List.getElem?_set_ne (by omega), List.getElem?_append_right (by simp; omega)]
    have : 19 - (vs ++ zs ++ st ++ List.replicate (7 - st.length) 0).length = 0 := by simp; omega
    rw [this]; rfl
theorem mofL_eq {x0 x1 x2 x3 y0 y1 y2 y3 y4 y5 y6 y7 p : Int} {st : List Int} (h : st.length ≤ 6) : ((mc [x0, x1, x2, x3, y0, y1, y2, y3, y4, y5, y6, y7, 0, 0, 0, 0, 0, 0, 0, p]).toList.take 12 ++ st.map ic ++ (mc [x0, x1, x2, x3, y0, y1, y2, y3, y4, y5, y6, y7, 0, 0, 0, 0, 0, 0, 0, p]).toList.drop (12 + st.length)).toArray = mc ([x0, x1, x2, x3] ++ [y0, y1, y2, y3, y4, y5, y6, y7] ++ st ++ List.replicate (7 - st.length) 0 ++ [p]) := by
  have hd : ([0, 0, 0, 0, 0, 0, 0, p] : List Int).drop st.length = List.replicate (7 - st.length) 0 ++ [p] := by
    have hc : st.length = 0 ∨ st.length = 1 ∨ st.length = 2 ∨ st.length = 3 ∨ st.length = 4 ∨ st.length = 5 ∨ st.length = 6 := by omega
    rcases hc with e | e | e | e | e | e | e <;> rw [e] <;> rfl
  have ht : ([x0, x1, x2, x3, y0, y1, y2, y3, y4, y5, y6, y7, 0, 0, 0, 0, 0, 0, 0, p] : List Int).drop (12 + st.length) = ([0, 0, 0, 0, 0, 0, 0, p] : List Int).drop st.length := by
    rw [← List.drop_drop]; rfl
  unfold mc
  simp only [← List.map_take, ← List.map_drop, ← List.map_append]
  rw [ht, hd]
  simp

set_option maxRecDepth 100000 in
set_option maxHeartbeats 4000000 in
theorem machineOf_c (A : Option Addr) (c : Nat) (vs : List Int) (A' : Option Addr) (c' : Nat) (zs : List Int) (A2 : Option Addr) (q c2 : Nat) (st : List Int) (p : Int) (w : World)
    (h0 : InL w w.heap.size A 4 vs) (h1 : InL w w.heap.size A' 8 zs) (h2 : InL w w.heap.size A2 q st) (hq : q ≤ 6) :
    Calls Tryd.prog 90 #[.agg #[.slice A 4 c, .slice A' 8 c', .slice A2 q c2, .int .i64 p]] w fun e w' => e = .returned (.agg (mc (mofL vs zs st p))) ∧ Below w.heap.size w w' := by
  have hb0 : Below w.heap.size w ((w.alloc (.cells #[.slice A 4 c, .slice A' 8 c', .slice A2 q c2, .int .i64 p] 131)).alloc (.cells #[.int .i64 0, .int .i64 0, .int .i64 0, .int .i64 0, .int .i64 0, .int .i64 0, .int .i64 0, .int .i64 0, .int .i64 0, .int .i64 0, .int .i64 0, .int .i64 0, .int .i64 0, .int .i64 0, .int .i64 0, .int .i64 0, .int .i64 0, .int .i64 0, .int .i64 0, .int .i64 0] 94)) := bon (bnew _ _) (bnew _ _)
  have hP : BlkIs ((w.alloc (.cells #[.slice A 4 c, .slice A' 8 c', .slice A2 q c2, .int .i64 p] 131)).alloc (.cells #[.int .i64 0, .int .i64 0, .int .i64 0, .int .i64 0, .int .i64 0, .int .i64 0, .int .i64 0, .int .i64 0, .int .i64 0, .int .i64 0, .int .i64 0, .int .i64 0, .int .i64 0, .int .i64 0, .int .i64 0, .int .i64 0, .int .i64 0, .int .i64 0, .int .i64 0, .int .i64 0] 94)) w.heap.size 131 #[.slice A 4 c, .slice A' 8 c', .slice A2 q c2, .int .i64 p] := (blk_new _ _ _ _ rfl).next (bnew _ _)
  have hR : BlkIs ((w.alloc (.cells #[.slice A 4 c, .slice A' 8 c', .slice A2 q c2, .int .i64 p] 131)).alloc (.cells #[.int .i64 0, .int .i64 0, .int .i64 0, .int .i64 0, .int .i64 0, .int .i64 0, .int .i64 0, .int .i64 0, .int .i64 0, .int .i64 0, .int .i64 0, .int .i64 0, .int .i64 0, .int .i64 0, .int .i64 0, .int .i64 0, .int .i64 0, .int .i64 0, .int .i64 0, .int .i64 0] 94)) (w.heap.size + 1) 94 #[.int .i64 0, .int .i64 0, .int .i64 0, .int .i64 0, .int .i64 0, .int .i64 0, .int .i64 0, .int .i64 0, .int .i64 0, .int .i64 0, .int .i64 0, .int .i64 0, .int .i64 0, .int .i64 0, .int .i64 0, .int .i64 0, .int .i64 0, .int .i64 0, .int .i64 0, .int .i64 0] := blk_new _ _ _ _ (by simp)
  have hsz : ((w.alloc (.cells #[.slice A 4 c, .slice A' 8 c', .slice A2 q c2, .int .i64 p] 131)).alloc (.cells #[.int .i64 0, .int .i64 0, .int .i64 0, .int .i64 0, .int .i64 0, .int .i64 0, .int .i64 0, .int .i64 0, .int .i64 0, .int .i64 0, .int .i64 0, .int .i64 0, .int .i64 0, .int .i64 0, .int .i64 0, .int .i64 0, .int .i64 0, .int .i64 0, .int .i64 0, .int .i64 0] 94)).heap.size = w.heap.size + 2 := by simp
  obtain ⟨b0, o0, rfl, hb0', hv⟩ := (h0.next hb0 (Nat.le_refl _)).side (by omega)
  obtain ⟨b1, o1, rfl, hb1', hz⟩ := (h1.next hb0 (Nat.le_refl _)).side (by omega)
  have H2 := Lib.hid (h2.next hb0 (Nat.le_refl _))
  have hl2 := h2.1
  have hl0 := h0.1
  have hl1 := h1.1
  match vs, hl0 with
  | [x0, x1, x2, x3], HV =>
  match zs, hl1 with
  | [y0, y1, y2, y3, y4, y5, y6, y7], HZ =>
  clear h0 h1 h2 hl0 hl1
  go_enter Tryd.func90, Tryd.ntmps90
  go_wp2_with fail
  generalize (w.alloc (.cells #[.slice (some ⟨b0, o0, none⟩) 4 c, .slice (some ⟨b1, o1, none⟩) 8 c', .slice A2 q c2, .int .i64 p] 131)).alloc (.cells #[.int .i64 0, .int .i64 0, .int .i64 0, .int .i64 0, .int .i64 0, .int .i64 0, .int .i64 0, .int .i64 0, .int .i64 0, .int .i64 0, .int .i64 0, .int .i64 0, .int .i64 0, .int .i64 0, .int .i64 0, .int .i64 0, .int .i64 0, .int .i64 0, .int .i64 0, .int .i64 0] 94) = W at hb0 hP hR hsz hv hz H2 ⊢
  have p0 : W.cell? ⟨w.heap.size, 0, none⟩ = some (.slice (some ⟨b0, o0, none⟩) 4 c) := hP.cell 0
  have p1 : W.cell? ⟨w.heap.size, 1, none⟩ = some (.slice (some ⟨b1, o1, none⟩) 8 c') := hP.cell 1
  have p3 : W.cell? ⟨w.heap.size, 3, none⟩ = some (.int .i64 p) := hP.cell 3
  have p2 : W.cell? ⟨w.heap.size, 2, none⟩ = some (.slice A2 q c2) := hP.cell 2
  refine wp_region_held_drew (S := fun W' => W'.cell? ⟨w.heap.size, 0, none⟩ = some (.slice (some ⟨b0, o0, none⟩) 4 c) ∧ W'.cell? ⟨w.heap.size, 1, none⟩ = some (.slice (some ⟨b1, o1, none⟩) 8 c') ∧ W'.cell? ⟨w.heap.size, 3, none⟩ = some (.int .i64 p) ∧ W'.rangeAt b0 o0 ([x0, x1, x2, x3].map ic) ∧ W'.rangeAt b1 o1 ([y0, y1, y2, y3, y4, y5, y6, y7].map ic)) (by kernel_rfl) ⟨p0, p1, p3, hv, hz⟩ ?_
  intro hHeld
  refine wpAnyH_take (i := 0) (v := ?_) rfl (by kernel_rfl) (by kernel_rfl) (by kernel_rfl) (fun _ _ _ h => h) (Or.inl ⟨by kernel_rfl, ?_⟩) (by assumption) ?_
  rotate_left
  · intro w9 hS9; (try dsimp only at hS9); go_simp; (try with_reducible rfl)
  set_option linter.unusedSimpArgs false in try simp only [Act.put, List.getElem_toArray, List.getElem_cons_succ, List.getElem_cons_zero, List.setIfInBounds_toArray, List.set_cons_zero, List.set_cons_succ]
  refine wpAnyH_take (i := 1) (v := ?_) rfl (by kernel_rfl) (by kernel_rfl) (by kernel_rfl) (fun _ _ _ h => h) (Or.inl ⟨by kernel_rfl, ?_⟩) (by assumption) ?_
  rotate_left
  · intro w9 hS9; (try dsimp only at hS9); go_simp; (try with_reducible rfl)
  set_option linter.unusedSimpArgs false in try simp only [Act.put, List.getElem_toArray, List.getElem_cons_succ, List.getElem_cons_zero, List.setIfInBounds_toArray, List.set_cons_zero, List.set_cons_succ]
  refine wpAnyH_take (i := 2) (v := ?_) rfl (by kernel_rfl) (by kernel_rfl) (by kernel_rfl) (fun _ _ _ h => h) (Or.inl ⟨by kernel_rfl, ?_⟩) (by assumption) ?_
  rotate_left
  · intro w9 hS9; (try dsimp only at hS9); go_simp; (try with_reducible rfl)
  set_option linter.unusedSimpArgs false in try simp only [Act.put, List.getElem_toArray, List.getElem_cons_succ, List.getElem_cons_zero, List.setIfInBounds_toArray, List.set_cons_zero, List.set_cons_succ]
  refine wpAnyH_take (i := 3) (v := .pointer (some ⟨b0, o0, none⟩)) rfl (by kernel_rfl) (by kernel_rfl) (by kernel_rfl) (fun _ _ _ h => h) (Or.inl ⟨by kernel_rfl, ?_⟩) (by assumption) ?_
  · intro w9 hS9
    exact exec_array 90 _ rfl (some ⟨b0, o0, none⟩) 4 c _ rfl Tryd.underlying90
  set_option linter.unusedSimpArgs false in try simp only [Act.put, List.getElem_toArray, List.getElem_cons_succ, List.getElem_cons_zero, List.setIfInBounds_toArray, List.set_cons_zero, List.set_cons_succ]
  refine wpAnyH_take (i := 4) (v := .agg #[.int .i64 x0, .int .i64 x1, .int .i64 x2, .int .i64 x3]) rfl (by kernel_rfl) (by kernel_rfl) (by kernel_rfl) (fun _ _ _ h => h) (Or.inl ⟨by kernel_rfl, ?_⟩) (by assumption) ?_
  · intro w9 hS9
    exact exec_load 90 _ rfl (.pointer (some ⟨b0, o0, none⟩)) _ rfl (run_loadAt_mid w9 b0 o0 90 ([x0, x1, x2, x3].map ic) _ hS9.2.2.2.1 Tryd.underlying90 rfl (by kernel_rfl))
  set_option linter.unusedSimpArgs false in try simp only [Act.put, List.getElem_toArray, List.getElem_cons_succ, List.getElem_cons_zero, List.setIfInBounds_toArray, List.set_cons_zero, List.set_cons_succ]
  refine wpAnyH_take (i := 5) (v := ?_) rfl (by kernel_rfl) (by kernel_rfl) (by kernel_rfl) (fun _ _ _ h => h) (Or.inl ⟨by kernel_rfl, ?_⟩) (by assumption) ?_
  rotate_left
  · intro w9 hS9; (try dsimp only at hS9); go_simp; (try with_reducible rfl)
  set_option linter.unusedSimpArgs false in try simp only [Act.put, List.getElem_toArray, List.getElem_cons_succ, List.getElem_cons_zero, List.setIfInBounds_toArray, List.set_cons_zero, List.set_cons_succ]
  refine wpAnyH_take (i := 6) (v := ?_) rfl (by kernel_rfl) (by kernel_rfl) (by kernel_rfl) (fun _ _ _ h => h) (Or.inl ⟨by kernel_rfl, ?_⟩) (by assumption) ?_
  rotate_left
  · intro w9 hS9; (try dsimp only at hS9); go_simp; (try with_reducible rfl)
  set_option linter.unusedSimpArgs false in try simp only [Act.put, List.getElem_toArray, List.getElem_cons_succ, List.getElem_cons_zero, List.setIfInBounds_toArray, List.set_cons_zero, List.set_cons_succ]
  refine wpAnyH_take (i := 7) (v := ?_) rfl (by kernel_rfl) (by kernel_rfl) (by kernel_rfl) (fun _ _ _ h => h) (Or.inl ⟨by kernel_rfl, ?_⟩) (by assumption) ?_
  rotate_left
  · intro w9 hS9; (try dsimp only at hS9); go_simp; (try with_reducible rfl)
  set_option linter.unusedSimpArgs false in try simp only [Act.put, List.getElem_toArray, List.getElem_cons_succ, List.getElem_cons_zero, List.setIfInBounds_toArray, List.set_cons_zero, List.set_cons_succ]
  refine wpAnyH_take (i := 8) (v := .pointer (some ⟨b1, o1, none⟩)) rfl (by kernel_rfl) (by kernel_rfl) (by kernel_rfl) (fun _ _ _ h => h) (Or.inl ⟨by kernel_rfl, ?_⟩) (by assumption) ?_
  · intro w9 hS9
    exact exec_array 91 _ rfl (some ⟨b1, o1, none⟩) 8 c' _ rfl Tryd.underlying91
  set_option linter.unusedSimpArgs false in try simp only [Act.put, List.getElem_toArray, List.getElem_cons_succ, List.getElem_cons_zero, List.setIfInBounds_toArray, List.set_cons_zero, List.set_cons_succ]
  refine wpAnyH_take (i := 9) (v := .agg #[.int .i64 y0, .int .i64 y1, .int .i64 y2, .int .i64 y3, .int .i64 y4, .int .i64 y5, .int .i64 y6, .int .i64 y7]) rfl (by kernel_rfl) (by kernel_rfl) (by kernel_rfl) (fun _ _ _ h => h) (Or.inl ⟨by kernel_rfl, ?_⟩) (by assumption) ?_
  · intro w9 hS9
    exact exec_load 91 _ rfl (.pointer (some ⟨b1, o1, none⟩)) _ rfl (run_loadAt_mid w9 b1 o1 91 ([y0, y1, y2, y3, y4, y5, y6, y7].map ic) _ hS9.2.2.2.2 Tryd.underlying91 rfl (by kernel_rfl))
  set_option linter.unusedSimpArgs false in try simp only [Act.put, List.getElem_toArray, List.getElem_cons_succ, List.getElem_cons_zero, List.setIfInBounds_toArray, List.set_cons_zero, List.set_cons_succ]
  refine wpAnyH_take (i := 10) (v := ?_) rfl (by kernel_rfl) (by kernel_rfl) (by kernel_rfl) (fun _ _ _ h => h) (Or.inl ⟨by kernel_rfl, ?_⟩) (by assumption) ?_
  rotate_left
  · intro w9 hS9; (try dsimp only at hS9); go_simp; (try with_reducible rfl)
  set_option linter.unusedSimpArgs false in try simp only [Act.put, List.getElem_toArray, List.getElem_cons_succ, List.getElem_cons_zero, List.setIfInBounds_toArray, List.set_cons_zero, List.set_cons_succ]
  refine wpAnyH_take (i := 11) (v := ?_) rfl (by kernel_rfl) (by kernel_rfl) (by kernel_rfl) (fun _ _ _ h => h) (Or.inl ⟨by kernel_rfl, ?_⟩) (by assumption) ?_
  rotate_left
  · intro w9 hS9; (try dsimp only at hS9); go_simp; (try with_reducible rfl)
  set_option linter.unusedSimpArgs false in try simp only [Act.put, List.getElem_toArray, List.getElem_cons_succ, List.getElem_cons_zero, List.setIfInBounds_toArray, List.set_cons_zero, List.set_cons_succ]
  refine wpAnyH_take (i := 12) (v := .agg (mc [x0, x1, x2, x3, y0, y1, y2, y3, y4, y5, y6, y7, 0, 0, 0, 0, 0, 0, 0, p])) rfl (by kernel_rfl) (by kernel_rfl) (by kernel_rfl) (fun _ _ _ h => h) (Or.inl ⟨by kernel_rfl, ?_⟩) (by assumption) ?_
  · intro w9 hS9
    exact exec_build 94 _ rfl (mc [x0, x1, x2, x3, y0, y1, y2, y3, y4, y5, y6, y7, 0, 0, 0, 0, 0, 0, 0, p]) (by kernel_rfl)
  set_option linter.unusedSimpArgs false in try simp only [Act.put, List.getElem_toArray, List.getElem_cons_succ, List.getElem_cons_zero, List.setIfInBounds_toArray, List.set_cons_zero, List.set_cons_succ]
  have hbW := bnew W (.cells #[.int .i64 0, .int .i64 0, .int .i64 0, .int .i64 0, .int .i64 0, .int .i64 0, .int .i64 0, .int .i64 0, .int .i64 0, .int .i64 0, .int .i64 0, .int .i64 0, .int .i64 0, .int .i64 0, .int .i64 0, .int .i64 0, .int .i64 0, .int .i64 0, .int .i64 0, .int .i64 0] 94)
  have q0 : (W.alloc (.cells #[.int .i64 0, .int .i64 0, .int .i64 0, .int .i64 0, .int .i64 0, .int .i64 0, .int .i64 0, .int .i64 0, .int .i64 0, .int .i64 0, .int .i64 0, .int .i64 0, .int .i64 0, .int .i64 0, .int .i64 0, .int .i64 0, .int .i64 0, .int .i64 0, .int .i64 0, .int .i64 0] 94)).cell? ⟨w.heap.size, 0, none⟩ = some (.slice (some ⟨b0, o0, none⟩) 4 c) := cell_next p0 hbW
  have q1 : (W.alloc (.cells #[.int .i64 0, .int .i64 0, .int .i64 0, .int .i64 0, .int .i64 0, .int .i64 0, .int .i64 0, .int .i64 0, .int .i64 0, .int .i64 0, .int .i64 0, .int .i64 0, .int .i64 0, .int .i64 0, .int .i64 0, .int .i64 0, .int .i64 0, .int .i64 0, .int .i64 0, .int .i64 0] 94)).cell? ⟨w.heap.size, 1, none⟩ = some (.slice (some ⟨b1, o1, none⟩) 8 c') := cell_next p1 hbW
  have q3 : (W.alloc (.cells #[.int .i64 0, .int .i64 0, .int .i64 0, .int .i64 0, .int .i64 0, .int .i64 0, .int .i64 0, .int .i64 0, .int .i64 0, .int .i64 0, .int .i64 0, .int .i64 0, .int .i64 0, .int .i64 0, .int .i64 0, .int .i64 0, .int .i64 0, .int .i64 0, .int .i64 0, .int .i64 0] 94)).cell? ⟨w.heap.size, 3, none⟩ = some (.int .i64 p) := cell_next p3 hbW
  have hZ : BlkIs (W.alloc (.cells #[.int .i64 0, .int .i64 0, .int .i64 0, .int .i64 0, .int .i64 0, .int .i64 0, .int .i64 0, .int .i64 0, .int .i64 0, .int .i64 0, .int .i64 0, .int .i64 0, .int .i64 0, .int .i64 0, .int .i64 0, .int .i64 0, .int .i64 0, .int .i64 0, .int .i64 0, .int .i64 0] 94)).drew (w.heap.size + 2) 94 #[.int .i64 0, .int .i64 0, .int .i64 0, .int .i64 0, .int .i64 0, .int .i64 0, .int .i64 0, .int .i64 0, .int .i64 0, .int .i64 0, .int .i64 0, .int .i64 0, .int .i64 0, .int .i64 0, .int .i64 0, .int .i64 0, .int .i64 0, .int .i64 0, .int .i64 0, .int .i64 0] := by rw [← hsz]; exact blk_new W _ _ _ rfl
  have r0 := World.rangeAt_alloc hv (.cells #[.int .i64 0, .int .i64 0, .int .i64 0, .int .i64 0, .int .i64 0, .int .i64 0, .int .i64 0, .int .i64 0, .int .i64 0, .int .i64 0, .int .i64 0, .int .i64 0, .int .i64 0, .int .i64 0, .int .i64 0, .int .i64 0, .int .i64 0, .int .i64 0, .int .i64 0, .int .i64 0] 94)
  have r1 := World.rangeAt_alloc hz (.cells #[.int .i64 0, .int .i64 0, .int .i64 0, .int .i64 0, .int .i64 0, .int .i64 0, .int .i64 0, .int .i64 0, .int .i64 0, .int .i64 0, .int .i64 0, .int .i64 0, .int .i64 0, .int .i64 0, .int .i64 0, .int .i64 0, .int .i64 0, .int .i64 0, .int .i64 0, .int .i64 0] 94)
  have hoW : Out (w.heap.size + 2) (w.heap.size + 3) (W.alloc (.cells #[.int .i64 0, .int .i64 0, .int .i64 0, .int .i64 0, .int .i64 0, .int .i64 0, .int .i64 0, .int .i64 0, .int .i64 0, .int .i64 0, .int .i64 0, .int .i64 0, .int .i64 0, .int .i64 0, .int .i64 0, .int .i64 0, .int .i64 0, .int .i64 0, .int .i64 0, .int .i64 0] 94)).drew ((W.alloc (.cells #[.int .i64 0, .int .i64 0, .int .i64 0, .int .i64 0, .int .i64 0, .int .i64 0, .int .i64 0, .int .i64 0, .int .i64 0, .int .i64 0, .int .i64 0, .int .i64 0, .int .i64 0, .int .i64 0, .int .i64 0, .int .i64 0, .int .i64 0, .int .i64 0, .int .i64 0, .int .i64 0] 94)).drew.setRow (w.heap.size + 2) (mc [x0, x1, x2, x3, y0, y1, y2, y3, y4, y5, y6, y7, 0, 0, 0, 0, 0, 0, 0, p])) := out_setRow (by omega)
  refine wpAnyH_ready (rs := [13]) (by kernel_rfl) (by simp) ?_
  refine AllReadyH.cons rfl (fun K hK => ?_) AllReadyH.nil
  go_simp
  refine hK.out _ _ ⟨q0, q1, q3, r0, r1⟩ (fun hHeld2 => ?_)
  clear hK K hHeld
  refine wpAnyH_ready (rs := [14]) (by kernel_rfl) (by simp) ?_
  refine AllReadyH.cons rfl (fun K hK => ?_) AllReadyH.nil
  refine Eq.mpr (if_pos (by kernel_rfl)) ?_
  refine wp_store_row 94 _ _ rfl (w.heap.size + 2) (mc [x0, x1, x2, x3, y0, y1, y2, y3, y4, y5, y6, y7, 0, 0, 0, 0, 0, 0, 0, p]) rfl rfl 94 #[.int .i64 0, .int .i64 0, .int .i64 0, .int .i64 0, .int .i64 0, .int .i64 0, .int .i64 0, .int .i64 0, .int .i64 0, .int .i64 0, .int .i64 0, .int .i64 0, .int .i64 0, .int .i64 0, .int .i64 0, .int .i64 0, .int .i64 0, .int .i64 0, .int .i64 0, .int .i64 0] hZ (mach_info rfl) rfl (mc_one _) ?_
  refine hK.out _ _ ⟨hoW.cell q0 (by omega), hoW.cell q1 (by omega), hoW.cell q3 (by omega), fun j v hj => hoW.cell (r0 j v hj) (by omega), fun j v hj => hoW.cell (r1 j v hj) (by omega)⟩ (fun hHeld3 => ?_)
  clear hK K hHeld2 hHeld3 q0 q1 q3 r0 r1 hv hz
  refine wpAnyH_done (by kernel_rfl) ?_ _
  have hRa0 : BlkIs (W.alloc (.cells #[.int .i64 0, .int .i64 0, .int .i64 0, .int .i64 0, .int .i64 0, .int .i64 0, .int .i64 0, .int .i64 0, .int .i64 0, .int .i64 0, .int .i64 0, .int .i64 0, .int .i64 0, .int .i64 0, .int .i64 0, .int .i64 0, .int .i64 0, .int .i64 0, .int .i64 0, .int .i64 0] 94)) (w.heap.size + 1) 94 #[.int .i64 0, .int .i64 0, .int .i64 0, .int .i64 0, .int .i64 0, .int .i64 0, .int .i64 0, .int .i64 0, .int .i64 0, .int .i64 0, .int .i64 0, .int .i64 0, .int .i64 0, .int .i64 0, .int .i64 0, .int .i64 0, .int .i64 0, .int .i64 0, .int .i64 0, .int .i64 0] := hR.next hbW
  have hRa : BlkIs (W.alloc (.cells #[.int .i64 0, .int .i64 0, .int .i64 0, .int .i64 0, .int .i64 0, .int .i64 0, .int .i64 0, .int .i64 0, .int .i64 0, .int .i64 0, .int .i64 0, .int .i64 0, .int .i64 0, .int .i64 0, .int .i64 0, .int .i64 0, .int .i64 0, .int .i64 0, .int .i64 0, .int .i64 0] 94)).drew (w.heap.size + 1) 94 #[.int .i64 0, .int .i64 0, .int .i64 0, .int .i64 0, .int .i64 0, .int .i64 0, .int .i64 0, .int .i64 0, .int .i64 0, .int .i64 0, .int .i64 0, .int .i64 0, .int .i64 0, .int .i64 0, .int .i64 0, .int .i64 0, .int .i64 0, .int .i64 0, .int .i64 0, .int .i64 0] := hRa0
  have p2a : (W.alloc (.cells #[.int .i64 0, .int .i64 0, .int .i64 0, .int .i64 0, .int .i64 0, .int .i64 0, .int .i64 0, .int .i64 0, .int .i64 0, .int .i64 0, .int .i64 0, .int .i64 0, .int .i64 0, .int .i64 0, .int .i64 0, .int .i64 0, .int .i64 0, .int .i64 0, .int .i64 0, .int .i64 0] 94)).cell? ⟨w.heap.size, 2, none⟩ = some (.slice A2 q c2) := cell_next p2 hbW
  have hM2 : BlkIs ((W.alloc (.cells #[.int .i64 0, .int .i64 0, .int .i64 0, .int .i64 0, .int .i64 0, .int .i64 0, .int .i64 0, .int .i64 0, .int .i64 0, .int .i64 0, .int .i64 0, .int .i64 0, .int .i64 0, .int .i64 0, .int .i64 0, .int .i64 0, .int .i64 0, .int .i64 0, .int .i64 0, .int .i64 0] 94)).drew.setRow (w.heap.size + 2) (mc [x0, x1, x2, x3, y0, y1, y2, y3, y4, y5, y6, y7, 0, 0, 0, 0, 0, 0, 0, p])) (w.heap.size + 2) 94 (mc [x0, x1, x2, x3, y0, y1, y2, y3, y4, y5, y6, y7, 0, 0, 0, 0, 0, 0, 0, p]) := blk_setRow hZ
  have hR2 : BlkIs ((W.alloc (.cells #[.int .i64 0, .int .i64 0, .int .i64 0, .int .i64 0, .int .i64 0, .int .i64 0, .int .i64 0, .int .i64 0, .int .i64 0, .int .i64 0, .int .i64 0, .int .i64 0, .int .i64 0, .int .i64 0, .int .i64 0, .int .i64 0, .int .i64 0, .int .i64 0, .int .i64 0, .int .i64 0] 94)).drew.setRow (w.heap.size + 2) (mc [x0, x1, x2, x3, y0, y1, y2, y3, y4, y5, y6, y7, 0, 0, 0, 0, 0, 0, 0, p])) (w.heap.size + 1) 94 #[.int .i64 0, .int .i64 0, .int .i64 0, .int .i64 0, .int .i64 0, .int .i64 0, .int .i64 0, .int .i64 0, .int .i64 0, .int .i64 0, .int .i64 0, .int .i64 0, .int .i64 0, .int .i64 0, .int .i64 0, .int .i64 0, .int .i64 0, .int .i64 0, .int .i64 0, .int .i64 0] := hRa.out hoW (by omega)
  have p2' : ((W.alloc (.cells #[.int .i64 0, .int .i64 0, .int .i64 0, .int .i64 0, .int .i64 0, .int .i64 0, .int .i64 0, .int .i64 0, .int .i64 0, .int .i64 0, .int .i64 0, .int .i64 0, .int .i64 0, .int .i64 0, .int .i64 0, .int .i64 0, .int .i64 0, .int .i64 0, .int .i64 0, .int .i64 0] 94)).drew.setRow (w.heap.size + 2) (mc [x0, x1, x2, x3, y0, y1, y2, y3, y4, y5, y6, y7, 0, 0, 0, 0, 0, 0, 0, p])).cell? ⟨w.heap.size, 2, none⟩ = some (.slice A2 q c2) := hoW.cell p2a (by omega)
  have hb2 : Below W.heap.size W ((W.alloc (.cells #[.int .i64 0, .int .i64 0, .int .i64 0, .int .i64 0, .int .i64 0, .int .i64 0, .int .i64 0, .int .i64 0, .int .i64 0, .int .i64 0, .int .i64 0, .int .i64 0, .int .i64 0, .int .i64 0, .int .i64 0, .int .i64 0, .int .i64 0, .int .i64 0, .int .i64 0, .int .i64 0] 94)).drew.setRow (w.heap.size + 2) (mc [x0, x1, x2, x3, y0, y1, y2, y3, y4, y5, y6, y7, 0, 0, 0, 0, 0, 0, 0, p])) := (hbW.drew).trans (hoW.below (by omega) (by show W.heap.size ≤ (W.alloc (.cells #[.int .i64 0, .int .i64 0, .int .i64 0, .int .i64 0, .int .i64 0, .int .i64 0, .int .i64 0, .int .i64 0, .int .i64 0, .int .i64 0, .int .i64 0, .int .i64 0, .int .i64 0, .int .i64 0, .int .i64 0, .int .i64 0, .int .i64 0, .int .i64 0, .int .i64 0, .int .i64 0] 94)).heap.size; exact hbW.size))
  have H2' : Hid (InL ((W.alloc (.cells #[.int .i64 0, .int .i64 0, .int .i64 0, .int .i64 0, .int .i64 0, .int .i64 0, .int .i64 0, .int .i64 0, .int .i64 0, .int .i64 0, .int .i64 0, .int .i64 0, .int .i64 0, .int .i64 0, .int .i64 0, .int .i64 0, .int .i64 0, .int .i64 0, .int .i64 0, .int .i64 0] 94)).drew.setRow (w.heap.size + 2) (mc [x0, x1, x2, x3, y0, y1, y2, y3, y4, y5, y6, y7, 0, 0, 0, 0, 0, 0, 0, p])) w.heap.size A2 q st) := H2.out.next hb2 (by omega)
  clear hoW hZ hbW hR p0 p1 p2 p3 hP H2
  set_option linter.unusedSimpArgs false in try simp only [Act.put, List.getElem_toArray, List.getElem_cons_succ, List.getElem_cons_zero, List.setIfInBounds_toArray, List.set_cons_zero, List.set_cons_succ]
  generalize (W.alloc (.cells #[.int .i64 0, .int .i64 0, .int .i64 0, .int .i64 0, .int .i64 0, .int .i64 0, .int .i64 0, .int .i64 0, .int .i64 0, .int .i64 0, .int .i64 0, .int .i64 0, .int .i64 0, .int .i64 0, .int .i64 0, .int .i64 0, .int .i64 0, .int .i64 0, .int .i64 0, .int .i64 0] 94)).drew.setRow (w.heap.size + 2) (mc [x0, x1, x2, x3, y0, y1, y2, y3, y4, y5, y6, y7, 0, 0, 0, 0, 0, 0, 0, p]) = W2 at hM2 hR2 p2' hb2 H2' ⊢
  go_wp2_with fail
  refine wp_region_held_drew (S := fun W' => W'.cell? ⟨w.heap.size, 2, none⟩ = some (.slice A2 q c2)) (by kernel_rfl) p2' ?_
  intro hHeld
  refine wpAnyH_take (i := 0) (v := ?_) rfl (by kernel_rfl) (by kernel_rfl) (by kernel_rfl) (fun _ _ _ h => h) (Or.inl ⟨by kernel_rfl, ?_⟩) (by assumption) ?_
  rotate_left
  · intro w9 hS9; (try dsimp only at hS9); go_simp; (try with_reducible rfl)
  set_option linter.unusedSimpArgs false in try simp only [Act.put, List.getElem_toArray, List.getElem_cons_succ, List.getElem_cons_zero, List.setIfInBounds_toArray, List.set_cons_zero, List.set_cons_succ]
  refine wpAnyH_take (i := 1) (v := ?_) rfl (by kernel_rfl) (by kernel_rfl) (by kernel_rfl) (fun _ _ _ h => h) (Or.inl ⟨by kernel_rfl, ?_⟩) (by assumption) ?_
  rotate_left
  · intro w9 hS9; (try dsimp only at hS9); go_simp; (try with_reducible rfl)
  set_option linter.unusedSimpArgs false in try simp only [Act.put, List.getElem_toArray, List.getElem_cons_succ, List.getElem_cons_zero, List.setIfInBounds_toArray, List.set_cons_zero, List.set_cons_succ]
  refine wpAnyH_take (i := 2) (v := ?_) rfl (by kernel_rfl) (by kernel_rfl) (by kernel_rfl) (fun _ _ _ h => h) (Or.inl ⟨by kernel_rfl, ?_⟩) (by assumption) ?_
  rotate_left
  · intro w9 hS9; (try dsimp only at hS9); go_simp; (try with_reducible rfl)
  set_option linter.unusedSimpArgs false in try simp only [Act.put, List.getElem_toArray, List.getElem_cons_succ, List.getElem_cons_zero, List.setIfInBounds_toArray, List.set_cons_zero, List.set_cons_succ]
  refine wpAnyH_take (i := 3) (v := ?_) rfl (by kernel_rfl) (by kernel_rfl) (by kernel_rfl) (fun _ _ _ h => h) (Or.inl ⟨by kernel_rfl, ?_⟩) (by assumption) ?_
  rotate_left
  · intro w9 hS9; (try dsimp only at hS9); go_simp; (try with_reducible rfl)
  set_option linter.unusedSimpArgs false in try simp only [Act.put, List.getElem_toArray, List.getElem_cons_succ, List.getElem_cons_zero, List.setIfInBounds_toArray, List.set_cons_zero, List.set_cons_succ]
  have hl2' := hl2
  have hoC : Out (w.heap.size + 2) (w.heap.size + 3) W2 (W2.drew.setRow (w.heap.size + 2) (mc ([x0, x1, x2, x3] ++ [y0, y1, y2, y3, y4, y5, y6, y7] ++ st ++ List.replicate (7 - st.length) 0 ++ [p]))) := Out.undrew (out_setRow (lo := w.heap.size + 2) (hi := w.heap.size + 3) ⟨Nat.le_refl _, by omega⟩)
  have hM3 : BlkIs (W2.drew.setRow (w.heap.size + 2) (mc ([x0, x1, x2, x3] ++ [y0, y1, y2, y3, y4, y5, y6, y7] ++ st ++ List.replicate (7 - st.length) 0 ++ [p]))) (w.heap.size + 2) 94 (mc ([x0, x1, x2, x3] ++ [y0, y1, y2, y3, y4, y5, y6, y7] ++ st ++ List.replicate (7 - st.length) 0 ++ [p])) := blk_setRow (show BlkIs W2.drew _ _ _ from hM2)
  have hR3 := hR2.out hoC (by omega)
  have c18 : (W2.drew.setRow (w.heap.size + 2) (mc ([x0, x1, x2, x3] ++ [y0, y1, y2, y3, y4, y5, y6, y7] ++ st ++ List.replicate (7 - st.length) 0 ++ [p]))).cell? ⟨w.heap.size + 2, 18, none⟩ = some (.int .i64 0) := by
    rw [hM3.cell 18]
    refine mc_at ?_
    have hc : st.length = 0 ∨ st.length = 1 ∨ st.length = 2 ∨ st.length = 3 ∨ st.length = 4 ∨ st.length = 5 ∨ st.length = 6 := by omega
    rw [List.getElem?_append_left (by simp; omega), List.getElem?_append_right (by simp; omega), List.getElem?_replicate, if_pos (by simp; omega)]
  have f18 := hM3.frozen 18
  have hM4 := hM3.set 18 (.int .i64 (q : Int))
  have hoS : Out (w.heap.size + 2) (w.heap.size + 3) W2 ((W2.drew.setRow (w.heap.size + 2) (mc ([x0, x1, x2, x3] ++ [y0, y1, y2, y3, y4, y5, y6, y7] ++ st ++ List.replicate (7 - st.length) 0 ++ [p]))).setCell ⟨w.heap.size + 2, 18, none⟩ (.int .i64 (q : Int))) := out_set hoC (by omega)
  have hR4 := hR2.out hoS (by omega)
  have eL : mofL [x0, x1, x2, x3] [y0, y1, y2, y3, y4, y5, y6, y7] st p = ([x0, x1, x2, x3] ++ [y0, y1, y2, y3, y4, y5, y6, y7] ++ st ++ List.replicate (7 - st.length) 0 ++ [p]).set 18 (q : Int) := by rw [← hl2]; rfl
  rw [mc_set, ← eL] at hM4
  have hlen : (mofL [x0, x1, x2, x3] [y0, y1, y2, y3, y4, y5, y6, y7] st p).length = 20 := mofL_len HV HZ (by omega)
  have HEQ := Lib.hid (mofL_eq (x0 := x0) (x1 := x1) (x2 := x2) (x3 := x3) (y0 := y0) (y1 := y1) (y2 := y2) (y3 := y3) (y4 := y4) (y5 := y5) (y6 := y6) (y7 := y7) (p := p) (st := st) (by omega))
  refine wpAnyH_ready (rs := [4]) (by kernel_rfl) (by simp) ?_
  refine AllReadyH.cons rfl (fun K hK => ?_) AllReadyH.nil
  refine Eq.mpr (if_pos (by kernel_rfl)) ?_
  refine wp_copy_side _ _ 24 rfl (w.heap.size + 2) 12 q c2 A2 st w.heap.size (mc [x0, x1, x2, x3, y0, y1, y2, y3, y4, y5, y6, y7, 0, 0, 0, 0, 0, 0, 0, p]) 94 rfl rfl Tryd.underlying24 H2'.out hq hM2 (by show 12 + 6 ≤ 20; omega) ?_
  have e12 : 12 + q = 12 + st.length := by rw [hl2]
  rw [e12, HEQ.out]
  refine hK.out _ _ (hoC.cell p2' (by omega)) (fun hHeld2 => ?_)
  clear hK K hHeld e12
  generalize W2.drew.setRow (w.heap.size + 2) (mc ([x0, x1, x2, x3] ++ [y0, y1, y2, y3, y4, y5, y6, y7] ++ st ++ List.replicate (7 - st.length) 0 ++ [p])) = W3 at hM3 hR3 c18 f18 hM4 hoS hR4 hHeld2 hoC ⊢
  set_option linter.unusedSimpArgs false in try simp only [Act.put, List.getElem_toArray, List.getElem_cons_succ, List.getElem_cons_zero, List.setIfInBounds_toArray, List.set_cons_zero, List.set_cons_succ]
  refine wpAnyH_take (i := 5) (v := ?_) rfl (by kernel_rfl) (by kernel_rfl) (by kernel_rfl) (fun _ _ _ h => h) (Or.inl ⟨by kernel_rfl, ?_⟩) (by assumption) ?_
  rotate_left
  · intro w9 hS9; (try dsimp only at hS9); go_simp; (try with_reducible rfl)
  set_option linter.unusedSimpArgs false in try simp only [Act.put, List.getElem_toArray, List.getElem_cons_succ, List.getElem_cons_zero, List.setIfInBounds_toArray, List.set_cons_zero, List.set_cons_succ]
  refine wpAnyH_ready (rs := [6]) (by kernel_rfl) (by simp) ?_
  refine AllReadyH.cons rfl (fun K hK => ?_) AllReadyH.nil
  go_simp
  refine hK.out _ _ (hoS.cell p2' (by omega)) (fun hHeld3 => ?_)
  clear hK K hHeld2 hHeld3
  refine wpAnyH_done (by kernel_rfl) ?_ _
  have hb4 : Below W2.heap.size W2 (W3.setCell ⟨w.heap.size + 2, 18, none⟩ (.int .i64 (q : Int))) → True := fun _ => trivial
  have hbF := hb2.trans (hoS.below (by omega) hb2.size)
  generalize W3.setCell ⟨w.heap.size + 2, 18, none⟩ (.int .i64 (q : Int)) = W4 at hM4 hR4 hoS hbF ⊢
  have hi := mach_info hlen
  have h1 := mc_one (mofL [x0, x1, x2, x3] [y0, y1, y2, y3, y4, y5, y6, y7] st p)
  have hs : (#[.int .i64 0, .int .i64 0, .int .i64 0, .int .i64 0, .int .i64 0, .int .i64 0, .int .i64 0, .int .i64 0, .int .i64 0, .int .i64 0, .int .i64 0, .int .i64 0, .int .i64 0, .int .i64 0, .int .i64 0, .int .i64 0, .int .i64 0, .int .i64 0, .int .i64 0, .int .i64 0] : Array Value).size = (mc (mofL [x0, x1, x2, x3] [y0, y1, y2, y3, y4, y5, y6, y7] st p)).size := by rw [mc_size, hlen]; rfl
  clear hM3 hR3 c18 f18 hoC hM2 hR2 p2' H2' eL HEQ hb4
  set_option linter.unusedSimpArgs false in try simp only [Act.put, List.getElem_toArray, List.getElem_cons_succ, List.getElem_cons_zero, List.setIfInBounds_toArray, List.set_cons_zero, List.set_cons_succ]
  generalize hG : mofL [x0, x1, x2, x3] [y0, y1, y2, y3, y4, y5, y6, y7] st p = G at hM4 hlen hi h1 hs ⊢
  have HG := Lib.hid hG
  clear hG
  go_wp2_with (first
    | (refine wpList_load_row rfl 94 _ rfl (w.heap.size + 2) rfl 94 (mc G) (0, 0) _ hM4 Tryd.underlying94 rfl hi ?_)
    | (refine wpList_store_rowTo rfl 94 _ _ rfl rfl (w.heap.size + 1) (mc G) rfl rfl 94 #[.int .i64 0, .int .i64 0, .int .i64 0, .int .i64 0, .int .i64 0, .int .i64 0, .int .i64 0, .int .i64 0, .int .i64 0, .int .i64 0, .int .i64 0, .int .i64 0, .int .i64 0, .int .i64 0, .int .i64 0, .int .i64 0, .int .i64 0, .int .i64 0, .int .i64 0, .int .i64 0] hR4 hi hs h1 ?_)
    | fail)
  refine bodyPost_ret (results_one rfl _ _ (w.heap.size + 1) G hlen rfl (blk_setRow hR4)) rfl ?_
  have hsW := hb0.size
  exact ⟨by rw [HG.out], (hb0.trans (hbF.mono hsW)).trans ((out_setRow (lo := w.heap.size + 1) (hi := w.heap.size + 2) ⟨by omega, by omega⟩).below (by omega) (by have := hbF.size; omega))⟩
end Go.Proofs.YtffkdidgfeknkaaDoor

