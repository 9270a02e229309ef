/-
  Several texts in one: Arr, Que, Sprd, Pan, SprB, HgtB, HgtC. Conditions: as each says.
-/
import Derived.Test.YtffkdidgfeknkaaGreatDoorOwn
import Derived.Test.YtffkdidgfeknkaaGreatDoorBlk
import Derived.Deep.MidRow
import Derived.Laws.StructEq
import Derived.ChangeKeysEq
import Derived.Test.YtffkdidgfeknkaaGreatDoorKeep
import Derived.ArgAppend
import Derived.Deep.Upon
import Derived.Test.YtffkdidgfeknkaaGreatDoorBunB
import Derived.Test.YtffkdidgfeknkaaGreatDoorTarg
import Derived.Deep.QuietTactic
import Derived.StillTailTactics
import Derived.Test.YtffkdidgfeknkaaGreatDoorBunJ
import Derived.WalkLawsBesides
import Derived.Test.YtffkdidgfeknkaaGreatDoorBunA

/-! An array of 81 numbers in memory: one of its cells, the whole of it loaded, stored, compared. No conditions. -/
namespace Go.Proofs.YtffkdidgfeknkaaGreatDoor
set_option linter.unusedVariables false
open Go.RowKit

def hc (K : List Int) : Array Value := (K.map ic).toArray
theorem hc_at {K : List Int} {i : Nat} {x : Int} (h : K[i]? = some x) : (hc K)[i]? = some (.int .i64 x) := by simp [hc, h, ic]
theorem hc_size (K : List Int) : (hc K).size = K.length := by simp [hc]
/-- Heights at block g. -/
def ArrIs (w : World) (g : Nat) (K : List Int) : Prop := BlkIs w g 100 (hc K) ∧ K.length = 81
section
variable {w w' : World} {g : Nat} {K L : List Int}
theorem ArrIs.at_ {i : Nat} (h : ArrIs w g K) (hi : i < 81) : w.cell? ⟨g, i, none⟩ = some (.int .i64 (K.getD i 0)) :=
  (h.1.cell i).trans (hc_at (by rw [List.getD_eq_getElem?_getD, List.getElem?_eq_getElem (by have := h.2; omega)]; rfl))
theorem ArrIs.frozen (h : ArrIs w g K) (i : Nat) : w.frozen? ⟨g, i, none⟩ = false := h.1.frozen i
theorem ArrIs.set (h : ArrIs w g K) (i : Nat) (v : Int) : ArrIs (w.setCell ⟨g, i, none⟩ (.int .i64 v)) g (K.set i v) :=
  ⟨by have := h.1.set i (.int .i64 v); rwa [show (hc K).setIfInBounds i (.int .i64 v) = hc (K.set i v) by simp [hc, List.map_set, ic]] at this, by rw [List.length_set]; exact h.2⟩
theorem ArrIs.next (h : ArrIs w g K) (hb : Below w.heap.size w w') : ArrIs w' g K := ⟨h.1.next hb, h.2⟩
theorem ArrIs.lt (h : ArrIs w g K) : g < w.heap.size := h.1.lt
theorem ArrIs.other {g' : Nat} (h : ArrIs w g K) (hg : w.grownBy w' (some g')) (hne : g ≠ g') : ArrIs w' g K := ⟨(hg.block g h.lt (fun e => hne (Option.some.inj e))).trans h.1, h.2⟩
theorem ArrIs.range (h : ArrIs w g K) : w.rangeAt g 0 (K.map ic) := fun j v hv => by
  rw [Nat.zero_add, h.1.cell j]
  simpa [hc] using hv
theorem ArrIs.there (h : ArrIs w g K) : w.there g 0 81 := fun j hj => by
  rw [Nat.zero_add]
  exact ⟨by rw [h.at_ hj]; rfl, h.frozen j⟩
theorem blk_setCells {t : TypeId} : ∀ (vs : List Value) (o : Nat) (w : World) (cs : Array Value), BlkIs w g t cs → ∃ cs', BlkIs (w.setCells g o vs) g t cs' ∧ cs'.size = cs.size ∧ ∀ i, (o ≤ i → i < o + vs.length → i < cs.size → cs'[i]? = vs[i - o]?) ∧ (i < o ∨ o + vs.length ≤ i → cs'[i]? = cs[i]?)
  | [], o, w, cs, h => ⟨cs, h, rfl, fun i => ⟨fun h1 h2 => by simp at h2; omega, fun _ => rfl⟩⟩
  | v :: r, o, w, cs, h => by
    obtain ⟨cs', h1, h2, h3⟩ := blk_setCells r (o + 1) (w.setCell ⟨g, o, none⟩ v) _ (h.set o v)
    rw [World.setCells]
    refine ⟨cs', h1, by rw [h2]; simp, fun i => ⟨fun k1 k2 k3 => ?_, fun k1 => ?_⟩⟩
    · by_cases e : i = o
      · subst e
        rw [(h3 i).2 (.inl (by omega))]
        simp [k3]
      · rw [(h3 i).1 (by omega) (by rw [List.length_cons] at k2; omega) (by simpa using k3)]
        rw [show i - o = (i - (o + 1)) + 1 by omega, List.getElem?_cons_succ]
    · rw [List.length_cons] at k1
      rw [(h3 i).2 (by omega)]
      rw [Array.getElem?_setIfInBounds_ne (by omega)]
theorem ArrIs.store (h : ArrIs w g K) (hl : L.length = 81) : ArrIs (w.setCells g 0 (L.map ic)) g L := by
  obtain ⟨cs', h1, h2, h3⟩ := blk_setCells (L.map ic) 0 w _ h.1
  have e : cs' = hc L := by
    apply Array.ext_getElem?
    intro i
    by_cases hi : i < 81
    · rw [(h3 i).1 (Nat.zero_le _) (by rw [List.length_map]; omega) (by rw [hc_size, h.2]; exact hi)]
      simp [hc]
    · rw [Array.getElem?_eq_none (by rw [h2, hc_size, h.2]; omega), Array.getElem?_eq_none (by rw [hc_size, hl]; omega)]
  exact ⟨e ▸ h1, hl⟩
theorem ArrIs.new (w : World) (hl : K.length = 81) : ArrIs (w.alloc (.cells (hc K) 100)) w.heap.size K := ⟨blk_new _ _ _ _ rfl, hl⟩
end
theorem hc_cells (K : List Int) : ∀ u ∈ K.map ic, u.oneCell' = true := fun u hu => by
  obtain ⟨x, _, rfl⟩ := List.mem_map.1 hu; rfl
theorem getD_at {K : List Int} {i : Nat} (h : i < K.length) : K.getD i 0 = K[i] := by
  rw [List.getD_eq_getElem?_getD, List.getElem?_eq_getElem h]; rfl
theorem infoArr : (Tryz.prog.info? 100).map (·.size) = some 81 := by kernel_rfl
theorem arr_loop (w : World) (K L : List Int) (hK : K.length = 81) (hL : L.length = 81) : (Op.equalIn 10000 100 (.agg (K.map ic).toArray) (.agg (L.map ic).toArray)).run Tryz.prog w = .ok (K == L) w := by
  have u3 := Tryz.underlying2
  have a3 := Tryz.isAgg2
  have z3 := Tryz.sizeOf2
  rw [show (10000 : Nat) = 9999 + 1 from rfl, Op.equalIn]
  simp only [Sem.run_bind, run_underlying Tryz.underlying100, Result.andThen_ok]
  simp only [Std.Legacy.Range.forIn_eq_forIn_range', Std.Legacy.Range.size, Nat.sub_zero, Nat.add_sub_cancel, Nat.div_one]
  rw [z3]
  simp only [Result.andThen_ok]
  have hpart : ∀ (M : List Int) (j : Nat), j < M.length → (part 2 (M.map ic).toArray (j * 1)).run Tryz.prog w = .ok (.int .i64 (M.getD j 0)) w := fun M j hj =>
    run_part_plain w (by kernel_rfl) (by rw [Nat.mul_one, getD_at hj]; simp [ic, hj])
  have key : ∀ m j : Nat, j + m = 81 → Sem.run Tryz.prog (forIn (List.range' j m) ((none : Option Bool), ()) fun i __s => do
            let __do_lift ← part 2 (List.map ic K).toArray (i * 1)
            let __do_lift_1 ← part 2 (List.map ic L).toArray (i * 1)
            let __do_lift ← Op.equalIn 9999 2 __do_lift __do_lift_1
            if (!__do_lift) = true then pure (ForInStep.done (some false, ())) else pure (ForInStep.yield (none, ()))) w = .ok (if K.drop j = L.drop j then (none, ()) else (some false, ())) w := by
    intro m
    induction m with
    | zero =>
      intro j hj
      rw [List.range'_zero, List.forIn_nil, List.drop_eq_nil_of_le (by omega), List.drop_eq_nil_of_le (by omega), if_pos rfl]
      rfl
    | succ m ih =>
      intro j hj
      have hjk : j < K.length := by omega
      have hjl : j < L.length := by omega
      rw [List.range'_succ, List.forIn_cons]
      simp only [Sem.run_bind, hpart K j hjk, hpart L j hjl, Result.andThen_ok, run_equalIn_int w 9998 2 .i64 .i64 _ _ u3]
      rw [List.drop_eq_getElem_cons hjk, List.drop_eq_getElem_cons hjl, getD_at hjk, getD_at hjl]
      by_cases e : K[j] = L[j]
      · simp only [e, beq_self_eq_true, Bool.not_true, Bool.false_eq_true, if_false, Sem.run_pure, Result.andThen_ok, List.cons.injEq, true_and]
        exact ih (j + 1) (by omega)
      · have e' : (K[j] == L[j]) = false := by simp [e]
        simp only [e', Bool.not_false, if_true, Sem.run_pure, Result.andThen_ok, List.cons.injEq, e, false_and, if_false]
  rw [key 81 0 rfl]
  simp only [Result.andThen_ok, List.drop_zero]
  by_cases e : K = L
  · subst e; simp
  · have e' : (K == L) = false := by simp [e]
    simp [e, e']
end Go.Proofs.YtffkdidgfeknkaaGreatDoor

/-! A queue of numbers in memory: a part of a block of one's own, from which elements are taken at the front and to which others are appended. No conditions. -/
namespace Go.Proofs.YtffkdidgfeknkaaGreatDoor
set_option linter.unusedVariables false
open Go.RowKit

theorem grown_setCells (b : Nat) : ∀ (vs : List Value) (o : Nat) (w : World), w.grownBy (w.setCells b o vs) (some b)
  | [], _, w => only_refl w _
  | v :: r, o, w => by
    rw [World.setCells]
    exact only_trans (only_set (w := w) (g := b) (i := o) (x := v)) (grown_setCells b r (o + 1) _)
theorem infoInt64_q : (Tryz.prog.info? 2).map (fun i => (i.zero, i.size, i.bytes)) = some (some (.int .i64 0), 1, 8) := by kernel_rfl

theorem own_capQ {w : World} {lo hi n c : Nat} {A : Option Addr} {l : List Int} (h : OwnL w lo hi A n c l) : n ≤ c := by
  rcases h.2.1.2 with ⟨h1, h2⟩ | ⟨b, cap, cur, h1, h2, h3, h4, _⟩
  · omega
  · injection h1 with _ _ e; omega
/-- A queue. -/
def Que (w : World) (lo : Nat) (v : Value) (xs : List Int) : Prop :=
  ∃ b off c, v = .slice (some ⟨b, off, none⟩) xs.length c ∧ lo ≤ b ∧ b < w.heap.size ∧ xs.length ≤ c ∧ c ≤ maxLen ∧
    (∀ (j : Nat) (x : Int), xs[j]? = some x → w.cell? ⟨b, off + j, none⟩ = some (ic x)) ∧
    ∀ j, j < c → (w.cell? ⟨b, off + j, none⟩).isSome = true ∧ w.frozen? ⟨b, off + j, none⟩ = false
section
variable {w w' : World} {lo : Nat} {v : Value} {xs : List Int}
theorem Que.of_own {g c n : Nat} (h : w.ownsRow lo 2 1 (.slice (some ⟨g, 0, none⟩) n c) n (xs.map ic)) (hn : xs.length = n) : Que w lo (.slice (some ⟨g, 0, none⟩) n c) xs := by
  subst hn
  rcases h.2 with ⟨h', _⟩ | ⟨g', c', cur, h', hb, hg, hnc, hcm, hcs, htake⟩
  · simp at h'
  · simp only [Value.slice.injEq, Option.some.injEq, Addr.mk.injEq, and_true, true_and] at h'
    obtain ⟨rfl, rfl⟩ := h'
    refine ⟨g, 0, c, rfl, hb, (h.lt g rfl).2, hnc, hcm, fun j x hj => ?_, fun j hj => ⟨?_, ?_⟩⟩
    · rw [Nat.zero_add, h.cellAt j (by have := (List.getElem?_eq_some_iff.1 hj).1; omega), List.getElem?_map, hj]; rfl
    · rw [Nat.zero_add, cell_of_row w g j cur 2 (0, 0) hg, Array.getElem?_eq_getElem (by omega)]; rfl
    · simp [World.frozen?, hg]
theorem Que.kept {r : Option Nat} (h : Que w lo v xs) (hg : w.grownBy w' r) (hr : v.ownBlock ≠ r) : Que w' lo v xs := by
  obtain ⟨b, off, c, rfl, h1, h2, h3, h4, h5, h6⟩ := h
  have hb : w'.heap[b]? = w.heap[b]? := hg.block b h2 (fun e => hr (by rw [← e]; rfl))
  exact ⟨b, off, c, rfl, h1, Nat.lt_of_lt_of_le h2 hg.size, h3, h4, fun j x hj => (World.cell?_of_block (a := ⟨b, off + j, none⟩) hb).trans (h5 j x hj),
    fun j hj => ⟨by rw [World.cell?_of_block (a := ⟨b, off + j, none⟩) hb]; exact (h6 j hj).1, (World.frozen?_of_block (a := ⟨b, off + j, none⟩) hb).trans (h6 j hj).2⟩⟩
theorem Que.next (h : Que w lo v xs) (hb : Below w.heap.size w w') : Que w' lo v xs :=
  h.kept (r := none) ⟨hb.os, hb.tape, hb.output, hb.size, fun k hk _ => hb.block k hk⟩ (by obtain ⟨b, off, c, rfl, _⟩ := h; simp [Value.ownBlock])
theorem Que.lt (h : Que w lo v xs) : ∃ b, v.ownBlock = some b ∧ lo ≤ b ∧ b < w.heap.size := by
  obtain ⟨b, off, c, rfl, h1, h2, _⟩ := h
  exact ⟨b, rfl, h1, h2⟩
/-- The front of a queue. -/
theorem Que.front {x : Int} {b off n c : Nat} (h : Que w lo (.slice (some ⟨b, off, none⟩) n c) (x :: xs)) : n = xs.length + 1 ∧ n ≤ c ∧ c ≤ maxLen ∧ lo ≤ b ∧ b < w.heap.size ∧ w.cell? ⟨b, off, none⟩ = some (.int .i64 x) := by
  obtain ⟨b', off', c', e, h1, h2, h3, h4, h5, h6⟩ := h
  simp only [Value.slice.injEq, Option.some.injEq, Addr.mk.injEq, and_true] at e
  obtain ⟨⟨rfl, rfl⟩, rfl, rfl⟩ := e
  exact ⟨by simp, h3, h4, h1, h2, h5 0 x rfl⟩
theorem Que.tail {x : Int} {b off n c : Nat} (h : Que w lo (.slice (some ⟨b, off, none⟩) n c) (x :: xs)) : Que w lo (.slice (some ⟨b, off + 1, none⟩) xs.length (c - 1)) xs := by
  obtain ⟨b', off', c', e, h1, h2, h3, h4, h5, h6⟩ := h
  simp only [Value.slice.injEq, Option.some.injEq, Addr.mk.injEq, and_true] at e
  obtain ⟨⟨rfl, rfl⟩, rfl, rfl⟩ := e
  rw [List.length_cons] at h3
  refine ⟨b, off + 1, c - 1, rfl, h1, h2, by omega, by omega, fun j y hj => ?_, fun j hj => ?_⟩
  · rw [Nat.add_assoc, Nat.add_comm 1 j]; exact h5 (j + 1) y hj
  · rw [Nat.add_assoc, Nat.add_comm 1 j]; exact h6 (j + 1) (by omega)
/-- .. of one element without room behind it. -/
theorem Que.tail0 {x : Int} {b off n c : Nat} (h : Que w lo (.slice (some ⟨b, off, none⟩) n c) [x]) : Que w lo (.slice (some ⟨b, off, none⟩) 0 0) [] := by
  obtain ⟨_, _, _, h1, h2, _⟩ := h.front
  exact ⟨b, off, 0, rfl, by obtain ⟨b', off', c', e, h1, _⟩ := h; cases e; exact h1, by obtain ⟨b', off', c', e, _, h2, _⟩ := h; cases e; exact h2, Nat.le_refl _, Nat.zero_le _, fun j y hj => by simp at hj, fun j hj => by omega⟩
theorem Que.tailI {x : Int} {b off n c : Nat} (h : Que w lo (.slice (some ⟨b, off, none⟩) n c) (x :: xs)) : Que w lo (.slice (if c = 1 then some ⟨b, off, none⟩ else some ⟨b, off + 1, none⟩) xs.length (c - 1)) xs := by
  by_cases e : c = 1
  · rw [if_pos e]
    obtain ⟨b', off', c', e', h1, h2, h3, h4, h5, h6⟩ := h
    simp only [Value.slice.injEq, Option.some.injEq, Addr.mk.injEq, and_true] at e'
    obtain ⟨⟨rfl, rfl⟩, rfl, rfl⟩ := e'
    rw [List.length_cons] at h3
    have hx : xs = [] := List.eq_nil_of_length_eq_zero (by omega)
    subst hx
    subst e
    exact ⟨b, off, 0, rfl, h1, h2, Nat.le_refl _, Nat.zero_le _, fun j y hj => by simp at hj, fun j hj => by omega⟩
  · rw [if_neg e]; exact h.tail
theorem ownBlock_if {b off n c : Nat} {p : Prop} [Decidable p] : (Value.slice (if p then some ⟨b, off, none⟩ else some ⟨b, off + 1, none⟩) n c).ownBlock = some b := by
  split <;> rfl
end
/-- append onto a queue. -/
theorem wpList_append_q {w : World} {ops : Array Oper} {rest : List Oper} {o : Oper} {a : Act} {Q : Exit → Act → World → Prop}
    (hg : o.guard = none) (s x : Operand) (hop : o.op = Op.call { callee := Callee.builtin Builtin.append, args := #[s, x], argTypes := #[28, 28] })
    {lo : Nat} {v : Value} {xs ys : List Int} (hs : a.eval s = v) (hq : Que w lo v xs) (hlo : lo ≤ w.heap.size) (A : Option Addr) (m c : Nat) (hx : a.eval x = .slice A m c) (B : Nat) (hy : InL w B A m ys) (hmc : m ≤ c) (hk : xs.length + ys.length ≤ 100000)
    (hK : ∀ v' w', Que w' lo v' (xs ++ ys) → w.grownBy w' v.ownBlock → (v'.ownBlock = v.ownBlock ∨ ∃ k, v'.ownBlock = some k ∧ w.heap.size ≤ k) → wpList Tryz.prog ops Q rest (a.put o.dst v') w') :
    wpList Tryz.prog ops Q (o :: rest) a w := by
  obtain ⟨i0, hi, hz0, hz1, hz2⟩ := info_parts infoInt64_q
  obtain ⟨b, off, cq, rfl, h1, h2, h3, h4, h5, h6⟩ := hq
  have hlen : ys.length = m := hy.1
  cases A with
  | none =>
    have hm0 : m = 0 := by
      rcases Nat.eq_zero_or_pos m with h0 | h0
      · exact h0
      · obtain ⟨b', off', e, _⟩ := hy.2 0 (by rw [List.length_map]; omega)
        cases e
    subst hm0
    have hy0 : ys = [] := List.eq_nil_of_length_eq_zero hlen
    subst hy0
    have hrun : (Builtin.append_ #[28, 28] o.type #[.slice (some ⟨b, off, none⟩) xs.length cq, .slice none 0 c]).run Tryz.prog w = .ok (.slice (some ⟨b, off, none⟩) xs.length cq) w := by
      simp [Builtin.append_, run_underlying (P := Tryz.prog) Tryz.underlying28, sizeOf, typeInfo, hi, Builtin.lenOf, Builtin.firstCells, h3, storeCells]
    refine wpList_plain hg fun K hK' => ?_
    unfold Oper.wp
    simp [execOp, hop, resolve, invoke, builtin, hs, hx, hrun, Result.andThen]
    refine hK' _ _ (hK _ _ ?_ (only_refl w _) (.inl rfl))
    rw [List.append_nil]
    exact ⟨b, off, cq, rfl, h1, h2, h3, h4, h5, h6⟩
  | some ad =>
    refine wpList_append_arg w hg s x 28 hop 2 i0 (.int .i64 0) 1 8 Tryz.underlying28 hi hz0 hz1 hz2 rfl (by decide) b off xs.length cq (xs.map ic) hs (by simp) (fun j u hj => ?_) ad m c (ys.map ic) hx (by simp [hlen]) (fun j u hj => ?_) (fun u hu => ?_) (fun hr j hj => ?_) (by unfold maxLen; omega) (by omega) (fun hr => ?_) (fun hr v' w' e1 e2 => ?_)
    · rw [List.getElem?_map] at hj
      cases hx' : xs[j]? with
      | none => rw [hx'] at hj; cases hj
      | some y => rw [hx'] at hj; obtain rfl := Option.some.inj hj; exact h5 j y hx'
    · have hjl := (List.getElem?_eq_some_iff.1 hj).1
      obtain ⟨b', off', e, _, hc⟩ := hy.2 j hjl
      obtain rfl := Option.some.inj e
      rw [Addr.add_lit, hc]; exact hj
    · obtain ⟨y, _, rfl⟩ := List.mem_map.1 hu; rfl
    · have := h6 (xs.length + j) (by simp at hj; omega)
      rw [show off + xs.length * 1 + j = off + (xs.length + j) by omega]; exact this
    · have hgs := grown_setCells b (ys.map ic) (off + xs.length * 1) w
      refine hK _ _ ⟨b, off, cq, by rw [List.length_append, hlen], h1, Nat.lt_of_lt_of_le h2 hgs.size, by rw [List.length_append]; omega, h4, fun j y hj => ?_, fun j hj => ?_⟩ hgs (.inl rfl)
      · by_cases hjx : j < xs.length
        · rw [World.cell?_setCells_out b _ _ w _ (fun _ _ => by left; show off + j < off + xs.length * 1; omega)]
          rw [List.getElem?_append_left hjx] at hj
          exact h5 j y hj
        · rw [List.getElem?_append_right (by omega)] at hj
          have hjl := (List.getElem?_eq_some_iff.1 hj).1
          have hin := World.cell?_setCells_in b (ys.map ic) (off + xs.length * 1) w (fun i hi' => by
            rw [List.length_map] at hi'
            rw [show off + xs.length * 1 + i = off + (xs.length + i) by omega]; exact (h6 _ (by omega)).1) (j - xs.length) (by rw [List.length_map]; exact hjl)
          rw [show off + xs.length * 1 + (j - xs.length) = off + j by omega] at hin
          rw [hin, List.getElem_map]
          rw [List.getElem?_eq_getElem hjl] at hj
          rw [Option.some.inj hj]
      · rw [World.frozen?_setCells]
        refine ⟨?_, (h6 j hj).2⟩
        exact World.isSome_setCells b _ _ w _ (h6 j hj).1
    · have hm : ys.map ic ≠ [] ∨ True := .inr trivial
      rw [← List.map_append] at e1
      have e3 : ∃ g' c', v' = .slice (some ⟨g', 0, none⟩) (xs.length + m) c' := by
        rcases e1.2 with ⟨_, h0⟩ | ⟨g, cap, cur, e, _⟩
        · omega
        · exact ⟨g, cap, e⟩
      obtain ⟨g', c', rfl⟩ := e3
      refine hK _ _ (Que.of_own ?_ (by simp [hlen])) ?_ ?_
      · rcases e1 with ⟨a1, a2 | ⟨g, cap, cur, a3, a4, a5⟩⟩
        · exact ⟨a1, .inl a2⟩
        · exact ⟨a1, .inr ⟨g, cap, cur, a3, Nat.le_trans hlo a4, a5⟩⟩
      · exact ⟨e2.os, e2.tape, e2.output, e2.size, fun k hk _ => e2.block k hk (by simp)⟩
      · exact .inr ⟨g', rfl, (e1.lt g' rfl).1⟩
end Go.Proofs.YtffkdidgfeknkaaGreatDoor

/-! Heights spread over code: the program's loops, for a function of which is known what it gives. Conditions: valid code. -/
namespace Go.Proofs.YtffkdidgfeknkaaGreatDoor
set_option linter.unusedVariables false
open Go.RowKit

theorem insist_yes (w : World) : Calls Tryz.prog 62 #[.bool true] w fun e w' => (∃ v, e = .returned v) ∧ w' = w := by
  go_enter Tryz.func62, Tryz.ntmps62
  go_wp2_with fail
  go_end0
  exact ⟨⟨_, rfl⟩, rfl⟩
theorem always_c (op a h : Int) (w : World) : Calls Tryz.prog 79 #[.agg #[.int .i64 op, .int .i64 a], .int .i64 h] w fun e w' => e = .returned (.int .i64 0) ∧ Below w.heap.size w w' := by
  go_enter Tryz.func79, Tryz.ntmps79
  go_wp2_with fail
  go_ret
  exact ⟨rfl, bnew _ _⟩

/-- The numbers of a block, as memory tells. -/
def readH (w : World) (g : Nat) : List Int := match w.heap[g]? with
  | some (.cells cs _ _) => cs.toList.map fun u => match u with | .int _ x => x | _ => 0
  | _ => []
theorem readH_is {w : World} {g : Nat} {K : List Int} (h : ArrIs w g K) : readH w g = K := by
  unfold readH
  rw [h.1]
  show ((hc K).toList.map _) = K
  unfold hc
  rw [List.map_map]
  exact (List.map_congr_left (fun x _ => rfl)).trans (List.map_id K)
/-- What spread holds in memory: its result, the heights, those before. -/
structure SpM (wc W : World) (K Bf : List Int) : Prop where
  res : ArrIs W wc.heap.size (List.replicate 81 0)
  known : ArrIs W (wc.heap.size + 1) K
  before : ArrIs W (wc.heap.size + 1 + 1) Bf
  below : Below wc.heap.size wc W
section
variable {wc W W' : World} {K Bf : List Int}
theorem SpM.next (h : SpM wc W K Bf) (hb : Below W.heap.size W W') : SpM wc W' K Bf := ⟨h.res.next hb, h.known.next hb, h.before.next hb, bon h.below hb⟩
theorem SpM.set (h : SpM wc W K Bf) (i : Nat) (v : Int) : SpM wc (W.setCell ⟨wc.heap.size + 1, i, none⟩ (.int .i64 v)) (K.set i v) Bf := by
  have hg := only_set (w := W) (g := wc.heap.size + 1) (i := i) (x := .int .i64 v)
  exact ⟨h.res.other hg (by omega), h.known.set i v, h.before.other hg (by omega), h.below.setCell (p := ⟨wc.heap.size + 1, i, none⟩) (by show wc.heap.size ≤ wc.heap.size + 1; omega) _⟩
theorem SpM.save (h : SpM wc W K Bf) : SpM wc (W.setCells (wc.heap.size + 1 + 1) 0 (K.map ic)) K K := by
  have hg := grown_setCells (wc.heap.size + 1 + 1) (K.map ic) 0 W
  exact ⟨h.res.other hg (by omega), h.known.other hg (by omega), h.before.store h.known.2, h.below.grown hg h.below.size (fun k hk => by have := Option.some.inj hk; omega)⟩
end
theorem load_hc {ops : Array Oper} {rest : List Oper} {op : Oper} {a : Act} {w : World} {Q : Exit → Act → World → Prop} {K : List Int} (hgd : op.guard = none) (x : Operand) (ho : op.op = .load 100 x)
    (b : Nat) (hx : a.eval x = .pointer (some ⟨b, 0, none⟩)) (hB : ArrIs w b K) (h : wpList Tryz.prog ops Q rest (a.put op.dst (.agg (K.map ic).toArray)) w) : wpList Tryz.prog ops Q (op :: rest) a w :=
  wpList_load_mid hgd 100 x ho b 0 hx (K.map ic) _ hB.range Tryz.underlying100 rfl (by rw [List.length_map, hB.2]; exact infoArr) h
theorem store_hc {ops : Array Oper} {rest : List Oper} {op : Oper} {a : Act} {w : World} {Q : Exit → Act → World → Prop} {K L : List Int} (hgd : op.guard = none) (x y : Operand) (ho : op.op = .store 100 x y)
    (b : Nat) (hx : a.eval x = .pointer (some ⟨b, 0, none⟩)) (hy : a.eval y = .agg (L.map ic).toArray) (hB : ArrIs w b K) (hl : L.length = 81) (h : wpList Tryz.prog ops Q rest (a.put op.dst undef) (w.setCells b 0 (L.map ic))) : wpList Tryz.prog ops Q (op :: rest) a w :=
  wpList_store_mid hgd 100 x y ho b 0 (L.map ic).toArray hx hy (by rw [List.size_toArray, List.length_map, hl]; exact hB.there) (by rw [List.size_toArray, List.length_map, hl]; exact infoArr) (all_oneCell_toArray (hc_cells L)) h
theorem results_hc {fn : Func} {p : Tmp} (h : fn.results = #[.cell p 100]) (tmps : Array Value) (w : World) (g : Nat) (K : List Int)
    (hp : tmps.getD p undef = .pointer (some ⟨g, 0, none⟩)) (hg : ArrIs w g K) : (results fn tmps).run Tryz.prog w = .ok (.agg (K.map ic).toArray) w := by
  have hp' : tmps[p]?.getD undef = .pointer (some ⟨g, 0, none⟩) := by simpa using hp
  simp [results, h, hp', asAddr, run_loadVar_mid w g 0 100 (K.map ic) _ hg.range Tryz.underlying100 rfl (by rw [List.length_map, hg.2]; exact infoArr)]
def fstH (j : Nat) : List Int := List.replicate j (-1) ++ List.replicate (81 - j) 0
theorem fstH_set {j : Nat} (h : j < 81) : (fstH j).set j (-1) = fstH (j + 1) := by
  unfold fstH
  rw [List.set_append_right _ _ (by simp), List.length_replicate, Nat.sub_self, show 81 - j = (81 - (j + 1)) + 1 by omega, List.replicate_succ, List.set_cons_zero, List.replicate_succ', List.append_assoc]
  rfl
theorem fstH_end : (fstH 81).set 0 0 = heights0 := by decide
theorem zero42 : Tryz.zeroCells100 = hc (List.replicate 81 0) := by kernel_rfl

set_option maxRecDepth 100000 in
set_option maxHeartbeats 4000000 in
theorem spread_c (A : Option Addr) (n c B : Nat) (xs : List (Int × Int)) (w : World) (h : InC w B A n xs) (hB : B ≤ w.heap.size) (hv : codeB xs = true) (I : List Int → Prop) (hb : GoesOn xs (fun _ _ => some 0) I) (hI : I heights0) :
    Calls Tryz.prog 60 #[.slice A n c, .func (.func 79) #[] #[]] w fun e w' => ∃ K, e = .returned (.agg (K.map ic).toArray) ∧ SprTo xs (fun _ _ => some 0) I K ∧ Below w.heap.size w w' := by
  have hxn : xs.length = n := h.1
  have hp := codeB_parts hv
  have hn80 : 1 ≤ n ∧ n ≤ 80 := by omega
  have HI := Lib.hid h
  have HT := Lib.hid (tgt_in hv)
  have HV := Lib.hid hv
  have HG := Lib.hid hb
  have HI0 := Lib.hid hI
  have hM0 : SpM w (((w.alloc (.cells Tryz.zeroCells100 100)).alloc (.cells Tryz.zeroCells100 100)).alloc (.cells Tryz.zeroCells100 100)) (List.replicate 81 0) (List.replicate 81 0) := by
    rw [zero42]
    have b0 := bnew w (.cells (hc (List.replicate 81 0)) 100)
    have b1 := bnew (w.alloc (.cells (hc (List.replicate 81 0)) 100)) (.cells (hc (List.replicate 81 0)) 100)
    have b2 := bnew ((w.alloc (.cells (hc (List.replicate 81 0)) 100)).alloc (.cells (hc (List.replicate 81 0)) 100)) (.cells (hc (List.replicate 81 0)) 100)
    have r0 := ((ArrIs.new w (K := List.replicate 81 0) (by simp)).next b1).next b2
    have r1 := (ArrIs.new (w.alloc (.cells (hc (List.replicate 81 0)) 100)) (K := List.replicate 81 0) (by simp)).next b2
    have r2 := ArrIs.new ((w.alloc (.cells (hc (List.replicate 81 0)) 100)).alloc (.cells (hc (List.replicate 81 0)) 100)) (K := List.replicate 81 0) (by simp)
    rw [World.size_alloc] at r1
    rw [World.size_alloc, World.size_alloc] at r2
    exact ⟨r0, r1, r2, bon (bon b0 b1) b2⟩
  clear h hp hv hb hI
  go_enter Tryz.func60, Tryz.ntmps60
  go_upto_region 3 with fail
  generalize (((w.alloc (.cells Tryz.zeroCells100 100)).alloc (.cells Tryz.zeroCells100 100)).alloc (.cells Tryz.zeroCells100 100)) = W at hM0 ⊢
  go_loopw [13] (fun i wr => ∃ j : Nat, j ≤ 81 ∧ i = .int .i64 j ∧ SpM w wr (fstH j) (List.replicate 81 0)) (fun i _ => 81 - (intOf i).toNat)
  case atStart => exact ⟨0, by omega, rfl, hM0⟩
  case round =>
    clear hM0
    obtain ⟨j, hj, rfl, hM⟩ := hrel
    by_cases hlt : j < 81
    · have z1 := hM.known.at_ hlt
      have f1 := hM.known.frozen j
      have hM1 := hM.set j (-1)
      rw [fstH_set hlt] at hM1
      have HM1 := Lib.hid hM1
      clear hM hM1
      go_wp2_with fail
      go_roundw
      case rel => exact ⟨j + 1, by omega, by go_num, HM1.out⟩
      case measure => simp [intOf]; omega
    · have ej : Hid (j = 81) := by show j = 81; omega
      have hlt' : ¬ (j : Int) < 81 := by omega
      rw [ej.out] at hM
      have z0 := hM.known.at_ (i := 0) (by omega)
      have f0 := hM.known.frozen 0
      have hM1 := hM.set 0 0
      rw [fstH_end] at hM1
      clear hM hlt hj ej
      go_upto_region 8 with fail
      generalize wr.setCell ⟨w.heap.size + 1, 0, none⟩ (.int .i64 0) = W1 at hM1 ⊢
      clear z0 f0
      have hS0 : SprAt xs (fun _ _ => some 0) I heights0 (List.replicate 81 0) := SprAt.init HI0.out
      go_loopw [26] (fun _ wr => ∃ K Bf, SprAt xs (fun _ _ => some 0) I K Bf ∧ SpM w wr K Bf) (fun _ wr => leftH (readH wr (w.heap.size + 1)) (readH wr (w.heap.size + 1 + 1)))
      case atStart => exact ⟨_, _, hS0, hM1⟩
      case round =>
        clear hM1 hS0
        obtain ⟨K, Bf, hS, hM⟩ := hrel
        have hr1 := readH_is hM.known
        have hr2 := readH_is hM.before
        by_cases hKB : K = Bf
        · subst hKB
          have hD := Lib.hid hS.done
          have e1 : (K == K) = true := by simp
          have e2 := arr_loop wr K K hM.known.2 hM.known.2
          have hR := (hM.res.store hM.known.2)
          have hg := grown_setCells w.heap.size (K.map ic) 0 wr
          have hbw : Below w.heap.size w (wr.setCells w.heap.size 0 (K.map ic)) := hM.below.grown hg hM.below.size (fun k hk => by have := Option.some.inj hk; omega)
          have k1 := hM.known
          have k2 := hM.before
          have k0 := hM.res
          clear hM hS hr1 hr2
          go_wp2_with (first | (refine load_hc rfl _ rfl (w.heap.size + 1) rfl k1 ?_) | (refine load_hc rfl _ rfl (w.heap.size + 1 + 1) rfl k2 ?_) | (refine store_hc rfl _ _ rfl w.heap.size rfl rfl k0 k1.2 ?_))
          refine bodyPost_ret (results_hc rfl _ _ w.heap.size K rfl hR) rfl ?_
          exact ⟨K, rfl, hD.out, hbw⟩
        · have e1 : (K == Bf) = false := by simp [hKB]
          have e2 := arr_loop wr K Bf hM.known.2 hM.before.2
          have hM1 := hM.save
          have k1 := hM.known
          have k2 := hM.before
          have HS := Lib.hid hS
          have hl81 := hS.len
          have hSw0 : SwpTo xs (fun _ _ => some 0) I K 0 K := SwpTo.nil hS.inv hS.len
          clear hM hS
          go_upto_region 11 with (first | (refine load_hc rfl _ rfl (w.heap.size + 1) rfl k1 ?_) | (refine load_hc rfl _ rfl (w.heap.size + 1 + 1) rfl k2 ?_) | (refine store_hc rfl _ _ rfl (w.heap.size + 1 + 1) rfl rfl k2 k1.2 ?_))
          generalize wr.setCells (w.heap.size + 1 + 1) 0 (K.map ic) = W2 at hM1 ⊢
          clear k1 k2 e2
          go_loopw [26] (fun i wr => ∃ (j : Nat) (L : List Int), j ≤ n ∧ i = .int .i64 j ∧ SwpTo xs (fun _ _ => some 0) I K j L ∧ SpM w wr L K) (fun i _ => n - (intOf i).toNat)
          case atStart => exact ⟨0, K, Nat.zero_le _, rfl, hSw0, hM1⟩
          case round =>
            clear hM1 hSw0
            obtain ⟨j, L, hj, rfl, hSw, hM⟩ := hrel
            by_cases hlt : j < n
            · have hjx : j < xs.length := by omega
              have hx : xs[j]? = some xs[j] := List.getElem?_eq_getElem hjx
              have hIw := HI.out.next hM.below hB
              obtain ⟨bb, off, x, rfl, hbb, hx', q0, q1⟩ := hIw.at_ hlt
              obtain rfl : xs[j] = x := by rw [hx] at hx'; exact Option.some.inj hx'
              have hb3 := bnew wr (.cells #[.int .i64 xs[j].1, .int .i64 xs[j].2] 92)
              have hX : BlkIs (wr.alloc (.cells #[.int .i64 xs[j].1, .int .i64 xs[j].2] 92)) wr.heap.size 92 #[.int .i64 xs[j].1, .int .i64 xs[j].2] := blk_new _ _ _ _ rfl
              have hM2 := hM.next hb3
              have c1 := hM2.known.at_ (i := j) (by omega)
              obtain ⟨hj0, ehj⟩ : ∃ hj0, Hid (L.getD j 0 = hj0) := ⟨_, rfl⟩
              rw [ehj.out] at c1
              have HX := Lib.hid hx
              have HSW := Lib.hid hSw
              have hKN := hM.before.lt
              have hLl : L.length = 81 := hM.known.2
              clear hx' hIw hx hSw
              by_cases hun : hj0 = -1
              · subst hun
                have HSK := Lib.hid (HSW.out.skip ehj.out)
                go_wp2_with fail
                go_roundw
                case rel => exact ⟨j + 1, L, by omega, by go_num, HSK.out, hM2⟩
                case measure => simp [intOf]; omega
              · have eun : (hj0 == -1) = false := by simp; exact hun
                obtain ⟨h, h0, h1, hbh, hall⟩ := HG.out.step j xs[j] L HX.out HSW.out.inv (by rw [ehj.out]; exact hun)
                obtain rfl : (0 : Int) = h := Option.some.inj hbh
                have HALL := Lib.hid hall
                have HBH := Lib.hid hbh
                have xc0 : (wr.alloc (.cells #[.int .i64 xs[j].1, .int .i64 xs[j].2] 92)).cell? ⟨wr.heap.size, 0, none⟩ = some (.int .i64 xs[j].1) := hX.cell 0
                have xc1 : (wr.alloc (.cells #[.int .i64 xs[j].1, .int .i64 xs[j].2] 92)).cell? ⟨wr.heap.size, 1, none⟩ = some (.int .i64 xs[j].2) := hX.cell 1
                clear hall hbh
                go_upto_region 14 with fail
                generalize hW3 : wr.alloc (.cells #[.int .i64 xs[j].1, .int .i64 xs[j].2] 92) = W3 at hb3 hM2 c1 xc0 xc1 hX ⊢
                clear hX
                have hj81 : (j : Int) < 81 := by omega
                go_region_held3 (fun w' => w'.cell? ⟨wr.heap.size, 0, none⟩ = some (.int .i64 xs[j].1) ∧ w'.cell? ⟨wr.heap.size, 1, none⟩ = some (.int .i64 xs[j].2) ∧ w'.cell? ⟨w.heap.size + 1, j, none⟩ = some (.int .i64 hj0))
                  (first | go_keep | exact ⟨cell_on xc0 hb1, cell_on xc1 hb1, cell_on c1 hb1⟩ | fail)
                  (first | (go_at_call 79; refine (always_c _ _ _ _).mono ?_; rintro e w1 ⟨rfl, hb1⟩) | fail)
                have hM3 := hM2.next (bstep hb1)
                have hTC := Lib.hid (targetsOf_c (some ⟨bb, off, none⟩) n c B xs j xs[j] w1 (HI.out.next hM3.below hB) (Nat.le_trans hB hM3.below.size) HX.out (by omega) (codeB_at HV.out HX.out))
                clear hM2 xc0 xc1 c1 hM hb3
                go_wp2_with fail
                refine hTC.out.mono ?_
                rintro e w4 ⟨At, ct, rfl, hown, hb4⟩
                have hM4 := hM3.next hb4
                have hta := hown.all
                have htl := tgt_len xs[j].1 xs[j].2 j
                have HTI := Lib.hid (HT.out j xs[j] HX.out)
                have hP0 : PutTo I 0 L [] L := PutTo.nil HSW.out.inv
                obtain ⟨ys, hys⟩ : ∃ ys, Hid (tgt1 xs[j].1 xs[j].2 j = ys) := ⟨_, Lib.hid rfl⟩
                rw [hys.out] at hown hta htl HTI HALL ⊢
                clear hTC hb4 hM3
                go_upto_region 16 with fail
                have hw1 : w.heap.size + 2 ≤ w1.heap.size := by have := hM4.known.lt; have h5 := (bstep hb1).size; rw [← hW3, World.size_alloc] at h5; have := hKN; omega
                go_loopw [45] (fun i wr => ∃ (m : Nat) (M : List Int), m ≤ ys.length ∧ i = .int .i64 m ∧ PutTo I 0 L (ys.take m) M ∧ SpM w wr M K ∧ Out (w.heap.size + 1) (w.heap.size + 2) w4 wr) (fun i _ => ys.length - (intOf i).toNat)
                case atStart => exact ⟨0, L, Nat.zero_le _, rfl, hP0, hM4, Out.refl _ _ _⟩
                case round =>
                  clear hM4 hP0
                  rename World => wt
                  obtain ⟨m, M, hm, rfl, hP, hM, hO⟩ := hrel
                  by_cases hlm : m < ys.length
                  · have hrow := (hown.out hO (.inl hw1)).inn
                    obtain ⟨bt, ot, t, rfl, hbt, ht, hct⟩ := hrow.2.int_at (k := m) hlm
                    have htm : t ∈ ys := List.mem_of_getElem? ht
                    obtain ⟨t0, t1⟩ := HTI.out t htm
                    obtain ⟨a1, a2⟩ := HALL.out t htm M hP.inv hP.ext
                    have hP1 := Lib.hid (hP.more (by have := hM.known.2; omega) a1 a2)
                    obtain ⟨k, rfl⟩ : ∃ k : Nat, t = (k : Int) := ⟨t.toNat, by omega⟩
                    rw [Int.toNat_natCast] at a1 hP1
                    have htk : ys.take m ++ [(k : Int)] = ys.take (m + 1) := by rw [List.take_add_one, ht]; rfl
                    rw [htk] at hP1
                    have c1 := hM.known.at_ (i := k) (by omega)
                    have f1 := hM.known.frozen k
                    have hM1 := hM.set k 0
                    have hk81 : (k : Int) < 81 := by omega
                    have hO1 : Out (w.heap.size + 1) (w.heap.size + 2) w4 (wt.setCell ⟨w.heap.size + 1, k, none⟩ (.int .i64 0)) := out_set hO (by omega)
                    obtain ⟨hk0, ehk⟩ : ∃ hk0, Hid (M.getD k 0 = hk0) := ⟨_, Lib.hid rfl⟩
                    rw [ehk.out] at c1 a1
                    clear hM hO hP hrow ht htm
                    rcases a1 with rfl | rfl
                    · go_wp2_with fail
                      refine (insist_yes wt).mono ?_
                      rintro e w5 ⟨⟨v, rfl⟩, rfl⟩
                      go_wp2_with fail
                      go_roundw
                      case rel => exact ⟨m + 1, _, by omega, by go_num, hP1.out, hM1, hO1⟩
                      case measure => simp [intOf]; omega
                    · go_wp2_with fail
                      refine (insist_yes wt).mono ?_
                      rintro e w5 ⟨⟨v, rfl⟩, rfl⟩
                      go_wp2_with fail
                      go_roundw
                      case rel => exact ⟨m + 1, _, by omega, by go_num, hP1.out, hM1, hO1⟩
                      case measure => simp [intOf]; omega
                  · obtain rfl : m = ys.length := by omega
                    rw [List.take_length] at hP
                    have hD := Lib.hid (HSW.out.done HX.out rfl (by rw [hys.out]; exact hP))
                    go_wp2_with fail
                    go_roundw
                    case rel => exact ⟨j + 1, M, by omega, by go_num, hD.out, hM⟩
                    case measure => simp [intOf]; omega
            · obtain rfl : j = n := by omega
              have hN := hSw
              rw [← hxn] at hN
              have hS2 := Lib.hid (HS.out.next hN)
              have hE := hSw.ext
              go_wp2_with fail
              go_roundw
              case rel => exact ⟨L, K, hS2.out, hM⟩
              case measure => rw [hr1, hr2, readH_is hM.known, readH_is hM.before]; exact leftH_less hE hKB

end Go.Proofs.YtffkdidgfeknkaaGreatDoor

/-! What panics: insist, and the height behind an instruction. Conditions: the program's own error lies in its variable. -/
namespace Go.Proofs.YtffkdidgfeknkaaGreatDoor
set_option linter.unusedVariables false
open Go.RowKit

/-- The program's error lies in its variable. -/
def Stuck (tp : TypeId) (p : Value) (w : World) : Prop := w.cell? ⟨0, 0, none⟩ = some (.iface tp p)
theorem Stuck.next {tp : TypeId} {p : Value} {w w' : World} (h : Stuck tp p w) (hb : Below w.heap.size w w') : Stuck tp p w' := (hb.cell (p := ⟨0, 0, none⟩) (cell_lt h)).trans h
theorem insist_no (tp : TypeId) (p : Value) (w : World) (h : Stuck tp p w) : Calls Tryz.prog 62 #[.bool false] w fun e w' => e = .panicked [{ v := .iface tp p, recovered := false }] ∧ w' = w := by
  have h' : w.cell? ⟨0, 0, none⟩ = some (.iface tp p) := h
  go_enter Tryz.func62, Tryz.ntmps62
  go_wp2_with fail
  exact ⟨rfl, rfl, rfl⟩
set_option maxRecDepth 100000 in
set_option maxHeartbeats 2000000 in
/-- stackBehind where the stack fits. -/
theorem behind_ok (op a h : Int) (w : World) (ho : 0 ≤ op ∧ op ≤ 11) (hf : fitB op h = true) (hh : -10 ≤ h ∧ h ≤ 10) :
    Calls Tryz.prog 61 #[.agg #[.int .i64 op, .int .i64 a], .int .i64 h] w fun e w' => e = .returned (.int .i64 (h - popB op + pushB op)) ∧ Below w.heap.size w w' := by
  have hb0 := bnew w (.cells #[.int .i64 op, .int .i64 a] 92)
  have h1 := popB_02 op
  have h2 := pushB_01 op
  have e1 : IntKind.i64.wrap (h - popB op) = h - popB op := IntWalk.i64_in _ (by omega)
  have e2 : IntKind.i64.wrap (h - popB op + pushB op) = h - popB op + pushB op := IntWalk.i64_in _ (by omega)
  have HF := Lib.hid hf
  clear hf
  go_enter Tryz.func61, Tryz.ntmps61
  go_wp2_with fail
  generalize w.alloc (.cells #[.int .i64 op, .int .i64 a] 92) = W at hb0 ⊢
  refine (form_c op a W ho).mono ?_
  rintro e w1 ⟨rfl, hb1⟩
  have HFI := Lib.hid (fun W => fits_c op h W)
  rw [HF.out] at HFI
  have hR := blk_new w1 126 (opV op) w1.heap.size rfl
  have hb2 := bnew w1 (.cells (opV op) 126)
  have hR3 := fun W (hW : Below (w1.alloc (.cells (opV op) 126)).heap.size (w1.alloc (.cells (opV op) 126)) W) => hR.next hW
  unfold opV at hR hb2 HFI hR3 ⊢
  go_wp2_with fail
  refine (HFI.out _).mono ?_
  rintro e w2 ⟨rfl, hb3⟩
  have q3 := (hR3 w2 hb3).cell 3
  have q4 := (hR3 w2 hb3).cell 4
  simp at q3 q4
  have hbb := bon (bon (bon hb0 hb1) hb2) hb3
  have HBB := Lib.hid hbb
  clear hR hR3 hb2 hb3 hbb
  go_wp2_with fail
  refine (insist_yes w2).mono ?_
  rintro e w3 ⟨⟨v, rfl⟩, rfl⟩
  go_wp2_with fail
  go_ret
  exact ⟨rfl, HBB.out⟩

set_option maxRecDepth 100000 in
set_option maxHeartbeats 2000000 in
/-- .. and where it doesn't. -/
theorem behind_no (tp : TypeId) (pv : Value) (op a h : Int) (w : World) (ho : 0 ≤ op ∧ op ≤ 11) (hf : fitB op h = false) (hs : Stuck tp pv w) :
    Calls Tryz.prog 61 #[.agg #[.int .i64 op, .int .i64 a], .int .i64 h] w fun e w' => e = .panicked [{ v := .iface tp pv, recovered := false }] ∧ Below w.heap.size w w' := by
  have hb0 := bnew w (.cells #[.int .i64 op, .int .i64 a] 92)
  have HF := Lib.hid hf
  have HS := Lib.hid hs
  clear hf hs
  go_enter Tryz.func61, Tryz.ntmps61
  go_wp2_with fail
  generalize w.alloc (.cells #[.int .i64 op, .int .i64 a] 92) = W at hb0 ⊢
  refine (form_c op a W ho).mono ?_
  rintro e w1 ⟨rfl, hb1⟩
  have HFI := Lib.hid (fun W => fits_c op h W)
  rw [HF.out] at HFI
  have hb2 := bnew w1 (.cells (opV op) 126)
  unfold opV at hb2 HFI ⊢
  go_wp2_with fail
  refine (HFI.out _).mono ?_
  rintro e w2 ⟨rfl, hb3⟩
  have hbb := bon (bon (bon hb0 hb1) hb2) hb3
  have HBB := Lib.hid hbb
  clear hb2 hb3 hbb
  go_wp2_with fail
  refine (insist_no tp pv w2 (HS.out.next HBB.out)).mono ?_
  rintro e w3 ⟨rfl, rfl⟩
  go_wp2_with fail
  exact ⟨rfl, rfl, HBB.out⟩
end Go.Proofs.YtffkdidgfeknkaaGreatDoor

/-! spread at stackBehind: heights, or a panic. Conditions: valid code; the program's own error lies in its variable. -/
namespace Go.Proofs.YtffkdidgfeknkaaGreatDoor
set_option linter.unusedVariables false
open Go.RowKit

/-- The height behind an instruction, where the stack fits. -/
def bhH (x : Int × Int) (h : Int) : Option Int := if fitB x.1 h = true then some (h - popB x.1 + pushB x.1) else none
/-- What holds of heights throughout, or N. -/
structure GoesOr (xs : List (Int × Int)) (I : List Int → Prop) (N : Prop) : Prop where
  fit : ∀ (k : Nat) (x : Int × Int) (K : List Int), xs[k]? = some x → I K → K.getD k 0 ≠ -1 → (-10 ≤ K.getD k 0 ∧ K.getD k 0 ≤ 10) ∧ (fitB x.1 (K.getD k 0) = false → N)
  put : ∀ (k : Nat) (x : Int × Int) (K : List Int), xs[k]? = some x → I K → K.getD k 0 ≠ -1 → fitB x.1 (K.getD k 0) = true → ∀ t ∈ tgt1 x.1 x.2 k, ∀ L, I L → Ext K L →
    ((L.getD t.toNat 0 = -1 ∨ L.getD t.toNat 0 = K.getD k 0 - popB x.1 + pushB x.1) → I (L.set t.toNat (K.getD k 0 - popB x.1 + pushB x.1))) ∧ (¬ (L.getD t.toNat 0 = -1 ∨ L.getD t.toNat 0 = K.getD k 0 - popB x.1 + pushB x.1) → N)

set_option maxRecDepth 100000 in
set_option maxHeartbeats 4000000 in
theorem spreadB_c (tp : TypeId) (pv : Value) (N : Prop) (A : Option Addr) (n c B : Nat) (xs : List (Int × Int)) (w : World) (h : InC w B A n xs) (hB : B ≤ w.heap.size) (hv : codeB xs = true) (I : List Int → Prop) (hb : GoesOr xs I N) (hI : I heights0) (hs : Stuck tp pv w) :
    Calls Tryz.prog 60 #[.slice A n c, .func (.func 61) #[] #[]] w fun e w' => (∃ K, e = .returned (.agg (K.map ic).toArray) ∧ SprTo xs bhH I K ∧ Below w.heap.size w w') ∨ (e = .panicked [{ v := .iface tp pv, recovered := false }] ∧ N ∧ Below w.heap.size w w') := by
  have HST := Lib.hid hs
  clear hs
  have hxn : xs.length = n := h.1
  have hp := codeB_parts hv
  have hn80 : 1 ≤ n ∧ n ≤ 80 := by omega
  have HI := Lib.hid h
  have HT := Lib.hid (tgt_in hv)
  have HV := Lib.hid hv
  have HG := Lib.hid hb
  have HI0 := Lib.hid hI
  have hM0 : SpM w (((w.alloc (.cells Tryz.zeroCells100 100)).alloc (.cells Tryz.zeroCells100 100)).alloc (.cells Tryz.zeroCells100 100)) (List.replicate 81 0) (List.replicate 81 0) := by
    rw [zero42]
    have b0 := bnew w (.cells (hc (List.replicate 81 0)) 100)
    have b1 := bnew (w.alloc (.cells (hc (List.replicate 81 0)) 100)) (.cells (hc (List.replicate 81 0)) 100)
    have b2 := bnew ((w.alloc (.cells (hc (List.replicate 81 0)) 100)).alloc (.cells (hc (List.replicate 81 0)) 100)) (.cells (hc (List.replicate 81 0)) 100)
    have r0 := ((ArrIs.new w (K := List.replicate 81 0) (by simp)).next b1).next b2
    have r1 := (ArrIs.new (w.alloc (.cells (hc (List.replicate 81 0)) 100)) (K := List.replicate 81 0) (by simp)).next b2
    have r2 := ArrIs.new ((w.alloc (.cells (hc (List.replicate 81 0)) 100)).alloc (.cells (hc (List.replicate 81 0)) 100)) (K := List.replicate 81 0) (by simp)
    rw [World.size_alloc] at r1
    rw [World.size_alloc, World.size_alloc] at r2
    exact ⟨r0, r1, r2, bon (bon b0 b1) b2⟩
  clear h hp hv hb hI
  go_enter Tryz.func60, Tryz.ntmps60
  go_upto_region 3 with fail
  generalize (((w.alloc (.cells Tryz.zeroCells100 100)).alloc (.cells Tryz.zeroCells100 100)).alloc (.cells Tryz.zeroCells100 100)) = W at hM0 ⊢
  go_loopw [13] (fun i wr => ∃ j : Nat, j ≤ 81 ∧ i = .int .i64 j ∧ SpM w wr (fstH j) (List.replicate 81 0)) (fun i _ => 81 - (intOf i).toNat)
  case atStart => exact ⟨0, by omega, rfl, hM0⟩
  case round =>
    clear hM0
    obtain ⟨j, hj, rfl, hM⟩ := hrel
    by_cases hlt : j < 81
    · have z1 := hM.known.at_ hlt
      have f1 := hM.known.frozen j
      have hM1 := hM.set j (-1)
      rw [fstH_set hlt] at hM1
      have HM1 := Lib.hid hM1
      clear hM hM1
      go_wp2_with fail
      go_roundw
      case rel => exact ⟨j + 1, by omega, by go_num, HM1.out⟩
      case measure => simp [intOf]; omega
    · have ej : Hid (j = 81) := by show j = 81; omega
      have hlt' : ¬ (j : Int) < 81 := by omega
      rw [ej.out] at hM
      have z0 := hM.known.at_ (i := 0) (by omega)
      have f0 := hM.known.frozen 0
      have hM1 := hM.set 0 0
      rw [fstH_end] at hM1
      clear hM hlt hj ej
      go_upto_region 8 with fail
      generalize wr.setCell ⟨w.heap.size + 1, 0, none⟩ (.int .i64 0) = W1 at hM1 ⊢
      clear z0 f0
      have hS0 : SprAt xs bhH I heights0 (List.replicate 81 0) := SprAt.init HI0.out
      go_loopw [26] (fun _ wr => ∃ K Bf, SprAt xs bhH I K Bf ∧ SpM w wr K Bf) (fun _ wr => leftH (readH wr (w.heap.size + 1)) (readH wr (w.heap.size + 1 + 1)))
      case atStart => exact ⟨_, _, hS0, hM1⟩
      case round =>
        clear hM1 hS0
        obtain ⟨K, Bf, hS, hM⟩ := hrel
        have hr1 := readH_is hM.known
        have hr2 := readH_is hM.before
        by_cases hKB : K = Bf
        · subst hKB
          have hD := Lib.hid hS.done
          have e1 : (K == K) = true := by simp
          have e2 := arr_loop wr K K hM.known.2 hM.known.2
          have hR := (hM.res.store hM.known.2)
          have hg := grown_setCells w.heap.size (K.map ic) 0 wr
          have hbw : Below w.heap.size w (wr.setCells w.heap.size 0 (K.map ic)) := hM.below.grown hg hM.below.size (fun k hk => by have := Option.some.inj hk; omega)
          have k1 := hM.known
          have k2 := hM.before
          have k0 := hM.res
          clear hM hS hr1 hr2
          go_wp2_with (first | (refine load_hc rfl _ rfl (w.heap.size + 1) rfl k1 ?_) | (refine load_hc rfl _ rfl (w.heap.size + 1 + 1) rfl k2 ?_) | (refine store_hc rfl _ _ rfl w.heap.size rfl rfl k0 k1.2 ?_))
          refine bodyPost_ret (results_hc rfl _ _ w.heap.size K rfl hR) rfl ?_
          exact .inl ⟨K, rfl, hD.out, hbw⟩
        · have e1 : (K == Bf) = false := by simp [hKB]
          have e2 := arr_loop wr K Bf hM.known.2 hM.before.2
          have hM1 := hM.save
          have k1 := hM.known
          have k2 := hM.before
          have HS := Lib.hid hS
          have hl81 := hS.len
          have hSw0 : SwpTo xs bhH I K 0 K := SwpTo.nil hS.inv hS.len
          clear hM hS
          go_upto_region 11 with (first | (refine load_hc rfl _ rfl (w.heap.size + 1) rfl k1 ?_) | (refine load_hc rfl _ rfl (w.heap.size + 1 + 1) rfl k2 ?_) | (refine store_hc rfl _ _ rfl (w.heap.size + 1 + 1) rfl rfl k2 k1.2 ?_))
          generalize wr.setCells (w.heap.size + 1 + 1) 0 (K.map ic) = W2 at hM1 ⊢
          clear k1 k2 e2
          go_loopw [26] (fun i wr => ∃ (j : Nat) (L : List Int), j ≤ n ∧ i = .int .i64 j ∧ SwpTo xs bhH I K j L ∧ SpM w wr L K) (fun i _ => n - (intOf i).toNat)
          case atStart => exact ⟨0, K, Nat.zero_le _, rfl, hSw0, hM1⟩
          case round =>
            clear hM1 hSw0
            obtain ⟨j, L, hj, rfl, hSw, hM⟩ := hrel
            by_cases hlt : j < n
            · have hjx : j < xs.length := by omega
              have hx : xs[j]? = some xs[j] := List.getElem?_eq_getElem hjx
              have hIw := HI.out.next hM.below hB
              obtain ⟨bb, off, x, rfl, hbb, hx', q0, q1⟩ := hIw.at_ hlt
              obtain rfl : xs[j] = x := by rw [hx] at hx'; exact Option.some.inj hx'
              have hb3 := bnew wr (.cells #[.int .i64 xs[j].1, .int .i64 xs[j].2] 92)
              have hX : BlkIs (wr.alloc (.cells #[.int .i64 xs[j].1, .int .i64 xs[j].2] 92)) wr.heap.size 92 #[.int .i64 xs[j].1, .int .i64 xs[j].2] := blk_new _ _ _ _ rfl
              have hM2 := hM.next hb3
              have c1 := hM2.known.at_ (i := j) (by omega)
              obtain ⟨hj0, ehj⟩ : ∃ hj0, Hid (L.getD j 0 = hj0) := ⟨_, rfl⟩
              rw [ehj.out] at c1
              have HX := Lib.hid hx
              have HSW := Lib.hid hSw
              have hKN := hM.before.lt
              have hLl : L.length = 81 := hM.known.2
              clear hx' hIw hx hSw
              by_cases hun : hj0 = -1
              · subst hun
                have HSK := Lib.hid (HSW.out.skip ehj.out)
                go_wp2_with fail
                go_roundw
                case rel => exact ⟨j + 1, L, by omega, by go_num, HSK.out, hM2⟩
                case measure => simp [intOf]; omega
              · have eun : (hj0 == -1) = false := by simp; exact hun
                obtain ⟨hbnd, hnf⟩ := HG.out.fit j xs[j] L HX.out HSW.out.inv (by rw [ehj.out]; exact hun)
                rw [ehj.out] at hbnd hnf
                have hib := instrB_parts (codeB_at HV.out HX.out)
                have hop : 0 ≤ xs[j].1 ∧ xs[j].1 ≤ 11 := ⟨hib.1, hib.2.1⟩
                have HPUT := Lib.hid (HG.out.put j xs[j] L HX.out HSW.out.inv (by rw [ehj.out]; exact hun))
                rw [ehj.out] at HPUT
                have HNF := Lib.hid hnf
                clear hib hnf
                have xc0 : (wr.alloc (.cells #[.int .i64 xs[j].1, .int .i64 xs[j].2] 92)).cell? ⟨wr.heap.size, 0, none⟩ = some (.int .i64 xs[j].1) := hX.cell 0
                have xc1 : (wr.alloc (.cells #[.int .i64 xs[j].1, .int .i64 xs[j].2] 92)).cell? ⟨wr.heap.size, 1, none⟩ = some (.int .i64 xs[j].2) := hX.cell 1
                go_upto_region 14 with fail
                generalize hW3 : wr.alloc (.cells #[.int .i64 xs[j].1, .int .i64 xs[j].2] 92) = W3 at hb3 hM2 c1 xc0 xc1 hX ⊢
                clear hX
                have hj81 : (j : Int) < 81 := by omega
                by_cases hfit : fitB xs[j].1 hj0 = false
                · have HSK3 : Hid (Stuck tp pv W3.drew) := HST.out.next hM2.below.drew
                  refine wp_region_held_drew (S := fun w' => w'.cell? ⟨wr.heap.size, 0, none⟩ = some (.int .i64 xs[j].1) ∧ w'.cell? ⟨wr.heap.size, 1, none⟩ = some (.int .i64 xs[j].2) ∧ w'.cell? ⟨w.heap.size + 1, j, none⟩ = some (.int .i64 hj0)) (by kernel_rfl) ⟨xc0, xc1, c1⟩ ?_
                  intro hHeld0
                  refine wpAnyH_take (i := 0) (v := ?_) rfl (by kernel_rfl) (by kernel_rfl) (by kernel_rfl) (fun _ _ _ h => h) (Or.inl ⟨by kernel_rfl, ?_⟩) (by assumption) ?_
                  rotate_left
                  · intro w9 hS9; obtain ⟨s1, s2, s3⟩ := hS9; go_simp; (try with_reducible rfl)
                  set_option linter.unusedSimpArgs false in try simp only [Act.put, List.getElem_toArray, List.getElem_cons_succ, List.getElem_cons_zero, List.setIfInBounds_toArray, List.set_cons_zero, List.set_cons_succ]
                  refine wpAnyH_take (i := 1) (v := ?_) rfl (by kernel_rfl) (by kernel_rfl) (by kernel_rfl) (fun _ _ _ h => h) (Or.inl ⟨by kernel_rfl, ?_⟩) (by assumption) ?_
                  rotate_left
                  · intro w9 hS9; obtain ⟨s1, s2, s3⟩ := hS9; go_simp; (try with_reducible rfl)
                  set_option linter.unusedSimpArgs false in try simp only [Act.put, List.getElem_toArray, List.getElem_cons_succ, List.getElem_cons_zero, List.setIfInBounds_toArray, List.set_cons_zero, List.set_cons_succ]
                  refine wpAnyH_take (i := 2) (v := ?_) rfl (by kernel_rfl) (by kernel_rfl) (by kernel_rfl) (fun _ _ _ h => h) (Or.inl ⟨by kernel_rfl, ?_⟩) (by assumption) ?_
                  rotate_left
                  · intro w9 hS9; obtain ⟨s1, s2, s3⟩ := hS9; go_simp; (try with_reducible rfl)
                  set_option linter.unusedSimpArgs false in try simp only [Act.put, List.getElem_toArray, List.getElem_cons_succ, List.getElem_cons_zero, List.setIfInBounds_toArray, List.set_cons_zero, List.set_cons_succ]
                  refine wpAnyH_take (i := 3) (v := ?_) rfl (by kernel_rfl) (by kernel_rfl) (by kernel_rfl) (fun _ _ _ h => h) (Or.inl ⟨by kernel_rfl, ?_⟩) (by assumption) ?_
                  rotate_left
                  · intro w9 hS9; obtain ⟨s1, s2, s3⟩ := hS9; go_simp; (try with_reducible rfl)
                  set_option linter.unusedSimpArgs false in try simp only [Act.put, List.getElem_toArray, List.getElem_cons_succ, List.getElem_cons_zero, List.setIfInBounds_toArray, List.set_cons_zero, List.set_cons_succ]
                  refine wpAnyH_take (i := 4) (v := ?_) rfl (by kernel_rfl) (by kernel_rfl) (by kernel_rfl) (fun _ _ _ h => h) (Or.inl ⟨by kernel_rfl, ?_⟩) (by assumption) ?_
                  rotate_left
                  · intro w9 hS9; obtain ⟨s1, s2, s3⟩ := hS9; go_simp; (try with_reducible rfl)
                  set_option linter.unusedSimpArgs false in try simp only [Act.put, List.getElem_toArray, List.getElem_cons_succ, List.getElem_cons_zero, List.setIfInBounds_toArray, List.set_cons_zero, List.set_cons_succ]
                  refine wpAnyH_ready (rs := [5]) (by kernel_rfl) (by simp) ?_
                  refine AllReadyH.cons rfl (fun K hK => ?_) (AllReadyH.nil)
                  go_simp
                  go_wp2_with (go_at_call 61; refine (behind_no tp pv xs[j].1 xs[j].2 hj0 _ hop hfit HSK3.out).mono ?_; rintro e w1 ⟨rfl, hb1⟩)
                  exact ⟨rfl, .inr ⟨rfl, HNF.out hfit, bon hM2.below (bstep hb1)⟩⟩
                have hfit2 : fitB xs[j].1 hj0 = true := by cases e : fitB xs[j].1 hj0 with | true => rfl | false => exact absurd e hfit
                have HBK := Lib.hid (fun W => behind_ok xs[j].1 xs[j].2 hj0 W hop hfit2 hbnd)
                have HPT := Lib.hid (HPUT.out hfit2)
                obtain ⟨nh, hnh⟩ : ∃ nh, Hid (hj0 - popB xs[j].1 + pushB xs[j].1 = nh) := ⟨_, Lib.hid rfl⟩
                have HBH : Hid (bhH xs[j] (L.getD j 0) = some nh) := by show _ = _; unfold bhH; rw [ehj.out, if_pos hfit2, hnh.out]
                rw [hnh.out] at HBK HPT
                have hnz : ¬ nh = -1 := by
                  have e1 := hfit2
                  unfold fitB at e1
                  simp at e1
                  have e2 := pushB_01 xs[j].1
                  have := hnh.out; omega
                have hnz2 : (nh == -1) = false := beq_eq_false_iff_ne.2 hnz
                clear hfit hfit2 hbnd HPUT
                go_region_held3 (fun w' => w'.cell? ⟨wr.heap.size, 0, none⟩ = some (.int .i64 xs[j].1) ∧ w'.cell? ⟨wr.heap.size, 1, none⟩ = some (.int .i64 xs[j].2) ∧ w'.cell? ⟨w.heap.size + 1, j, none⟩ = some (.int .i64 hj0))
                  (first | go_keep | exact ⟨cell_on xc0 hb1, cell_on xc1 hb1, cell_on c1 hb1⟩ | fail)
                  (first | (go_at_call 61; refine (HBK.out _).mono ?_; rintro e w1 ⟨rfl, hb1⟩) | fail)
                have hM3 := hM2.next (bstep hb1)
                have hTC := Lib.hid (targetsOf_c (some ⟨bb, off, none⟩) n c B xs j xs[j] w1 (HI.out.next hM3.below hB) (Nat.le_trans hB hM3.below.size) HX.out (by omega) (codeB_at HV.out HX.out))
                clear hM2 xc0 xc1 c1 hM hb3
                go_wp2_with fail
                refine hTC.out.mono ?_
                rintro e w4 ⟨At, ct, rfl, hown, hb4⟩
                have hM4 := hM3.next hb4
                have hta := hown.all
                have htl := tgt_len xs[j].1 xs[j].2 j
                have HTI := Lib.hid (HT.out j xs[j] HX.out)
                have hP0 : PutTo I nh L [] L := PutTo.nil HSW.out.inv
                obtain ⟨ys, hys⟩ : ∃ ys, Hid (tgt1 xs[j].1 xs[j].2 j = ys) := ⟨_, Lib.hid rfl⟩
                rw [hys.out] at hown hta htl HTI HPT ⊢
                clear hTC hb4 hM3
                go_upto_region 16 with fail
                have hw1 : w.heap.size + 2 ≤ w1.heap.size := by have := hM4.known.lt; have h5 := (bstep hb1).size; rw [← hW3, World.size_alloc] at h5; have := hKN; omega
                go_loopw [45] (fun i wr => ∃ (m : Nat) (M : List Int), m ≤ ys.length ∧ i = .int .i64 m ∧ PutTo I nh L (ys.take m) M ∧ SpM w wr M K ∧ Out (w.heap.size + 1) (w.heap.size + 2) w4 wr) (fun i _ => ys.length - (intOf i).toNat)
                case atStart => exact ⟨0, L, Nat.zero_le _, rfl, hP0, hM4, Out.refl _ _ _⟩
                case round =>
                  clear hM4 hP0
                  rename World => wt
                  obtain ⟨m, M, hm, rfl, hP, hM, hO⟩ := hrel
                  by_cases hlm : m < ys.length
                  · have hrow := (hown.out hO (.inl hw1)).inn
                    obtain ⟨bt, ot, t, rfl, hbt, ht, hct⟩ := hrow.2.int_at (k := m) hlm
                    have htm : t ∈ ys := List.mem_of_getElem? ht
                    obtain ⟨t0, t1⟩ := HTI.out t htm
                    obtain ⟨a3, a4⟩ := HPT.out t htm M hP.inv hP.ext
                    by_cases a1 : ¬ (M.getD t.toNat 0 = -1 ∨ M.getD t.toNat 0 = nh)
                    · have HNN := Lib.hid (a4 a1)
                      obtain ⟨k, rfl⟩ : ∃ k : Nat, t = (k : Int) := ⟨t.toNat, by omega⟩
                      rw [Int.toNat_natCast] at a1
                      have c1 := hM.known.at_ (i := k) (by omega)
                      have hk81 : (k : Int) < 81 := by omega
                      obtain ⟨hk0, ehk⟩ : ∃ hk0, Hid (M.getD k 0 = hk0) := ⟨_, Lib.hid rfl⟩
                      rw [ehk.out] at c1 a1
                      have i7 : (hk0 == -1) = false := beq_eq_false_iff_ne.2 (fun e => a1 (.inl e))
                      have i8 : (hk0 == nh) = false := beq_eq_false_iff_ne.2 (fun e => a1 (.inr e))
                      have i9 : ¬ hk0 = -1 := fun e => a1 (.inl e)
                      have i10 : ¬ hk0 = nh := fun e => a1 (.inr e)
                      have HSK4 := Lib.hid (HST.out.next hM.below)
                      have HBM := Lib.hid hM.below
                      clear hM hO hP hrow ht htm a1 a3 a4
                      go_wp2_with fail
                      refine (insist_no tp pv wt HSK4.out).mono ?_
                      rintro e w5 ⟨rfl, rfl⟩
                      go_wp2_with fail
                      exact ⟨rfl, .inr ⟨rfl, HNN.out, HBM.out⟩⟩
                    replace a1 := Classical.not_not.1 a1
                    have a2 := a3 a1
                    clear a3 a4
                    have hP1 := Lib.hid (hP.more (by have := hM.known.2; omega) a1 a2)
                    obtain ⟨k, rfl⟩ : ∃ k : Nat, t = (k : Int) := ⟨t.toNat, by omega⟩
                    rw [Int.toNat_natCast] at a1 hP1
                    have htk : ys.take m ++ [(k : Int)] = ys.take (m + 1) := by rw [List.take_add_one, ht]; rfl
                    rw [htk] at hP1
                    have c1 := hM.known.at_ (i := k) (by omega)
                    have f1 := hM.known.frozen k
                    have hM1 := hM.set k nh
                    have hk81 : (k : Int) < 81 := by omega
                    have hO1 : Out (w.heap.size + 1) (w.heap.size + 2) w4 (wt.setCell ⟨w.heap.size + 1, k, none⟩ (.int .i64 nh)) := out_set hO (by omega)
                    obtain ⟨hk0, ehk⟩ : ∃ hk0, Hid (M.getD k 0 = hk0) := ⟨_, Lib.hid rfl⟩
                    rw [ehk.out] at c1 a1
                    clear hM hO hP hrow ht htm
                    rcases a1 with rfl | a1
                    · go_wp2_with fail
                      refine (insist_yes wt).mono ?_
                      rintro e w5 ⟨⟨v, rfl⟩, rfl⟩
                      go_wp2_with fail
                      go_roundw
                      case rel => exact ⟨m + 1, _, by omega, by go_num, hP1.out, hM1, hO1⟩
                      case measure => simp [intOf]; omega
                    · rw [a1] at c1
                      clear a1
                      go_wp2_with fail
                      refine (insist_yes wt).mono ?_
                      rintro e w5 ⟨⟨v, rfl⟩, rfl⟩
                      go_wp2_with fail
                      go_roundw
                      case rel => exact ⟨m + 1, _, by omega, by go_num, hP1.out, hM1, hO1⟩
                      case measure => simp [intOf]; omega
                  · obtain rfl : m = ys.length := by omega
                    rw [List.take_length] at hP
                    have hD := Lib.hid (HSW.out.done HX.out HBH.out (by rw [hys.out]; exact hP))
                    go_wp2_with fail
                    go_roundw
                    case rel => exact ⟨j + 1, M, by omega, by go_num, hD.out, hM⟩
                    case measure => simp [intOf]; omega
            · obtain rfl : j = n := by omega
              have hN := hSw
              rw [← hxn] at hN
              have hS2 := Lib.hid (HS.out.next hN)
              have hE := hSw.ext
              go_wp2_with fail
              go_roundw
              case rel => exact ⟨L, K, hS2.out, hM⟩
              case measure => rw [hr1, hr2, readH_is hM.known, readH_is hM.before]; exact leftH_less hE hKB

end Go.Proofs.YtffkdidgfeknkaaGreatDoor

/-! What the program's sweeps at stackBehind keep: every good list of heights agrees. Conditions: valid code. -/
namespace Go.Proofs.YtffkdidgfeknkaaGreatDoor
set_option linter.unusedVariables false
open Go.RowKit

structure HgtI (xs : List (Int × Int)) (K : List Int) : Prop where
  len : K.length = 81
  zero : K.getD 0 0 = 0
  low : ∀ i : Nat, i < 81 → K.getD i 0 = -1 ∨ (0 ≤ K.getD i 0 ∧ K.getD i 0 ≤ 6)
  under : ∀ G, GoodH xs G → ∀ i : Nat, i < 81 → K.getD i 0 ≠ -1 → i < xs.length ∧ G[i]? = some (K.getD i 0)
theorem getD_setH {L : List Int} {k i : Nat} {h : Int} (hk : k < L.length) : (L.set k h).getD i 0 = if k = i then h else L.getD i 0 := by
  rw [List.getD_eq_getElem?_getD, List.getElem?_set]
  split
  · rename_i e
    simp
  · rw [← List.getD_eq_getElem?_getD]
theorem opN_is {xs : List (Int × Int)} {k : Nat} {x : Int × Int} (hx : xs[k]? = some x) : opN xs k = x.1 := by unfold opN; rw [List.getD_eq_getElem?_getD, hx]; rfl
theorem tgtN_is {xs : List (Int × Int)} {k : Nat} {x : Int × Int} (hx : xs[k]? = some x) : tgtN xs k = tgt1 x.1 x.2 k := by unfold tgtN; rw [List.getD_eq_getElem?_getD, hx]; rfl
theorem fitB_fitH {xs : List (Int × Int)} {k : Nat} {x : Int × Int} {h : Int} (hx : xs[k]? = some x) : fitB x.1 h = true ↔ fitH xs k h := by
  unfold fitB fitH hgB
  rw [opN_is hx]
  simp
  omega
theorem HgtI.init {xs : List (Int × Int)} (hn : 1 ≤ xs.length) : HgtI xs heights0 := by
  have hz : ∀ i : Nat, i < 81 → heights0.getD i 0 = if i = 0 then 0 else -1 := fun i hi => by
    cases i with
    | zero => rfl
    | succ i =>
      unfold heights0
      rw [List.getD_cons_succ, List.getD_eq_getElem?_getD, List.getElem?_replicate, if_pos (by omega)]
      rfl
  refine ⟨heights0_len, rfl, fun i hi => ?_, fun G hG i hi hne => ?_⟩
  · rw [hz i hi]; split <;> omega
  · rw [hz i hi] at hne ⊢
    by_cases e : i = 0
    · subst e; exact ⟨by omega, hG.zero⟩
    · rw [if_neg e] at hne; exact absurd rfl hne
theorem hgtI_on {xs : List (Int × Int)} (hc : codeB xs = true) : GoesOr xs (HgtI xs) (∀ G, ¬ GoodH xs G) := by
  have hl := (codeB_parts hc).2.1
  refine ⟨fun k x K hx hI hne => ⟨?_, fun hf G hG => ?_⟩, fun k x K hx hI hne hf t ht L hL hE => ⟨fun h1 => ?_, fun h1 G hG => ?_⟩⟩
  · have hk : k < xs.length := (List.getElem?_eq_some_iff.1 hx).1
    rcases hI.low k (by omega) with e | e
    · exact absurd e hne
    · omega
  · have hk : k < xs.length := (List.getElem?_eq_some_iff.1 hx).1
    obtain ⟨_, e⟩ := hI.under G hG k (by omega) hne
    have h0 : 0 ≤ K.getD k 0 := by rcases hI.low k (by omega) with e | e; exact absurd e hne; exact e.1
    have := (fitB_fitH hx).2 (hG.step k _ e h0).1
    rw [hf] at this; cases this
  all_goals
    have hk : k < xs.length := (List.getElem?_eq_some_iff.1 hx).1
    obtain ⟨t0, t1⟩ := tgt_in hc k x hx t ht
    have h0 : 0 ≤ K.getD k 0 := by rcases hI.low k (by omega) with e | e; exact absurd e hne; exact e.1
    have hstep : ∀ G, GoodH xs G → t < xs.length ∧ G[t.toNat]? = some (K.getD k 0 - popB x.1 + pushB x.1) := fun G hG => by
      have := (hG.step k _ (hI.under G hG k (by omega) hne).2 h0).2 t (by rw [tgtN_is hx]; exact ht)
      unfold hgB at this
      rw [opN_is hx] at this
      exact this
    have hfh := (fitB_fitH hx).1 hf
    have hge := hfh.ge
    have hle := hfh.2
    unfold hgB at hge hle
    rw [opN_is hx] at hge hle
  · have htl : t.toNat < L.length := by rw [hL.len]; omega
    refine ⟨by rw [List.length_set]; exact hL.len, ?_, fun i hi => ?_, fun G hG i hi hn2 => ?_⟩
    · rw [getD_setH htl]
      split
      · rename_i e
        rw [e, hL.zero] at h1
        rcases h1 with h1 | h1 <;> omega
      · exact hL.zero
    · rw [getD_setH htl]
      split
      · right; omega
      · exact hL.low i hi
    · rw [getD_setH htl] at hn2 ⊢
      split at hn2
      · rename_i e
        rw [if_pos e]
        obtain ⟨a, b⟩ := hstep G hG
        rw [← e]
        exact ⟨by omega, b⟩
      · rename_i e
        rw [if_neg e]
        exact hL.under G hG i hi hn2
  · obtain ⟨a, b⟩ := hL.under G hG t.toNat (by omega) (fun e => h1 (.inl e))
    obtain ⟨c, d⟩ := hstep G hG
    rw [b] at d
    exact h1 (.inr (Option.some.inj d))
/-- A height behind the code: no good list. -/
theorem none_of_spr {xs : List (Int × Int)} {K : List Int} (h : HgtI xs K) {i : Nat} (hi : i < 81) (hn : xs.length ≤ i) (hne : K.getD i 0 ≠ -1) : ∀ G, ¬ GoodH xs G :=
  fun G hG => by have := (h.under G hG i hi hne).1; omega
/-- No height behind the code: the least list. -/
theorem least_of_spr {xs : List (Int × Int)} {K : List Int} (hc : codeB xs = true) (h : SprTo xs bhH (HgtI xs) K) (hall : ∀ i : Nat, xs.length ≤ i → i < 81 → K.getD i 0 = -1) : LeastH xs (K.take xs.length) := by
  have hl := (codeB_parts hc).2.1
  have hl1 := (codeB_parts hc).1
  have hat : ∀ i : Nat, i < xs.length → (K.take xs.length)[i]? = some (K.getD i 0) := fun i hi => by
    rw [List.getElem?_take_of_lt hi, List.getD_eq_getElem?_getD, List.getElem?_eq_getElem (by rw [h.len]; omega)]; rfl
  have hlen : (K.take xs.length).length = xs.length := by rw [List.length_take, h.len]; omega
  refine leastH_of hlen (by rw [hat 0 (by omega), h.inv.zero]) (fun z hz => ?_) (fun G hG k a hk ha => ?_) (fun k a hk ha => ?_)
  · obtain ⟨i, hi, e⟩ := List.mem_iff_getElem.1 hz
    have h1 := hat i (by omega)
    rw [List.getElem?_eq_getElem hi, e] at h1
    have h2 := Option.some.inj h1
    rcases h.inv.low i (by omega) with q | q <;> omega
  · have hkl : k < xs.length := by have := (List.getElem?_eq_some_iff.1 hk).1; omega
    rw [hat k hkl] at hk
    have e := Option.some.inj hk
    have := (h.inv.under G hG k (by omega) (by omega)).2
    rw [e] at this; exact this
  · have hkl : k < xs.length := by have := (List.getElem?_eq_some_iff.1 hk).1; omega
    rw [hat k hkl] at hk
    have e := Option.some.inj hk
    have hx : xs[k]? = some xs[k] := List.getElem?_eq_getElem hkl
    obtain ⟨g, hb, ht⟩ := h.closed k _ hkl hx (by omega)
    rw [e] at hb
    unfold bhH at hb
    by_cases hf : fitB xs[k].1 a = true
    · rw [if_pos hf] at hb
      have hg := Option.some.inj hb
      have hfh := (fitB_fitH hx).1 hf
      have hge := hfh.ge
      have hgb : hgB xs k a = g := by unfold hgB; rw [opN_is hx]; exact hg
      refine ⟨hfh, fun t htt => ?_⟩
      rw [tgtN_is hx] at htt
      obtain ⟨t0, t1⟩ := tgt_in hc k _ hx t htt
      have hv := ht t htt
      have htn : t.toNat < xs.length := by
        rcases Nat.lt_or_ge t.toNat xs.length with q | q
        · exact q
        · have := hall t.toNat q (by omega); omega
      exact ⟨by omega, by rw [hat t.toNat htn, hv, hgb]⟩
    · rw [if_neg hf] at hb; cases hb
end Go.Proofs.YtffkdidgfeknkaaGreatDoor

/-! StackHeights$1: the least heights, or a panic. Conditions: valid code; the program's own error lies in its variable. -/
namespace Go.Proofs.YtffkdidgfeknkaaGreatDoor
set_option linter.unusedVariables false
open Go.RowKit

set_option maxRecDepth 100000 in
set_option maxHeartbeats 4000000 in
theorem heights1_c (q : Nat) (A : Option Addr) (n c B : Nat) (xs : List (Int × Int)) (tp : TypeId) (pv : Value) (w : World) (h : InC w B A n xs) (hB : B ≤ w.heap.size) (hv : codeB xs = true) (hq : w.cell? ⟨q, 0, none⟩ = some (.slice A n c)) (hql : q < w.heap.size) (hs : Stuck tp pv w) :
    Calls Tryz.prog 59 #[.pointer (some ⟨q, 0, none⟩)] w fun e w' => (∃ L A' c', e = .returned (.slice A' n c') ∧ LeastH xs L ∧ OwnL w' w.heap.size w'.heap.size A' n c' L ∧ Below w.heap.size w w') ∨ (e = .panicked [{ v := .iface tp pv, recovered := false }] ∧ (∀ G, ¬ GoodH xs G) ∧ Below w.heap.size w w') := by
  have hlen : xs.length = n := h.1
  have hp := codeB_parts hv
  have hn80 : n ≤ 80 ∧ 1 ≤ n := by omega
  have HLN := Lib.hid hlen
  have HV := Lib.hid hv
  have HS := Lib.hid hs
  have HSP := Lib.hid (spreadB_c tp pv (∀ G, ¬ GoodH xs G) A n c B xs w h hB hv (HgtI xs) (hgtI_on hv) (HgtI.init hp.1) hs)
  clear h hv hs hp hlen
  go_enter Tryz.func59, Tryz.ntmps59
  go_wp2_with fail
  refine HSP.out.mono ?_
  rintro e w2 (⟨K, rfl, hK, hb2⟩ | ⟨rfl, hN, hb2⟩)
  · have hKl := hK.len
    have HK := Lib.hid hK
    have hq2 := cell_next hq hb2
    have hZ : ArrIs (w2.alloc (.cells Tryz.zeroCells100 100)) w2.heap.size (List.replicate 81 0) := by rw [zero42]; exact ArrIs.new w2 (by simp)
    have hb3 := bnew w2 (.cells Tryz.zeroCells100 100)
    have hR3 := hZ.store hKl
    have hg3 := grown_setCells w2.heap.size (K.map ic) 0 (w2.alloc (.cells Tryz.zeroCells100 100))
    have hb4 : Below w2.heap.size w2 ((w2.alloc (.cells Tryz.zeroCells100 100)).setCells w2.heap.size 0 (K.map ic)) := hb3.grown hg3 hb3.size (fun k hk => by have := Option.some.inj hk; omega)
    have hq4 := cell_next hq2 hb4
    have HBW := Lib.hid (bon hb2 hb4)
    clear hK hq
    go_upto_region 2 with (refine store_hc rfl _ _ rfl w2.heap.size rfl rfl hZ hKl ?_)
    generalize (w2.alloc (.cells Tryz.zeroCells100 100)).setCells w2.heap.size 0 (K.map ic) = W at hR3 hb4 hq4 HBW ⊢
    obtain ⟨kb, hkb⟩ : ∃ kb, Hid (w2.heap.size = kb) := ⟨_, rfl⟩
    rw [hkb.out] at hR3 ⊢
    clear hZ hb3 hg3 hb4 hb2 hq2
    have hn81 : (n : Int) ≤ 81 := by omega
    go_upto_region 3 with fail
    go_loopw [4, 11] (fun _ i wr => ∃ j : Nat, j ≤ 81 - n ∧ i = .int .i64 j ∧ Hid (∀ i : Nat, n ≤ i → i < n + j → K.getD i 0 = -1) ∧ Hid (Below W.heap.size W wr)) (fun _ i _ => 81 - n - (intOf i).toNat)
    case atStart => exact ⟨0, by omega, rfl, (fun i h1 h2 => by omega), Below.refl _ _⟩
    case round =>
      rename World => wr
      obtain ⟨j, hj, rfl, HA, HBR⟩ := hrel
      by_cases hlt : j < 81 - n
      · have i5 : (j : Int) < 81 - (n : Int) := by omega
        have hz := (hR3.next HBR.out).at_ (i := n + j) (by omega)
        obtain ⟨z, HZ⟩ : ∃ z, Hid (K.getD (n + j) 0 = z) := ⟨_, Lib.hid rfl⟩
        rw [HZ.out] at hz
        by_cases hz1 : z = -1
        · subst hz1
          go_wp2_with fail
          refine (insist_yes wr).mono ?_
          rintro e w5 ⟨⟨v, rfl⟩, rfl⟩
          go_wp2_with fail
          go_roundw
          case rel => exact ⟨j + 1, by omega, by go_num, (fun i h1 h2 => by rcases Nat.lt_or_ge i (n + j) with q1 | q1; exact HA.out i h1 q1; rw [show i = n + j by omega]; exact HZ.out), HBR⟩
          case measure => simp [intOf]; omega
        · have i7 : (z == -1) = false := beq_eq_false_iff_ne.2 hz1
          have HSK := Lib.hid (HS.out.next (bon HBW.out HBR.out))
          have HNN := Lib.hid (none_of_spr HK.out.inv (i := n + j) (by omega) (by have := HLN.out; omega) (by rw [HZ.out]; exact hz1))
          have HBX := Lib.hid (bon HBW.out HBR.out)
          go_wp2_with fail
          refine (insist_no tp pv wr HSK.out).mono ?_
          rintro e w5 ⟨rfl, rfl⟩
          go_wp2_with fail
          exact ⟨rfl, .inr ⟨rfl, HNN.out, HBX.out⟩⟩
      · have i5 : ¬ (j : Int) < 81 - (n : Int) := by omega
        have hLE := least_of_spr HV.out HK.out (fun i h1 h2 => HA.out i (by have := HLN.out; omega) (by omega))
        rw [HLN.out] at hLE
        have hR5 := hR3.next HBR.out
        have hin : InL wr wr.heap.size (some ⟨kb, 0, none⟩) n (K.take n) := by
          refine ⟨by rw [List.length_take]; omega, fun i hi => ?_⟩
          rw [List.length_map, List.length_take] at hi
          refine ⟨kb, 0, rfl, hR5.lt, ?_⟩
          rw [Nat.zero_add, hR5.at_ (by omega), List.getElem?_map, List.getElem?_take_of_lt (by omega), List.getD_eq_getElem?_getD, List.getElem?_eq_getElem (by omega)]
          rfl
        have HCL := Lib.hid (clone64_c (some ⟨kb, 0, none⟩) n 81 wr.heap.size (K.take n) wr hin (Nat.le_refl _) (by omega))
        have hq5 := cell_next hq4 HBR.out
        have HLE := Lib.hid hLE
        have HBX := Lib.hid (bon HBW.out HBR.out)
        clear hin hLE hR5
        go_wp2_with fail
        refine HCL.out.mono ?_
        rintro e w6 ⟨A', c', rfl, ho, hb6⟩
        have HO := Lib.hid (ho.less HBX.out.size)
        have HB6 := Lib.hid (bon HBX.out hb6)
        clear ho hb6
        go_wp2_with fail
        go_ret
        exact .inl ⟨_, A', c', rfl, HLE.out, HO.out, HB6.out⟩
  · have HN := Lib.hid hN
    have HB := Lib.hid hb2
    clear hN hb2
    go_wp2_with fail
    exact ⟨rfl, .inr ⟨rfl, HN.out, HB.out⟩⟩
end Go.Proofs.YtffkdidgfeknkaaGreatDoor
