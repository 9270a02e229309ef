/-
  An array of 81 numbers in memory: one of its cells, the whole of it loaded, stored, compared. No conditions.
-/
import Derived.Test.YtdmcpabpjhinhaaDoorOwn
import Derived.Test.YtdmcpabpjhinhaaDoorBlk
import Derived.Deep.MidRow
import Derived.Laws.StructEq
import Derived.ChangeKeysEq
namespace Go.Proofs.YtdmcpabpjhinhaaDoor
set_option linter.unusedVariables false
open Go.RowKit

def hc (K : List Int) : Array Value := (K.map ic).toArray
theorem hc_at {K : List Int} {i : Nat} {x : Int} (h : K[i]? = some x) : (hc K)[i]? = some (.int .i64 x) := by simp [hc, h, ic]
theorem hc_size (K : List Int) : (hc K).size = K.length := by simp [hc]
/-- Heights at block g. -/
def ArrIs (w : World) (g : Nat) (K : List Int) : Prop := BlkIs w g 42 (hc K) ∧ K.length = 81
section
variable {w w' : World} {g : Nat} {K L : List Int}
theorem ArrIs.at_ {i : Nat} (h : ArrIs w g K) (hi : i < 81) : w.cell? ⟨g, i, none⟩ = some (.int .i64 (K.getD i 0)) :=
  (h.1.cell i).trans (hc_at (by rw [List.getD_eq_getElem?_getD, List.getElem?_eq_getElem (by have := h.2; omega)]; rfl))
theorem ArrIs.frozen (h : ArrIs w g K) (i : Nat) : w.frozen? ⟨g, i, none⟩ = false := h.1.frozen i
theorem ArrIs.set (h : ArrIs w g K) (i : Nat) (v : Int) : ArrIs (w.setCell ⟨g, i, none⟩ (.int .i64 v)) g (K.set i v) :=
  ⟨by have := h.1.set i (.int .i64 v); rwa [show (hc K).setIfInBounds i (.int .i64 v) = hc (K.set i v) by simp [hc, List.map_set, ic]] at this, by rw [List.length_set]; exact h.2⟩
theorem ArrIs.next (h : ArrIs w g K) (hb : Below w.heap.size w w') : ArrIs w' g K := ⟨h.1.next hb, h.2⟩
theorem ArrIs.lt (h : ArrIs w g K) : g < w.heap.size := h.1.lt
theorem ArrIs.other {g' : Nat} (h : ArrIs w g K) (hg : w.grownBy w' (some g')) (hne : g ≠ g') : ArrIs w' g K := ⟨(hg.block g h.lt (fun e => hne (Option.some.inj e))).trans h.1, h.2⟩
theorem ArrIs.range (h : ArrIs w g K) : w.rangeAt g 0 (K.map ic) := fun j v hv => by
  rw [Nat.zero_add, h.1.cell j]
  simpa [hc] using hv
theorem ArrIs.there (h : ArrIs w g K) : w.there g 0 81 := fun j hj => by
  rw [Nat.zero_add]
  exact ⟨by rw [h.at_ hj]; rfl, h.frozen j⟩
theorem blk_setCells {t : TypeId} : ∀ (vs : List Value) (o : Nat) (w : World) (cs : Array Value), BlkIs w g t cs → ∃ cs', BlkIs (w.setCells g o vs) g t cs' ∧ cs'.size = cs.size ∧ ∀ i, (o ≤ i → i < o + vs.length → i < cs.size → cs'[i]? = vs[i - o]?) ∧ (i < o ∨ o + vs.length ≤ i → cs'[i]? = cs[i]?)
  | [], o, w, cs, h => ⟨cs, h, rfl, fun i => ⟨fun h1 h2 => by simp at h2; omega, fun _ => rfl⟩⟩
  | v :: r, o, w, cs, h => by
    obtain ⟨cs', h1, h2, h3⟩ := blk_setCells r (o + 1) (w.setCell ⟨g, o, none⟩ v) _ (h.set o v)
    rw [World.setCells]
    refine ⟨cs', h1, by rw [h2]; simp, fun i => ⟨fun k1 k2 k3 => ?_, fun k1 => ?_⟩⟩
    · by_cases e : i = o
      · subst e
        rw [(h3 i).2 (.inl (by omega))]
        simp [k3]
      · rw [(h3 i).1 (by omega) (by rw [List.length_cons] at k2; omega) (by simpa using k3)]
        rw [show i - o = (i - (o + 1)) + 1 by omega, List.getElem?_cons_succ]
    · rw [List.length_cons] at k1
      rw [(h3 i).2 (by omega)]
      rw [Array.getElem?_setIfInBounds_ne (by omega)]
theorem ArrIs.store (h : ArrIs w g K) (hl : L.length = 81) : ArrIs (w.setCells g 0 (L.map ic)) g L := by
  obtain ⟨cs', h1, h2, h3⟩ := blk_setCells (L.map ic) 0 w _ h.1
  have e : cs' = hc L := by
    apply Array.ext_getElem?
    intro i
    by_cases hi : i < 81
    · rw [(h3 i).1 (Nat.zero_le _) (by rw [List.length_map]; omega) (by rw [hc_size, h.2]; exact hi)]
      simp [hc]
    · rw [Array.getElem?_eq_none (by rw [h2, hc_size, h.2]; omega), Array.getElem?_eq_none (by rw [hc_size, hl]; omega)]
  exact ⟨e ▸ h1, hl⟩
theorem ArrIs.new (w : World) (hl : K.length = 81) : ArrIs (w.alloc (.cells (hc K) 42)) w.heap.size K := ⟨blk_new _ _ _ _ rfl, hl⟩
end
theorem hc_cells (K : List Int) : ∀ u ∈ K.map ic, u.oneCell' = true := fun u hu => by
  obtain ⟨x, _, rfl⟩ := List.mem_map.1 hu; rfl
theorem getD_at {K : List Int} {i : Nat} (h : i < K.length) : K.getD i 0 = K[i] := by
  rw [List.getD_eq_getElem?_getD, List.getElem?_eq_getElem h]; rfl
theorem infoArr : (Tryd.prog.info? 42).map (·.size) = some 81 := by kernel_rfl
theorem arr_loop (w : World) (K L : List Int) (hK : K.length = 81) (hL : L.length = 81) : (Op.equalIn 10000 42 (.agg (K.map ic).toArray) (.agg (L.map ic).toArray)).run Tryd.prog w = .ok (K == L) w := by
  have u3 := Tryd.underlying2
  have a3 := Tryd.isAgg2
  have z3 := Tryd.sizeOf2
  rw [show (10000 : Nat) = 9999 + 1 from rfl, Op.equalIn]
  simp only [Sem.run_bind, run_underlying Tryd.underlying42, Result.andThen_ok]
  simp only [Std.Legacy.Range.forIn_eq_forIn_range', Std.Legacy.Range.size, Nat.sub_zero, Nat.add_sub_cancel, Nat.div_one]
  rw [z3]
  simp only [Result.andThen_ok]
  have hpart : ∀ (M : List Int) (j : Nat), j < M.length → (part 2 (M.map ic).toArray (j * 1)).run Tryd.prog w = .ok (.int .i64 (M.getD j 0)) w := fun M j hj =>
    run_part_plain w (by kernel_rfl) (by rw [Nat.mul_one, getD_at hj]; simp [ic, hj])
  have key : ∀ m j : Nat, j + m = 81 → Sem.run Tryd.prog (forIn (List.range' j m) ((none : Option Bool), ()) fun i __s => do
            let __do_lift ← part 2 (List.map ic K).toArray (i * 1)
            let __do_lift_1 ← part 2 (List.map ic L).toArray (i * 1)
            let __do_lift ← Op.equalIn 9999 2 __do_lift __do_lift_1
            if (!__do_lift) = true then pure (ForInStep.done (some false, ())) else pure (ForInStep.yield (none, ()))) w = .ok (if K.drop j = L.drop j then (none, ()) else (some false, ())) w := by
    intro m
    induction m with
    | zero =>
      intro j hj
      rw [List.range'_zero, List.forIn_nil, List.drop_eq_nil_of_le (by omega), List.drop_eq_nil_of_le (by omega), if_pos rfl]
      rfl
    | succ m ih =>
      intro j hj
      have hjk : j < K.length := by omega
      have hjl : j < L.length := by omega
      rw [List.range'_succ, List.forIn_cons]
      simp only [Sem.run_bind, hpart K j hjk, hpart L j hjl, Result.andThen_ok, run_equalIn_int w 9998 2 .i64 .i64 _ _ u3]
      rw [List.drop_eq_getElem_cons hjk, List.drop_eq_getElem_cons hjl, getD_at hjk, getD_at hjl]
      by_cases e : K[j] = L[j]
      · simp only [e, beq_self_eq_true, Bool.not_true, Bool.false_eq_true, if_false, Sem.run_pure, Result.andThen_ok, List.cons.injEq, true_and]
        exact ih (j + 1) (by omega)
      · have e' : (K[j] == L[j]) = false := by simp [e]
        simp only [e', Bool.not_false, if_true, Sem.run_pure, Result.andThen_ok, List.cons.injEq, e, false_and, if_false]
  rw [key 81 0 rfl]
  simp only [Result.andThen_ok, List.drop_zero]
  by_cases e : K = L
  · subst e; simp
  · have e' : (K == L) = false := by simp [e]
    simp [e, e']
end Go.Proofs.YtdmcpabpjhinhaaDoor
