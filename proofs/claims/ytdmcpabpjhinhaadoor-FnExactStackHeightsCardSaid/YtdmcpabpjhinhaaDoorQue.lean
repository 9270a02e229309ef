/-
  A queue of numbers in memory: a part of a block of one's own, from which elements are taken at the front and to which others are appended. No conditions.
-/
import Derived.Test.YtdmcpabpjhinhaaDoorKeep
import Derived.Test.YtdmcpabpjhinhaaDoorOwn
import Derived.Test.YtdmcpabpjhinhaaDoorBlk
import Derived.ArgAppend
import Derived.Deep.Upon
namespace Go.Proofs.YtdmcpabpjhinhaaDoor
set_option linter.unusedVariables false
open Go.RowKit

theorem grown_setCells (b : Nat) : ∀ (vs : List Value) (o : Nat) (w : World), w.grownBy (w.setCells b o vs) (some b)
  | [], _, w => only_refl w _
  | v :: r, o, w => by
    rw [World.setCells]
    exact only_trans (only_set (w := w) (g := b) (i := o) (x := v)) (grown_setCells b r (o + 1) _)
theorem infoInt64_q : (Tryd.prog.info? 2).map (fun i => (i.zero, i.size, i.bytes)) = some (some (.int .i64 0), 1, 8) := by kernel_rfl

theorem own_capQ {w : World} {lo hi n c : Nat} {A : Option Addr} {l : List Int} (h : OwnL w lo hi A n c l) : n ≤ c := by
  rcases h.2.1.2 with ⟨h1, h2⟩ | ⟨b, cap, cur, h1, h2, h3, h4, _⟩
  · omega
  · injection h1 with _ _ e; omega
/-- A queue. -/
def Que (w : World) (lo : Nat) (v : Value) (xs : List Int) : Prop :=
  ∃ b off c, v = .slice (some ⟨b, off, none⟩) xs.length c ∧ lo ≤ b ∧ b < w.heap.size ∧ xs.length ≤ c ∧ c ≤ maxLen ∧
    (∀ (j : Nat) (x : Int), xs[j]? = some x → w.cell? ⟨b, off + j, none⟩ = some (ic x)) ∧
    ∀ j, j < c → (w.cell? ⟨b, off + j, none⟩).isSome = true ∧ w.frozen? ⟨b, off + j, none⟩ = false
section
variable {w w' : World} {lo : Nat} {v : Value} {xs : List Int}
theorem Que.of_own {g c n : Nat} (h : w.ownsRow lo 2 1 (.slice (some ⟨g, 0, none⟩) n c) n (xs.map ic)) (hn : xs.length = n) : Que w lo (.slice (some ⟨g, 0, none⟩) n c) xs := by
  subst hn
  rcases h.2 with ⟨h', _⟩ | ⟨g', c', cur, h', hb, hg, hnc, hcm, hcs, htake⟩
  · simp at h'
  · simp only [Value.slice.injEq, Option.some.injEq, Addr.mk.injEq, and_true, true_and] at h'
    obtain ⟨rfl, rfl⟩ := h'
    refine ⟨g, 0, c, rfl, hb, (h.lt g rfl).2, hnc, hcm, fun j x hj => ?_, fun j hj => ⟨?_, ?_⟩⟩
    · rw [Nat.zero_add, h.cellAt j (by have := (List.getElem?_eq_some_iff.1 hj).1; omega), List.getElem?_map, hj]; rfl
    · rw [Nat.zero_add, cell_of_row w g j cur 2 (0, 0) hg, Array.getElem?_eq_getElem (by omega)]; rfl
    · simp [World.frozen?, hg]
theorem Que.kept {r : Option Nat} (h : Que w lo v xs) (hg : w.grownBy w' r) (hr : v.ownBlock ≠ r) : Que w' lo v xs := by
  obtain ⟨b, off, c, rfl, h1, h2, h3, h4, h5, h6⟩ := h
  have hb : w'.heap[b]? = w.heap[b]? := hg.block b h2 (fun e => hr (by rw [← e]; rfl))
  exact ⟨b, off, c, rfl, h1, Nat.lt_of_lt_of_le h2 hg.size, h3, h4, fun j x hj => (World.cell?_of_block (a := ⟨b, off + j, none⟩) hb).trans (h5 j x hj),
    fun j hj => ⟨by rw [World.cell?_of_block (a := ⟨b, off + j, none⟩) hb]; exact (h6 j hj).1, (World.frozen?_of_block (a := ⟨b, off + j, none⟩) hb).trans (h6 j hj).2⟩⟩
theorem Que.next (h : Que w lo v xs) (hb : Below w.heap.size w w') : Que w' lo v xs :=
  h.kept (r := none) ⟨hb.os, hb.tape, hb.output, hb.size, fun k hk _ => hb.block k hk⟩ (by obtain ⟨b, off, c, rfl, _⟩ := h; simp [Value.ownBlock])
theorem Que.lt (h : Que w lo v xs) : ∃ b, v.ownBlock = some b ∧ lo ≤ b ∧ b < w.heap.size := by
  obtain ⟨b, off, c, rfl, h1, h2, _⟩ := h
  exact ⟨b, rfl, h1, h2⟩
/-- The front of a queue. -/
theorem Que.front {x : Int} {b off n c : Nat} (h : Que w lo (.slice (some ⟨b, off, none⟩) n c) (x :: xs)) : n = xs.length + 1 ∧ n ≤ c ∧ c ≤ maxLen ∧ lo ≤ b ∧ b < w.heap.size ∧ w.cell? ⟨b, off, none⟩ = some (.int .i64 x) := by
  obtain ⟨b', off', c', e, h1, h2, h3, h4, h5, h6⟩ := h
  simp only [Value.slice.injEq, Option.some.injEq, Addr.mk.injEq, and_true] at e
  obtain ⟨⟨rfl, rfl⟩, rfl, rfl⟩ := e
  exact ⟨by simp, h3, h4, h1, h2, h5 0 x rfl⟩
theorem Que.tail {x : Int} {b off n c : Nat} (h : Que w lo (.slice (some ⟨b, off, none⟩) n c) (x :: xs)) : Que w lo (.slice (some ⟨b, off + 1, none⟩) xs.length (c - 1)) xs := by
  obtain ⟨b', off', c', e, h1, h2, h3, h4, h5, h6⟩ := h
  simp only [Value.slice.injEq, Option.some.injEq, Addr.mk.injEq, and_true] at e
  obtain ⟨⟨rfl, rfl⟩, rfl, rfl⟩ := e
  rw [List.length_cons] at h3
  refine ⟨b, off + 1, c - 1, rfl, h1, h2, by omega, by omega, fun j y hj => ?_, fun j hj => ?_⟩
  · rw [Nat.add_assoc, Nat.add_comm 1 j]; exact h5 (j + 1) y hj
  · rw [Nat.add_assoc, Nat.add_comm 1 j]; exact h6 (j + 1) (by omega)
/-- .. of one element without room behind it. -/
theorem Que.tail0 {x : Int} {b off n c : Nat} (h : Que w lo (.slice (some ⟨b, off, none⟩) n c) [x]) : Que w lo (.slice (some ⟨b, off, none⟩) 0 0) [] := by
  obtain ⟨_, _, _, h1, h2, _⟩ := h.front
  exact ⟨b, off, 0, rfl, by obtain ⟨b', off', c', e, h1, _⟩ := h; cases e; exact h1, by obtain ⟨b', off', c', e, _, h2, _⟩ := h; cases e; exact h2, Nat.le_refl _, Nat.zero_le _, fun j y hj => by simp at hj, fun j hj => by omega⟩
theorem Que.tailI {x : Int} {b off n c : Nat} (h : Que w lo (.slice (some ⟨b, off, none⟩) n c) (x :: xs)) : Que w lo (.slice (if c = 1 then some ⟨b, off, none⟩ else some ⟨b, off + 1, none⟩) xs.length (c - 1)) xs := by
  by_cases e : c = 1
  · rw [if_pos e]
    obtain ⟨b', off', c', e', h1, h2, h3, h4, h5, h6⟩ := h
    simp only [Value.slice.injEq, Option.some.injEq, Addr.mk.injEq, and_true] at e'
    obtain ⟨⟨rfl, rfl⟩, rfl, rfl⟩ := e'
    rw [List.length_cons] at h3
    have hx : xs = [] := List.eq_nil_of_length_eq_zero (by omega)
    subst hx
    subst e
    exact ⟨b, off, 0, rfl, h1, h2, Nat.le_refl _, Nat.zero_le _, fun j y hj => by simp at hj, fun j hj => by omega⟩
  · rw [if_neg e]; exact h.tail
theorem ownBlock_if {b off n c : Nat} {p : Prop} [Decidable p] : (Value.slice (if p then some ⟨b, off, none⟩ else some ⟨b, off + 1, none⟩) n c).ownBlock = some b := by
  split <;> rfl
end
/-- append onto a queue. -/
theorem wpList_append_q {w : World} {ops : Array Oper} {rest : List Oper} {o : Oper} {a : Act} {Q : Exit → Act → World → Prop}
    (hg : o.guard = none) (s x : Operand) (hop : o.op = Op.call { callee := Callee.builtin Builtin.append, args := #[s, x], argTypes := #[24, 24] })
    {lo : Nat} {v : Value} {xs ys : List Int} (hs : a.eval s = v) (hq : Que w lo v xs) (hlo : lo ≤ w.heap.size) (A : Option Addr) (m c : Nat) (hx : a.eval x = .slice A m c) (B : Nat) (hy : InL w B A m ys) (hmc : m ≤ c) (hk : xs.length + ys.length ≤ 100000)
    (hK : ∀ v' w', Que w' lo v' (xs ++ ys) → w.grownBy w' v.ownBlock → (v'.ownBlock = v.ownBlock ∨ ∃ k, v'.ownBlock = some k ∧ w.heap.size ≤ k) → wpList Tryd.prog ops Q rest (a.put o.dst v') w') :
    wpList Tryd.prog ops Q (o :: rest) a w := by
  obtain ⟨i0, hi, hz0, hz1, hz2⟩ := info_parts infoInt64_q
  obtain ⟨b, off, cq, rfl, h1, h2, h3, h4, h5, h6⟩ := hq
  have hlen : ys.length = m := hy.1
  cases A with
  | none =>
    have hm0 : m = 0 := by
      rcases Nat.eq_zero_or_pos m with h0 | h0
      · exact h0
      · obtain ⟨b', off', e, _⟩ := hy.2 0 (by rw [List.length_map]; omega)
        cases e
    subst hm0
    have hy0 : ys = [] := List.eq_nil_of_length_eq_zero hlen
    subst hy0
    have hrun : (Builtin.append_ #[24, 24] o.type #[.slice (some ⟨b, off, none⟩) xs.length cq, .slice none 0 c]).run Tryd.prog w = .ok (.slice (some ⟨b, off, none⟩) xs.length cq) w := by
      simp [Builtin.append_, run_underlying (P := Tryd.prog) Tryd.underlying24, sizeOf, typeInfo, hi, Builtin.lenOf, Builtin.firstCells, h3, storeCells]
    refine wpList_plain hg fun K hK' => ?_
    unfold Oper.wp
    simp [execOp, hop, resolve, invoke, builtin, hs, hx, hrun, Result.andThen]
    refine hK' _ _ (hK _ _ ?_ (only_refl w _) (.inl rfl))
    rw [List.append_nil]
    exact ⟨b, off, cq, rfl, h1, h2, h3, h4, h5, h6⟩
  | some ad =>
    refine wpList_append_arg w hg s x 24 hop 2 i0 (.int .i64 0) 1 8 Tryd.underlying24 hi hz0 hz1 hz2 rfl (by decide) b off xs.length cq (xs.map ic) hs (by simp) (fun j u hj => ?_) ad m c (ys.map ic) hx (by simp [hlen]) (fun j u hj => ?_) (fun u hu => ?_) (fun hr j hj => ?_) (by unfold maxLen; omega) (by omega) (fun hr => ?_) (fun hr v' w' e1 e2 => ?_)
    · rw [List.getElem?_map] at hj
      cases hx' : xs[j]? with
      | none => rw [hx'] at hj; cases hj
      | some y => rw [hx'] at hj; obtain rfl := Option.some.inj hj; exact h5 j y hx'
    · have hjl := (List.getElem?_eq_some_iff.1 hj).1
      obtain ⟨b', off', e, _, hc⟩ := hy.2 j hjl
      obtain rfl := Option.some.inj e
      rw [Addr.add_lit, hc]; exact hj
    · obtain ⟨y, _, rfl⟩ := List.mem_map.1 hu; rfl
    · have := h6 (xs.length + j) (by simp at hj; omega)
      rw [show off + xs.length * 1 + j = off + (xs.length + j) by omega]; exact this
    · have hgs := grown_setCells b (ys.map ic) (off + xs.length * 1) w
      refine hK _ _ ⟨b, off, cq, by rw [List.length_append, hlen], h1, Nat.lt_of_lt_of_le h2 hgs.size, by rw [List.length_append]; omega, h4, fun j y hj => ?_, fun j hj => ?_⟩ hgs (.inl rfl)
      · by_cases hjx : j < xs.length
        · rw [World.cell?_setCells_out b _ _ w _ (fun _ _ => by left; show off + j < off + xs.length * 1; omega)]
          rw [List.getElem?_append_left hjx] at hj
          exact h5 j y hj
        · rw [List.getElem?_append_right (by omega)] at hj
          have hjl := (List.getElem?_eq_some_iff.1 hj).1
          have hin := World.cell?_setCells_in b (ys.map ic) (off + xs.length * 1) w (fun i hi' => by
            rw [List.length_map] at hi'
            rw [show off + xs.length * 1 + i = off + (xs.length + i) by omega]; exact (h6 _ (by omega)).1) (j - xs.length) (by rw [List.length_map]; exact hjl)
          rw [show off + xs.length * 1 + (j - xs.length) = off + j by omega] at hin
          rw [hin, List.getElem_map]
          rw [List.getElem?_eq_getElem hjl] at hj
          rw [Option.some.inj hj]
      · rw [World.frozen?_setCells]
        refine ⟨?_, (h6 j hj).2⟩
        exact World.isSome_setCells b _ _ w _ (h6 j hj).1
    · have hm : ys.map ic ≠ [] ∨ True := .inr trivial
      rw [← List.map_append] at e1
      have e3 : ∃ g' c', v' = .slice (some ⟨g', 0, none⟩) (xs.length + m) c' := by
        rcases e1.2 with ⟨_, h0⟩ | ⟨g, cap, cur, e, _⟩
        · omega
        · exact ⟨g, cap, e⟩
      obtain ⟨g', c', rfl⟩ := e3
      refine hK _ _ (Que.of_own ?_ (by simp [hlen])) ?_ ?_
      · rcases e1 with ⟨a1, a2 | ⟨g, cap, cur, a3, a4, a5⟩⟩
        · exact ⟨a1, .inl a2⟩
        · exact ⟨a1, .inr ⟨g, cap, cur, a3, Nat.le_trans hlo a4, a5⟩⟩
      · exact ⟨e2.os, e2.tape, e2.output, e2.size, fun k hk _ => e2.block k hk (by simp)⟩
      · exact .inr ⟨g', rfl, (e1.lt g' rfl).1⟩
end Go.Proofs.YtdmcpabpjhinhaaDoor
