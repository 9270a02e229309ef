/-
  Several texts in one: Que, ReachM, Reach9, DelG, Open, Graph. Conditions: as each says.
-/
import Derived.Test.YtdmcpabpjhinhaaGreatDoorKeep
import Derived.Test.YtdmcpabpjhinhaaGreatDoorOwn
import Derived.Test.YtdmcpabpjhinhaaGreatDoorBlk
import Derived.ArgAppend
import Derived.Deep.Upon
import Derived.Test.YtdmcpabpjhinhaaGreatDoorBunC
import Derived.Test.YtdmcpabpjhinhaaGreatDoorBunB
import Derived.Test.YtdmcpabpjhinhaaGreatDoorPoint
import Derived.Test.YtdmcpabpjhinhaaGreatDoorDropS
import Derived.Test.YtdmcpabpjhinhaaGreatDoorTermL
import Derived.Lib.SliceRun
import Derived.Test.YtdmcpabpjhinhaaGreatDoorWith
import Derived.Test.YtdmcpabpjhinhaaGreatDoorBunD

/-! A queue of numbers in memory: a part of a block of one's own, from which elements are taken at the front and to which others are appended. No conditions. -/
namespace Go.Proofs.YtdmcpabpjhinhaaGreatDoor
set_option linter.unusedVariables false
open Go.RowKit

theorem grown_setCells (b : Nat) : ∀ (vs : List Value) (o : Nat) (w : World), w.grownBy (w.setCells b o vs) (some b)
  | [], _, w => only_refl w _
  | v :: r, o, w => by
    rw [World.setCells]
    exact only_trans (only_set (w := w) (g := b) (i := o) (x := v)) (grown_setCells b r (o + 1) _)
theorem infoInt64_q : (Tryz.prog.info? 2).map (fun i => (i.zero, i.size, i.bytes)) = some (some (.int .i64 0), 1, 8) := by kernel_rfl

theorem own_capQ {w : World} {lo hi n c : Nat} {A : Option Addr} {l : List Int} (h : OwnL w lo hi A n c l) : n ≤ c := by
  rcases h.2.1.2 with ⟨h1, h2⟩ | ⟨b, cap, cur, h1, h2, h3, h4, _⟩
  · omega
  · injection h1 with _ _ e; omega
/-- A queue. -/
def Que (w : World) (lo : Nat) (v : Value) (xs : List Int) : Prop :=
  ∃ b off c, v = .slice (some ⟨b, off, none⟩) xs.length c ∧ lo ≤ b ∧ b < w.heap.size ∧ xs.length ≤ c ∧ c ≤ maxLen ∧
    (∀ (j : Nat) (x : Int), xs[j]? = some x → w.cell? ⟨b, off + j, none⟩ = some (ic x)) ∧
    ∀ j, j < c → (w.cell? ⟨b, off + j, none⟩).isSome = true ∧ w.frozen? ⟨b, off + j, none⟩ = false
section
variable {w w' : World} {lo : Nat} {v : Value} {xs : List Int}
theorem Que.of_own {g c n : Nat} (h : w.ownsRow lo 2 1 (.slice (some ⟨g, 0, none⟩) n c) n (xs.map ic)) (hn : xs.length = n) : Que w lo (.slice (some ⟨g, 0, none⟩) n c) xs := by
  subst hn
  rcases h.2 with ⟨h', _⟩ | ⟨g', c', cur, h', hb, hg, hnc, hcm, hcs, htake⟩
  · simp at h'
  · simp only [Value.slice.injEq, Option.some.injEq, Addr.mk.injEq, and_true, true_and] at h'
    obtain ⟨rfl, rfl⟩ := h'
    refine ⟨g, 0, c, rfl, hb, (h.lt g rfl).2, hnc, hcm, fun j x hj => ?_, fun j hj => ⟨?_, ?_⟩⟩
    · rw [Nat.zero_add, h.cellAt j (by have := (List.getElem?_eq_some_iff.1 hj).1; omega), List.getElem?_map, hj]; rfl
    · rw [Nat.zero_add, cell_of_row w g j cur 2 (0, 0) hg, Array.getElem?_eq_getElem (by omega)]; rfl
    · simp [World.frozen?, hg]
theorem Que.kept {r : Option Nat} (h : Que w lo v xs) (hg : w.grownBy w' r) (hr : v.ownBlock ≠ r) : Que w' lo v xs := by
  obtain ⟨b, off, c, rfl, h1, h2, h3, h4, h5, h6⟩ := h
  have hb : w'.heap[b]? = w.heap[b]? := hg.block b h2 (fun e => hr (by rw [← e]; rfl))
  exact ⟨b, off, c, rfl, h1, Nat.lt_of_lt_of_le h2 hg.size, h3, h4, fun j x hj => (World.cell?_of_block (a := ⟨b, off + j, none⟩) hb).trans (h5 j x hj),
    fun j hj => ⟨by rw [World.cell?_of_block (a := ⟨b, off + j, none⟩) hb]; exact (h6 j hj).1, (World.frozen?_of_block (a := ⟨b, off + j, none⟩) hb).trans (h6 j hj).2⟩⟩
theorem Que.next (h : Que w lo v xs) (hb : Below w.heap.size w w') : Que w' lo v xs :=
  h.kept (r := none) ⟨hb.os, hb.tape, hb.output, hb.size, fun k hk _ => hb.block k hk⟩ (by obtain ⟨b, off, c, rfl, _⟩ := h; simp [Value.ownBlock])
theorem Que.lt (h : Que w lo v xs) : ∃ b, v.ownBlock = some b ∧ lo ≤ b ∧ b < w.heap.size := by
  obtain ⟨b, off, c, rfl, h1, h2, _⟩ := h
  exact ⟨b, rfl, h1, h2⟩
/-- The front of a queue. -/
theorem Que.front {x : Int} {b off n c : Nat} (h : Que w lo (.slice (some ⟨b, off, none⟩) n c) (x :: xs)) : n = xs.length + 1 ∧ n ≤ c ∧ c ≤ maxLen ∧ lo ≤ b ∧ b < w.heap.size ∧ w.cell? ⟨b, off, none⟩ = some (.int .i64 x) := by
  obtain ⟨b', off', c', e, h1, h2, h3, h4, h5, h6⟩ := h
  simp only [Value.slice.injEq, Option.some.injEq, Addr.mk.injEq, and_true] at e
  obtain ⟨⟨rfl, rfl⟩, rfl, rfl⟩ := e
  exact ⟨by simp, h3, h4, h1, h2, h5 0 x rfl⟩
theorem Que.tail {x : Int} {b off n c : Nat} (h : Que w lo (.slice (some ⟨b, off, none⟩) n c) (x :: xs)) : Que w lo (.slice (some ⟨b, off + 1, none⟩) xs.length (c - 1)) xs := by
  obtain ⟨b', off', c', e, h1, h2, h3, h4, h5, h6⟩ := h
  simp only [Value.slice.injEq, Option.some.injEq, Addr.mk.injEq, and_true] at e
  obtain ⟨⟨rfl, rfl⟩, rfl, rfl⟩ := e
  rw [List.length_cons] at h3
  refine ⟨b, off + 1, c - 1, rfl, h1, h2, by omega, by omega, fun j y hj => ?_, fun j hj => ?_⟩
  · rw [Nat.add_assoc, Nat.add_comm 1 j]; exact h5 (j + 1) y hj
  · rw [Nat.add_assoc, Nat.add_comm 1 j]; exact h6 (j + 1) (by omega)
/-- .. of one element without room behind it. -/
theorem Que.tail0 {x : Int} {b off n c : Nat} (h : Que w lo (.slice (some ⟨b, off, none⟩) n c) [x]) : Que w lo (.slice (some ⟨b, off, none⟩) 0 0) [] := by
  obtain ⟨_, _, _, h1, h2, _⟩ := h.front
  exact ⟨b, off, 0, rfl, by obtain ⟨b', off', c', e, h1, _⟩ := h; cases e; exact h1, by obtain ⟨b', off', c', e, _, h2, _⟩ := h; cases e; exact h2, Nat.le_refl _, Nat.zero_le _, fun j y hj => by simp at hj, fun j hj => by omega⟩
theorem Que.tailI {x : Int} {b off n c : Nat} (h : Que w lo (.slice (some ⟨b, off, none⟩) n c) (x :: xs)) : Que w lo (.slice (if c = 1 then some ⟨b, off, none⟩ else some ⟨b, off + 1, none⟩) xs.length (c - 1)) xs := by
  by_cases e : c = 1
  · rw [if_pos e]
    obtain ⟨b', off', c', e', h1, h2, h3, h4, h5, h6⟩ := h
    simp only [Value.slice.injEq, Option.some.injEq, Addr.mk.injEq, and_true] at e'
    obtain ⟨⟨rfl, rfl⟩, rfl, rfl⟩ := e'
    rw [List.length_cons] at h3
    have hx : xs = [] := List.eq_nil_of_length_eq_zero (by omega)
    subst hx
    subst e
    exact ⟨b, off, 0, rfl, h1, h2, Nat.le_refl _, Nat.zero_le _, fun j y hj => by simp at hj, fun j hj => by omega⟩
  · rw [if_neg e]; exact h.tail
theorem ownBlock_if {b off n c : Nat} {p : Prop} [Decidable p] : (Value.slice (if p then some ⟨b, off, none⟩ else some ⟨b, off + 1, none⟩) n c).ownBlock = some b := by
  split <;> rfl
end
/-- append onto a queue. -/
theorem wpList_append_q {w : World} {ops : Array Oper} {rest : List Oper} {o : Oper} {a : Act} {Q : Exit → Act → World → Prop}
    (hg : o.guard = none) (s x : Operand) (hop : o.op = Op.call { callee := Callee.builtin Builtin.append, args := #[s, x], argTypes := #[74, 74] })
    {lo : Nat} {v : Value} {xs ys : List Int} (hs : a.eval s = v) (hq : Que w lo v xs) (hlo : lo ≤ w.heap.size) (A : Option Addr) (m c : Nat) (hx : a.eval x = .slice A m c) (B : Nat) (hy : InL w B A m ys) (hmc : m ≤ c) (hk : xs.length + ys.length ≤ 100000)
    (hK : ∀ v' w', Que w' lo v' (xs ++ ys) → w.grownBy w' v.ownBlock → (v'.ownBlock = v.ownBlock ∨ ∃ k, v'.ownBlock = some k ∧ w.heap.size ≤ k) → wpList Tryz.prog ops Q rest (a.put o.dst v') w') :
    wpList Tryz.prog ops Q (o :: rest) a w := by
  obtain ⟨i0, hi, hz0, hz1, hz2⟩ := info_parts infoInt64_q
  obtain ⟨b, off, cq, rfl, h1, h2, h3, h4, h5, h6⟩ := hq
  have hlen : ys.length = m := hy.1
  cases A with
  | none =>
    have hm0 : m = 0 := by
      rcases Nat.eq_zero_or_pos m with h0 | h0
      · exact h0
      · obtain ⟨b', off', e, _⟩ := hy.2 0 (by rw [List.length_map]; omega)
        cases e
    subst hm0
    have hy0 : ys = [] := List.eq_nil_of_length_eq_zero hlen
    subst hy0
    have hrun : (Builtin.append_ #[74, 74] o.type #[.slice (some ⟨b, off, none⟩) xs.length cq, .slice none 0 c]).run Tryz.prog w = .ok (.slice (some ⟨b, off, none⟩) xs.length cq) w := by
      simp [Builtin.append_, run_underlying (P := Tryz.prog) Tryz.underlying74, sizeOf, typeInfo, hi, Builtin.lenOf, Builtin.firstCells, h3, storeCells]
    refine wpList_plain hg fun K hK' => ?_
    unfold Oper.wp
    simp [execOp, hop, resolve, invoke, builtin, hs, hx, hrun, Result.andThen]
    refine hK' _ _ (hK _ _ ?_ (only_refl w _) (.inl rfl))
    rw [List.append_nil]
    exact ⟨b, off, cq, rfl, h1, h2, h3, h4, h5, h6⟩
  | some ad =>
    refine wpList_append_arg w hg s x 74 hop 2 i0 (.int .i64 0) 1 8 Tryz.underlying74 hi hz0 hz1 hz2 rfl (by decide) b off xs.length cq (xs.map ic) hs (by simp) (fun j u hj => ?_) ad m c (ys.map ic) hx (by simp [hlen]) (fun j u hj => ?_) (fun u hu => ?_) (fun hr j hj => ?_) (by unfold maxLen; omega) (by omega) (fun hr => ?_) (fun hr v' w' e1 e2 => ?_)
    · rw [List.getElem?_map] at hj
      cases hx' : xs[j]? with
      | none => rw [hx'] at hj; cases hj
      | some y => rw [hx'] at hj; obtain rfl := Option.some.inj hj; exact h5 j y hx'
    · have hjl := (List.getElem?_eq_some_iff.1 hj).1
      obtain ⟨b', off', e, _, hc⟩ := hy.2 j hjl
      obtain rfl := Option.some.inj e
      rw [Addr.add_lit, hc]; exact hj
    · obtain ⟨y, _, rfl⟩ := List.mem_map.1 hu; rfl
    · have := h6 (xs.length + j) (by simp at hj; omega)
      rw [show off + xs.length * 1 + j = off + (xs.length + j) by omega]; exact this
    · have hgs := grown_setCells b (ys.map ic) (off + xs.length * 1) w
      refine hK _ _ ⟨b, off, cq, by rw [List.length_append, hlen], h1, Nat.lt_of_lt_of_le h2 hgs.size, by rw [List.length_append]; omega, h4, fun j y hj => ?_, fun j hj => ?_⟩ hgs (.inl rfl)
      · by_cases hjx : j < xs.length
        · rw [World.cell?_setCells_out b _ _ w _ (fun _ _ => by left; show off + j < off + xs.length * 1; omega)]
          rw [List.getElem?_append_left hjx] at hj
          exact h5 j y hj
        · rw [List.getElem?_append_right (by omega)] at hj
          have hjl := (List.getElem?_eq_some_iff.1 hj).1
          have hin := World.cell?_setCells_in b (ys.map ic) (off + xs.length * 1) w (fun i hi' => by
            rw [List.length_map] at hi'
            rw [show off + xs.length * 1 + i = off + (xs.length + i) by omega]; exact (h6 _ (by omega)).1) (j - xs.length) (by rw [List.length_map]; exact hjl)
          rw [show off + xs.length * 1 + (j - xs.length) = off + j by omega] at hin
          rw [hin, List.getElem_map]
          rw [List.getElem?_eq_getElem hjl] at hj
          rw [Option.some.inj hj]
      · rw [World.frozen?_setCells]
        refine ⟨?_, (h6 j hj).2⟩
        exact World.isSome_setCells b _ _ w _ (h6 j hj).1
    · have hm : ys.map ic ≠ [] ∨ True := .inr trivial
      rw [← List.map_append] at e1
      have e3 : ∃ g' c', v' = .slice (some ⟨g', 0, none⟩) (xs.length + m) c' := by
        rcases e1.2 with ⟨_, h0⟩ | ⟨g, cap, cur, e, _⟩
        · omega
        · exact ⟨g, cap, e⟩
      obtain ⟨g', c', rfl⟩ := e3
      refine hK _ _ (Que.of_own ?_ (by simp [hlen])) ?_ ?_
      · rcases e1 with ⟨a1, a2 | ⟨g, cap, cur, a3, a4, a5⟩⟩
        · exact ⟨a1, .inl a2⟩
        · exact ⟨a1, .inr ⟨g, cap, cur, a3, Nat.le_trans hlo a4, a5⟩⟩
      · exact ⟨e2.os, e2.tape, e2.output, e2.size, fun k hk _ => e2.block k hk (by simp)⟩
      · exact .inr ⟨g', rfl, (e1.lt g' rfl).1⟩
end Go.Proofs.YtdmcpabpjhinhaaGreatDoor

/-! What is reached over code: the model's search and its list. Conditions: at most 2^20 instructions. -/
namespace Go.Proofs.YtdmcpabpjhinhaaGreatDoor
set_option linter.unusedVariables false
open Go.RowKit

theorem infoBR : (Tryz.prog.info? 4).map (fun i => (i.zero, i.size, i.bytes)) = some (some (.bool false), 1, 1) := by kernel_rfl
/-- The marks that are missing, as memory tells. -/
def missB (w : World) (g : Nat) : Nat := match w.heap[g]? with
  | some (.cells cs _ _) => (cs.toList.filter fun u => match u with | .bool b => !b | _ => false).length
  | _ => 0
theorem missB_is {W : World} {lo g n : Nat} {ms : List Bool} (h : W.ownsRow lo 4 1 (.slice (some ⟨g, 0, none⟩) n n) n (ms.map Value.bool)) : missB W g = missing ms := by
  rcases h.2 with ⟨h', _⟩ | ⟨g', c', cur, h', hb, hg, hnc, hcm, hcs, htake⟩
  · simp at h'
  · simp only [Value.slice.injEq, Option.some.injEq, Addr.mk.injEq, and_true, true_and] at h'
    obtain ⟨rfl, rfl⟩ := h'
    rw [Nat.mul_one] at hcs htake
    rw [List.take_of_length_le (by rw [Array.length_toList]; omega)] at htake
    unfold missB missing
    rw [hg]
    show (cur.toList.filter _).length = _
    rw [htake, List.filter_map, List.length_map]
    rfl
def lenQ : Value → Nat
  | .slice _ n _ => n
  | _ => 0
/-- The model's search in memory. -/
structure SrchW (wc : World) (gs n : Nat) (xs : List (Int × Int)) (S : Int → Prop) (ms : List Bool) (q : List Int) (v : Value) (W : World) : Prop where
  srch : Srch xs S ms q
  que : Que W wc.heap.size v q
  marks : W.ownsRow wc.heap.size 4 1 (.slice (some ⟨gs, 0, none⟩) n n) n (ms.map Value.bool)
  apart : v.ownBlock ≠ some gs
  size : 3 * missing ms + q.length ≤ 400
  below : Below wc.heap.size wc W
/-- An instruction is marked, and the places behind it are appended. -/
theorem missing_le (ms : List Bool) : missing ms ≤ ms.length := List.length_filter_le _ _
theorem SrchW.mark {wc W W1 W2 : World} {gs n k : Nat} {xs : List (Int × Int)} {S : Int → Prop} {ms : List Bool} {q : List Int} {v v' : Value} (h : SrchW wc gs n xs S ms ((k : Int) :: q) v W) {v0 : Value}
    (hq : Que W wc.heap.size v0 q) (h0 : v0.ownBlock = v.ownBlock) (hk : k < xs.length) (hf : ms[k]? = some false) (hb : Below (W.setCell ⟨gs, k, none⟩ (.bool true)).heap.size (W.setCell ⟨gs, k, none⟩ (.bool true)) W1)
    (hq' : Que W2 wc.heap.size v' (q ++ tgtN xs k)) (hg : W1.grownBy W2 v0.ownBlock) (hv : v'.ownBlock = v0.ownBlock ∨ ∃ j, v'.ownBlock = some j ∧ W1.heap.size ≤ j) : SrchW wc gs n xs S (ms.set k true) (q ++ tgtN xs k) v' W2 := by
  have hm := h.marks
  have s1 := (hm.stored k (.bool true)).1
  have s2 := own_below s1 hb
  have s3 := s2.kept hg (.inr (fun e => h.apart (by rw [← h0, ← e]; rfl)))
  have hgs := hm.lt gs rfl
  refine ⟨h.srch.mark hk, hq', ?_, ?_, ?_, ?_⟩
  · rw [← List.map_set] at s3; exact s3
  · rcases hv with e | ⟨j, e, hj⟩
    · rw [e, h0]; exact h.apart
    · rw [e]; intro e'
      obtain rfl := Option.some.inj e'
      have h1 := hgs.2
      have h2 := hb.size
      simp at h2
      omega
  · have := missing_set hf
    have h1 := h.size
    have h2 := tgt_len (xs.getD k (0, 0)).1 (xs.getD k (0, 0)).2 k
    rw [List.length_append]
    unfold tgtN
    rw [List.length_cons] at h1
    omega
  · have b1 : Below wc.heap.size wc (W.setCell ⟨gs, k, none⟩ (.bool true)) := h.below.setCell (p := ⟨gs, k, none⟩) hgs.1 _
    refine (bon b1 hb).grown hg (Nat.le_trans b1.size hb.size) (fun j hj => ?_)
    obtain ⟨b, e, h1, _⟩ := hq.lt
    rw [e] at hj
    rw [← Option.some.inj hj]; exact h1
theorem SrchW.pop {wc W : World} {gs n : Nat} {t : Int} {xs : List (Int × Int)} {S : Int → Prop} {ms : List Bool} {q : List Int} {v v0 : Value} (h : SrchW wc gs n xs S ms (t :: q) v W)
    (hq : Que W wc.heap.size v0 q) (h0 : v0.ownBlock = v.ownBlock) (ht : (xs.length : Int) ≤ t ∨ ms[t.toNat]? = some true) : SrchW wc gs n xs S ms q v0 W :=
  ⟨h.srch.skip ht, hq, h.marks, by rw [h0]; exact h.apart, by have := h.size; rw [List.length_cons] at this; omega, h.below⟩

end Go.Proofs.YtdmcpabpjhinhaaGreatDoor

/-! What is reached over code from its beginning and its points: the model's search. Conditions: valid annotated code. -/
namespace Go.Proofs.YtdmcpabpjhinhaaGreatDoor
set_option linter.unusedVariables false
open Go.RowKit

theorem infoI9 : (Tryz.prog.info? 2).map (fun i => (i.zero, i.size, i.bytes)) = some (some (.int .i64 0), 1, 8) := by kernel_rfl
set_option maxRecDepth 100000 in
set_option maxHeartbeats 8000000 in
theorem l09Reached_c (b9 : Nat) (A0 : Option Addr) (n0 c0 : Nat) (t0 : List (Int × List Int)) (A1 : Option Addr) (n1 c1 : Nat) (t1 : List (Int × List Int)) (A : Option Addr) (n c B : Nat) (xs : List (Int × Int)) (A3 : Option Addr) (n3 c3 : Nat) (ps : List P2) (w : World)
    (hP : BlkIs w b9 32 #[.slice A0 n0 c0, .slice A1 n1 c1, .slice A n c, .slice A3 n3 c3]) (h : InC w B A n xs) (h3 : InP2 w B A3 n3 ps) (hB : B ≤ w.heap.size) (hann : annB t0 t1 xs ps = true) :
    Calls Tryz.prog 45 #[.pointer (some ⟨b9, 0, none⟩)] w fun e w' => ∃ g ms, e = .returned (.slice (some ⟨g, 0, none⟩) n n) ∧ MarksOf xs (fromP (atsP ps)) ms ∧ w'.ownsRow w.heap.size 4 1 (.slice (some ⟨g, 0, none⟩) n n) n (ms.map Value.bool) ∧ Below w.heap.size w w' := by
  obtain ⟨i0, hi, hz0, hz1, hz2⟩ := info_parts infoBR
  obtain ⟨j0, hi', hz0', hz1', hz2'⟩ := info_parts infoI9
  have hv := (annB_parts hann).1
  have hps := (annB_small hann).2.2.2.1
  have HPS := Lib.hid (annB_ats hann)
  have hpn : ps.length = n3 := h3.1
  have hxn : xs.length = n := h.1
  have hp := codeB_parts hv
  have H3 := Lib.hid h3
  have HP := Lib.hid hP
  have p2 := hP.cell 2
  have p3 := hP.cell 3
  simp at p2 p3
  have hn80 : 1 ≤ n ∧ n ≤ 80 := by omega
  have HI := Lib.hid h
  have HT := Lib.hid (tgt_in hv)
  have HV := Lib.hid hv
  clear h hp hv hann h3 hP
  go_enter Tryz.func45, Tryz.ntmps45
  go_wp2_with (at_make; refine wpList_make_full _ rfl _ _ 85 rfl w.heap.size 4 i0 (.bool false) 1 Tryz.underlying85 hi hz0 hz1 .i64 .i64 _ _ n rfl rfl rfl rfl (by rw [hz2]; omega) (by unfold maxLen; omega) (Nat.le_refl _) ?_; intro w1 hown hgrow)
  have hb1 := (Below.refl w.heap.size w).grown hgrow (Nat.le_refl _) (fun _ h => by cases h)
  obtain ⟨gs, hgs⟩ : ∃ gs, w.heap.size = gs := ⟨_, rfl⟩
  have hs0 : w1.ownsRow w.heap.size 4 1 (.slice (some ⟨gs, 0, none⟩) n n) n ((List.replicate n false).map Value.bool) := by
    rw [List.map_replicate, ← hgs]
    have e2 := hown
    rw [show (Value.bool false).cells = #[Value.bool false] from rfl, toList_madeCells_one, Nat.mul_one] at e2
    exact e2
  have hlt := (hs0.lt gs rfl).2
  have hb2 := bnew w1 (.cells #[.int .i64 0] 2)
  have hO0 : (w1.alloc (.cells #[.int .i64 0] 2)).ownsRow w1.heap.size 2 1 (.slice (some ⟨w1.heap.size, 0, none⟩) 1 1) (0 + 1) ((0 :: (atsP ps).take 0).map ic) := own_one w1 0
  have hS1 := own_below hs0 hb2
  clear hown hgrow
  rw [hgs]
  go_wp2_with fail
  clear p2 p3
  generalize w1.alloc (.cells #[.int .i64 0] 2) = W at hO0 hb2 hS1 ⊢
  go_loopw [4, 5] (fun v i wr => ∃ j : Nat, j ≤ n3 ∧ i = .int .i64 j ∧ wr.ownsRow w1.heap.size 2 1 v (j + 1) ((0 :: (atsP ps).take j).map ic) ∧ Below w1.heap.size w1 wr) (fun _ i _ => n3 - (intOf i).toNat)
  case atStart => exact ⟨0, Nat.zero_le _, rfl, hO0, hb2⟩
  case round =>
    clear hO0 hb2 hS1
    obtain ⟨j, hj, rfl, hown, hbel⟩ := hrel
    have hbw := bon hb1 hbel
    have hPw := HP.out.next hbw
    have q2 := hPw.cell 2
    have q3 := hPw.cell 3
    simp at q2 q3
    obtain ⟨VA, Vc, rfl, _⟩ := own_slice hown
    by_cases hlt : j < n3
    · have hjn : (j : Int) < (n3 : Int) := by omega
      obtain ⟨bp, op, x, rfl, hbp, hx, D0, m0, d0, r0, r1, kf⟩ := (H3.out.next hbw hB).at_ hlt
      clear r1 kf
      have hS : (0 :: (atsP ps).take (j + 1)).map ic = ((0 : Int) :: (atsP ps).take j).map ic ++ [.int .i64 x.a] := by
        have e : (atsP ps)[j]? = some x.a := by unfold atsP; rw [List.getElem?_map, hx]; rfl
        rw [List.take_add_one, e, ← List.cons_append, List.map_append]; rfl
      have HS := Lib.hid hS
      clear hS hx
      generalize ((0 : Int) :: (atsP ps).take j).map ic = O at hown HS ⊢
      go_wp2_with (at_builtin; refine wpList_append_own _ rfl _ _ 74 rfl w1.heap.size 2 j0 (.int .i64 0) 1 8 Tryz.underlying74 hi' hz0' hz1' hz2' rfl (by decide) _ _ _ rfl ((hown : World.ownsRow _ _ _ _ _ _ _).alloc _) ⟨wr.heap.size, 0, none⟩ 1 1 [.int .i64 x.a] rfl rfl (cell_one_new _ _ _) (by simp [Value.oneCell']) (by unfold maxLen; omega) (by omega) (by have := hbel.size; simp; omega) ?_; intro v1 w4 hown4 hgrow4 _)
      have hb4 : Below w1.heap.size w1 w4 := (bon hbel (bnew _ _)).grown hgrow4 (by have := hbel.size; simp; omega) (fun k hk => ((own_below hown (bnew wr (.cells #[.int .i64 x.a] 2))).lt k hk).1)
      go_roundw
      case rel =>
        refine ⟨j + 1, by omega, by go_num, ?_, hb4⟩
        rw [HS.out]
        exact hown4
      case measure => simp [intOf]; omega
    · obtain rfl : j = n3 := by omega
      have hat : (atsP ps).take j = atsP ps := List.take_of_length_le (by unfold atsP; rw [List.length_map]; omega)
      rw [hat] at hown
      have hS0 : SrchW w gs n xs (fromP (atsP ps)) (List.replicate n false) (0 :: atsP ps) (.slice VA (j + 1) Vc) wr := by
        have hvg : ∃ g, (Value.slice VA (j + 1) Vc) = .slice (some ⟨g, 0, none⟩) (j + 1) Vc ∧ w1.heap.size ≤ g := by
          rcases hown.2 with ⟨e, h0⟩ | ⟨g, c, cur, e, h1, _⟩
          · omega
          · injection e with e1 e2 e3; exact ⟨g, by rw [e1], h1⟩
        obtain ⟨g, eg, hg⟩ := hvg
        rw [eg] at hown ⊢
        refine ⟨by rw [← hxn]; exact Srch.init (fun t => by simp [fromP]), Que.of_own (n := j + 1) (own_less hown hb1.size) (by unfold atsP; simp; omega), own_below hs0 hbel, ?_, ?_, hbw⟩
        · intro e; have e' : g = gs := Option.some.inj e; omega
        · have := missing_le (List.replicate n false); rw [List.length_replicate] at this
          have h2 : (atsP ps).length = j := by unfold atsP; rw [List.length_map]; exact hpn
          rw [List.length_cons]; omega
      clear hown hbel hat
      go_wp2_with fail
      go_loopw [4, 6] (fun v _ wr => ∃ ms q, SrchW w gs n xs (fromP (atsP ps)) ms q v wr) (fun v _ wr => 3 * missB wr gs + lenQ v)
      case atStart => exact ⟨_, _, hS0⟩
      case round =>
        clear hS0 hs0 hb1 hbw q2 q3 hPw
        obtain ⟨ms, q, hS⟩ := hrel
        have hPw := HP.out.next hS.below
        have q2 := hPw.cell 2
        simp at q2
        cases q with
        | nil =>
          obtain ⟨b, off, cq, rfl, _⟩ := hS.que
          go_wp2_with fail
          go_ret
          exact ⟨gs, ms, rfl, hS.srch.done, hS.marks, hS.below⟩
        | cons t q =>
          have hql := hS.que
          obtain ⟨b, off, cq, rfl, _⟩ := hS.que
          obtain ⟨f1, f2, f3, f4, f5, f6⟩ := hql.front
          have hq0 := hql.tailI
          have ho0 : (Value.slice (if cq = 1 then some ⟨b, off, none⟩ else some ⟨b, off + 1, none⟩) q.length (cq - 1)).ownBlock = some b := ownBlock_if
          have hmiss := missB_is hS.marks
          have ht0 : 0 ≤ t := RchP_ge (S := fromP (atsP ps)) (fun t h => h.elim (fun h => by omega) (fun h => (HPS.out t h).1)) (fun k x hx e => by have := instrB_parts (codeB_at HV.out hx); unfold loB at this; rcases e with e | e <;> (rw [e] at this; simp at this; omega)) t (hS.srch.ok t (List.mem_cons_self ..))
          have hc1 := hS.size
          rw [List.length_cons] at hc1
          go_upto_region 10 with fail
          generalize (if cq = 1 then some (⟨b, off, none⟩ : Addr) else some ⟨b, off + 1, none⟩) = A0 at hq0 ho0 ⊢
          clear hql f6
          by_cases ht : (xs.length : Int) ≤ t
          · have hn' : (n : Int) ≤ t := by omega
            have hP := Lib.hid (hS.pop hq0 (by rw [ho0]; rfl) (.inl ht))
            clear hS hq0 ht
            go_wp2_with fail
            go_roundw
            case rel => exact ⟨ms, q, hP.out⟩
            case measure => rw [hmiss]; show 3 * missing ms + q.length < 3 * missing ms + (t :: q).length; simp
          · obtain ⟨k, rfl⟩ : ∃ k : Nat, t = (k : Int) := ⟨t.toNat, by omega⟩
            have hk : k < xs.length := by omega
            have hkn : (k : Int) < (n : Int) := by omega
            have hc := hS.marks.cellAt k (by omega)
            obtain ⟨bk, hbk⟩ : ∃ bk, ms[k]? = some bk := ⟨ms[k]'(by have := hS.srch.len; omega), List.getElem?_eq_getElem _⟩
            rw [List.getElem?_map, hbk] at hc
            cases bk with
            | true =>
              have hc' : wr.cell? ⟨gs, k, none⟩ = some (.bool true) := hc
              have hP := Lib.hid (hS.pop hq0 (by rw [ho0]; rfl) (.inr (by rw [Int.toNat_natCast]; exact hbk)))
              clear hS hq0 ht hc hbk
              go_wp2_with fail
              go_roundw
              case rel => exact ⟨ms, q, hP.out⟩
              case measure => rw [hmiss]; show 3 * missing ms + q.length < 3 * missing ms + ((k : Int) :: q).length; simp
            | false =>
              have hc' : wr.cell? ⟨gs, k, none⟩ = some (.bool false) := hc
              have hfz := hS.marks.frozenAt k
              have hx : xs[k]? = some xs[k] := List.getElem?_eq_getElem hk
              have hbw : Below w.heap.size w (wr.setCell ⟨gs, k, none⟩ (.bool true)) := hS.below.setCell (p := ⟨gs, k, none⟩) (hS.marks.lt gs rfl).1 _
              have q2' := (HP.out.next hbw).cell 2
              simp at q2'
              have hT := Lib.hid (l07Targets_c A n c B xs k xs[k] (wr.setCell ⟨gs, k, none⟩ (.bool true)) (HI.out.next hbw hB) (Nat.le_trans hB hbw.size) hx (by omega))
              have hq1 := hq0.kept (only_set (w := wr) (g := gs) (i := k) (x := .bool true)) (by rw [ho0]; intro e; exact hS.apart (by rw [← e]; rfl))
              have HS := Lib.hid hS
              have HQ := Lib.hid hq0
              have HK := Lib.hid hbk
              clear hS hq0 hc hbk hbw
              go_wp2_with fail
              generalize hW1 : wr.setCell ⟨gs, k, none⟩ (.bool true) = W1 at hT hq1 q2' ⊢
              refine hT.out.mono ?_
              rintro e w2 ⟨A', c', rfl, hown, hb2⟩
              have hq2 := hq1.next hb2
              have hcap := own_capQ hown
              have hall := hown.all
              have htl := tgt_len xs[k].1 xs[k].2 k
              have hlo := Nat.le_trans HS.out.below.size (by rw [← hW1] at hb2; have := hb2.size; simpa using this)
              clear hq1 hT
              have htg : tgtN xs k = tgt1 xs[k].1 xs[k].2 k := by unfold tgtN; rw [List.getD_eq_getElem?_getD, hx]; rfl
              have HTG := Lib.hid htg
              clear htg hx
              generalize tgt1 xs[k].1 xs[k].2 k = ys at hown hcap hall htl HTG ⊢
              go_wp2_with (at_builtin; refine wpList_append_q rfl _ _ rfl rfl hq2 hlo A' ys.length c' rfl w2.heap.size hall hcap (by omega) ?_; intro v' w3 hq3 hg3 hv3)
              obtain ⟨b3, off3, c3, hv3e, _⟩ := id hq3
              subst hv3e
              go_roundw
              case rel =>
                have := HS.out.mark HQ.out (by rw [ho0]; rfl) hk HK.out (W1 := w2) (by rw [hW1]; exact hb2) (by rw [HTG.out]; exact hq3) hg3 hv3
                exact ⟨_, _, this⟩
              case measure =>
                have h1 := HS.out.mark HQ.out (by rw [ho0]; rfl) hk HK.out (W1 := w2) (by rw [hW1]; exact hb2) (by rw [HTG.out]; exact hq3) hg3 hv3
                rw [hmiss, missB_is h1.marks]
                have h2 := missing_set HK.out
                show 3 * missing (ms.set k true) + (q ++ ys).length < 3 * missing ms + ((k : Int) :: q).length
                rw [List.length_append, List.length_cons]
                omega
end Go.Proofs.YtdmcpabpjhinhaaGreatDoor

/-! slices.DeleteFunc at numbers, for any test of one number. Conditions: at most 1000 numbers. -/
namespace Go.Proofs.YtdmcpabpjhinhaaGreatDoor
set_option linter.unusedVariables false
open Go.RowKit

theorem cutG_own {W : World} {base : Nat} {e : TypeId} {A : Option Addr} {n c k : Nat} {xs : List Value} (h : W.ownsRow base e 1 (.slice A n c) n xs) (hk : k ≤ n) : W.ownsRow base e 1 (.slice A k c) k (xs.take k) := by
  refine ⟨by rw [List.length_take, h.1]; omega, ?_⟩
  rcases h.2 with ⟨h', hn⟩ | ⟨g, cap, cur, h1, h2, h3, h4, h5, h6, h7⟩
  · injection h' with a b c'
    have : k = 0 := by omega
    subst this
    exact .inl ⟨by rw [a, c'], rfl⟩
  · injection h1 with a b c'
    refine .inr ⟨g, cap, cur, by rw [a, c'], h2, h3, by omega, h5, h6, ?_⟩
    rw [← h7, List.take_take]
    congr 1
    omega
theorem ownG_cells {base n c g : Nat} {e : TypeId} : ∀ (vs : List Value) (o : Nat) (w : World) (xs : List Value), w.ownsRow base e 1 (.slice (some ⟨g, 0, none⟩) n c) n xs → o + vs.length ≤ n →
    ∃ ys, (w.setCells g o vs).ownsRow base e 1 (.slice (some ⟨g, 0, none⟩) n c) n ys ∧ ys.take o = xs.take o ∧ w.grownBy (w.setCells g o vs) (some g)
  | [], o, w, xs, h, _ => ⟨xs, h, rfl, World.grownBy.refl _ _⟩
  | v :: vs, o, w, xs, h, hl => by
    obtain ⟨h1, h2⟩ := h.stored o v
    obtain ⟨ys, k1, k2, k3⟩ := ownG_cells vs (o + 1) (w.setCell ⟨g, o, none⟩ v) (xs.set o v) h1 (by simp at hl; omega)
    refine ⟨ys, k1, ?_, only_trans only_set k3⟩
    have e1 : ys.take o = (ys.take (o + 1)).take o := by rw [List.take_take]; congr 1; omega
    rw [e1, k2, List.take_take, Nat.min_eq_left (Nat.le_succ o), List.take_set_of_le (Nat.le_refl o)]

section
variable (p : Int → Bool) (P base : Nat) (l : Nat) (L : List Int) (w : World)
def KeepsG (j : Nat) : List Int := (L.take j).filter fun z => !p z
theorem KeepsG_yes {j : Nat} {z : Int} (hz : L[j]? = some z) (hp : p z = false) : KeepsG p L (j + 1) = KeepsG p L j ++ [z] := by
  unfold KeepsG; rw [List.take_add_one, hz, List.filter_append]; simp [hp]
theorem KeepsG_no {j : Nat} {z : Int} (hz : L[j]? = some z) (hp : p z = true) : KeepsG p L (j + 1) = KeepsG p L j := by
  unfold KeepsG; rw [List.take_add_one, hz, List.filter_append]; simp [hp]
theorem KeepsG_len (j : Nat) : (KeepsG p L j).length ≤ j := by
  unfold KeepsG
  have := List.length_filter_le (fun z => !p z) (L.take j)
  rw [List.length_take] at this; omega
theorem KeepsG_all {i : Nat} (h : ∀ j z, j < i → L[j]? = some z → p z = false) : KeepsG p L i = L.take i := by
  unfold KeepsG
  rw [List.filter_eq_self]
  intro z hz
  obtain ⟨j, hj, e⟩ := List.getElem_of_mem hz
  rw [List.length_take] at hj
  have := h j z (by omega) (by rw [List.getElem_take] at e; rw [← e]; exact List.getElem?_eq_getElem _)
  rw [this]; rfl
/-- What is known of the test. -/
def TestG : Prop := ∀ z (W : World), Below base w W → Calls Tryz.prog 125 #[.int .i64 z, .pointer (some ⟨P, 0, none⟩)] W fun e w' => e = .returned (.bool (p z)) ∧ Below W.heap.size W w'
variable {p P base l L w}

set_option maxRecDepth 100000 in
set_option maxHeartbeats 2000000 in
theorem indexG_c (hf : TestG p P base w) (V : Option Addr) (vc : Nat) (h : InL w w.heap.size V l L) (hbw : base ≤ w.heap.size) (hl : l ≤ 1000) :
    Calls Tryz.prog 142 #[.slice V l vc, .func (Fn.func 125) #[] #[.pointer (some ⟨P, 0, none⟩)]] w fun e w' => ∃ i, i ≤ l ∧ e = .returned (.int .i64 (if i = l then -1 else (i : Int))) ∧ (∀ j z, j < i → L[j]? = some z → p z = false) ∧ (i < l → ∃ z, L[i]? = some z ∧ p z = true) ∧ Below w.heap.size w w' := by
  have hlen := Lib.hid h.1
  have HF := Lib.hid hf
  clear hf
  go_enter Tryz.func142, Tryz.ntmps142
  go_wp2_with fail
  go_loopw [5, 8] (fun _ q wr => ∃ j : Nat, j ≤ l ∧ q = .int .i64 j ∧ Hid (∀ k z, k < j → L[k]? = some z → p z = false) ∧ Below w.heap.size w wr) (fun _ q _ => l - (intOf q).toNat)
  case atStart => exact ⟨0, Nat.zero_le _, rfl, Lib.hid (fun k z hk => absurd hk (Nat.not_lt_zero _)), Below.refl _ _⟩
  case round =>
    obtain ⟨j, hj, rfl, hA, hb⟩ := hrel
    by_cases hlt : j < l
    · have hjl : (j : Int) < (l : Int) := by omega
      obtain ⟨b, off, z, rfl, hbb, hz, hc⟩ := (h.next hb (Nat.le_refl _)).2.int_at (k := j) (by have := hlen.out; omega)
      have HD := Lib.hid (HF.out z wr (hb.mono hbw))
      have HZ := Lib.hid hz
      cases hp : p z with
      | false =>
        rw [hp] at HD
        have hA2 : Hid (∀ k z, k < j + 1 → L[k]? = some z → p z = false) := fun k y hk hy => by
          by_cases e : k = j
          · subst e
            rw [HZ.out] at hy
            rw [← Option.some.inj hy]; exact hp
          · exact hA.out k y (by omega) hy
        clear hz hp
        go_wp2_with fail
        refine HD.out.mono ?_
        rintro e w1 ⟨rfl, hb1⟩
        go_wp2_with fail
        go_roundw
        case rel => exact ⟨j + 1, by omega, by go_num, hA2, bon hb hb1⟩
        case measure => simp [intOf]; omega
      | true =>
        rw [hp] at HD
        have hE : Hid (∃ z, L[j]? = some z ∧ p z = true) := ⟨z, hz, hp⟩
        have HE : Hid ((if j = l then (-1 : Int) else (j : Int)) = j) := if_neg (by omega)
        clear hz hp
        go_wp2_with fail
        refine HD.out.mono ?_
        rintro e w1 ⟨rfl, hb1⟩
        go_wp2_with fail
        go_ret
        exact ⟨j, hj, by rw [HE.out]; rfl, hA.out, fun _ => hE.out, bon hb hb1⟩
    · have HE : Hid ((if l = l then (-1 : Int) else (l : Int)) = -1) := if_pos rfl
      have hA2 : Hid (∀ k z, k < l → L[k]? = some z → p z = false) := fun k z hk => hA.out k z (by omega)
      clear hA
      go_wp2_with fail
      go_ret
      exact ⟨l, Nat.le_refl _, by rw [if_pos rfl]; rfl, hA2.out, fun h => absurd h (Nat.lt_irrefl _), hb⟩

set_option maxRecDepth 100000 in
set_option maxHeartbeats 4000000 in
theorem deleteG_c (hf : TestG p P base w) (V : Option Addr) (vc : Nat) (h : w.ownsRow base 2 1 (.slice V l vc) l (L.map ic)) (hbw : base ≤ w.heap.size) (hl : l ≤ 1000) :
    Calls Tryz.prog 123 #[.slice V l vc, .func (Fn.func 125) #[] #[.pointer (some ⟨P, 0, none⟩)]] w fun e w' => ∃ A' c', e = .returned (.slice A' (L.filter fun z => !p z).length c') ∧ InL w' w'.heap.size A' (L.filter fun z => !p z).length (L.filter fun z => !p z) ∧ Below base w w' := by
  have hL : L.length = l := by have := h.1; simpa using this
  have hin : InL w w.heap.size V l L := (OwnL.of_own h).all
  have HIX := Lib.hid (indexG_c hf V vc hin hbw hl)
  have HF := Lib.hid hf
  have HO := Lib.hid h
  clear h hf hin
  go_enter Tryz.func123, Tryz.ntmps123
  go_wp2_with fail
  refine HIX.out.mono ?_
  rintro e w1 ⟨i, hi, rfl, hA, hT, hb1⟩
  have h1 := own_below HO.out hb1
  by_cases hil : i = l
  · subst hil
    have hK : L.filter (fun z => !p z) = L := by
      have := KeepsG_all p L hA
      unfold KeepsG at this
      rwa [List.take_of_length_le (by omega)] at this
    have HK := Lib.hid hK
    have hO1 := Lib.hid (OwnL.of_own h1).all
    clear hA hT h1
    rw [if_pos rfl]
    go_wp2_with fail
    go_ret
    refine ⟨V, vc, ?_, ?_, hb1.mono hbw⟩
    · rw [HK.out, hL]; rfl
    · rw [HK.out, hL]; exact hO1.out
  · rw [if_neg hil]
    have i0 : i < l := by omega
    obtain ⟨z0, hz0, hp0⟩ := hT i0
    have hK0 : KeepsG p L (i + 1) = L.take i := by rw [KeepsG_no p L hz0 hp0, KeepsG_all p L hA]
    obtain ⟨g, rfl, hgb⟩ : ∃ g, V = some ⟨g, 0, none⟩ ∧ base ≤ g := by
      rcases h1.2 with ⟨h', hn⟩ | ⟨g, cap, cur, k1, k2, _⟩
      · exact absurd hn (by omega)
      · injection k1 with k1; exact ⟨g, k1, k2⟩
    have hvc : l ≤ vc := by
      rcases h1.2 with ⟨h', hn⟩ | ⟨g', cap, cur, q1, _, _, q4, _⟩
      · omega
      · injection q1 with _ _ q1; omega
    have im : ((i : Int) == -1) = false := by first | (simp; done) | (simp; omega)
    have hstart : ∃ ys : List Value, w1.ownsRow base 2 1 (.slice (some ⟨g, 0, none⟩) l vc) l ys ∧ Hid (ys.take (KeepsG p L (i + 1)).length = (KeepsG p L (i + 1)).map ic) ∧ Hid (ys.drop (i + 1) = (L.map ic).drop (i + 1)) := by
      refine ⟨L.map ic, h1, ?_, rfl⟩
      show _ = _
      rw [hK0, List.length_take, Nat.min_eq_left (by omega), List.map_take]
    have hlen0 : (KeepsG p L (i + 1)).length = i := by rw [hK0, List.length_take]; omega
    have hb1' := hb1.mono hbw
    have hs1 := hb1.size
    clear hA hT hz0 hp0 hK0 h1 HIX hb1
    go_wp2_with fail
    go_loopw [5, 6, 7] (fun a q _ wr => ∃ (j : Nat) (ys : List Value), i < j ∧ j ≤ l ∧ (KeepsG p L j).length < j ∧ a = .int .i64 ((KeepsG p L j).length : Nat) ∧ q = .int .i64 j ∧ wr.ownsRow base 2 1 (.slice (some ⟨g, 0, none⟩) l vc) l ys ∧ Hid (ys.take (KeepsG p L j).length = (KeepsG p L j).map ic) ∧ Hid (ys.drop j = (L.map ic).drop j) ∧ Below base w wr ∧ w.heap.size ≤ wr.heap.size) (fun _ q _ _ => l - (intOf q).toNat)
    case atStart =>
      obtain ⟨ys, y1, y2, y3⟩ := hstart
      exact ⟨i + 1, ys, by omega, by omega, by omega, by rw [hlen0], by go_num, y1, y2, y3, hb1', hs1⟩
    case round =>
      clear hstart hlen0 hb1'
      obtain ⟨j, ys, hij, hj, hkj, rfl, rfl, y1, y2, y3, hb, hsw⟩ := hrel
      have hyl : ys.length = l := by have := y1.1; simpa using this
      by_cases hlt : j < l
      · have hjl : (j : Int) < (l : Int) := by omega
        obtain ⟨z, hz⟩ : ∃ z, L[j]? = some z := ⟨_, List.getElem?_eq_getElem (by omega)⟩
        have hyj : ys[j]? = some (.int .i64 z) := by
          have := congrArg (fun l : List Value => l[0]?) y3.out
          simp only [List.getElem?_drop, Nat.add_zero, List.getElem?_map, hz] at this
          exact this
        have hc : wr.cell? ⟨g, j, none⟩ = some (.int .i64 z) := by rw [y1.cellAt j (by omega)]; exact hyj
        have HD := Lib.hid (HF.out z wr hb)
        have hdr : ys.drop (j + 1) = (L.map ic).drop (j + 1) := by
          have := congrArg List.tail y3.out
          rwa [List.tail_drop, List.tail_drop] at this
        cases hp : p z with
        | true =>
          rw [hp] at HD
          have HK := Lib.hid (KeepsG_no p L hz hp)
          have HDR := Lib.hid hdr
          clear hz hyj hp hdr
          go_wp2_with fail
          refine HD.out.mono ?_
          rintro e w3 ⟨rfl, hb3⟩
          have y4 := own_below y1 hb3
          have hb4 := hb.trans (hb3.mono (by omega))
          have hs4 := hb3.size
          go_wp2_with fail
          go_roundw
          case rel => exact ⟨j + 1, ys, by omega, by omega, by rw [HK.out]; omega, by rw [HK.out], by go_num, y4, by rw [HK.out]; exact y2, HDR, hb4, by omega⟩
          case measure => simp [intOf]; omega
        | false =>
          rw [hp] at HD
          have HK := Lib.hid (KeepsG_yes p L hz hp)
          have hkl : (KeepsG p L j).length < l := by omega
          obtain ⟨kk, hkk⟩ : ∃ kk, (KeepsG p L j).length = kk := ⟨_, rfl⟩
          have HT2 : Hid ((ys.set kk (.int .i64 z)).take (kk + 1) = (KeepsG p L (j + 1)).map ic) := by
            show _ = _
            rw [HK.out, List.map_append, ← y2.out, hkk, List.take_add_one, List.getElem?_set_self (by omega), List.take_set_of_le (Nat.le_refl _)]
            rfl
          have HDR : Hid ((ys.set kk (.int .i64 z)).drop (j + 1) = (L.map ic).drop (j + 1)) := by
            show _ = _
            rw [List.drop_set_of_lt (by omega)]; exact hdr
          have hkli : (kk : Int) < (l : Int) := by omega
          rw [hkk] at hkj hkl y2 ⊢
          have HKL : Hid ((KeepsG p L (j + 1)).length = kk + 1) := by show _ = _; rw [HK.out, List.length_append, hkk]; rfl
          clear hz hyj hp hdr
          go_wp2_with fail
          refine HD.out.mono ?_
          rintro e w3 ⟨rfl, hb3⟩
          have y4 := own_below y1 hb3
          have c4 : ∃ u, w3.cell? ⟨g, kk, none⟩ = some u := ⟨_, (y4.cellAt kk (by omega)).trans (List.getElem?_eq_getElem (by omega))⟩
          obtain ⟨u4, c4⟩ := c4
          have f4 := y4.frozenAt kk
          have y5 := (y4.stored kk (.int .i64 z)).1
          have hb4 : Below base w (w3.setCell ⟨g, kk, none⟩ (.int .i64 z)) := (hb.trans (hb3.mono (by omega))).setCell (p := ⟨g, kk, none⟩) hgb _
          have hs4 := hb3.size
          clear y1 y4
          go_wp2_with fail
          go_roundw
          case rel => exact ⟨j + 1, _, by omega, by omega, by rw [HKL.out]; omega, by rw [HKL.out]; go_num, by go_num, y5, by rw [HKL.out]; exact HT2, HDR, hb4, by simp; omega⟩
          case measure => simp [intOf]; omega
      · have e : j = l := by omega
        subst e
        obtain ⟨kk, hkk⟩ : ∃ kk, (KeepsG p L j).length = kk := ⟨_, rfl⟩
        have hKf : KeepsG p L j = L.filter (fun z => !p z) := by unfold KeepsG; rw [List.take_of_length_le (by omega)]
        have HKF := Lib.hid hKf
        have HKK := Lib.hid hkk
        rw [hkk] at hkj y2 ⊢
        obtain ⟨zs, k1, k2, k3⟩ := ownG_cells (List.replicate (j - kk) (Value.int .i64 0)) kk wr ys y1 (by simp; omega)
        have hcs : ∀ q, q < j - kk → (wr.cell? ⟨g, kk + q, none⟩).isSome = true := fun q hq => by
          rw [y1.cellAt (kk + q) (by omega), List.getElem?_eq_getElem (by omega)]; rfl
        have hcf : ∀ q, q < j - kk → wr.frozen? ⟨g, kk + q, none⟩ = false := fun q hq => y1.frozenAt (kk + q)
        have hzv : ∀ w : World, (zeroValue 2).run Tryz.prog w = .ok (.int .i64 0) w := fun w => by kernel_rfl
        have hrun : ∀ ty c', (Builtin.clear_ #[74] ty #[.slice (some ⟨g, kk, none⟩) (j - kk) c']).run Tryz.prog wr = .ok (.tuple #[]) (wr.setCells g kk (List.replicate (j - kk) (Value.int .i64 0))) := fun ty c' =>
          Lib.run_clear_slice (P := Tryz.prog) wr 74 2 ty (.int .i64 0) Tryz.underlying74 hzv rfl rfl g kk (j - kk) c' (by omega) hcs hcf
        have hcut := cutG_own k1 (k := kk) (by omega)
        rw [k2, y2.out, hKf] at hcut
        have hfl : (L.filter fun z => !p z).length = kk := by rw [← hKf]; exact hkk
        have HFL := Lib.hid hfl
        have HIN := Lib.hid (OwnL.of_own (zs := L.filter fun z => !p z) hcut).all
        have hbb := Lib.hid (hb.grown k3 (Nat.le_trans hbw hsw) (fun q hq => by injection hq with hq; omega))
        have i1 : (kk : Int) < (j : Int) := by omega
        have i2 : (kk : Int) ≤ (j : Int) := by omega
        have i3 : (0 : Int) ≤ (kk : Int) := by omega
        have i4 : (kk : Int) ≤ (vc : Int) := by omega
        have i5 : (j : Int) ≤ (vc : Int) := by omega
        clear k1 k2 k3 hcs hcf hzv hcut hKf hkk hfl y1 y2 y3 hb HF HO
        generalize wr.setCells g kk (List.replicate (j - kk) (Value.int .i64 0)) = W2 at hrun HIN hbb
        go_wp2_with fail
        go_ret
        refine ⟨_, vc, by rw [HFL.out]; rfl, ?_, hbb.out⟩
        rw [HFL.out]
        exact HIN.out
end
end Go.Proofs.YtdmcpabpjhinhaaGreatDoor

/-! The program's optimiser: whether a place is open; one instruction deleted. Conditions: valid code. -/
namespace Go.Proofs.YtdmcpabpjhinhaaGreatDoor
set_option linter.unusedVariables false
open Go.RowKit

set_option maxRecDepth 100000 in
theorem atPlace_c (P : Nat) (a k : Int) (A : Option Addr) (n c : Nat) (w : World) (hP : w.cell? ⟨P, 0, none⟩ = some (.int .i64 k)) :
    Calls Tryz.prog 145 #[.agg #[.int .i64 a, .slice A n c], .pointer (some ⟨P, 0, none⟩)] w fun e w' => e = .returned (.bool (a == k)) ∧ Below w.heap.size w w' := by
  have hb := bnew w (.cells #[.int .i64 a, .slice A n c] 83)
  have p0 := cell_next hP hb
  go_enter Tryz.func145, Tryz.ntmps145
  go_wp2_with fail
  go_ret
  exact ⟨rfl, hb⟩

set_option maxRecDepth 100000 in
set_option maxHeartbeats 4000000 in
theorem indexP_c (P : Nat) (k : Int) (A : Option Addr) (n c B : Nat) (ps : List P2) (w : World) (hP : w.cell? ⟨P, 0, none⟩ = some (.int .i64 k)) (h : InP2 w B A n ps) (hB : B ≤ w.heap.size) (hn : n ≤ 1048576) :
    Calls Tryz.prog 144 #[.slice A n c, .func (Fn.func 145) #[] #[.pointer (some ⟨P, 0, none⟩)]] w fun e w' => ∃ r : Int, e = .returned (.int .i64 r) ∧ (r == -1) = !ptB ps k ∧ Below w.heap.size w w' := by
  have hlen := Lib.hid h.1
  go_enter Tryz.func144, Tryz.ntmps144
  go_wp2_with fail
  go_loopw [5, 8] (fun _ q wr => ∃ j : Nat, j ≤ n ∧ q = .int .i64 j ∧ Hid (ptB (ps.take j) k = false) ∧ Below w.heap.size w wr) (fun _ q _ => n - (intOf q).toNat)
  case atStart => exact ⟨0, Nat.zero_le _, rfl, Lib.hid rfl, Below.refl _ _⟩
  case round =>
    obtain ⟨j, hj, rfl, ha, hb⟩ := hrel
    by_cases hlt : j < n
    · obtain ⟨b, off, x, rfl, hbB, hx, A0, n0, c0, q0, q1, kf⟩ := (h.next hb hB).at_ hlt
      have HC := Lib.hid (atPlace_c P x.a k A0 n0 c0 wr (cell_next hP hb))
      clear kf
      by_cases hk : x.a = k
      · have e0 : (x.a == k) = true := by simp [hk]
        have HN := Lib.hid (ptB_yes hx hk)
        rw [e0] at HC
        clear hx ha hk
        go_wp2_with fail
        refine HC.out.mono ?_
        rintro e w1 ⟨rfl, hb1⟩
        go_wp2_with fail
        go_ret
        exact ⟨(j : Int), rfl, (by rw [HN.out]; first | (simp; done) | (simp; omega)), bon hb hb1⟩
      · have e0 : (x.a == k) = false := by simp [hk]
        have HS := Lib.hid (ptB_take_no ha.out hx hk)
        rw [e0] at HC
        clear hx ha hk
        go_wp2_with fail
        refine HC.out.mono ?_
        rintro e w1 ⟨rfl, hb1⟩
        go_wp2_with fail
        go_roundw
        case rel => exact ⟨j + 1, by omega, by go_num, HS, bon hb hb1⟩
        case measure => simp [intOf]; omega
    · have HN := Lib.hid (ptB_all ha.out (by rw [hlen.out]; omega))
      clear ha
      go_wp2_with fail
      go_ret
      exact ⟨-1, rfl, by rw [HN.out]; rfl, hb⟩

set_option maxRecDepth 100000 in
set_option maxHeartbeats 4000000 in
theorem pointAt_c (v0 v1 v2 : Value) (k : Int) (A : Option Addr) (n c B : Nat) (ps : List P2) (w : World) (h : InP2 w B A n ps) (hB : B ≤ w.heap.size) (hn : n ≤ 1048576) :
    Calls Tryz.prog 126 #[.agg #[v0, v1, v2, .slice A n c], .int .i64 k] w fun e w' => ∃ r : Int, e = .returned (.int .i64 r) ∧ (r == -1) = !ptB ps k ∧ Below w.heap.size w w' := by
  have hb0 : Below w.heap.size w ((w.alloc (.cells #[v0, v1, v2, .slice A n c] 32)).alloc (.cells #[.int .i64 k] 2)) := bon (bnew _ _) (bnew _ _)
  have p3 : ((w.alloc (.cells #[v0, v1, v2, .slice A n c] 32)).alloc (.cells #[.int .i64 k] 2)).cell? ⟨w.heap.size, 3, none⟩ = some (.slice A n c) := by simp
  have pk : ((w.alloc (.cells #[v0, v1, v2, .slice A n c] 32)).alloc (.cells #[.int .i64 k] 2)).cell? ⟨w.heap.size + 1, 0, none⟩ = some (.int .i64 k) := by simp
  have HC := Lib.hid (indexP_c (w.heap.size + 1) k A n c B ps _ pk (h.next hb0 hB) (Nat.le_trans hB hb0.size) hn)
  clear pk h
  go_enter Tryz.func126, Tryz.ntmps126
  go_wp2_with fail
  refine HC.out.mono ?_
  rintro e w1 ⟨r, rfl, hr, hb1⟩
  have HR := Lib.hid hr
  clear hr
  go_wp2_with fail
  go_ret
  exact ⟨r, rfl, HR.out, bon hb0 hb1⟩

end Go.Proofs.YtdmcpabpjhinhaaGreatDoor

/-! The graph of annotated code: for each instruction those without a point to which it goes on. Conditions: valid annotated code. -/
namespace Go.Proofs.YtdmcpabpjhinhaaGreatDoor
set_option linter.unusedVariables false
open Go.RowKit

def testB (n : Int) (ps : List P2) (z : Int) : Bool := decide (n ≤ z) || ptB ps z
theorem gList_is (xs : List (Int × Int)) (ps : List P2) (k : Nat) : gList xs (atsP ps) k = (tgtN xs k).filter fun z => !testB (xs.length : Int) ps z := by
  unfold gList
  congr 1
  funext t
  unfold testB
  rw [Bool.not_or]
  congr 1
  · rw [Bool.eq_iff_iff]; simp
  · congr 1
    rw [Bool.eq_iff_iff, ptB_ats]
    simp
set_option maxRecDepth 100000 in
set_option maxHeartbeats 1000000 in
theorem graphTest_c (P : Nat) (A0 : Option Addr) (n0 c0 : Nat) (A1 : Option Addr) (n1 c1 : Nat) (A : Option Addr) (n c : Nat) (A3 : Option Addr) (n3 c3 B : Nat) (ps : List P2) (z : Int) (W : World)
    (hP : BlkIs W P 32 #[.slice A0 n0 c0, .slice A1 n1 c1, .slice A n c, .slice A3 n3 c3]) (h3 : InP2 W B A3 n3 ps) (hB : B ≤ W.heap.size) (hn : n3 ≤ 1048576) :
    Calls Tryz.prog 125 #[.int .i64 z, .pointer (some ⟨P, 0, none⟩)] W fun e w' => e = .returned (.bool (testB (n : Int) ps z)) ∧ Below W.heap.size W w' := by
  have p0 := hP.cell 0
  have p1 := hP.cell 1
  have p2 := hP.cell 2
  have p3 := hP.cell 3
  simp at p0 p1 p2 p3
  by_cases hz : (n : Int) ≤ z
  · have HE : Hid (testB (n : Int) ps z = true) := by show testB _ _ _ = true; unfold testB; rw [decide_eq_true hz]; rfl
    go_enter Tryz.func125, Tryz.ntmps125
    go_wp2_with fail
    go_ret
    exact ⟨by rw [HE.out]; rfl, Below.refl _ _⟩
  · have hz' : ¬ (n : Int) ≤ z := hz
    have HE : Hid (testB (n : Int) ps z = ptB ps z) := by show testB _ _ _ = _; unfold testB; rw [decide_eq_false hz]; rfl
    have HP := Lib.hid (pointAt_c (.slice A0 n0 c0) (.slice A1 n1 c1) (.slice A n c) z A3 n3 c3 B ps W h3 hB hn)
    go_enter Tryz.func125, Tryz.ntmps125
    go_wp2_with fail
    refine HP.out.mono ?_
    rintro e w1 ⟨r, rfl, hr, hb1⟩
    have HR := Lib.hid hr
    clear hr
    go_wp2_with fail
    go_ret
    refine ⟨?_, hb1⟩
    rw [HE.out]
    have : (r != -1) = ptB ps z := by rw [bne, HR.out, Bool.not_not]
    rw [← this]
    rfl
theorem infoSet : (Tryz.prog.info? 98).map (fun i => (i.zero, i.size, i.bytes)) = some (some (.agg #[.int .u64 0, .int .u64 0]), 2, 16) := by kernel_rfl
/-- A row of sets that is laid as far as the first ones go. -/
def LaidG (ys : List Value) (k : Nat) (G : Nat → Nat) : Prop := ∀ j, j < k → ys[j * 2]? = some (.int .u64 (loW (G j) : Nat)) ∧ ys[j * 2 + 1]? = some (.int .u64 (hiW (G j) : Nat))
theorem LaidG.step {ys : List Value} {k n : Nat} {G : Nat → Nat} (h : LaidG ys k G) (hl : ys.length = n * 2) (hk : k < n) : LaidG ((ys.set (k * 2) (.int .u64 (loW (G k) : Nat))).set (k * 2 + 1) (.int .u64 (hiW (G k) : Nat))) (k + 1) G := fun j hj => by
  by_cases e : j = k
  · subst e
    refine ⟨?_, ?_⟩
    · rw [List.getElem?_set_ne (by omega), List.getElem?_set_self (by omega)]
    · rw [List.getElem?_set_self (by simp; omega)]
  · obtain ⟨a, b⟩ := h j (by omega)
    refine ⟨?_, ?_⟩
    · rw [List.getElem?_set_ne (by omega), List.getElem?_set_ne (by omega)]; exact a
    · rw [List.getElem?_set_ne (by omega), List.getElem?_set_ne (by omega)]; exact b

set_option maxRecDepth 100000 in
set_option maxHeartbeats 4000000 in
theorem graphOf_c (A0 : Option Addr) (n0 c0 : Nat) (t0 : List (Int × List Int)) (A1 : Option Addr) (n1 c1 : Nat) (t1 : List (Int × List Int)) (A : Option Addr) (n c B : Nat) (xs : List (Int × Int)) (A3 : Option Addr) (n3 c3 : Nat) (ps : List P2) (w : World)
    (h : InC w B A n xs) (h3 : InP2 w B A3 n3 ps) (hB : B ≤ w.heap.size) (hann : annB t0 t1 xs ps = true) :
    Calls Tryz.prog 87 #[.agg #[.slice A0 n0 c0, .slice A1 n1 c1, .slice A n c, .slice A3 n3 c3]] w fun e w' => ∃ gb, e = .returned (.slice (some ⟨gb, 0, none⟩) n n) ∧ w.heap.size ≤ gb ∧ GrAt w' gb n (gN xs (atsP ps)) ∧ Below w.heap.size w w' := by
  obtain ⟨i0, hi, hz0, hz1, hz2⟩ := info_parts infoSet
  have hv := (annB_parts hann).1
  have hps := (annB_small hann).2.2.2.1
  have hpn : ps.length = n3 := h3.1
  have hxn : xs.length = n := h.1
  have hp := codeB_parts hv
  have hn80 : 1 ≤ n ∧ n ≤ 80 := by omega
  have hb0 := bnew w (.cells #[.slice A0 n0 c0, .slice A1 n1 c1, .slice A n c, .slice A3 n3 c3] 32)
  have hP : BlkIs (w.alloc (.cells #[.slice A0 n0 c0, .slice A1 n1 c1, .slice A n c, .slice A3 n3 c3] 32)) w.heap.size 32 #[.slice A0 n0 c0, .slice A1 n1 c1, .slice A n c, .slice A3 n3 c3] := blk_new _ _ _ _ rfl
  have p2 := hP.cell 2
  simp at p2
  have HI := Lib.hid h
  have H3 := Lib.hid h3
  have HT := Lib.hid (tgt_in hv)
  have HV := Lib.hid hv
  clear h h3 hv hp hann
  go_enter Tryz.func87, Tryz.ntmps87
  go_upto_region 2 with (at_make; refine wpList_make_full _ rfl _ _ 136 rfl (w.heap.size + 1) 98 i0 (.agg #[.int .u64 0, .int .u64 0]) 2 Tryz.underlying136 hi hz0 hz1 .i64 .i64 _ _ n rfl rfl rfl rfl (by rw [hz2]; omega) (by unfold maxLen; omega) (by simp) ?_; intro w1 hown hgrow)
  rw [World.size_alloc] at hown
  have hb1 := (Below.refl (w.alloc (.cells #[.slice A0 n0 c0, .slice A1 n1 c1, .slice A n c, .slice A3 n3 c3] 32)).heap.size _).grown hgrow (Nat.le_refl _) (fun _ h => by cases h)
  have hP1 := hP.next hb1
  have hb01 := bon hb0 hb1
  have hlt1 : w.heap.size + 1 < w1.heap.size := (hown.lt (w.heap.size + 1) rfl).2
  obtain ⟨ys0, hys0⟩ : ∃ ys0, (madeCells (Value.agg #[Value.int IntKind.u64 0, Value.int IntKind.u64 0]).cells (n * 2)).toList = ys0 := ⟨_, rfl⟩
  rw [hys0] at hown
  obtain ⟨G, hG⟩ : ∃ G, gN xs (atsP ps) = G := ⟨_, rfl⟩
  have HGN := Lib.hid hG
  have hl0 : LaidG ys0 0 G := fun j hj => by omega
  clear hgrow hys0 hG hP hb0 hb1
  go_upto_region 3 with fail
  go_loopw [4, 11] (fun _ i wr => ∃ (k : Nat) (ys : List Value), k ≤ n ∧ i = .int .i64 k ∧ wr.ownsRow (w.heap.size + 1) 98 2 (.slice (some ⟨w.heap.size + 1, 0, none⟩) n n) n ys ∧ LaidG ys k G ∧ BlkIs wr w.heap.size 32 #[.slice A0 n0 c0, .slice A1 n1 c1, .slice A n c, .slice A3 n3 c3] ∧ Below w.heap.size w wr ∧ w.heap.size + 1 < wr.heap.size) (fun _ i _ => n - (intOf i).toNat)
  case atStart => exact ⟨0, ys0, Nat.zero_le _, rfl, hown, hl0, hP1, hb01, hlt1⟩
  case round =>
    clear hown hl0 hP1 hb01 hlt1
    obtain ⟨k, ys, hk, rfl, hown, hL, hP, hbel, hlt1⟩ := hrel
    have hyl : ys.length = n * 2 := hown.1
    by_cases hlt : k < n
    · have hkn : (k : Int) < (n : Int) := by omega
      have q2 := hP.cell 2
      simp at q2
      have hkl : k < xs.length := by omega
      have hx : xs[k]? = some xs[k] := List.getElem?_eq_getElem hkl
      have HTC := Lib.hid (targetsOf_c A n c B xs k xs[k] wr (HI.out.next hbel hB) (Nat.le_trans hB hbel.size) hx (by omega) (codeB_at HV.out hx))
      have htg : tgtN xs k = tgt1 xs[k].1 xs[k].2 k := by unfold tgtN; rw [List.getD_eq_getElem?_getD, hx]; rfl
      have hGk : G k = putsS 0 ((tgt1 xs[k].1 xs[k].2 k).filter fun z => !testB (xs.length : Int) ps z) := by
        rw [← HGN.out]
        unfold gN
        rw [gList_is, htg]
      have HGK := Lib.hid hGk
      have HTI := Lib.hid (HT.out k xs[k] hx)
      have htl := tgt_len xs[k].1 xs[k].2 k
      clear hx htg hGk
      generalize tgt1 xs[k].1 xs[k].2 k = ts at HTC HGK HTI htl
      go_wp2_with fail
      refine HTC.out.mono ?_
      rintro e w2 ⟨At, ct, rfl, hto, hb2⟩
      have hP2 := hP.next hb2
      have hown2 := own_below hown hb2
      have hb02 := bon hbel hb2
      have HTE : Hid (TestG (testB (n : Int) ps) w.heap.size wr.heap.size w2) := fun z W hW => by
        have hPW : BlkIs W w.heap.size 32 #[.slice A0 n0 c0, .slice A1 n1 c1, .slice A n c, .slice A3 n3 c3] := (hW.block w.heap.size (by omega)).trans hP2
        have hwW : Below w.heap.size w W := hb02.trans (hW.mono (by omega))
        exact graphTest_c w.heap.size A0 n0 c0 A1 n1 c1 A n c A3 n3 c3 B ps z W hPW (H3.out.next hwW hB) (Nat.le_trans hB hwW.size) (by omega)
      have HDE := Lib.hid (deleteG_c HTE.out At ct hto.2.1 hb2.size (by omega))
      clear HTC hP hown q2 hto HTE
      go_wp2_with fail
      refine HDE.out.mono ?_
      rintro e w3 ⟨Ad, cd, rfl, hdl, hb3⟩
      have hb23 : Below wr.heap.size wr w3 := hb2.trans hb3
      have hP3 : BlkIs w3 w.heap.size 32 #[.slice A0 n0 c0, .slice A1 n1 c1, .slice A n c, .slice A3 n3 c3] := (hb3.block w.heap.size (by omega)).trans hP2
      have hown3 : w3.ownsRow (w.heap.size + 1) 98 2 (.slice (some ⟨w.heap.size + 1, 0, none⟩) n n) n ys := by
        have e1 : w3.heap[w.heap.size + 1]? = w2.heap[w.heap.size + 1]? := hb3.block _ hlt1
        rcases hown2 with ⟨a1, a2 | ⟨g, cap, cur, k1, k2, k3, k4⟩⟩
        · exact ⟨a1, .inl a2⟩
        · have eg : g = w.heap.size + 1 := by injection k1 with k1; injection k1 with k1; injection k1 with k1; exact k1.symm
          subst eg
          exact ⟨a1, .inr ⟨_, cap, cur, k1, k2, e1.trans k3, k4⟩⟩
      have hflt : ∀ z ∈ ts.filter (fun z => !testB (n : Int) ps z), 0 ≤ z ∧ z < 128 := fun z hz => by
        have := HTI.out z (List.mem_filter.1 hz).1; omega
      have hfl : (ts.filter fun z => !testB (n : Int) ps z).length ≤ 2 := Nat.le_trans (List.length_filter_le _ _) htl
      have HPL := Lib.hid (placesOf_c Ad _ cd w3.heap.size _ w3 hdl (Nat.le_refl _) (by omega) hflt)
      have HGK2 : Hid (putsS 0 (ts.filter fun z => !testB (n : Int) ps z) = G k) := by show _ = _; rw [HGK.out, hxn]
      rw [HGK2.out] at HPL
      clear HDE hdl hP2 hown2 hflt
      go_wp2_with fail
      refine HPL.out.mono ?_
      rintro e w4 ⟨rfl, hb4⟩
      have hP4 := hP3.next hb4
      have hown4 := own_below hown3 hb4
      have hb24 := bon hbel (bon hb23 hb4)
      have c0 := hown4.cellAt (k * 2) (by omega)
      have c1 := hown4.cellAt (k * 2 + 1) (by omega)
      rw [List.getElem?_eq_getElem (by omega)] at c0 c1
      have f0 := hown4.frozenAt (k * 2)
      have f1 := hown4.frozenAt (k * 2 + 1)
      have hst := ((hown4.stored (k * 2) (.int .u64 (loW (G k) : Nat))).1.stored (k * 2 + 1) (.int .u64 (hiW (G k) : Nat))).1
      have HL := Lib.hid (hL.step hyl hlt)
      have hP5 := (hP4.far (show w.heap.size ≠ w.heap.size + 1 by omega) (k * 2) (.int .u64 (loW (G k) : Nat))).far (show w.heap.size ≠ w.heap.size + 1 by omega) (k * 2 + 1) (.int .u64 (hiW (G k) : Nat))
      have hb5 := (hb24.setCell (p := ⟨w.heap.size + 1, k * 2, none⟩) (Nat.le_succ _) (.int .u64 (loW (G k) : Nat))).setCell (p := ⟨w.heap.size + 1, k * 2 + 1, none⟩) (Nat.le_succ _) (.int .u64 (hiW (G k) : Nat))
      have hs4 := hb4.size
      have hs23 := hb23.size
      clear hown3 hown4 hP3 hP4 HPL hL
      go_wp2_with fail
      go_roundw
      case rel => exact ⟨k + 1, _, by omega, by go_num, hst, HL.out, hP5, hb5, by simp; omega⟩
      case measure => simp [intOf]; omega
    · have e : k = n := by omega
      subst e
      have hGA : GrAt wr (w.heap.size + 1) k G := fun j hj => by
        obtain ⟨a, b⟩ := hL j hj
        exact ⟨(hown.cellAt (j * 2) (by omega)).trans a, (hown.cellAt (j * 2 + 1) (by omega)).trans b⟩
      clear hown hL hP
      go_wp2_with fail
      go_ret
      exact ⟨w.heap.size + 1, rfl, Nat.le_succ _, by rw [HGN.out]; exact hGA, hbel⟩
end Go.Proofs.YtdmcpabpjhinhaaGreatDoor
