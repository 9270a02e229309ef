/-
  Several texts in one: ReachM, Sep, HgtM, HgtS, Att, HgtI. Conditions: as each says.
-/
import Derived.Test.YtffkdidgfeknkaaDoorBunA
import Derived.Test.YtffkdidgfeknkaaDoorBunC
import Derived.OwnWalk
import Derived.Laws.OwnMore
import Derived.Test.YtffkdidgfeknkaaDoorBase
import Derived.Deep.QuietTactic
import Derived.BigQuiet
import Derived.Deep.AppendLies
import Derived.Test.YtffkdidgfeknkaaDoorBlk
import Derived.Test.YtffkdidgfeknkaaDoorOwn
import Derived.Tactics
import Derived.Tactics2
import Derived.Defers
import Derived.Recover
import Derived.Laws.Pointers

/-! What is reached over code: the model's search and its list. Conditions: at most 2^20 instructions. -/
namespace Go.Proofs.YtffkdidgfeknkaaDoor
set_option linter.unusedVariables false
open Go.RowKit

theorem infoBR : (Tryd.prog.info? 4).map (fun i => (i.zero, i.size, i.bytes)) = some (some (.bool false), 1, 1) := by kernel_rfl
/-- The marks that are missing, as memory tells. -/
def missB (w : World) (g : Nat) : Nat := match w.heap[g]? with
  | some (.cells cs _ _) => (cs.toList.filter fun u => match u with | .bool b => !b | _ => false).length
  | _ => 0
theorem missB_is {W : World} {lo g n : Nat} {ms : List Bool} (h : W.ownsRow lo 4 1 (.slice (some ⟨g, 0, none⟩) n n) n (ms.map Value.bool)) : missB W g = missing ms := by
  rcases h.2 with ⟨h', _⟩ | ⟨g', c', cur, h', hb, hg, hnc, hcm, hcs, htake⟩
  · simp at h'
  · simp only [Value.slice.injEq, Option.some.injEq, Addr.mk.injEq, and_true, true_and] at h'
    obtain ⟨rfl, rfl⟩ := h'
    rw [Nat.mul_one] at hcs htake
    rw [List.take_of_length_le (by rw [Array.length_toList]; omega)] at htake
    unfold missB missing
    rw [hg]
    show (cur.toList.filter _).length = _
    rw [htake, List.filter_map, List.length_map]
    rfl
def lenQ : Value → Nat
  | .slice _ n _ => n
  | _ => 0
/-- The model's search in memory. -/
structure SrchW (wc : World) (gs n : Nat) (xs : List (Int × Int)) (S : Int → Prop) (ms : List Bool) (q : List Int) (v : Value) (W : World) : Prop where
  srch : Srch xs S ms q
  que : Que W wc.heap.size v q
  marks : W.ownsRow wc.heap.size 4 1 (.slice (some ⟨gs, 0, none⟩) n n) n (ms.map Value.bool)
  apart : v.ownBlock ≠ some gs
  size : 3 * missing ms + q.length ≤ 400
  below : Below wc.heap.size wc W
/-- An instruction is marked, and the places behind it are appended. -/
theorem missing_le (ms : List Bool) : missing ms ≤ ms.length := List.length_filter_le _ _
theorem SrchW.mark {wc W W1 W2 : World} {gs n k : Nat} {xs : List (Int × Int)} {S : Int → Prop} {ms : List Bool} {q : List Int} {v v' : Value} (h : SrchW wc gs n xs S ms ((k : Int) :: q) v W) {v0 : Value}
    (hq : Que W wc.heap.size v0 q) (h0 : v0.ownBlock = v.ownBlock) (hk : k < xs.length) (hf : ms[k]? = some false) (hb : Below (W.setCell ⟨gs, k, none⟩ (.bool true)).heap.size (W.setCell ⟨gs, k, none⟩ (.bool true)) W1)
    (hq' : Que W2 wc.heap.size v' (q ++ tgtN xs k)) (hg : W1.grownBy W2 v0.ownBlock) (hv : v'.ownBlock = v0.ownBlock ∨ ∃ j, v'.ownBlock = some j ∧ W1.heap.size ≤ j) : SrchW wc gs n xs S (ms.set k true) (q ++ tgtN xs k) v' W2 := by
  have hm := h.marks
  have s1 := (hm.stored k (.bool true)).1
  have s2 := own_below s1 hb
  have s3 := s2.kept hg (.inr (fun e => h.apart (by rw [← h0, ← e]; rfl)))
  have hgs := hm.lt gs rfl
  refine ⟨h.srch.mark hk, hq', ?_, ?_, ?_, ?_⟩
  · rw [← List.map_set] at s3; exact s3
  · rcases hv with e | ⟨j, e, hj⟩
    · rw [e, h0]; exact h.apart
    · rw [e]; intro e'
      obtain rfl := Option.some.inj e'
      have h1 := hgs.2
      have h2 := hb.size
      simp at h2
      omega
  · have := missing_set hf
    have h1 := h.size
    have h2 := tgt_len (xs.getD k (0, 0)).1 (xs.getD k (0, 0)).2 k
    rw [List.length_append]
    unfold tgtN
    rw [List.length_cons] at h1
    omega
  · have b1 : Below wc.heap.size wc (W.setCell ⟨gs, k, none⟩ (.bool true)) := h.below.setCell (p := ⟨gs, k, none⟩) hgs.1 _
    refine (bon b1 hb).grown hg (Nat.le_trans b1.size hb.size) (fun j hj => ?_)
    obtain ⟨b, e, h1, _⟩ := hq.lt
    rw [e] at hj
    rw [← Option.some.inj hj]; exact h1
theorem SrchW.pop {wc W : World} {gs n : Nat} {t : Int} {xs : List (Int × Int)} {S : Int → Prop} {ms : List Bool} {q : List Int} {v v0 : Value} (h : SrchW wc gs n xs S ms (t :: q) v W)
    (hq : Que W wc.heap.size v0 q) (h0 : v0.ownBlock = v.ownBlock) (ht : (xs.length : Int) ≤ t ∨ ms[t.toNat]? = some true) : SrchW wc gs n xs S ms q v0 W :=
  ⟨h.srch.skip ht, hq, h.marks, by rw [h0]; exact h.apart, by have := h.size; rw [List.length_cons] at this; omega, h.below⟩

end Go.Proofs.YtffkdidgfeknkaaDoor

/-! Of no program: append onto a row of one's own, with where the longer row lies. No conditions. -/
namespace Go.Proofs.YtffkdidgfeknkaaDoor
set_option linter.unusedVariables false
open Go.RowKit

section
variable {P : Program} {w : World}
/-- append onto a row of one's own: the longer row lies where the row lay, or in a new block. -/
theorem run_append_sep (base : Nat) (t ty e : TypeId) (i : TypeInfo) (z : Value) (size bytes : Nat) (ht : P.underlying t = some (.slice e)) (hi : P.info? e = some i) (hz : i.zero = some z)
    (hsize : i.size = size) (hby : i.bytes = bytes) (hzs : z.cells.size = size) (hsz : 0 < size)
    (v : Value) (n : Nat) (xs : List Value) (hown : w.ownsRow base e size v n xs)
    (a : Addr) (m c : Nat) (news : List Value) (hl : news.length = m * size) (hnews : ∀ j u, news[j]? = some u → w.cell? (a.add j) = some u) (h1 : ∀ u ∈ news, u.oneCell' = true)
    (h63 : n + m ≤ maxLen) (hbytes : (n + m) * bytes ≤ 140737488355328) (hbase : base ≤ w.heap.size) (hm : 0 < m) :
    ∃ g' cap' w', (Builtin.append_ #[t, t] ty #[v, .slice (some a) m c]).run P w = .ok (.slice (some ⟨g', 0, none⟩) (n + m) cap') w' ∧ w'.ownsRow base e size (.slice (some ⟨g', 0, none⟩) (n + m) cap') (n + m) (xs ++ news) ∧ w.grownBy w' v.ownBlock ∧ (some g' = v.ownBlock ∨ w.heap.size ≤ g') := by
  obtain ⟨v', w', hrun, h2, h3, h4⟩ := run_append_own (P := P) w base t ty e i z size bytes ht hi hz hsize hby hzs hsz v n xs hown a m c news hl hnews h1 h63 hbytes hbase
  have hv : ∃ g' cap', v' = .slice (some ⟨g', 0, none⟩) (n + m) cap' := by
    rcases h2.2 with ⟨_, h0⟩ | ⟨g, cap, cur, e1, _⟩
    · omega
    · exact ⟨g, cap, e1⟩
  obtain ⟨g', cap', rfl⟩ := hv
  refine ⟨g', cap', w', hrun, h2, h3, ?_⟩
  rcases hown.2 with ⟨rfl, rfl⟩ | ⟨g, cap, cur, rfl, hbg, hg, hnc, hcm, hcs, htake⟩
  · have hx : xs = [] := List.eq_nil_of_length_eq_zero (by simpa using hown.1)
    subst hx
    obtain ⟨v2, w2, hrun2, k2, _, _⟩ := run_append_own (P := P) w w.heap.size t ty e i z size bytes ht hi hz hsize hby hzs hsz (.slice none 0 0) 0 [] (World.ownsRow_nil _ _ _ _) a m c news hl hnews h1 h63 hbytes (Nat.le_refl _)
    rw [hrun] at hrun2
    injection hrun2 with e1 e2
    subst e1
    exact .inr (k2.lt g' rfl).1
  · by_cases hroom : n + m ≤ cap
    · obtain ⟨w2, hrun2, _⟩ := run_append_fits (P := P) w base t ty e i size ht hi hsize g n cap xs hown a m c news hl hnews h1 hroom
      rw [hrun] at hrun2
      injection hrun2 with e1 e2
      injection e1 with e3 e4 e5
      injection e3 with e6
      injection e6 with e7
      exact .inl (by rw [e7]; rfl)
    · right
      subst hsize
      subst hby
      have hr := run_append_grow (P := P) w t ty e i z ht hi hz ⟨g, 0, none⟩ n cap xs hown.1 (hown.cells (g := g) rfl) a m c news hl hnews (by omega) (by simp only [maxLen] at h63; omega) (growslice_fits (by omega) hbytes)
      rw [hrun] at hr
      injection hr with e1 e2
      injection e1 with e3 e4 e5
      injection e3 with e6
      injection e6 with e7
      omega
/-- The same at an operation. -/
theorem wpList_append_sep {ops : Array Oper} {rest : List Oper} {o : Oper} {act : Act} {Q : Exit → Act → World → Prop}
    (hg : o.guard = none) (s x : Operand) (t : TypeId) (hop : o.op = Op.call { callee := Callee.builtin Builtin.append, args := #[s, x], argTypes := #[t, t] })
    (base : Nat) (e : TypeId) (i : TypeInfo) (z : Value) (size bytes : Nat) (h1 : P.underlying t = some (.slice e)) (h2 : P.info? e = some i) (h3 : i.zero = some z) (h4 : i.size = size) (h5 : i.bytes = bytes) (h6 : z.cells.size = size) (h7 : 0 < size)
    (v : Value) (k : Nat) (xs : List Value) (hs : act.eval s = v) (hown : w.ownsRow base e size v k xs) (ad : Addr) (m c : Nat) (news : List Value) (hx : act.eval x = .slice (some ad) m c) (hn : news.length = m * size)
    (hc : ∀ j u, news[j]? = some u → w.cell? (ad.add j) = some u) (h1c : ∀ u ∈ news, u.oneCell' = true) (b1 : k + m ≤ maxLen) (b2 : (k + m) * bytes ≤ 140737488355328) (b3 : base ≤ w.heap.size) (hm : 0 < m)
    (hK : ∀ g' cap' w', w'.ownsRow base e size (.slice (some ⟨g', 0, none⟩) (k + m) cap') (k + m) (xs ++ news) → w.grownBy w' v.ownBlock → (some g' = v.ownBlock ∨ w.heap.size ≤ g') → wpList P ops Q rest (act.put o.dst (.slice (some ⟨g', 0, none⟩) (k + m) cap')) w') :
    wpList P ops Q (o :: rest) act w := by
  refine wpList_plain hg fun K hK' => ?_
  obtain ⟨g', cap', w', hrun, r1, r2, r3⟩ := run_append_sep (P := P) (w := w) base t o.type e i z size bytes h1 h2 h3 h4 h5 h6 h7 v k xs hown ad m c news hn hc h1c b1 b2 b3 hm
  unfold Oper.wp
  simp [execOp, hop, resolve, invoke, builtin, hs, hx, hrun, Result.andThen]
  exact hK' _ _ (hK _ _ w' r1 r2 r3)
/-- The same as one step of a region that draws. -/
theorem step_append_sep {ops : Array Oper} {o : Oper} {act : Act} {K : Act → World → Prop} {Q : Exit → Act → World → Prop} {E : Prop}
    (hg : o.guard = none) (s x : Operand) (t : TypeId) (hop : o.op = Op.call { callee := Callee.builtin Builtin.append, args := #[s, x], argTypes := #[t, t] })
    (base : Nat) (e : TypeId) (i : TypeInfo) (z : Value) (size bytes : Nat) (h1 : P.underlying t = some (.slice e)) (h2 : P.info? e = some i) (h3 : i.zero = some z) (h4 : i.size = size) (h5 : i.bytes = bytes) (h6 : z.cells.size = size) (h7 : 0 < size)
    (v : Value) (k : Nat) (xs : List Value) (hs : act.eval s = v) (hown : w.ownsRow base e size v k xs) (ad : Addr) (m c : Nat) (news : List Value) (hx : act.eval x = .slice (some ad) m c) (hn : news.length = m * size)
    (hc : ∀ j u, news[j]? = some u → w.cell? (ad.add j) = some u) (h1c : ∀ u ∈ news, u.oneCell' = true) (b1 : k + m ≤ maxLen) (b2 : (k + m) * bytes ≤ 140737488355328) (b3 : base ≤ w.heap.size) (hm : 0 < m)
    (hK : ∀ g' cap' w', w'.ownsRow base e size (.slice (some ⟨g', 0, none⟩) (k + m) cap') (k + m) (xs ++ news) → w.grownBy w' v.ownBlock → (some g' = v.ownBlock ∨ w.heap.size ≤ g') → K (act.put o.dst (.slice (some ⟨g', 0, none⟩) (k + m) cap')) w') :
    if Region.wanted o (yielded ops act.tmps) = true then Oper.wp P o act w K Q else E := by
  have hw : Region.wanted o (yielded ops act.tmps) = true := by simp [Region.wanted, hg]
  rw [if_pos hw]
  obtain ⟨g', cap', w', hrun, r1, r2, r3⟩ := run_append_sep (P := P) (w := w) base t o.type e i z size bytes h1 h2 h3 h4 h5 h6 h7 v k xs hown ad m c news hn hc h1c b1 b2 b3 hm
  unfold Oper.wp
  simp [execOp, hop, resolve, invoke, builtin, hs, hx, hrun, Result.andThen]
  exact hK _ _ w' r1 r2 r3
end
end Go.Proofs.YtffkdidgfeknkaaDoor

/-! Heights over code: the model's search. Conditions: valid code. -/
namespace Go.Proofs.YtffkdidgfeknkaaDoor
set_option linter.unusedVariables false
open Go.RowKit

theorem popB_bound (op : Int) : 0 ≤ popB op ∧ popB op ≤ 2 := by unfold popB; split <;> (try split) <;> omega
theorem pushB_bound (op : Int) : 0 ≤ pushB op ∧ pushB op ≤ 1 := by unfold pushB; split <;> omega

/-- The negative numbers of a row, as memory tells. -/
def negW (w : World) (g n : Nat) : Nat := match w.heap[g]? with
  | some (.cells cs _ _) => ((cs.toList.take n).filter fun u => match u with | .int _ x => decide (x < 0) | _ => false).length
  | _ => 0
theorem negW_is {W : World} {lo g n c : Nat} {zs : List Int} (h : W.ownsRow lo 2 1 (.slice (some ⟨g, 0, none⟩) n c) n (zs.map ic)) : negW W g n = negN zs := by
  rcases h.2 with ⟨h', _⟩ | ⟨g', c', cur, h', hb, hg, hnc, hcm, hcs, htake⟩
  · simp at h'
  · simp only [Value.slice.injEq, Option.some.injEq, Addr.mk.injEq, and_true, true_and] at h'
    obtain ⟨rfl, rfl⟩ := h'
    rw [Nat.mul_one] at htake
    unfold negW negN
    rw [hg]
    show ((cur.toList.take n).filter _).length = _
    rw [htake, List.filter_map, List.length_map]
    rfl
/-- The search in memory: the queue and the heights. -/
structure HgtW (wc : World) (gO cO n : Nat) (out q : List Int) (v : Value) (W : World) : Prop where
  que : Que W wc.heap.size v q
  outs : W.ownsRow wc.heap.size 2 1 (.slice (some ⟨gO, 0, none⟩) n cO) n (out.map ic)
  apart : v.ownBlock ≠ some gO
  size : 2 * negN out + q.length ≤ 400
  top : ∀ z ∈ out, z ≤ 6
  below : Below wc.heap.size wc W
section
variable {wc W W' W1 W2 : World} {gO cO n k : Nat} {out q ys : List Int} {v v' v0 : Value} {t z a : Int}
theorem HgtW.keep (h : HgtW wc gO cO n out q v W) (hb : Below W.heap.size W W') : HgtW wc gO cO n out q v W' :=
  ⟨h.que.next hb, own_below h.outs hb, h.apart, h.size, h.top, bon h.below hb⟩
theorem HgtW.pop (h : HgtW wc gO cO n out (t :: q) v W) (hq : Que W wc.heap.size v0 q) (h0 : v0.ownBlock = v.ownBlock) : HgtW wc gO cO n out q v0 W :=
  ⟨hq, h.outs, by rw [h0]; exact h.apart, by have := h.size; rw [List.length_cons] at this; omega, h.top, h.below⟩
/-- A height is put, and its place appended. -/
theorem HgtW.put (h : HgtW wc gO cO n out q v W) (hk : out[k]? = some a) (ha : a < 0) (hz : 0 ≤ z) (hz6 : z ≤ 6) (hb : Below (W.setCell ⟨gO, k, none⟩ (.int .i64 z)).heap.size (W.setCell ⟨gO, k, none⟩ (.int .i64 z)) W1)
    (hq : Que W2 wc.heap.size v' (q ++ [t])) (hg : W1.grownBy W2 v.ownBlock) (hv : v'.ownBlock = v.ownBlock ∨ ∃ j, v'.ownBlock = some j ∧ W1.heap.size ≤ j) : HgtW wc gO cO n (out.set k z) (q ++ [t]) v' W2 := by
  have hm := h.outs
  have s1 := (hm.stored k (.int .i64 z)).1
  have s2 := own_below s1 hb
  have s3 := s2.kept hg (.inr (fun e => h.apart (by rw [← e]; rfl)))
  have hgs := hm.lt gO rfl
  refine ⟨hq, ?_, ?_, ?_, fun y hy => by rcases List.mem_or_eq_of_mem_set hy with e | rfl; exact h.top y e; exact hz6, ?_⟩
  · rw [List.map_set]; exact s3
  · rcases hv with e | ⟨j, e, hj⟩
    · rw [e]; exact h.apart
    · rw [e]; intro e'
      obtain rfl := Option.some.inj e'
      have h1 := hgs.2
      have h2 := hb.size
      simp at h2
      omega
  · have h1 := negN_set hk ha hz
    have h2 := h.size
    rw [List.length_append, List.length_singleton]
    omega
  · have b1 : Below wc.heap.size wc (W.setCell ⟨gO, k, none⟩ (.int .i64 z)) := h.below.setCell (p := ⟨gO, k, none⟩) hgs.1 _
    refine (bon b1 hb).grown hg (Nat.le_trans b1.size hb.size) (fun j hj => ?_)
    obtain ⟨b, e, h1, _⟩ := h.que.lt
    rw [e] at hj
    rw [← Option.some.inj hj]; exact h1
end

end Go.Proofs.YtffkdidgfeknkaaDoor

/-! The model's StackHeights. Conditions: at most 2^20 instructions. -/
namespace Go.Proofs.YtffkdidgfeknkaaDoor
set_option linter.unusedVariables false
open Go.RowKit

theorem hgtR_cases {xs : List (Int × Int)} {out : List Int} {ok : Bool} (hc : codeB xs = true) (h1 : ok = true → LeastH xs out) (h2 : ok = false → ∀ K, ¬ GoodH xs K) : hgtR xs = if ok = true then (out, true) else ([], false) := by
  cases ok with
  | true => rw [if_pos rfl]; exact hgtR_yes hc (h1 rfl)
  | false => rw [if_neg (by simp)]; exact hgtR_no (h2 rfl)

end Go.Proofs.YtffkdidgfeknkaaDoor

/-! attempt at []int64: what StackHeights$1 returns, or false where it panics. No conditions. -/
namespace Go.Proofs.YtffkdidgfeknkaaDoor
set_option linter.unusedVariables false
open Go.RowKit

theorem catch_stuck (p : Addr) (x : Bool) (u : TypeId) (pv : Value) (older : List PanicEntry) (w : World) (hc : w.cell? p = some (.bool x)) (hz : w.frozen? p = false) :
    CallsD Tryd.prog 83 #[.pointer (some p)] (.panicking ({ v := .iface u pv, recovered := false } :: older)) w fun e u' w' =>
      e = .returned (.tuple #[]) ∧ u' = .panicking ({ v := .iface u pv, recovered := true } :: older) ∧ w' = w.setCell p (.bool false) := by
  refine callsD_of_wpS Tryd.func83 rfl fun c₀ cs hu => ?_
  apply wpS_region
  simp [wpOpsS, go_sem, recoverD, hu, Tryd.ntmps83, hc, hz, bodyPostS, results, Tryd.results83]
theorem catch_none (p : Addr) (x : Bool) (w : World) (hc : w.cell? p = some (.bool x)) (hz : w.frozen? p = false) :
    CallsD Tryd.prog 83 #[.pointer (some p)] .returning w fun e u' w' => e = .returned (.tuple #[]) ∧ u' = .returning ∧ w' = w.setCell p (.bool true) := by
  refine callsD_of_wpS Tryd.func83 rfl fun c₀ cs hu => ?_
  apply wpS_region
  simp [wpOpsS, go_sem, recoverD, hu, Tryd.ntmps83, hc, hz, bodyPostS, results, Tryd.results83]
  cases c₀
  simp_all

set_option maxRecDepth 100000 in
set_option maxHeartbeats 4000000 in
theorem attempt_no (q : Addr) (tp : TypeId) (pv : Value) (N : Prop) (w : World) (h : Calls Tryd.prog 50 #[.pointer (some q)] (w.alloc (.cells #[.bool false] 4)) fun e w' => e = .panicked [{ v := .iface tp pv, recovered := false }] ∧ N ∧ Below (w.heap.size + 1) (w.alloc (.cells #[.bool false] 4)) w') :
    Calls Tryd.prog 49 #[.func (.func 50) #[] #[.pointer (some q)]] w fun e w' => e = .returned (.tuple #[.slice none 0 0, .bool false]) ∧ N ∧ Below w.heap.size w w' := by
  have hmf : ∀ (fn : Fn) (first cap : Array Value) (w : World), (Instr.makeFunc fn first cap).run Tryd.prog w = .ok (.func fn first cap) w := fun _ _ _ _ => rfl
  have HH := Lib.hid h
  clear h
  go_enter_defers Tryd.func49, Tryd.ntmps49
  go_wp2_with (go_at_call 50; refine HH.out.mono ?_; rintro e w1 ⟨rfl, hN, hb⟩)
  have hK : BlkIs w1 w.heap.size 4 #[.bool false] := (hb.block w.heap.size (Nat.lt_succ_self _)).trans (heap_alloc_new w _)
  have hc : w1.cell? ⟨w.heap.size, 0, none⟩ = some (.bool false) := hK.cell 0
  have hz := hK.frozen 0
  have hK2 := hK.set 0 (.bool false)
  have HN := Lib.hid hN
  refine leaves_cons (f := 83) (args := #[.pointer (some ⟨w.heap.size, 0, none⟩)]) (by simp) (by simp [go_sem]) ?_
  refine (catch_stuck ⟨w.heap.size, 0, none⟩ false tp pv [] w1 hc hz).mono ?_
  rintro e u' w'' ⟨rfl, rfl, rfl⟩
  have hbb : Below w.heap.size w (w1.setCell ⟨w.heap.size, 0, none⟩ (.bool false)) := ((bnew w (.cells #[.bool false] 4)).trans (hb.mono (Nat.le_succ _))).setCell (p := ⟨w.heap.size, 0, none⟩) (Nat.le_refl _) _
  have hc2 : (w1.setCell ⟨w.heap.size, 0, none⟩ (.bool false)).cell? ⟨w.heap.size, 0, none⟩ = some (.bool false) := hK2.cell 0
  have HB := Lib.hid hbb
  clear hbb hc hz hb hN hK hK2
  simp [Leaves, settle, results, Tryd.results49, go_sem, hc2]
  exact ⟨HN.out, HB.out⟩

set_option maxRecDepth 100000 in
set_option maxHeartbeats 4000000 in
theorem attempt_yes (q : Addr) (R : Value → World → Prop) (w : World) (h : Calls Tryd.prog 50 #[.pointer (some q)] (w.alloc (.cells #[.bool false] 4)) fun e w' => ∃ v, e = .returned v ∧ R v w' ∧ Below (w.heap.size + 1) (w.alloc (.cells #[.bool false] 4)) w') :
    Calls Tryd.prog 49 #[.func (.func 50) #[] #[.pointer (some q)]] w fun e w' => ∃ v w0, e = .returned (.tuple #[v, .bool true]) ∧ R v w0 ∧ Below (w.heap.size + 1) (w.alloc (.cells #[.bool false] 4)) w0 ∧ w' = (w0.setCell ⟨w.heap.size, 0, none⟩ (.bool true)).setCell ⟨w.heap.size, 0, none⟩ (.bool true) := by
  have hmf : ∀ (fn : Fn) (first cap : Array Value) (w : World), (Instr.makeFunc fn first cap).run Tryd.prog w = .ok (.func fn first cap) w := fun _ _ _ _ => rfl
  have HH := Lib.hid h
  clear h
  go_enter_defers Tryd.func49, Tryd.ntmps49
  go_wp2_with (go_at_call 50; refine HH.out.mono ?_; (rintro e w1 ⟨v, rfl, hr, hb⟩); (have hK : BlkIs w1 w.heap.size 4 #[.bool false] := (hb.block w.heap.size (Nat.lt_succ_self _)).trans (heap_alloc_new w _)); (have hc : w1.cell? ⟨w.heap.size, 0, none⟩ = some (.bool false) := hK.cell 0); (have hz := hK.frozen 0); (have HR := Lib.hid hr); (have HB := Lib.hid hb); clear hr hb)
  have hz2 : (w1.setCell ⟨w.heap.size, 0, none⟩ (.bool true)).frozen? ⟨w.heap.size, 0, none⟩ = false := (hK.set 0 (.bool true)).frozen 0
  have hc1 : (w1.setCell ⟨w.heap.size, 0, none⟩ (.bool true)).cell? ⟨w.heap.size, 0, none⟩ = some (.bool true) := (hK.set 0 (.bool true)).cell 0
  have hc2 : ((w1.setCell ⟨w.heap.size, 0, none⟩ (.bool true)).setCell ⟨w.heap.size, 0, none⟩ (.bool true)).cell? ⟨w.heap.size, 0, none⟩ = some (.bool true) := ((hK.set 0 (.bool true)).set 0 (.bool true)).cell 0
  refine leaves_cons (f := 83) (args := #[.pointer (some ⟨w.heap.size, 0, none⟩)]) (by simp) (by simp [go_sem]) ?_
  refine (catch_none ⟨w.heap.size, 0, none⟩ true _ hc1 hz2).mono ?_
  rintro e u' w'' ⟨rfl, rfl, rfl⟩
  clear hc hz hz2 hc1 hK
  simp [Leaves, settle, results, Tryd.results49, go_sem, hc2]
  exact ⟨w1, HR.out, HB.out, rfl⟩
end Go.Proofs.YtffkdidgfeknkaaDoor

/-! The program's StackHeights. Conditions: at most 2^20 instructions; the program's own error lies in its variable. -/
namespace Go.Proofs.YtffkdidgfeknkaaDoor
set_option linter.unusedVariables false
open Go.RowKit

set_option maxRecDepth 100000 in
set_option maxHeartbeats 4000000 in
theorem implHgt_c (tp : TypeId) (pv : Value) (A : Option Addr) (n c B : Nat) (xs : List (Int × Int)) (w : World) (h : InC w B A n xs) (hB : B ≤ w.heap.size) (hn : n ≤ 1048576) (hs : Stuck tp pv w) :
    Calls Tryd.prog 23 #[.slice A n c] w fun e w' => ∃ A' c', e = .returned (.tuple #[.slice A' (hgtR xs).1.length c', .bool (hgtR xs).2]) ∧ OwnL w' w.heap.size w'.heap.size A' (hgtR xs).1.length c' (hgtR xs).1 ∧ Below w.heap.size w w' := by
  have hmf : ∀ (fn : Fn) (first cap : Array Value) (w : World), (Instr.makeFunc fn first cap).run Tryd.prog w = .ok (.func fn first cap) w := fun _ _ _ _ => rfl
  have hb0 := bnew w (.cells #[.slice A n c] 43)
  have hX : BlkIs (w.alloc (.cells #[.slice A n c] 43)) w.heap.size 43 #[.slice A n c] := blk_new _ _ _ _ rfl
  have HC0 := implCode_c A n c B xs (w.alloc (.cells #[.slice A n c] 43)) (h.next hb0 hB) (Nat.le_trans hB hb0.size) hn
  have hlen : xs.length = n := h.1
  have HLN := Lib.hid hlen
  have HI := Lib.hid h
  obtain ⟨R, HR⟩ : ∃ R, Hid (hgtR xs = R) := ⟨_, rfl⟩
  rw [HR.out]
  cases hv : codeB xs with
  | false =>
    have HE : Hid (R = ([], false)) := by show R = _; rw [← HR.out]; exact hgtR_bad hv
    rw [hv] at HC0
    have HC := Lib.hid HC0
    clear HC0 hv h hlen
    go_enter Tryd.func23, Tryd.ntmps23
    go_wp2_with fail
    refine HC.out.mono ?_
    rintro e w1 ⟨rfl, hb1⟩
    go_wp2_with fail
    go_ret2
    rw [HE.out]
    exact ⟨none, 0, rfl, (ownL_nil _).less (bon hb0 hb1).size, bon hb0 hb1⟩
  | true =>
    have HV := Lib.hid hv
    rw [hv] at HC0
    have HC := Lib.hid HC0
    have HS := Lib.hid hs
    clear HC0 hv h hs hlen
    go_enter Tryd.func23, Tryd.ntmps23
    go_wp2_with fail
    generalize w.alloc (.cells #[.slice A n c] 43) = W0 at hb0 hX HC ⊢
    refine HC.out.mono ?_
    rintro e w1 ⟨rfl, hb1⟩
    have hX1 := hX.next hb1
    have hb01 := bon hb0 hb1
    have hb2 := bnew w1 (.cells #[.bool false] 4)
    have hX2 := hX1.next hb2
    have hz2 : (w1.alloc (.cells #[.bool false] 4)).heap.size = w1.heap.size + 1 := by simp
    have hrun := heights1_c w.heap.size A n c B xs tp pv (w1.alloc (.cells #[.bool false] 4)) (HI.out.next (bon hb01 hb2) hB) (Nat.le_trans hB (bon hb01 hb2).size) HV.out (hX2.cell 0) hX2.lt (HS.out.next (bon hb01 hb2))
    rw [hz2] at hrun
    by_cases hG : ∃ G, GoodH xs G
    · have hat := attempt_yes ⟨w.heap.size, 0, none⟩ (fun v w' => ∃ L A' c', v = .slice A' n c' ∧ LeastH xs L ∧ OwnL w' (w1.heap.size + 1) w'.heap.size A' n c' L) w1 (hrun.mono (by
        rintro e w' (⟨L, A', c', rfl, h1, h2, h3⟩ | ⟨rfl, h1, h2⟩)
        · exact ⟨_, rfl, ⟨L, A', c', rfl, h1, h2⟩, h3⟩
        · obtain ⟨G, hg⟩ := hG; exact absurd hg (h1 G)))
      have HAT := Lib.hid hat
      clear hat hrun hX1 hX2 hb2
      go_wp2_with fail
      refine HAT.out.mono ?_
      rintro e w3 ⟨v, w0, rfl, ⟨L, A', c', rfl, hL, ho⟩, hb3, rfl⟩
      have HE : Hid (R = (L, true)) := by show R = _; rw [← HR.out]; exact hgtR_yes HV.out hL
      have hll : L.length = n := hL.good.len.trans HLN.out
      have ho2 := ownsRow_setCell_below (a := ⟨w1.heap.size, 0, none⟩) (ownsRow_setCell_below (a := ⟨w1.heap.size, 0, none⟩) ho.2.1 (Nat.lt_succ_self _) (.bool true)) (Nat.lt_succ_self _) (.bool true)
      have HO := Lib.hid (OwnL.of_own ho2)
      have hbz : Below w.heap.size w ((w0.setCell ⟨w1.heap.size, 0, none⟩ (.bool true)).setCell ⟨w1.heap.size, 0, none⟩ (.bool true)) := ((bon hb01 (bnew w1 (.cells #[.bool false] 4))).trans (hb3.mono (Nat.le_succ_of_le hb01.size))).trans (((Below.refl _ _).setCell (p := ⟨w1.heap.size, 0, none⟩) hb01.size _).setCell (p := ⟨w1.heap.size, 0, none⟩) hb01.size _)
      have HBZ := Lib.hid hbz
      have HLL := Lib.hid hll
      clear hL ho hb3 ho2 hbz hll
      go_wp2_with fail
      go_ret2
      rw [HE.out]
      refine ⟨A', c', congrArg (fun m => Ending.returned (.tuple #[.slice A' m c', .bool true])) HLL.out.symm, ?_, HBZ.out⟩
      rw [HLL.out]
      exact HO.out.less (Nat.le_succ_of_le hb01.size)
    · have hat := attempt_no ⟨w.heap.size, 0, none⟩ tp pv (∀ G, ¬ GoodH xs G) w1 (hrun.mono (by
        rintro e w' (⟨L, A', c', rfl, h1, h2, h3⟩ | ⟨rfl, h1, h2⟩)
        · exact absurd ⟨L, h1.good⟩ hG
        · exact ⟨rfl, h1, h2⟩))
      have HAT := Lib.hid hat
      clear hat hrun hX1 hX2 hb2
      go_wp2_with fail
      refine HAT.out.mono ?_
      rintro e w3 ⟨rfl, hN, hb3⟩
      have HE : Hid (R = ([], false)) := by show R = _; rw [← HR.out]; exact hgtR_no hN
      have HB := Lib.hid (bon hb01 hb3)
      clear hN hb3
      go_wp2_with fail
      go_ret2
      rw [HE.out]
      exact ⟨none, 0, rfl, (ownL_nil _).less HB.out.size, HB.out⟩
end Go.Proofs.YtffkdidgfeknkaaDoor
