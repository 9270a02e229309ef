/-
  slices.Backward at nodes: what its value does with every loop body that keeps what lay below a block. Conditions: at most 2^20 nodes.
-/
import Derived.RangeFuncNested
import Derived.RangeFuncBound
import Derived.RangeFuncCalls
import Derived.RangeFuncLeaves
import Derived.Shelf.Abstract
import Derived.Shelf.RegionOpen
import Derived.OwnWalkIn
import Derived.TacticsInMore
import Derived.LoopNIn
import Derived.LoopIn
import Derived.Test.YtejgpooghengmaaDoorIsN
namespace Go.Proofs.YtejgpooghengmaaDoor
set_option linter.unusedVariables false
open Go.RowKit Go.Shelf Go.Deep
attribute [local go_sem] Oper.semAt_some

/-- A node as it lies in memory: its numbers, and where its two lists lie. -/
structure NV where
  x : N5
  A0 : Option Addr
  n0 : Nat
  c0 : Nat
  A1 : Option Addr
  n1 : Nat
  c1 : Nat
instance : Inhabited NV := ⟨⟨default, none, 0, 0, none, 0, 0⟩⟩
def NV.val (y : NV) : Value := .agg #[.int .i64 y.x.k, .int .i64 y.x.f, .int .i64 y.x.t.1, .slice y.A0 y.n0 y.c0, .slice y.A1 y.n1 y.c1]
def NVAt (w : World) (b o : Nat) (y : NV) : Prop := w.cell? ⟨b, o, none⟩ = some (.int .i64 y.x.k) ∧ w.cell? ⟨b, o + 1, none⟩ = some (.int .i64 y.x.f) ∧ w.cell? ⟨b, o + 2, none⟩ = some (.int .i64 y.x.t.1) ∧ w.cell? ⟨b, o + 3, none⟩ = some (.slice y.A0 y.n0 y.c0) ∧ w.cell? ⟨b, o + 4, none⟩ = some (.slice y.A1 y.n1 y.c1)
theorem NVAt.below {n₀ : Nat} {w w' : World} {b o : Nat} {y : NV} (h : NVAt w b o y) (hb : Below n₀ w w') (hlt : b < n₀) : NVAt w' b o y := by
  obtain ⟨q0, q1, q2, q3, q4⟩ := h
  have g : ∀ {o v}, w.cell? ⟨b, o, none⟩ = some v → w'.cell? ⟨b, o, none⟩ = some v := fun {o v} hc => (hb.cell (p := ⟨b, o, none⟩) hlt).trans hc
  exact ⟨g q0, g q1, g q2, g q3, g q4⟩
/-- The nodes of a list, as they lie. -/
theorem nvs_of {w : World} {B : Nat} {A : Option Addr} {n : Nat} {xs : List N5} (h : InN5 w B A n xs) : ∃ g : Nat → NV, ∀ j, j < n → ∃ b off, A = some ⟨b, off, none⟩ ∧ b < B ∧ xs[j]? = some (g j).x ∧ NVAt w b (off + j * 5) (g j) ∧ InL w B (g j).A0 (g j).n0 (g j).x.t.2 ∧ InL w B (g j).A1 (g j).n1 (g j).x.m := by
  obtain ⟨f, hf⟩ := choose_lt (α := NV) (n := n) (p := fun j y => ∃ b off, A = some ⟨b, off, none⟩ ∧ b < B ∧ xs[j]? = some y.x ∧ NVAt w b (off + j * 5) y ∧ InL w B y.A0 y.n0 y.x.t.2 ∧ InL w B y.A1 y.n1 y.x.m) (fun j hj => by
    obtain ⟨b, off, x, e, hb, hx, A0, n0, c0, A1, n1, c1, q0, q1, q2, q3, q4, k0, k1⟩ := h.at_ hj
    exact ⟨⟨x, A0, n0, c0, A1, n1, c1⟩, b, off, e, hb, hx, ⟨q0, q1, q2, q3, q4⟩, k0, k1⟩)
  exact ⟨f, hf⟩
/-- What has come when k rounds are over. -/
def upto {α : Type} (f : Nat → α) (k : Nat) : List α := (List.range k).map f
theorem upto_succ {α : Type} (f : Nat → α) (k : Nat) : upto f (k + 1) = upto f k ++ [f k] := by simp [upto, List.range_succ]
theorem upto_length {α : Type} (f : Nat → α) (k : Nat) : (upto f k).length = k := by simp [upto]
/-- What a round keeps: what lay below a block, and the box of the list. -/
def KeepB (n₀ Bs : Nat) (v : Value) (W W' : World) : Prop := Below n₀ W W' ∧ (BlkIs W Bs 25 #[v] → BlkIs W' Bs 25 #[v])
theorem keepB_t {n₀ Bs : Nat} {v : Value} {A B C : World} (h : KeepB n₀ Bs v A B) (k : KeepB n₀ Bs v B C) : KeepB n₀ Bs v A C := ⟨h.1.trans k.1, fun e => k.2 (h.2 e)⟩
theorem keepB_b {n₀ Bs : Nat} {v : Value} {w : World} (hn : n₀ ≤ w.heap.size) (W : World) (l : Nat) (o o' : Obj) (hl : w.heap.size ≤ l) (h : W.heap[l]? = some o) (hc : o.isCells = false) (hw : o.isWalk = false) : KeepB n₀ Bs v W (W.putObj l o') :=
  ⟨belowK_b hn W l o o' hl h hc hw, fun e => (World.putObj_heap_other (fun e' => by rw [← e'] at h; rw [show W.heap[Bs]? = _ from e] at h; obtain rfl := Option.some.inj h; cases hc)).trans e⟩
/-- From the last one on. -/
def bk (g : Nat → NV) (n : Nat) (k : Nat) : Nat × NV := (n - 1 - k, g (n - 1 - k))
def bkE (x : Nat × NV) : Array Value := #[.int .i64 (x.1 : Int), x.2.val]

set_option maxRecDepth 100000 in
set_option maxHeartbeats 2000000 in
theorem back1_in (F : Fence) (n : Nat) (h8 : F.fn 95) (hro : F.round = none) (hn : 1 ≤ n) (l Bs n₀ b off len cap : Nat) {α : Type} (encs : α → Array Value) (f : Nat → α) (g : Nat → NV) (hf : ∀ k, k < len → encs (f k) = bkE (bk g len k)) (hl : len ≤ 1048576) (hb : b < n₀) (J Jx : List α → World → Prop)
    (hY : ∀ pre x W, J pre W → pre.length < len → YieldAt F (n - 1) Tryd.prog l (encs x) W fun e W' =>
      (e = .returned (.bool true) ∧ J (pre ++ [x]) W' ∧ KeepB n₀ Bs (.slice (some ⟨b, off, none⟩) len cap) W W') ∨ (e = .returned (.bool false) ∧ Jx (pre ++ [x]) W'))
    (W : World) (hBs : BlkIs W Bs 25 #[.slice (some ⟨b, off, none⟩) len cap]) (hc : ∀ j, j < len → NVAt W b (off + j * 5) (g j)) (h0 : J [] W) :
    CallsIn F n Tryd.prog 95 #[.func (.yield l) #[] #[], .pointer (some ⟨Bs, 0, none⟩)] W fun e W' => (∃ v, e = .returned v) ∧
      ((∃ ys, ys = upto f len ∧ J ys W') ∨ (∃ pre, (∃ k, k ≤ len ∧ pre = upto f k) ∧ Jx pre W')) := by
  refine callsIn_of_wp Tryd.func95 rfl h8 ?_ hro
  simp only [Tryd.ntmps95, List.size_toArray, List.length_cons, List.length_nil, Nat.reduceAdd, Nat.reduceSub, Array.replicate_succ, Array.replicate_zero, List.push_toArray, List.append_toArray, List.nil_append, List.cons_append]
  have hb0 := hBs.cell 0
  simp at hb0
  gi_wp2
  clear hb0
  gi_loopw [3] (fun i wr => ∃ m : Nat, m ≤ len ∧ i = .int .i64 ((m : Int) - 1) ∧ J (upto f (len - m)) wr ∧ KeepB n₀ Bs (.slice (some ⟨b, off, none⟩) len cap) W wr)
    (fun i _ => (intOf i + 1).toNat)
  case atStart => exact ⟨len, Nat.le_refl _, rfl, by rw [Nat.sub_self]; exact h0, Below.refl _ _, id⟩
  case round =>
    obtain ⟨m, hm, rfl, hJs, hnx⟩ := hrel
    cases m with
    | succ q =>
      have e1 : ((q + 1 : Nat) : Int) - 1 = (q : Int) := by omega
      rw [e1]
      have e2 : bk g len (len - (q + 1)) = (q, g q) := by unfold bk; rw [show len - 1 - (len - (q + 1)) = q by omega]
      have e3 := hf (len - (q + 1)) (by omega)
      rw [e2] at e3
      have hJn : Hid (∀ W', J (upto f (len - (q + 1)) ++ [f (len - (q + 1))]) W' → J (upto f (len - q)) W') := fun W' h => by
        rw [show len - q = len - (q + 1) + 1 by omega, upto_succ]; exact h
      have hJx : Hid (∀ W', Jx (upto f (len - (q + 1)) ++ [f (len - (q + 1))]) W' → ∃ pre, (∃ k, k ≤ len ∧ pre = upto f k) ∧ Jx pre W') := fun W' h =>
        ⟨_, ⟨len - (q + 1) + 1, by omega, by rw [upto_succ]⟩, h⟩
      obtain ⟨q0, q1, q2, q3, q4⟩ := (hc q (by omega)).below hnx.1 hb
      have hbs := (hnx.2 hBs).cell 0
      simp at hbs
      obtain ⟨fn, tmps, assign, body, hy, hR⟩ := hY _ (f (len - (q + 1))) wr hJs (by rw [upto_length]; omega)
      rw [e3] at hy
      unfold bkE NV.val at hy
      dsimp only at hy
      clear e1 e2 e3
      generalize f (len - (q + 1)) = X at hR hJn hJx
      generalize g q = G at q0 q1 q2 q3 q4 hy
      gi_wp2
      refine hR.mono ?_
      rintro e W3 (⟨rfl, hJ3, hk3⟩ | ⟨rfl, hJx3⟩)
      · gi_wp2
        go_roundw
        case rel => exact ⟨q, by omega, rfl, hJn.out _ hJ3, keepB_t hnx hk3⟩
        case measure => simp [intOf]
      · gi_wp2
        refine bodyPost_ret (results_none rfl _ _ _) rfl ?_
        exact ⟨⟨_, rfl⟩, .inr (hJx.out _ hJx3)⟩
    | zero =>
      have e1 : ((0 : Nat) : Int) - 1 = -1 := by omega
      rw [e1]
      gi_wp2
      go_end0
      exact ⟨⟨_, rfl⟩, .inl ⟨_, rfl, hJs⟩⟩

set_option maxRecDepth 100000 in
set_option maxHeartbeats 1000000 in
theorem back1_nil_in (F : Fence) (n : Nat) (h8 : F.fn 95) (hro : F.round = none) (l Bs : Nat) (A : Option Addr) (cap : Nat) {α : Type} (J : List α → World → Prop) (W : World) (hBs : BlkIs W Bs 25 #[.slice A 0 cap]) (h0 : J [] W) :
    CallsIn F n Tryd.prog 95 #[.func (.yield l) #[] #[], .pointer (some ⟨Bs, 0, none⟩)] W fun e W' => (∃ v, e = .returned v) ∧ J [] W' := by
  refine callsIn_of_wp Tryd.func95 rfl h8 ?_ hro
  simp only [Tryd.ntmps95, List.size_toArray, List.length_cons, List.length_nil, Nat.reduceAdd, Nat.reduceSub, Array.replicate_succ, Array.replicate_zero, List.push_toArray, List.append_toArray, List.nil_append, List.cons_append]
  have hb0 := hBs.cell 0
  simp at hb0
  gi_wp2
  gi_loopw [3] (fun i wr => i = .int .i64 (-1) ∧ J [] wr) (fun _ _ => 0)
  case atStart => exact ⟨rfl, h0⟩
  case round =>
    obtain ⟨rfl, hJs⟩ := hrel
    gi_wp2
    go_end0
    exact ⟨⟨_, rfl⟩, hJs⟩

set_option maxHeartbeats 1000000 in
/-- The slice's value is boxed; the function's value captures the box. -/
theorem back_in (F : Fence) (n : Nat) (h6 : F.fn 80) (hro : F.round = none) (a : Option Addr) (len cap : Nat) (w : World) :
    CallsIn F n Tryd.prog 80 #[.slice a len cap] w fun e w' => e = .returned (.func (.func 95) #[] #[.pointer (some ⟨w.heap.size, 0, none⟩)]) ∧ w' = w.alloc (.cells #[.slice a len cap] 25) := by
  refine callsIn_of_wp Tryd.func80 rfl h6 ?_ hro
  simp only [Tryd.ntmps80, List.size_toArray, List.length_cons, List.length_nil, Nat.reduceAdd, Nat.reduceSub, Array.replicate_succ, Array.replicate_zero, List.push_toArray, List.append_toArray, List.nil_append, List.cons_append]
  gi_wp2
  go_ret
  exact ⟨rfl, rfl⟩

theorem back_stops (F : Fence) (n : Nat) (h8 : F.fn 95) (hro : F.round = none) (hn : 1 ≤ n) (Bs n₀ : Nat) (A : Option Addr) (len cap : Nat) {α : Type} (encs : α → Array Value) (f : Nat → α) (g : Nat → NV) (hf : ∀ k, k < len → encs (f k) = bkE (bk g len k)) (hl : len ≤ 1048576) (w : World) (hn₀ : n₀ ≤ w.heap.size)
    (hc : BlkIs w Bs 25 #[.slice A len cap]) (hI : ∀ j, j < len → ∃ b off, A = some ⟨b, off, none⟩ ∧ b < n₀ ∧ NVAt w b (off + j * 5) (g j)) :
    SeqStopsK F n Tryd.prog 95 #[.pointer (some ⟨Bs, 0, none⟩)] encs (KeepB n₀ Bs (.slice A len cap)) (fun ys => ys = upto f len)
      (fun pre => ∃ k, k ≤ len ∧ pre = upto f k) len w := fun l J Jx W hW _ _ hY h0 => by
  have hc' : BlkIs W Bs 25 #[.slice A len cap] := hc.next hW
  rcases Nat.eq_zero_or_pos len with rfl | hp
  · exact (back1_nil_in F n h8 hro l Bs A cap J W hc' h0).mono fun e W' ⟨he, hj⟩ => ⟨he, .inl ⟨_, rfl, hj⟩⟩
  · obtain ⟨b, off, rfl, hb, _⟩ := hI 0 hp
    refine back1_in F n h8 hro hn l Bs n₀ b off len cap encs f g hf hl hb J Jx hY W hc' (fun j hj => ?_) h0
    obtain ⟨b', off', e, hb', hv⟩ := hI j hj
    obtain ⟨rfl, rfl⟩ : b = b' ∧ off = off' := by simpa using e
    exact hv.below hW (by omega)
end Go.Proofs.YtejgpooghengmaaDoor
