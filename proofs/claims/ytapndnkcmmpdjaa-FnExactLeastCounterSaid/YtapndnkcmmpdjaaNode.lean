/-
  Lists of Node: what a list that came in reads as; how the law counts and compares them. Conditions: at most 2^20 elements and numbers. (printed by gen_list.py)
-/
import Derived.Test.YtapndnkcmmpdjaaBlk
import Derived.Test.YtapndnkcmmpdjaaTms
import Derived.Test.YtapndnkcmmpdjaaStK
import Derived.Test.YtapndnkcmmpdjaaInts
namespace Go.Proofs.Ytapndnkcmmpdjaa
set_option linter.unusedVariables false
open Go.RowKit Go.ChangeShapes Go.WideShapes Go.Deep Go.Joins

/-- A Node's numbers. -/
structure N5 where
  k : Int
  f : Int
  t : Int × List Int
  m : List Int
instance : Inhabited N5 := ⟨⟨0, 0, (0, []), []⟩⟩
def N5.tot (x : N5) : Nat := (x.t.2).length + (x.m).length
def N5At (w : World) (B b o : Nat) (x : N5) : Prop := ∃ A0 n0 c0 A1 n1 c1, w.cell? ⟨b, o, none⟩ = some (.int .i64 x.k) ∧ w.cell? ⟨b, o + 1, none⟩ = some (.int .i64 x.f) ∧ w.cell? ⟨b, o + 2, none⟩ = some (.int .i64 x.t.1) ∧ w.cell? ⟨b, o + 3, none⟩ = some (.slice A0 n0 c0) ∧ w.cell? ⟨b, o + 4, none⟩ = some (.slice A1 n1 c1) ∧ InL w B A0 n0 x.t.2 ∧ InL w B A1 n1 x.m
theorem N5At.next {w w' : World} {B B' b o : Nat} {x : N5} (h : N5At w B b o x) (hb : Below B' w w') (hB : B ≤ B') (hlt : b < B') : N5At w' B b o x := by
  obtain ⟨A0, n0, c0, A1, n1, c1, q0, q1, q2, q3, q4, k0, k1⟩ := h
  have g : ∀ {o v}, w.cell? ⟨b, o, none⟩ = some v → w'.cell? ⟨b, o, none⟩ = some v := fun {o v} hc => (hb.cell (p := ⟨b, o, none⟩) hlt).trans hc
  exact ⟨A0, n0, c0, A1, n1, c1, g q0, g q1, g q2, g q3, g q4, k0.next hb hB, k1.next hb hB⟩
theorem N5At.more {w : World} {B B' b o : Nat} {x : N5} (h : N5At w B b o x) (hB : B ≤ B') : N5At w B' b o x := by
  obtain ⟨A0, n0, c0, A1, n1, c1, q0, q1, q2, q3, q4, k0, k1⟩ := h
  exact ⟨A0, n0, c0, A1, n1, c1, q0, q1, q2, q3, q4, k0.more hB, k1.more hB⟩
/-- Elements side by side where a slice's value leads, below block B. -/
def InN5 (w : World) (B : Nat) (A : Option Addr) (n : Nat) (xs : List N5) : Prop := xs.length = n ∧ ∀ j x, xs[j]? = some x → ∃ b off, A = some ⟨b, off, none⟩ ∧ b < B ∧ N5At w B b (off + j * 5) x
section
variable {w w' : World} {lo hi B B' : Nat} {A : Option Addr} {n : Nat} {xs : List N5}
theorem InN5.next (h : InN5 w B A n xs) (hb : Below B' w w') (hB : B ≤ B') : InN5 w' B A n xs := ⟨h.1, fun j x hj => by
  obtain ⟨b, off, e, hlt, hs⟩ := h.2 j x hj
  exact ⟨b, off, e, hlt, hs.next hb hB (by omega)⟩⟩
theorem InN5.more (h : InN5 w B A n xs) (hB : B ≤ B') : InN5 w B' A n xs := ⟨h.1, fun j x hj => by
  obtain ⟨b, off, e, hlt, hs⟩ := h.2 j x hj
  exact ⟨b, off, e, by omega, hs.more hB⟩⟩
theorem InN5.at_ (h : InN5 w B A n xs) {k : Nat} (hk : k < n) : ∃ b off x, A = some ⟨b, off, none⟩ ∧ b < B ∧ xs[k]? = some x ∧ N5At w B b (off + k * 5) x := by
  have hk' : k < xs.length := by rw [h.1]; exact hk
  obtain ⟨b, off, e, hlt, hs⟩ := h.2 k xs[k] (List.getElem?_eq_getElem hk')
  exact ⟨b, off, xs[k], e, hlt, List.getElem?_eq_getElem hk', hs⟩
end
def totN5 (xs : List N5) : Nat := (xs.map N5.tot).sum
theorem totN5_succ {xs : List N5} {k : Nat} {x : N5} (h : xs[k]? = some x) : totN5 (xs.take (k + 1)) = totN5 (xs.take k) + x.tot := by
  unfold totN5; rw [List.take_add_one, h]; simp
theorem totN5_take (xs : List N5) (k : Nat) : totN5 (xs.take k) ≤ totN5 xs := by
  have h : totN5 xs = totN5 (xs.take k) + totN5 (xs.drop k) := by
    unfold totN5
    have := congrArg List.sum (List.take_append_drop k (xs.map N5.tot))
    rw [List.sum_append, ← List.map_take, ← List.map_drop] at this
    exact this.symm
  omega
theorem totN5_mem {xs : List N5} {x : N5} (h : x ∈ xs) : x.tot ≤ totN5 xs := by
  obtain ⟨k, hk⟩ := List.getElem?_of_mem h
  have h1 := totN5_succ hk
  have h2 := totN5_take xs (k + 1)
  omega
def N5.fits (x : N5) : Prop := (x.t.2).length ≤ maxLen ∧ (x.m).length ≤ maxLen

/-! What came in. -/
section
variable {H : Type} {enc : TypeId × Value → H} {w : World} {held : Bool}
theorem trod_struct4Node {t : TypeId} {f0 f1 f2 f3 : Field} {fuel : Nat} {cs : List Value} {x : DataW H × List MemPlace} (ht : Try.prog.underlying t = some (.struct #[f0, f1, f2, f3])) (h : DataW.trod enc Try.prog w 0 (fun _ => true) held fuel t cs = some x) :
    ∃ y0 y1 y2 y3 n, DataW.trod enc Try.prog w 0 (fun _ => true) held n f0.type ((cs.drop f0.offset).take (Try.prog.cellsOf f0.type)) = some y0 ∧ DataW.trod enc Try.prog w 0 (fun _ => true) held n f1.type ((cs.drop f1.offset).take (Try.prog.cellsOf f1.type)) = some y1 ∧ DataW.trod enc Try.prog w 0 (fun _ => true) held n f2.type ((cs.drop f2.offset).take (Try.prog.cellsOf f2.type)) = some y2 ∧ DataW.trod enc Try.prog w 0 (fun _ => true) held n f3.type ((cs.drop f3.offset).take (Try.prog.cellsOf f3.type)) = some y3 := by
  obtain ⟨xs, n, _, rfl, hl, hlen, hf⟩ := DataW.trod_struct ht h
  match xs, hlen with
  | [y0, y1, y2, y3], _ => exact ⟨y0, y1, y2, y3, n, by simpa using hf 0 f0 rfl, by simpa using hf 1 f1 rfl, by simpa using hf 2 f2 rfl, by simpa using hf 3 f3 rfl⟩
end

set_option maxRecDepth 100000 in
set_option maxHeartbeats 4000000 in
theorem eqNode_k (x : N5) (A0 : Option Addr) (n0 c0 : Nat) (A1 : Option Addr) (n1 c1 : Nat) (Ab0 : Option Addr) (cb0 : Nat) (Ab1 : Option Addr) (cb1 : Nat) (B : Nat) (w : World)
    (h0 : InL w B A0 n0 x.t.2) (h1 : InL w B A1 n1 x.m) (g0 : InL w B Ab0 n0 x.t.2) (g1 : InL w B Ab1 n1 x.m) (hB : B ≤ w.heap.size) (m0 : n0 ≤ 1048576) (m1 : n1 ≤ 1048576) :
    Calls Try.prog 53 #[.agg #[.int .i64 x.k, .int .i64 x.f, .int .i64 x.t.1, .slice A0 n0 c0, .slice A1 n1 c1], .agg #[.int .i64 x.k, .int .i64 x.f, .int .i64 x.t.1, .slice Ab0 n0 cb0, .slice Ab1 n1 cb1]] w fun e w' => e = .returned (.bool true) ∧ Below w.heap.size w w' := by
  have hb0 : Below w.heap.size w ((w.alloc (.cells #[.int .i64 x.k, .int .i64 x.f, .int .i64 x.t.1, .slice A0 n0 c0, .slice A1 n1 c1] 79)).alloc (.cells #[.int .i64 x.k, .int .i64 x.f, .int .i64 x.t.1, .slice Ab0 n0 cb0, .slice Ab1 n1 cb1] 79)) := bon (bnew _ _) (bnew _ _)
  have hP : BlkIs ((w.alloc (.cells #[.int .i64 x.k, .int .i64 x.f, .int .i64 x.t.1, .slice A0 n0 c0, .slice A1 n1 c1] 79)).alloc (.cells #[.int .i64 x.k, .int .i64 x.f, .int .i64 x.t.1, .slice Ab0 n0 cb0, .slice Ab1 n1 cb1] 79)) w.heap.size 79 #[.int .i64 x.k, .int .i64 x.f, .int .i64 x.t.1, .slice A0 n0 c0, .slice A1 n1 c1] := (blk_new w _ _ _ rfl).next (bnew _ _)
  have hQ : BlkIs ((w.alloc (.cells #[.int .i64 x.k, .int .i64 x.f, .int .i64 x.t.1, .slice A0 n0 c0, .slice A1 n1 c1] 79)).alloc (.cells #[.int .i64 x.k, .int .i64 x.f, .int .i64 x.t.1, .slice Ab0 n0 cb0, .slice Ab1 n1 cb1] 79)) (w.heap.size + 1) 79 #[.int .i64 x.k, .int .i64 x.f, .int .i64 x.t.1, .slice Ab0 n0 cb0, .slice Ab1 n1 cb1] := blk_new _ _ _ _ (by simp)
  have H0 := Lib.hid (h0.next hb0 hB)
  have G0 := Lib.hid (g0.next hb0 hB)
  have H1 := Lib.hid (h1.next hb0 hB)
  have G1 := Lib.hid (g1.next hb0 hB)
  clear h0 g0 h1 g1
  go_enter Try.func53, Try.ntmps53
  go_wp2_with fail
  generalize ((w.alloc (.cells #[.int .i64 x.k, .int .i64 x.f, .int .i64 x.t.1, .slice A0 n0 c0, .slice A1 n1 c1] 79)).alloc (.cells #[.int .i64 x.k, .int .i64 x.f, .int .i64 x.t.1, .slice Ab0 n0 cb0, .slice Ab1 n1 cb1] 79)) = W at hb0 hP hQ H0 G0 H1 G1 ⊢
  have hs0 := hb0.size
  refine (eqTerm_k x.t.1 A0 Ab0 n0 c0 cb0 B B x.t.2 W H0.out G0.out (by omega) (by omega) m0).mono ?_
  rintro e w1 ⟨rfl, hb1⟩
  have hs1 := hb1.size
  have HBW := hb1
  have p4 : w1.cell? ⟨w.heap.size, 4, none⟩ = some (.slice A1 n1 c1) := (hP.next HBW).cell 4
  have q4 : w1.cell? ⟨w.heap.size + 1, 4, none⟩ = some (.slice Ab1 n1 cb1) := (hQ.next HBW).cell 4
  go_wp2_with fail
  refine (eqInt64S_k A1 Ab1 n1 c1 cb1 B B x.m w1 (H1.out.next HBW (by omega)) (G1.out.next HBW (by omega)) (by omega) (by omega) m1).mono ?_
  rintro e w2 ⟨rfl, hb2⟩
  have hs2 := hb2.size
  have HBW := bon HBW hb2
  go_wp2_with fail
  go_ret
  exact ⟨rfl, bon hb0 HBW⟩

set_option maxRecDepth 100000 in
set_option maxHeartbeats 4000000 in
theorem eqNodeS_k (A A' : Option Addr) (n c c' B B' : Nat) (xs : List N5) (w : World) (h0 : InN5 w B A n xs) (h0' : InN5 w B' A' n xs) (hB : B ≤ w.heap.size) (hB' : B' ≤ w.heap.size) (hn : n ≤ 1048576) (he : totN5 xs ≤ 1048576) :
    Calls Try.prog 27 #[.slice A n c, .slice A' n c'] w fun e w' => e = .returned (.bool true) ∧ Below w.heap.size w w' := by
  have h : InN5 w w.heap.size A n xs := h0.more hB
  have h' : InN5 w w.heap.size A' n xs := h0'.more hB'
  clear h0 h0'
  go_enter Try.func27, Try.ntmps27
  go_wp2_with fail
  go_loopw [5] (fun i wr => ∃ k : Nat, k ≤ n ∧ i = .int .i64 k ∧ Below w.heap.size w wr) (fun i _ => n - (intOf i).toNat)
  case atStart => exact ⟨0, Nat.zero_le _, rfl, Below.refl _ _⟩
  case round =>
    obtain ⟨k, hk, rfl, hbel⟩ := hrel
    have hsz := hbel.size
    by_cases hlt : k < n
    · obtain ⟨b, off, x, rfl, hb, ht, A0, n0, c0, A1, n1, c1, q0, q1, q2, q3, q4, k0, k1⟩ := (h.next hbel (Nat.le_refl _)).at_ hlt
      obtain ⟨b', off', x', rfl, hb', ht', Ab0, nb0, cb0, Ab1, nb1, cb1, p0, p1, p2, p3, p4, g0, g1⟩ := (h'.next hbel (Nat.le_refl _)).at_ hlt
      obtain rfl : x = x' := by rw [ht] at ht'; exact Option.some.inj ht'
      obtain rfl : n0 = nb0 := k0.1.symm.trans g0.1
      obtain rfl : n1 = nb1 := k1.1.symm.trans g1.1
      have hmx := totN5_mem (List.mem_of_getElem? ht)
      unfold N5.tot at hmx
      rw [k0.1, k1.1] at hmx
      have HE := Lib.hid (eqNode_k x A0 n0 c0 A1 n1 c1 Ab0 cb0 Ab1 cb1 w.heap.size wr.drew k0.drew k1.drew g0.drew g1.drew hsz (by omega) (by omega))
      have i1 : (k : Int) < (n : Int) := by omega
      clear ht ht' k0 g0 k1 g1
      go_wp2_with fail
      go_region_held3 (fun w' => w'.cell? ⟨b, off + k * 5, none⟩ = some (.int .i64 x.k) ∧ w'.cell? ⟨b, off + k * 5 + 1, none⟩ = some (.int .i64 x.f) ∧ w'.cell? ⟨b, off + k * 5 + 2, none⟩ = some (.int .i64 x.t.1) ∧ w'.cell? ⟨b, off + k * 5 + 3, none⟩ = some (.slice A0 n0 c0) ∧ w'.cell? ⟨b, off + k * 5 + 4, none⟩ = some (.slice A1 n1 c1) ∧ w'.cell? ⟨b', off' + k * 5, none⟩ = some (.int .i64 x.k) ∧ w'.cell? ⟨b', off' + k * 5 + 1, none⟩ = some (.int .i64 x.f) ∧ w'.cell? ⟨b', off' + k * 5 + 2, none⟩ = some (.int .i64 x.t.1) ∧ w'.cell? ⟨b', off' + k * 5 + 3, none⟩ = some (.slice Ab0 n0 cb0) ∧ w'.cell? ⟨b', off' + k * 5 + 4, none⟩ = some (.slice Ab1 n1 cb1))
        (first | go_keep | exact ⟨cell_on q0 hb9, cell_on q1 hb9, cell_on q2 hb9, cell_on q3 hb9, cell_on q4 hb9, cell_on p0 hb9, cell_on p1 hb9, cell_on p2 hb9, cell_on p3 hb9, cell_on p4 hb9⟩)
        (first | (go_at_call 53; refine HE.out.mono ?_; rintro e w9 ⟨rfl, hb9⟩))
      go_wp2_with fail
      go_roundw
      case rel => exact ⟨k + 1, by omega, by go_num, hbel.trans ((bstep hb9).mono hsz)⟩
      case measure => simp [intOf]; omega
    · go_wp2_with fail
      go_ret
      exact ⟨rfl, hbel⟩
end Go.Proofs.Ytapndnkcmmpdjaa
