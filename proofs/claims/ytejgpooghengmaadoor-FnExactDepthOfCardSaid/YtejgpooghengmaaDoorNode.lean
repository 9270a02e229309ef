/-
  Lists of Node: what a list that came in reads as; how the law counts and compares them. Conditions: at most 2^20 elements and numbers. (printed by gen_list.py)
-/
import Derived.Test.YtejgpooghengmaaDoorBlk
import Derived.Test.YtejgpooghengmaaDoorTms
import Derived.Test.YtejgpooghengmaaDoorStK
import Derived.Test.YtejgpooghengmaaDoorInts
namespace Go.Proofs.YtejgpooghengmaaDoor
set_option linter.unusedVariables false
open Go.RowKit Go.ChangeShapes Go.WideShapes Go.Deep Go.Joins

/-- A Node's numbers. -/
structure N5 where
  k : Int
  f : Int
  t : Int × List Int
  m : List Int
instance : Inhabited N5 := ⟨⟨0, 0, (0, []), []⟩⟩
def N5.tot (x : N5) : Nat := (x.t.2).length + (x.m).length
def N5At (w : World) (B b o : Nat) (x : N5) : Prop := ∃ A0 n0 c0 A1 n1 c1, w.cell? ⟨b, o, none⟩ = some (.int .i64 x.k) ∧ w.cell? ⟨b, o + 1, none⟩ = some (.int .i64 x.f) ∧ w.cell? ⟨b, o + 2, none⟩ = some (.int .i64 x.t.1) ∧ w.cell? ⟨b, o + 3, none⟩ = some (.slice A0 n0 c0) ∧ w.cell? ⟨b, o + 4, none⟩ = some (.slice A1 n1 c1) ∧ InL w B A0 n0 x.t.2 ∧ InL w B A1 n1 x.m
theorem N5At.next {w w' : World} {B B' b o : Nat} {x : N5} (h : N5At w B b o x) (hb : Below B' w w') (hB : B ≤ B') (hlt : b < B') : N5At w' B b o x := by
  obtain ⟨A0, n0, c0, A1, n1, c1, q0, q1, q2, q3, q4, k0, k1⟩ := h
  have g : ∀ {o v}, w.cell? ⟨b, o, none⟩ = some v → w'.cell? ⟨b, o, none⟩ = some v := fun {o v} hc => (hb.cell (p := ⟨b, o, none⟩) hlt).trans hc
  exact ⟨A0, n0, c0, A1, n1, c1, g q0, g q1, g q2, g q3, g q4, k0.next hb hB, k1.next hb hB⟩
theorem N5At.more {w : World} {B B' b o : Nat} {x : N5} (h : N5At w B b o x) (hB : B ≤ B') : N5At w B' b o x := by
  obtain ⟨A0, n0, c0, A1, n1, c1, q0, q1, q2, q3, q4, k0, k1⟩ := h
  exact ⟨A0, n0, c0, A1, n1, c1, q0, q1, q2, q3, q4, k0.more hB, k1.more hB⟩
/-- Elements side by side where a slice's value leads, below block B. -/
def InN5 (w : World) (B : Nat) (A : Option Addr) (n : Nat) (xs : List N5) : Prop := xs.length = n ∧ ∀ j x, xs[j]? = some x → ∃ b off, A = some ⟨b, off, none⟩ ∧ b < B ∧ N5At w B b (off + j * 5) x
section
variable {w w' : World} {lo hi B B' : Nat} {A : Option Addr} {n : Nat} {xs : List N5}
theorem InN5.next (h : InN5 w B A n xs) (hb : Below B' w w') (hB : B ≤ B') : InN5 w' B A n xs := ⟨h.1, fun j x hj => by
  obtain ⟨b, off, e, hlt, hs⟩ := h.2 j x hj
  exact ⟨b, off, e, hlt, hs.next hb hB (by omega)⟩⟩
theorem InN5.more (h : InN5 w B A n xs) (hB : B ≤ B') : InN5 w B' A n xs := ⟨h.1, fun j x hj => by
  obtain ⟨b, off, e, hlt, hs⟩ := h.2 j x hj
  exact ⟨b, off, e, by omega, hs.more hB⟩⟩
theorem InN5.at_ (h : InN5 w B A n xs) {k : Nat} (hk : k < n) : ∃ b off x, A = some ⟨b, off, none⟩ ∧ b < B ∧ xs[k]? = some x ∧ N5At w B b (off + k * 5) x := by
  have hk' : k < xs.length := by rw [h.1]; exact hk
  obtain ⟨b, off, e, hlt, hs⟩ := h.2 k xs[k] (List.getElem?_eq_getElem hk')
  exact ⟨b, off, xs[k], e, hlt, List.getElem?_eq_getElem hk', hs⟩
end
def totN5 (xs : List N5) : Nat := (xs.map N5.tot).sum
theorem totN5_succ {xs : List N5} {k : Nat} {x : N5} (h : xs[k]? = some x) : totN5 (xs.take (k + 1)) = totN5 (xs.take k) + x.tot := by
  unfold totN5; rw [List.take_add_one, h]; simp
theorem totN5_take (xs : List N5) (k : Nat) : totN5 (xs.take k) ≤ totN5 xs := by
  have h : totN5 xs = totN5 (xs.take k) + totN5 (xs.drop k) := by
    unfold totN5
    have := congrArg List.sum (List.take_append_drop k (xs.map N5.tot))
    rw [List.sum_append, ← List.map_take, ← List.map_drop] at this
    exact this.symm
  omega
theorem totN5_mem {xs : List N5} {x : N5} (h : x ∈ xs) : x.tot ≤ totN5 xs := by
  obtain ⟨k, hk⟩ := List.getElem?_of_mem h
  have h1 := totN5_succ hk
  have h2 := totN5_take xs (k + 1)
  omega
def N5.fits (x : N5) : Prop := (x.t.2).length ≤ maxLen ∧ (x.m).length ≤ maxLen

/-! What came in. -/
section
variable {H : Type} {enc : TypeId × Value → H} {w : World} {held : Bool}
theorem cellsNode : Tryd.prog.cellsOf 74 = 5 := by kernel_rfl
theorem trod_struct4Node {t : TypeId} {f0 f1 f2 f3 : Field} {fuel : Nat} {cs : List Value} {x : DataW H × List MemPlace} (ht : Tryd.prog.underlying t = some (.struct #[f0, f1, f2, f3])) (h : DataW.trod enc Tryd.prog w 0 (fun _ => true) held fuel t cs = some x) :
    ∃ y0 y1 y2 y3 n, DataW.trod enc Tryd.prog w 0 (fun _ => true) held n f0.type ((cs.drop f0.offset).take (Tryd.prog.cellsOf f0.type)) = some y0 ∧ DataW.trod enc Tryd.prog w 0 (fun _ => true) held n f1.type ((cs.drop f1.offset).take (Tryd.prog.cellsOf f1.type)) = some y1 ∧ DataW.trod enc Tryd.prog w 0 (fun _ => true) held n f2.type ((cs.drop f2.offset).take (Tryd.prog.cellsOf f2.type)) = some y2 ∧ DataW.trod enc Tryd.prog w 0 (fun _ => true) held n f3.type ((cs.drop f3.offset).take (Tryd.prog.cellsOf f3.type)) = some y3 := by
  obtain ⟨xs, n, _, rfl, hl, hlen, hf⟩ := DataW.trod_struct ht h
  match xs, hlen with
  | [y0, y1, y2, y3], _ => exact ⟨y0, y1, y2, y3, n, by simpa using hf 0 f0 rfl, by simpa using hf 1 f1 rfl, by simpa using hf 2 f2 rfl, by simpa using hf 3 f3 rfl⟩
set_option maxRecDepth 100000 in
theorem Node_cells {fuel : Nat} {cs : List Value} {x : DataW H × List MemPlace} (hc : cs.length = 5) (h : DataW.trod enc Tryd.prog w 0 (fun _ => true) held fuel 74 cs = some x) :
    ∃ (y : N5) (A0 : Option Addr) (n0 c0 : Nat) (A1 : Option Addr) (n1 c1 : Nat),
      cs = [.int .i64 y.k, .int .i64 y.f, .int .i64 y.t.1, .slice A0 n0 c0, .slice A1 n1 c1] ∧ y.fits ∧ InL w w.heap.size A0 n0 y.t.2 ∧ InL w w.heap.size A1 n1 y.m := by
  match cs, hc with
  | [d0, d1, d2, d3, d4], _ =>
    obtain ⟨y0, y1, y2, y3, m, h0, h1, h2, h3⟩ := trod_struct4Node Tryd.underlying74 h
    have h0' : DataW.trod enc Tryd.prog w 0 (fun _ => true) held m 2 [d0] = some y0 := h0
    obtain ⟨z0, e0, _, _⟩ := DataW.trod_int Tryd.underlying2 h0'
    obtain rfl : d0 = .int .i64 z0 := by simpa using e0
    have h1' : DataW.trod enc Tryd.prog w 0 (fun _ => true) held m 2 [d1] = some y1 := h1
    obtain ⟨z1, e1, _, _⟩ := DataW.trod_int Tryd.underlying2 h1'
    obtain rfl : d1 = .int .i64 z1 := by simpa using e1
    have h2' : DataW.trod enc Tryd.prog w 0 (fun _ => true) held m 38 [d2, d3] = some y2 := h2
    obtain ⟨s2, A0, n0, c0, l0, e2, a10, a20, a30, _⟩ := term_cells rfl h2'
    obtain ⟨rfl, rfl⟩ : d2 = .int .i64 s2 ∧ d3 = .slice A0 n0 c0 := by simpa using e2
    have h3' : DataW.trod enc Tryd.prog w 0 (fun _ => true) held m 36 [d4] = some y3 := h3
    obtain ⟨A1, n1, c1, l1, e3, a11, a21, a31, _⟩ := ints_in Tryd.underlying36 Tryd.underlying2 (by kernel_rfl) h3'
    obtain rfl : d4 = .slice A1 n1 c1 := e3
    exact ⟨⟨z0, z1, (s2, l0), l1⟩, A0, n0, c0, A1, n1, c1, rfl, ⟨by show l0.length ≤ maxLen; omega, by show l1.length ≤ maxLen; omega⟩, ⟨a10, a30⟩, ⟨a11, a31⟩⟩
set_option maxRecDepth 100000 in
theorem Nodes_in {fuel : Nat} {v : Value} {x : DataW H × List MemPlace} (h : DataW.trod enc Tryd.prog w 0 (fun _ => true) held fuel 22 [v] = some x) :
    ∃ (A : Option Addr) (n c : Nat) (xs : List N5), v = .slice A n c ∧ n ≤ maxLen ∧ InN5 w w.heap.size A n xs ∧ ∀ y ∈ xs, y.fits := by
  rcases open_slice Tryd.underlying22 h with ⟨hcs, _⟩ | ⟨a, len, cap, m, n, D, Pl, hcs, _, hl, hm, hmm, _, hx⟩
  · obtain rfl : v = .slice none 0 0 := by simpa using hcs
    exact ⟨none, 0, 0, [], rfl, Nat.zero_le _, ⟨rfl, fun j y hj => by simp at hj⟩, fun y hy => by simp at hy⟩
  · obtain rfl : v = .slice (some a) len cap := by simpa using hcs
    rw [cellsNode] at hx
    have hm' : m = cap := by simpa using hmm
    obtain ⟨f, hf⟩ := choose_lt (α := N5) (n := len) (p := fun i y => y.fits ∧ ∃ (A0 : Option Addr) (n0 c0 : Nat) (A1 : Option Addr) (n1 c1 : Nat),
        (w.cell? ((a.add (i * 5)).add 0) = some (.int .i64 y.k) ∧ w.cell? ((a.add (i * 5)).add 1) = some (.int .i64 y.f) ∧ w.cell? ((a.add (i * 5)).add 2) = some (.int .i64 y.t.1) ∧ w.cell? ((a.add (i * 5)).add 3) = some (.slice A0 n0 c0) ∧ w.cell? ((a.add (i * 5)).add 4) = some (.slice A1 n1 c1)) ∧
        InL w w.heap.size A0 n0 y.t.2 ∧ InL w w.heap.size A1 n1 y.m) (fun i hi => by
      obtain ⟨cs', hc, ht⟩ := hx i (by omega)
      obtain ⟨_, hlen, hat⟩ := World.cells?_some hc
      obtain ⟨y, A0, n0, c0, A1, n1, c1, rfl, hy, k0, k1⟩ := Node_cells hlen ht
      exact ⟨y, hy, A0, n0, c0, A1, n1, c1, ⟨hat 0 (by omega), hat 1 (by omega), hat 2 (by omega), hat 3 (by omega), hat 4 (by omega)⟩, k0, k1⟩)
    refine ⟨some a, len, cap, (List.range len).map f, rfl, by omega, ⟨by simp, fun j y hj => ?_⟩, fun y hy => ?_⟩
    · have hjl : j < len := by
        have := (List.getElem?_eq_some_iff.1 hj).1
        simpa using this
      obtain rfl : f j = y := by simpa [hjl] using hj
      obtain ⟨_, A0, n0, c0, A1, n1, c1, ⟨q0, q1, q2, q3, q4⟩, k0, k1⟩ := hf j hjl
      obtain ⟨_, _, _, _, _, _, _, ⟨gg, _⟩, _⟩ := hf 0 (by omega)
      have hs : a.spot = none := by simpa [Addr.add] using World.cell?_spot gg
      obtain ⟨b, off, spot⟩ := a
      have hs' : spot = none := hs
      subst hs'
      rw [add_plain, add_plain] at q0 q1 q2 q3 q4
      exact ⟨b, off, rfl, cell_lt q0, A0, n0, c0, A1, n1, c1, q0, q1, q2, q3, q4, k0, k1⟩
    · obtain ⟨i, hi, rfl⟩ := List.mem_map.1 hy
      exact (hf i (by simpa using hi)).1
end

set_option maxRecDepth 100000 in
set_option maxHeartbeats 4000000 in
theorem szNode_k (x : N5) (A0 : Option Addr) (n0 c0 : Nat) (A1 : Option Addr) (n1 c1 : Nat) (B : Nat) (left : Int) (w : World) (h0 : InL w B A0 n0 x.t.2) (h1 : InL w B A1 n1 x.m) (hl0 : 0 ≤ left) (hl1 : left ≤ 1048576) (hx : x.fits) :
    Calls Tryd.prog 45 #[.agg #[.int .i64 x.k, .int .i64 x.f, .int .i64 x.t.1, .slice A0 n0 c0, .slice A1 n1 c1], .int .i64 left] w fun e w' => e = .returned (.int .i64 (szv left x.tot)) ∧ Below w.heap.size w w' := by
  have hb0 := bnew w (.cells #[.int .i64 x.k, .int .i64 x.f, .int .i64 x.t.1, .slice A0 n0 c0, .slice A1 n1 c1] 74)
  have hP : BlkIs (w.alloc (.cells #[.int .i64 x.k, .int .i64 x.f, .int .i64 x.t.1, .slice A0 n0 c0, .slice A1 n1 c1] 74)) w.heap.size 74 #[.int .i64 x.k, .int .i64 x.f, .int .i64 x.t.1, .slice A0 n0 c0, .slice A1 n1 c1] := blk_new _ _ _ _ rfl
  have htot : x.tot = n0 + n1 := by unfold N5.tot; rw [h0.1, h1.1]
  have hx0 : n0 ≤ maxLen ∧ n1 ≤ maxLen := by
    obtain ⟨x0, x1⟩ := hx
    exact ⟨by have := h0.1; omega, by have := h1.1; omega⟩
  obtain ⟨hx1, hx2⟩ := hx0
  rw [htot]
  clear h0 h1 htot hx
  go_enter Tryd.func45, Tryd.ntmps45
  go_wp2_with fail
  generalize w.alloc (.cells #[.int .i64 x.k, .int .i64 x.f, .int .i64 x.t.1, .slice A0 n0 c0, .slice A1 n1 c1] 74) = W at hb0 hP ⊢
  have hs0 := hb0.size
  obtain ⟨w0, hw0⟩ : ∃ z, z = W := ⟨_, rfl⟩
  subst hw0
  have HV0 : Hid (∀ r : Nat, szv left r = szv left r) := fun _ => rfl

  refine (szTerm_c x.t.1 A0 n0 c0 left w0 hl0 hl1 hx1).mono ?_
  rintro e w1 ⟨rfl, hb1⟩
  replace hb0 := bon hb0 hb1
  have HPW0 := hP.next hb1
  rcases Int.lt_or_le left n0 with hq | hq
  · have HV : Hid (szv left (n0 + n1) = -1) := szv_no (by omega)
    rw [szv_no hq]
    clear hq
    go_wp2_with fail
    go_ret
    exact ⟨ret_int HV.out.symm, hb0⟩
  · rw [szv_yes hq]
    obtain ⟨L1, hL1⟩ : ∃ L, L = left - (n0 : Int) := ⟨_, rfl⟩
    rw [← hL1]
    have hlA : 0 ≤ L1 := by omega
    have hlB : L1 ≤ 1048576 := by omega
    have HL1 : Hid (L1 = left - ((n0 : Nat) : Int)) := by show _ = _; omega
    clear hL1 hq hl0 hl1
    have hl0 := hlA
    have hl1 := hlB
    clear hlA hlB
    have HPW := HPW0
    have p4 : w1.cell? ⟨w.heap.size, 4, none⟩ = some (.slice A1 n1 c1) := (HPW).cell 4
    go_wp2_with fail
    refine (szInt64S_k A1 n1 c1 L1 w1 hl0 hl1 hx2).mono ?_
    rintro e w2 ⟨rfl, rfl⟩
    have hb2 := Below.refl w1.heap.size w1
    replace hb0 := bon hb0 hb2
    have HPW1 := HPW.next hb2
    rcases Int.lt_or_le L1 n1 with hq | hq
    · have HV : Hid (szv left (n0 + n1) = -1) := szv_no (by have := HL1.out; omega)
      rw [szv_no hq]
      clear hq
      go_wp2_with fail
      go_ret
      exact ⟨ret_int HV.out.symm, hb0⟩
    · rw [szv_yes hq]
      have HV : Hid (szv left (n0 + n1) = L1 - (n1 : Int)) := by show _ = _; rw [szv_yes (by have := HL1.out; omega)]; have := HL1.out; omega
      have hp : 0 ≤ L1 - (n1 : Int) := by omega
      clear hq
      go_wp2_with fail
      go_ret
      exact ⟨ret_int HV.out.symm, hb0⟩

set_option maxRecDepth 100000 in
set_option maxHeartbeats 4000000 in
theorem szNodeS_k (A : Option Addr) (n c B : Nat) (xs : List N5) (left : Int) (w : World) (h : InN5 w B A n xs) (hB : B ≤ w.heap.size) (hl0 : 0 ≤ left) (hl1 : left ≤ 1048576) (hn : n ≤ maxLen) (he : ∀ x ∈ xs, x.fits) :
    Calls Tryd.prog 10 #[.slice A n c, .int .i64 left] w fun e w' => e = .returned (.int .i64 (szv left (n + totN5 xs))) ∧ Below w.heap.size w w' := by
  have HE := Lib.hid he
  have hlen := Lib.hid h.1
  clear he
  unfold maxLen at hn
  rcases Int.lt_or_le left n with hlt | hle
  · have HV : Hid (szv left (n + totN5 xs) = -1) := szv_no (by omega)
    have h1 : left - (n : Int) < 0 := by omega
    clear hlt
    go_enter Tryd.func10, Tryd.ntmps10
    go_wp2_with fail
    go_ret
    exact ⟨ret_int HV.out.symm, Below.refl _ _⟩
  · have h1 : 0 ≤ left - (n : Int) := by omega
    have HLE := Lib.hid hle
    clear hle
    go_enter Tryd.func10, Tryd.ntmps10
    go_wp2_with fail
    go_loopw [1, 5] (fun l i wr => ∃ k : Nat, k ≤ n ∧ i = .int .i64 k ∧ l = .int .i64 (left - (n : Int) - (totN5 (xs.take k) : Nat)) ∧ Hid ((n : Int) + (totN5 (xs.take k) : Nat) ≤ left) ∧ Below w.heap.size w wr) (fun _ i _ => n - (intOf i).toNat)
    case atStart => exact ⟨0, Nat.zero_le _, rfl, by simp [totN5], by have := HLE.out; simp [totN5]; omega, Below.refl _ _⟩
    case round =>
      obtain ⟨k, hk, rfl, rfl, hsum, hbel⟩ := hrel
      by_cases hlt : k < n
      · obtain ⟨b, off, x, rfl, hb, ht, A0, n0, c0, A1, n1, c1, q0, q1, q2, q3, q4, k0, k1⟩ := (h.next hbel hB).at_ hlt
        have hs := totN5_succ ht
        have hmx := HE.out x (List.mem_of_getElem? ht)
        have hsz := hbel.size
        have hfull := totN5_take xs (k + 1)
        have HS := Lib.hid hs
        have hsum' := hsum.out
        have HSZ := Lib.hid (szNode_k x A0 n0 c0 A1 n1 c1 B (left - (n : Int) - (totN5 (xs.take k) : Nat)) wr k0 k1 (by omega) (by omega) hmx)
        clear ht hs k0 k1 h1 hmx
        generalize totN5 (xs.take k) = T at HS HSZ hsum hsum' ⊢
        rcases Int.lt_or_le (left - n - T) x.tot with hq | hq
        · have HV : Hid (szv left (n + totN5 xs) = -1) := szv_no (by have := HS.out; omega)
          rw [szv_no hq] at HSZ
          clear hq hsum' hfull
          go_wp2_with fail
          refine HSZ.out.mono ?_
          rintro e w1 ⟨rfl, hb1⟩
          go_wp2_with fail
          go_ret
          exact ⟨ret_int HV.out.symm, hbel.trans (hb1.mono hsz)⟩
        · have HQ : Hid ((n : Int) + (totN5 (xs.take (k + 1)) : Nat) ≤ left) := by show _ ≤ _; have := HS.out; omega
          have HL : Hid (left - (n : Int) - T - x.tot = left - (n : Int) - (totN5 (xs.take (k + 1)) : Nat)) := by show _ = _; have := HS.out; omega
          rw [szv_yes hq] at HSZ
          have hp : 0 ≤ left - (n : Int) - T - x.tot := by omega
          clear hq hsum' hfull
          go_wp2_with fail
          refine HSZ.out.mono ?_
          rintro e w1 ⟨rfl, hb1⟩
          go_wp2_with fail
          go_roundw
          case rel => exact ⟨k + 1, by omega, by go_num, by rw [HL.out], HQ, hbel.trans (hb1.mono hsz)⟩
          case measure => simp [intOf]; omega
      · have HV : Hid (szv left (n + totN5 xs) = left - (n : Int) - (totN5 (xs.take k) : Nat)) := by
          show _ = _
          have hsum' := hsum.out
          rw [take_all (by have := hlen.out; omega)] at hsum' ⊢
          rw [szv_yes (by omega)]; omega
        go_wp2_with fail
        go_ret
        exact ⟨ret_int HV.out.symm, hbel⟩

set_option maxRecDepth 100000 in
set_option maxHeartbeats 4000000 in
theorem eqNode_k (x : N5) (A0 : Option Addr) (n0 c0 : Nat) (A1 : Option Addr) (n1 c1 : Nat) (Ab0 : Option Addr) (cb0 : Nat) (Ab1 : Option Addr) (cb1 : Nat) (B : Nat) (w : World)
    (h0 : InL w B A0 n0 x.t.2) (h1 : InL w B A1 n1 x.m) (g0 : InL w B Ab0 n0 x.t.2) (g1 : InL w B Ab1 n1 x.m) (hB : B ≤ w.heap.size) (m0 : n0 ≤ 1048576) (m1 : n1 ≤ 1048576) :
    Calls Tryd.prog 49 #[.agg #[.int .i64 x.k, .int .i64 x.f, .int .i64 x.t.1, .slice A0 n0 c0, .slice A1 n1 c1], .agg #[.int .i64 x.k, .int .i64 x.f, .int .i64 x.t.1, .slice Ab0 n0 cb0, .slice Ab1 n1 cb1]] w fun e w' => e = .returned (.bool true) ∧ Below w.heap.size w w' := by
  have hb0 : Below w.heap.size w ((w.alloc (.cells #[.int .i64 x.k, .int .i64 x.f, .int .i64 x.t.1, .slice A0 n0 c0, .slice A1 n1 c1] 76)).alloc (.cells #[.int .i64 x.k, .int .i64 x.f, .int .i64 x.t.1, .slice Ab0 n0 cb0, .slice Ab1 n1 cb1] 76)) := bon (bnew _ _) (bnew _ _)
  have hP : BlkIs ((w.alloc (.cells #[.int .i64 x.k, .int .i64 x.f, .int .i64 x.t.1, .slice A0 n0 c0, .slice A1 n1 c1] 76)).alloc (.cells #[.int .i64 x.k, .int .i64 x.f, .int .i64 x.t.1, .slice Ab0 n0 cb0, .slice Ab1 n1 cb1] 76)) w.heap.size 76 #[.int .i64 x.k, .int .i64 x.f, .int .i64 x.t.1, .slice A0 n0 c0, .slice A1 n1 c1] := (blk_new w _ _ _ rfl).next (bnew _ _)
  have hQ : BlkIs ((w.alloc (.cells #[.int .i64 x.k, .int .i64 x.f, .int .i64 x.t.1, .slice A0 n0 c0, .slice A1 n1 c1] 76)).alloc (.cells #[.int .i64 x.k, .int .i64 x.f, .int .i64 x.t.1, .slice Ab0 n0 cb0, .slice Ab1 n1 cb1] 76)) (w.heap.size + 1) 76 #[.int .i64 x.k, .int .i64 x.f, .int .i64 x.t.1, .slice Ab0 n0 cb0, .slice Ab1 n1 cb1] := blk_new _ _ _ _ (by simp)
  have H0 := Lib.hid (h0.next hb0 hB)
  have G0 := Lib.hid (g0.next hb0 hB)
  have H1 := Lib.hid (h1.next hb0 hB)
  have G1 := Lib.hid (g1.next hb0 hB)
  clear h0 g0 h1 g1
  go_enter Tryd.func49, Tryd.ntmps49
  go_wp2_with fail
  generalize ((w.alloc (.cells #[.int .i64 x.k, .int .i64 x.f, .int .i64 x.t.1, .slice A0 n0 c0, .slice A1 n1 c1] 76)).alloc (.cells #[.int .i64 x.k, .int .i64 x.f, .int .i64 x.t.1, .slice Ab0 n0 cb0, .slice Ab1 n1 cb1] 76)) = W at hb0 hP hQ H0 G0 H1 G1 ⊢
  have hs0 := hb0.size
  refine (eqTerm_k x.t.1 A0 Ab0 n0 c0 cb0 B B x.t.2 W H0.out G0.out (by omega) (by omega) m0).mono ?_
  rintro e w1 ⟨rfl, hb1⟩
  have hs1 := hb1.size
  have HBW := hb1
  have p4 : w1.cell? ⟨w.heap.size, 4, none⟩ = some (.slice A1 n1 c1) := (hP.next HBW).cell 4
  have q4 : w1.cell? ⟨w.heap.size + 1, 4, none⟩ = some (.slice Ab1 n1 cb1) := (hQ.next HBW).cell 4
  go_wp2_with fail
  refine (eqInt64S_k A1 Ab1 n1 c1 cb1 B B x.m w1 (H1.out.next HBW (by omega)) (G1.out.next HBW (by omega)) (by omega) (by omega) m1).mono ?_
  rintro e w2 ⟨rfl, hb2⟩
  have hs2 := hb2.size
  have HBW := bon HBW hb2
  go_wp2_with fail
  go_ret
  exact ⟨rfl, bon hb0 HBW⟩

set_option maxRecDepth 100000 in
set_option maxHeartbeats 4000000 in
theorem eqNodeS_k (A A' : Option Addr) (n c c' B B' : Nat) (xs : List N5) (w : World) (h0 : InN5 w B A n xs) (h0' : InN5 w B' A' n xs) (hB : B ≤ w.heap.size) (hB' : B' ≤ w.heap.size) (hn : n ≤ 1048576) (he : totN5 xs ≤ 1048576) :
    Calls Tryd.prog 14 #[.slice A n c, .slice A' n c'] w fun e w' => e = .returned (.bool true) ∧ Below w.heap.size w w' := by
  have h : InN5 w w.heap.size A n xs := h0.more hB
  have h' : InN5 w w.heap.size A' n xs := h0'.more hB'
  clear h0 h0'
  go_enter Tryd.func14, Tryd.ntmps14
  go_wp2_with fail
  go_loopw [5] (fun i wr => ∃ k : Nat, k ≤ n ∧ i = .int .i64 k ∧ Below w.heap.size w wr) (fun i _ => n - (intOf i).toNat)
  case atStart => exact ⟨0, Nat.zero_le _, rfl, Below.refl _ _⟩
  case round =>
    obtain ⟨k, hk, rfl, hbel⟩ := hrel
    have hsz := hbel.size
    by_cases hlt : k < n
    · obtain ⟨b, off, x, rfl, hb, ht, A0, n0, c0, A1, n1, c1, q0, q1, q2, q3, q4, k0, k1⟩ := (h.next hbel (Nat.le_refl _)).at_ hlt
      obtain ⟨b', off', x', rfl, hb', ht', Ab0, nb0, cb0, Ab1, nb1, cb1, p0, p1, p2, p3, p4, g0, g1⟩ := (h'.next hbel (Nat.le_refl _)).at_ hlt
      obtain rfl : x = x' := by rw [ht] at ht'; exact Option.some.inj ht'
      obtain rfl : n0 = nb0 := k0.1.symm.trans g0.1
      obtain rfl : n1 = nb1 := k1.1.symm.trans g1.1
      have hmx := totN5_mem (List.mem_of_getElem? ht)
      unfold N5.tot at hmx
      rw [k0.1, k1.1] at hmx
      have HE := Lib.hid (eqNode_k x A0 n0 c0 A1 n1 c1 Ab0 cb0 Ab1 cb1 w.heap.size wr.drew k0.drew k1.drew g0.drew g1.drew hsz (by omega) (by omega))
      have i1 : (k : Int) < (n : Int) := by omega
      clear ht ht' k0 g0 k1 g1
      go_wp2_with fail
      go_region_held3 (fun w' => w'.cell? ⟨b, off + k * 5, none⟩ = some (.int .i64 x.k) ∧ w'.cell? ⟨b, off + k * 5 + 1, none⟩ = some (.int .i64 x.f) ∧ w'.cell? ⟨b, off + k * 5 + 2, none⟩ = some (.int .i64 x.t.1) ∧ w'.cell? ⟨b, off + k * 5 + 3, none⟩ = some (.slice A0 n0 c0) ∧ w'.cell? ⟨b, off + k * 5 + 4, none⟩ = some (.slice A1 n1 c1) ∧ w'.cell? ⟨b', off' + k * 5, none⟩ = some (.int .i64 x.k) ∧ w'.cell? ⟨b', off' + k * 5 + 1, none⟩ = some (.int .i64 x.f) ∧ w'.cell? ⟨b', off' + k * 5 + 2, none⟩ = some (.int .i64 x.t.1) ∧ w'.cell? ⟨b', off' + k * 5 + 3, none⟩ = some (.slice Ab0 n0 cb0) ∧ w'.cell? ⟨b', off' + k * 5 + 4, none⟩ = some (.slice Ab1 n1 cb1))
        (first | go_keep | exact ⟨cell_on q0 hb9, cell_on q1 hb9, cell_on q2 hb9, cell_on q3 hb9, cell_on q4 hb9, cell_on p0 hb9, cell_on p1 hb9, cell_on p2 hb9, cell_on p3 hb9, cell_on p4 hb9⟩)
        (first | (go_at_call 49; refine HE.out.mono ?_; rintro e w9 ⟨rfl, hb9⟩))
      go_wp2_with fail
      go_roundw
      case rel => exact ⟨k + 1, by omega, by go_num, hbel.trans ((bstep hb9).mono hsz)⟩
      case measure => simp [intOf]; omega
    · go_wp2_with fail
      go_ret
      exact ⟨rfl, hbel⟩
end Go.Proofs.YtejgpooghengmaaDoor
