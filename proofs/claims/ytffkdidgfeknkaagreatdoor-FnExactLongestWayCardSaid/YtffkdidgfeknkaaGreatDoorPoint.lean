/-
  Lists of Point: what a list that came in reads as; how the law counts and compares them. Conditions: at most 2^20 elements and numbers. 
-/
import Derived.Test.YtffkdidgfeknkaaGreatDoorBlk
import Derived.Test.YtffkdidgfeknkaaGreatDoorTms
import Derived.Test.YtffkdidgfeknkaaGreatDoorStK
import Derived.Test.YtffkdidgfeknkaaGreatDoorTermsC
import Derived.Test.YtffkdidgfeknkaaGreatDoorInts
namespace Go.Proofs.YtffkdidgfeknkaaGreatDoor
set_option linter.unusedVariables false
open Go.RowKit Go.ChangeShapes Go.WideShapes Go.Deep Go.Joins

/-- A Point's numbers. -/
structure P2 where
  a : Int
  s : List (Int × List Int)
instance : Inhabited P2 := ⟨⟨0, []⟩⟩
def P2.tot (x : P2) : Nat := (x.s).length + totT x.s
def P2At (w : World) (B b o : Nat) (x : P2) : Prop := ∃ A0 n0 c0, w.cell? ⟨b, o, none⟩ = some (.int .i64 x.a) ∧ w.cell? ⟨b, o + 1, none⟩ = some (.slice A0 n0 c0) ∧ InTS w B A0 n0 x.s
theorem P2At.next {w w' : World} {B B' b o : Nat} {x : P2} (h : P2At w B b o x) (hb : Below B' w w') (hB : B ≤ B') (hlt : b < B') : P2At w' B b o x := by
  obtain ⟨A0, n0, c0, q0, q1, k0⟩ := h
  have g : ∀ {o v}, w.cell? ⟨b, o, none⟩ = some v → w'.cell? ⟨b, o, none⟩ = some v := fun {o v} hc => (hb.cell (p := ⟨b, o, none⟩) hlt).trans hc
  exact ⟨A0, n0, c0, g q0, g q1, k0.next hb hB⟩
theorem P2At.more {w : World} {B B' b o : Nat} {x : P2} (h : P2At w B b o x) (hB : B ≤ B') : P2At w B' b o x := by
  obtain ⟨A0, n0, c0, q0, q1, k0⟩ := h
  exact ⟨A0, n0, c0, q0, q1, k0.more hB⟩
/-- Elements side by side where a slice's value leads, below block B. -/
def InP2 (w : World) (B : Nat) (A : Option Addr) (n : Nat) (xs : List P2) : Prop := xs.length = n ∧ ∀ j x, xs[j]? = some x → ∃ b off, A = some ⟨b, off, none⟩ ∧ b < B ∧ P2At w B b (off + j * 2) x
section
variable {w w' : World} {lo hi B B' : Nat} {A : Option Addr} {n : Nat} {xs : List P2}
theorem InP2.next (h : InP2 w B A n xs) (hb : Below B' w w') (hB : B ≤ B') : InP2 w' B A n xs := ⟨h.1, fun j x hj => by
  obtain ⟨b, off, e, hlt, hs⟩ := h.2 j x hj
  exact ⟨b, off, e, hlt, hs.next hb hB (by omega)⟩⟩
theorem InP2.more (h : InP2 w B A n xs) (hB : B ≤ B') : InP2 w B' A n xs := ⟨h.1, fun j x hj => by
  obtain ⟨b, off, e, hlt, hs⟩ := h.2 j x hj
  exact ⟨b, off, e, by omega, hs.more hB⟩⟩
theorem InP2.at_ (h : InP2 w B A n xs) {k : Nat} (hk : k < n) : ∃ b off x, A = some ⟨b, off, none⟩ ∧ b < B ∧ xs[k]? = some x ∧ P2At w B b (off + k * 2) x := by
  have hk' : k < xs.length := by rw [h.1]; exact hk
  obtain ⟨b, off, e, hlt, hs⟩ := h.2 k xs[k] (List.getElem?_eq_getElem hk')
  exact ⟨b, off, xs[k], e, hlt, List.getElem?_eq_getElem hk', hs⟩
end
def totP2 (xs : List P2) : Nat := (xs.map P2.tot).sum
theorem totP2_succ {xs : List P2} {k : Nat} {x : P2} (h : xs[k]? = some x) : totP2 (xs.take (k + 1)) = totP2 (xs.take k) + x.tot := by
  unfold totP2; rw [List.take_add_one, h]; simp
theorem totP2_take (xs : List P2) (k : Nat) : totP2 (xs.take k) ≤ totP2 xs := by
  have h : totP2 xs = totP2 (xs.take k) + totP2 (xs.drop k) := by
    unfold totP2
    have := congrArg List.sum (List.take_append_drop k (xs.map P2.tot))
    rw [List.sum_append, ← List.map_take, ← List.map_drop] at this
    exact this.symm
  omega
theorem totP2_mem {xs : List P2} {x : P2} (h : x ∈ xs) : x.tot ≤ totP2 xs := by
  obtain ⟨k, hk⟩ := List.getElem?_of_mem h
  have h1 := totP2_succ hk
  have h2 := totP2_take xs (k + 1)
  omega
def P2.fits (x : P2) : Prop := (x.s).length ≤ maxLen ∧ ∀ t ∈ x.s, t.2.length ≤ maxLen
theorem fitsP_of {xs : List P2} (h : totP2 xs ≤ 1048576) : ∀ x ∈ xs, x.fits := fun x hx => by
  have h1 := totP2_mem hx
  unfold P2.tot at h1
  exact ⟨by unfold maxLen; omega, each_of (by omega)⟩

/-! What came in. -/
section
variable {H : Type} {enc : TypeId × Value → H} {w : World} {held : Bool}
theorem cellsPoint : Tryz.prog.cellsOf 84 = 2 := by kernel_rfl
theorem trod_struct2Point {t : TypeId} {f0 f1 : Field} {fuel : Nat} {cs : List Value} {x : DataW H × List MemPlace} (ht : Tryz.prog.underlying t = some (.struct #[f0, f1])) (h : DataW.trod enc Tryz.prog w 0 (fun _ => true) held fuel t cs = some x) :
    ∃ y0 y1 n, DataW.trod enc Tryz.prog w 0 (fun _ => true) held n f0.type ((cs.drop f0.offset).take (Tryz.prog.cellsOf f0.type)) = some y0 ∧ DataW.trod enc Tryz.prog w 0 (fun _ => true) held n f1.type ((cs.drop f1.offset).take (Tryz.prog.cellsOf f1.type)) = some y1 := by
  obtain ⟨xs, n, _, rfl, hl, hlen, hf⟩ := DataW.trod_struct ht h
  match xs, hlen with
  | [y0, y1], _ => exact ⟨y0, y1, n, by simpa using hf 0 f0 rfl, by simpa using hf 1 f1 rfl⟩
set_option maxRecDepth 100000 in
theorem Point_cells {fuel : Nat} {cs : List Value} {x : DataW H × List MemPlace} (hc : cs.length = 2) (h : DataW.trod enc Tryz.prog w 0 (fun _ => true) held fuel 84 cs = some x) :
    ∃ (y : P2) (A0 : Option Addr) (n0 c0 : Nat),
      cs = [.int .i64 y.a, .slice A0 n0 c0] ∧ y.fits ∧ InTS w w.heap.size A0 n0 y.s := by
  match cs, hc with
  | [d0, d1], _ =>
    obtain ⟨y0, y1, m, h0, h1⟩ := trod_struct2Point Tryz.underlying84 h
    have h0' : DataW.trod enc Tryz.prog w 0 (fun _ => true) held m 2 [d0] = some y0 := h0
    obtain ⟨z0, e0, _, _⟩ := DataW.trod_int Tryz.underlying2 h0'
    obtain rfl : d0 = .int .i64 z0 := by simpa using e0
    have h1' : DataW.trod enc Tryz.prog w 0 (fun _ => true) held m 22 [d1] = some y1 := h1
    obtain ⟨A0, n0, c0, l0, e1, a10, a20, a30, a40⟩ := terms_in h1'
    obtain rfl : d1 = .slice A0 n0 c0 := e1
    exact ⟨⟨z0, l0⟩, A0, n0, c0, rfl, ⟨by show l0.length ≤ maxLen; omega, a40⟩, ⟨a10, a30⟩⟩
set_option maxRecDepth 100000 in
theorem Points_in {fuel : Nat} {v : Value} {x : DataW H × List MemPlace} (h : DataW.trod enc Tryz.prog w 0 (fun _ => true) held fuel 24 [v] = some x) :
    ∃ (A : Option Addr) (n c : Nat) (xs : List P2), v = .slice A n c ∧ n ≤ maxLen ∧ InP2 w w.heap.size A n xs ∧ ∀ y ∈ xs, y.fits := by
  rcases open_slice Tryz.underlying24 h with ⟨hcs, _⟩ | ⟨a, len, cap, m, n, D, Pl, hcs, _, hl, hm, hmm, _, hx⟩
  · obtain rfl : v = .slice none 0 0 := by simpa using hcs
    exact ⟨none, 0, 0, [], rfl, Nat.zero_le _, ⟨rfl, fun j y hj => by simp at hj⟩, fun y hy => by simp at hy⟩
  · obtain rfl : v = .slice (some a) len cap := by simpa using hcs
    rw [cellsPoint] at hx
    have hm' : m = cap := by simpa using hmm
    obtain ⟨f, hf⟩ := choose_lt (α := P2) (n := len) (p := fun i y => y.fits ∧ ∃ (A0 : Option Addr) (n0 c0 : Nat),
        (w.cell? ((a.add (i * 2)).add 0) = some (.int .i64 y.a) ∧ w.cell? ((a.add (i * 2)).add 1) = some (.slice A0 n0 c0)) ∧
        InTS w w.heap.size A0 n0 y.s) (fun i hi => by
      obtain ⟨cs', hc, ht⟩ := hx i (by omega)
      obtain ⟨_, hlen, hat⟩ := World.cells?_some hc
      obtain ⟨y, A0, n0, c0, rfl, hy, k0⟩ := Point_cells hlen ht
      exact ⟨y, hy, A0, n0, c0, ⟨hat 0 (by omega), hat 1 (by omega)⟩, k0⟩)
    refine ⟨some a, len, cap, (List.range len).map f, rfl, by omega, ⟨by simp, fun j y hj => ?_⟩, fun y hy => ?_⟩
    · have hjl : j < len := by
        have := (List.getElem?_eq_some_iff.1 hj).1
        simpa using this
      obtain rfl : f j = y := by simpa [hjl] using hj
      obtain ⟨_, A0, n0, c0, ⟨q0, q1⟩, k0⟩ := hf j hjl
      obtain ⟨_, _, _, _, ⟨gg, _⟩, _⟩ := hf 0 (by omega)
      have hs : a.spot = none := by simpa [Addr.add] using World.cell?_spot gg
      obtain ⟨b, off, spot⟩ := a
      have hs' : spot = none := hs
      subst hs'
      rw [add_plain, add_plain] at q0 q1
      exact ⟨b, off, rfl, cell_lt q0, A0, n0, c0, q0, q1, k0⟩
    · obtain ⟨i, hi, rfl⟩ := List.mem_map.1 hy
      exact (hf i (by simpa using hi)).1
end

set_option maxRecDepth 100000 in
set_option maxHeartbeats 4000000 in
theorem szPoint_k (x : P2) (A0 : Option Addr) (n0 c0 : Nat) (B : Nat) (left : Int) (w : World) (h0 : InTS w B A0 n0 x.s) (hB : B ≤ w.heap.size) (hl0 : 0 ≤ left) (hl1 : left ≤ 1048576) (hx : x.fits) :
    Calls Tryz.prog 49 #[.agg #[.int .i64 x.a, .slice A0 n0 c0], .int .i64 left] w fun e w' => e = .returned (.int .i64 (szv left x.tot)) ∧ Below w.heap.size w w' := by
  have hb0 := bnew w (.cells #[.int .i64 x.a, .slice A0 n0 c0] 84)
  have hP : BlkIs (w.alloc (.cells #[.int .i64 x.a, .slice A0 n0 c0] 84)) w.heap.size 84 #[.int .i64 x.a, .slice A0 n0 c0] := blk_new _ _ _ _ rfl
  have htot : x.tot = n0 + totT x.s := by unfold P2.tot; rw [h0.1]
  have hx1 : n0 ≤ maxLen := by have := hx.1; have := h0.1; omega
  have H := Lib.hid (fun (W : World) (hb : Below w.heap.size w W) => szTermS_k A0 n0 c0 B x.s left W (h0.next hb hB) (Nat.le_trans hB hb.size) hl0 hl1 hx1 hx.2)
  have HS := Lib.hid (show szv left (n0 + totT x.s) < 0 ∧ szv left (n0 + totT x.s) = -1 ∨ 0 ≤ szv left (n0 + totT x.s) from by
    rcases Int.lt_or_le left ((n0 + totT x.s : Nat) : Int) with h | h
    · left; rw [szv_no h]; exact ⟨by decide, rfl⟩
    · right; rw [szv_yes h]; omega)
  rw [htot]
  clear h0 htot hx
  generalize szv left (n0 + totT x.s) = V at H HS ⊢
  go_enter Tryz.func49, Tryz.ntmps49
  go_wp2_with fail
  generalize w.alloc (.cells #[.int .i64 x.a, .slice A0 n0 c0] 84) = W at hb0 hP ⊢
  refine (H.out W hb0).mono ?_
  rintro e w1 ⟨rfl, hb1⟩
  have hb2 := bon hb0 hb1
  rcases HS.out with ⟨hq, rfl⟩ | hq
  · clear hq
    go_wp2_with fail
    go_ret
    exact ⟨rfl, hb2⟩
  · go_wp2_with fail
    go_ret
    exact ⟨rfl, hb2⟩

set_option maxRecDepth 100000 in
set_option maxHeartbeats 4000000 in
theorem szPointS_k (A : Option Addr) (n c B : Nat) (xs : List P2) (left : Int) (w : World) (h : InP2 w B A n xs) (hB : B ≤ w.heap.size) (hl0 : 0 ≤ left) (hl1 : left ≤ 1048576) (hn : n ≤ maxLen) (he : ∀ x ∈ xs, x.fits) :
    Calls Tryz.prog 21 #[.slice A n c, .int .i64 left] w fun e w' => e = .returned (.int .i64 (szv left (n + totP2 xs))) ∧ Below w.heap.size w w' := by
  have HE := Lib.hid he
  have hlen := Lib.hid h.1
  clear he
  unfold maxLen at hn
  rcases Int.lt_or_le left n with hlt | hle
  · have HV : Hid (szv left (n + totP2 xs) = -1) := szv_no (by omega)
    have h1 : left - (n : Int) < 0 := by omega
    clear hlt
    go_enter Tryz.func21, Tryz.ntmps21
    go_wp2_with fail
    go_ret
    exact ⟨ret_int HV.out.symm, Below.refl _ _⟩
  · have h1 : 0 ≤ left - (n : Int) := by omega
    have HLE := Lib.hid hle
    clear hle
    go_enter Tryz.func21, Tryz.ntmps21
    go_wp2_with fail
    go_loopw [1, 5] (fun l i wr => ∃ k : Nat, k ≤ n ∧ i = .int .i64 k ∧ l = .int .i64 (left - (n : Int) - (totP2 (xs.take k) : Nat)) ∧ Hid ((n : Int) + (totP2 (xs.take k) : Nat) ≤ left) ∧ Below w.heap.size w wr) (fun _ i _ => n - (intOf i).toNat)
    case atStart => exact ⟨0, Nat.zero_le _, rfl, by simp [totP2], by have := HLE.out; simp [totP2]; omega, Below.refl _ _⟩
    case round =>
      obtain ⟨k, hk, rfl, rfl, hsum, hbel⟩ := hrel
      by_cases hlt : k < n
      · obtain ⟨b, off, x, rfl, hb, ht, A0, n0, c0, q0, q1, k0⟩ := (h.next hbel hB).at_ hlt
        have hs := totP2_succ ht
        have hmx := HE.out x (List.mem_of_getElem? ht)
        have hsz := hbel.size
        have hfull := totP2_take xs (k + 1)
        have HS := Lib.hid hs
        have hsum' := hsum.out
        have HSZ := Lib.hid (szPoint_k x A0 n0 c0 B (left - (n : Int) - (totP2 (xs.take k) : Nat)) wr k0 (by omega) (by omega) (by omega) hmx)
        clear ht hs k0 h1 hmx
        generalize totP2 (xs.take k) = T at HS HSZ hsum hsum' ⊢
        rcases Int.lt_or_le (left - n - T) x.tot with hq | hq
        · have HV : Hid (szv left (n + totP2 xs) = -1) := szv_no (by have := HS.out; omega)
          rw [szv_no hq] at HSZ
          clear hq hsum' hfull
          go_wp2_with fail
          refine HSZ.out.mono ?_
          rintro e w1 ⟨rfl, hb1⟩
          go_wp2_with fail
          go_ret
          exact ⟨ret_int HV.out.symm, hbel.trans (hb1.mono hsz)⟩
        · have HQ : Hid ((n : Int) + (totP2 (xs.take (k + 1)) : Nat) ≤ left) := by show _ ≤ _; have := HS.out; omega
          have HL : Hid (left - (n : Int) - T - x.tot = left - (n : Int) - (totP2 (xs.take (k + 1)) : Nat)) := by show _ = _; have := HS.out; omega
          rw [szv_yes hq] at HSZ
          have hp : 0 ≤ left - (n : Int) - T - x.tot := by omega
          clear hq hsum' hfull
          go_wp2_with fail
          refine HSZ.out.mono ?_
          rintro e w1 ⟨rfl, hb1⟩
          go_wp2_with fail
          go_roundw
          case rel => exact ⟨k + 1, by omega, by go_num, by rw [HL.out], HQ, hbel.trans (hb1.mono hsz)⟩
          case measure => simp [intOf]; omega
      · have HV : Hid (szv left (n + totP2 xs) = left - (n : Int) - (totP2 (xs.take k) : Nat)) := by
          show _ = _
          have hsum' := hsum.out
          rw [take_all (by have := hlen.out; omega)] at hsum' ⊢
          rw [szv_yes (by omega)]; omega
        go_wp2_with fail
        go_ret
        exact ⟨ret_int HV.out.symm, hbel⟩

set_option maxRecDepth 100000 in
set_option maxHeartbeats 4000000 in
theorem eqPoint_k (x : P2) (A0 : Option Addr) (n0 c0 : Nat) (Ab0 : Option Addr) (cb0 : Nat) (B : Nat) (w : World)
    (h0 : InTS w B A0 n0 x.s) (g0 : InTS w B Ab0 n0 x.s) (hB : B ≤ w.heap.size) (m0 : n0 ≤ 1048576) (e0 : totT x.s ≤ 1048576) :
    Calls Tryz.prog 68 #[.agg #[.int .i64 x.a, .slice A0 n0 c0], .agg #[.int .i64 x.a, .slice Ab0 n0 cb0]] w fun e w' => e = .returned (.bool true) ∧ Below w.heap.size w w' := by
  have hb0 : Below w.heap.size w ((w.alloc (.cells #[.int .i64 x.a, .slice A0 n0 c0] 56)).alloc (.cells #[.int .i64 x.a, .slice Ab0 n0 cb0] 56)) := bon (bnew _ _) (bnew _ _)
  have hP : BlkIs ((w.alloc (.cells #[.int .i64 x.a, .slice A0 n0 c0] 56)).alloc (.cells #[.int .i64 x.a, .slice Ab0 n0 cb0] 56)) w.heap.size 56 #[.int .i64 x.a, .slice A0 n0 c0] := (blk_new w _ _ _ rfl).next (bnew _ _)
  have hQ : BlkIs ((w.alloc (.cells #[.int .i64 x.a, .slice A0 n0 c0] 56)).alloc (.cells #[.int .i64 x.a, .slice Ab0 n0 cb0] 56)) (w.heap.size + 1) 56 #[.int .i64 x.a, .slice Ab0 n0 cb0] := blk_new _ _ _ _ (by simp)
  have H0 := Lib.hid (h0.next hb0 hB)
  have G0 := Lib.hid (g0.next hb0 hB)
  clear h0 g0
  go_enter Tryz.func68, Tryz.ntmps68
  go_wp2_with fail
  generalize ((w.alloc (.cells #[.int .i64 x.a, .slice A0 n0 c0] 56)).alloc (.cells #[.int .i64 x.a, .slice Ab0 n0 cb0] 56)) = W at hb0 hP hQ H0 G0 ⊢
  have hs0 := hb0.size
  refine (eqTermS_k A0 Ab0 n0 c0 cb0 B B x.s W H0.out G0.out (by omega) (by omega) m0 e0).mono ?_
  rintro e w1 ⟨rfl, hb1⟩
  have hs1 := hb1.size
  have HBW := hb1
  go_wp2_with fail
  go_ret
  exact ⟨rfl, bon hb0 HBW⟩

set_option maxRecDepth 100000 in
set_option maxHeartbeats 4000000 in
theorem eqPointS_k (A A' : Option Addr) (n c c' B B' : Nat) (xs : List P2) (w : World) (h0 : InP2 w B A n xs) (h0' : InP2 w B' A' n xs) (hB : B ≤ w.heap.size) (hB' : B' ≤ w.heap.size) (hn : n ≤ 1048576) (he : totP2 xs ≤ 1048576) :
    Calls Tryz.prog 31 #[.slice A n c, .slice A' n c'] w fun e w' => e = .returned (.bool true) ∧ Below w.heap.size w w' := by
  have h : InP2 w w.heap.size A n xs := h0.more hB
  have h' : InP2 w w.heap.size A' n xs := h0'.more hB'
  clear h0 h0'
  go_enter Tryz.func31, Tryz.ntmps31
  go_wp2_with fail
  go_loopw [5] (fun i wr => ∃ k : Nat, k ≤ n ∧ i = .int .i64 k ∧ Below w.heap.size w wr) (fun i _ => n - (intOf i).toNat)
  case atStart => exact ⟨0, Nat.zero_le _, rfl, Below.refl _ _⟩
  case round =>
    obtain ⟨k, hk, rfl, hbel⟩ := hrel
    have hsz := hbel.size
    by_cases hlt : k < n
    · obtain ⟨b, off, x, rfl, hb, ht, A0, n0, c0, q0, q1, k0⟩ := (h.next hbel (Nat.le_refl _)).at_ hlt
      obtain ⟨b', off', x', rfl, hb', ht', Ab0, nb0, cb0, p0, p1, g0⟩ := (h'.next hbel (Nat.le_refl _)).at_ hlt
      obtain rfl : x = x' := by rw [ht] at ht'; exact Option.some.inj ht'
      obtain rfl : n0 = nb0 := k0.1.symm.trans g0.1
      have hmx := totP2_mem (List.mem_of_getElem? ht)
      unfold P2.tot at hmx
      rw [k0.1] at hmx
      have HE := Lib.hid (eqPoint_k x A0 n0 c0 Ab0 cb0 w.heap.size wr.drew k0.drew g0.drew hsz (by omega) (by omega))
      have i1 : (k : Int) < (n : Int) := by omega
      clear ht ht' k0 g0
      go_wp2_with fail
      go_region_held3 (fun w' => w'.cell? ⟨b, off + k * 2, none⟩ = some (.int .i64 x.a) ∧ w'.cell? ⟨b, off + k * 2 + 1, none⟩ = some (.slice A0 n0 c0) ∧ w'.cell? ⟨b', off' + k * 2, none⟩ = some (.int .i64 x.a) ∧ w'.cell? ⟨b', off' + k * 2 + 1, none⟩ = some (.slice Ab0 n0 cb0))
        (first | go_keep | exact ⟨cell_on q0 hb9, cell_on q1 hb9, cell_on p0 hb9, cell_on p1 hb9⟩)
        (first | (go_at_call 68; refine HE.out.mono ?_; rintro e w9 ⟨rfl, hb9⟩))
      go_wp2_with fail
      go_roundw
      case rel => exact ⟨k + 1, by omega, by go_num, hbel.trans ((bstep hb9).mono hsz)⟩
      case measure => simp [intOf]; omega
    · go_wp2_with fail
      go_ret
      exact ⟨rfl, hbel⟩
end Go.Proofs.YtffkdidgfeknkaaGreatDoor
