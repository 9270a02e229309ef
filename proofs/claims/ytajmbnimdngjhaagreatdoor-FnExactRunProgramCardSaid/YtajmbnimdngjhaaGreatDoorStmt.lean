/-
  Elements of bodies: what a list of them that came in reads as; how the law counts and compares them. Conditions: at most 2^20 elements, terms and coefficients.
-/
import Derived.Test.YtajmbnimdngjhaaGreatDoorBlk
import Derived.Test.YtajmbnimdngjhaaGreatDoorTms
namespace Go.Proofs.YtajmbnimdngjhaaGreatDoor
set_option linter.unusedVariables false
open Go.RowKit Go.ChangeShapes Go.WideShapes Go.Deep Go.Joins

/-- An element's numbers. -/
structure S8 where
  k : Int
  v : Int
  e : Int
  s : Int × List Int
  i : Int × List Int
  f : List (Int × List Int)
instance : Inhabited S8 := ⟨⟨0, 0, 0, (0, []), (0, []), []⟩⟩
/-- How much an element holds, as the law counts it. -/
def S8.tot (x : S8) : Nat := x.s.2.length + (x.i.2.length + (x.f.length + totT x.f))
/-- An element's cells lie at a place; what they lead to lies below block B. -/
def StAt (w : World) (B b o : Nat) (x : S8) : Prop := ∃ As ns cs Ai ni ci Af nf cf,
  w.cell? ⟨b, o, none⟩ = some (.int .i64 x.k) ∧ w.cell? ⟨b, o + 1, none⟩ = some (.int .i64 x.v) ∧ w.cell? ⟨b, o + 2, none⟩ = some (.int .i64 x.e) ∧
  w.cell? ⟨b, o + 3, none⟩ = some (.int .i64 x.s.1) ∧ w.cell? ⟨b, o + 4, none⟩ = some (.slice As ns cs) ∧ w.cell? ⟨b, o + 5, none⟩ = some (.int .i64 x.i.1) ∧ w.cell? ⟨b, o + 6, none⟩ = some (.slice Ai ni ci) ∧ w.cell? ⟨b, o + 7, none⟩ = some (.slice Af nf cf) ∧
  InL w B As ns x.s.2 ∧ InL w B Ai ni x.i.2 ∧ InTS w B Af nf x.f
theorem StAt.next {w w' : World} {B B' b o : Nat} {x : S8} (h : StAt w B b o x) (hb : Below B' w w') (hB : B ≤ B') (hlt : b < B') : StAt w' B b o x := by
  obtain ⟨As, ns, cs, Ai, ni, ci, Af, nf, cf, h0, h1, h2, h3, h4, h5, h6, h7, h8, h9, h10⟩ := h
  have g : ∀ {o v}, w.cell? ⟨b, o, none⟩ = some v → w'.cell? ⟨b, o, none⟩ = some v := fun {o v} hc => (hb.cell (p := ⟨b, o, none⟩) hlt).trans hc
  exact ⟨As, ns, cs, Ai, ni, ci, Af, nf, cf, g h0, g h1, g h2, g h3, g h4, g h5, g h6, g h7, h8.next hb hB, h9.next hb hB, h10.next hb hB⟩
/-- Elements lie side by side where a slice's value leads, below block B; eight cells each. -/
def InST (w : World) (B : Nat) (A : Option Addr) (n : Nat) (xs : List S8) : Prop := xs.length = n ∧ ∀ j x, xs[j]? = some x → ∃ b off, A = some ⟨b, off, none⟩ ∧ b < B ∧ StAt w B b (off + j * 8) x
section
variable {w w' : World} {lo hi B B' : Nat} {A : Option Addr} {n : Nat} {xs : List S8}
theorem InST.next (h : InST w B A n xs) (hb : Below B' w w') (hB : B ≤ B') : InST w' B A n xs := ⟨h.1, fun j x hj => by
  obtain ⟨b, off, e, hlt, hs⟩ := h.2 j x hj
  exact ⟨b, off, e, hlt, hs.next hb hB (by omega)⟩⟩
theorem InST.at_ (h : InST w B A n xs) {k : Nat} (hk : k < n) : ∃ b off x, A = some ⟨b, off, none⟩ ∧ b < B ∧ xs[k]? = some x ∧ StAt w B b (off + k * 8) x := by
  have hk' : k < xs.length := by rw [h.1]; exact hk
  obtain ⟨b, off, e, hlt, hs⟩ := h.2 k xs[k] (List.getElem?_eq_getElem hk')
  exact ⟨b, off, xs[k], e, hlt, List.getElem?_eq_getElem hk', hs⟩
end
def totS (xs : List S8) : Nat := (xs.map S8.tot).sum
theorem totS_succ {xs : List S8} {k : Nat} {x : S8} (h : xs[k]? = some x) : totS (xs.take (k + 1)) = totS (xs.take k) + x.tot := by
  unfold totS; rw [List.take_add_one, h]; simp
theorem totS_take (xs : List S8) (k : Nat) : totS (xs.take k) ≤ totS xs := by
  have h : totS xs = totS (xs.take k) + totS (xs.drop k) := by
    unfold totS
    have := congrArg List.sum (List.take_append_drop k (xs.map S8.tot))
    rw [List.sum_append, ← List.map_take, ← List.map_drop] at this
    exact this.symm
  omega
theorem totS_mem {xs : List S8} {x : S8} (h : x ∈ xs) : x.tot ≤ totS xs := by
  obtain ⟨k, hk⟩ := List.getElem?_of_mem h
  have h1 := totS_succ hk
  have h2 := totS_take xs (k + 1)
  omega

/-! What came in. -/
section
variable {H : Type} {enc : TypeId × Value → H} {w : World} {held : Bool}
/-- What is known of the size of an element that came in. -/
def S8.fits (x : S8) : Prop := x.s.2.length ≤ maxLen ∧ x.i.2.length ≤ maxLen ∧ x.f.length ≤ maxLen ∧ ∀ t ∈ x.f, t.2.length ≤ maxLen
theorem cellsStmt : Tryz.prog.cellsOf 109 = 8 := by kernel_rfl
theorem cellsTerm2 : Tryz.prog.cellsOf 106 = 2 := by kernel_rfl
theorem cellsInt : Tryz.prog.cellsOf 2 = 1 := by kernel_rfl
theorem cellsTerms : Tryz.prog.cellsOf 22 = 1 := by kernel_rfl
theorem trod_struct6 {t : TypeId} {f0 f1 f2 f3 f4 f5 : Field} {fuel : Nat} {cs : List Value} {x : DataW H × List MemPlace} (ht : Tryz.prog.underlying t = some (.struct #[f0, f1, f2, f3, f4, f5])) (h : DataW.trod enc Tryz.prog w 0 (fun _ => true) held fuel t cs = some x) :
    ∃ y0 y1 y2 y3 y4 y5 n, DataW.trod enc Tryz.prog w 0 (fun _ => true) held n f0.type ((cs.drop f0.offset).take (Tryz.prog.cellsOf f0.type)) = some y0 ∧
      DataW.trod enc Tryz.prog w 0 (fun _ => true) held n f1.type ((cs.drop f1.offset).take (Tryz.prog.cellsOf f1.type)) = some y1 ∧ DataW.trod enc Tryz.prog w 0 (fun _ => true) held n f2.type ((cs.drop f2.offset).take (Tryz.prog.cellsOf f2.type)) = some y2 ∧
      DataW.trod enc Tryz.prog w 0 (fun _ => true) held n f3.type ((cs.drop f3.offset).take (Tryz.prog.cellsOf f3.type)) = some y3 ∧ DataW.trod enc Tryz.prog w 0 (fun _ => true) held n f4.type ((cs.drop f4.offset).take (Tryz.prog.cellsOf f4.type)) = some y4 ∧
      DataW.trod enc Tryz.prog w 0 (fun _ => true) held n f5.type ((cs.drop f5.offset).take (Tryz.prog.cellsOf f5.type)) = some y5 := by
  obtain ⟨xs, n, _, rfl, hl, hlen, hf⟩ := DataW.trod_struct ht h
  match xs, hlen with
  | [y0, y1, y2, y3, y4, y5], _ => exact ⟨y0, y1, y2, y3, y4, y5, n, by simpa using hf 0 f0 rfl, by simpa using hf 1 f1 rfl, by simpa using hf 2 f2 rfl, by simpa using hf 3 f3 rfl, by simpa using hf 4 f4 rfl, by simpa using hf 5 f5 rfl⟩
set_option maxRecDepth 100000 in
/-- An element's eight cells, as they read. -/
theorem stmt_cells {fuel : Nat} {cs : List Value} {x : DataW H × List MemPlace} (hc : cs.length = 8) (h : DataW.trod enc Tryz.prog w 0 (fun _ => true) held fuel 109 cs = some x) :
    ∃ (y : S8) (As : Option Addr) (ns c1 : Nat) (Ai : Option Addr) (ni c2 : Nat) (Af : Option Addr) (nf c3 : Nat),
      cs = [.int .i64 y.k, .int .i64 y.v, .int .i64 y.e, .int .i64 y.s.1, .slice As ns c1, .int .i64 y.i.1, .slice Ai ni c2, .slice Af nf c3] ∧ y.fits ∧
      InL w w.heap.size As ns y.s.2 ∧ InL w w.heap.size Ai ni y.i.2 ∧ InTS w w.heap.size Af nf y.f := by
  match cs, hc with
  | [d0, d1, d2, d3, d4, d5, d6, d7], _ =>
    obtain ⟨y0, y1, y2, y3, y4, y5, m, h0, h1, h2, h3, h4, h5⟩ := trod_struct6 Tryz.underlying109 h
    have h0' : DataW.trod enc Tryz.prog w 0 (fun _ => true) held m 2 [d0] = some y0 := h0
    have h1' : DataW.trod enc Tryz.prog w 0 (fun _ => true) held m 2 [d1] = some y1 := h1
    have h2' : DataW.trod enc Tryz.prog w 0 (fun _ => true) held m 2 [d2] = some y2 := h2
    have h3' : DataW.trod enc Tryz.prog w 0 (fun _ => true) held m 106 [d3, d4] = some y3 := h3
    have h4' : DataW.trod enc Tryz.prog w 0 (fun _ => true) held m 106 [d5, d6] = some y4 := h4
    have h5' : DataW.trod enc Tryz.prog w 0 (fun _ => true) held m 22 [d7] = some y5 := h5
    obtain ⟨z0, e0, _, _⟩ := DataW.trod_int Tryz.underlying2 h0'
    obtain ⟨z1, e1, _, _⟩ := DataW.trod_int Tryz.underlying2 h1'
    obtain ⟨z2, e2, _, _⟩ := DataW.trod_int Tryz.underlying2 h2'
    obtain ⟨cs, As, ns, c1, zs, e3, a1, a2, a3, _⟩ := term_cells rfl h3'
    obtain ⟨ci, Ai, ni, c2, zi, e4, b1, b2, b3, _⟩ := term_cells rfl h4'
    obtain ⟨Af, nf, c3, ts, e5, g1, g2, g3, g4⟩ := terms_in h5'
    obtain rfl : d0 = .int .i64 z0 := by simpa using e0
    obtain rfl : d1 = .int .i64 z1 := by simpa using e1
    obtain rfl : d2 = .int .i64 z2 := by simpa using e2
    obtain ⟨rfl, rfl⟩ : d3 = .int .i64 cs ∧ d4 = .slice As ns c1 := by simpa using e3
    obtain ⟨rfl, rfl⟩ : d5 = .int .i64 ci ∧ d6 = .slice Ai ni c2 := by simpa using e4
    obtain rfl := e5
    exact ⟨⟨z0, z1, z2, (cs, zs), (ci, zi), ts⟩, As, ns, c1, Ai, ni, c2, Af, nf, c3, rfl, ⟨by show zs.length ≤ maxLen; omega, by show zi.length ≤ maxLen; omega, by show ts.length ≤ maxLen; omega, g4⟩, ⟨a1, a3⟩, ⟨b1, b3⟩, ⟨g1, g3⟩⟩
set_option maxRecDepth 100000 in
theorem stmts_in {fuel : Nat} {v : Value} {x : DataW H × List MemPlace} (h : DataW.trod enc Tryz.prog w 0 (fun _ => true) held fuel 23 [v] = some x) :
    ∃ (A : Option Addr) (n c : Nat) (xs : List S8), v = .slice A n c ∧ n ≤ maxLen ∧ InST w w.heap.size A n xs ∧ ∀ y ∈ xs, y.fits := by
  rcases open_slice Tryz.underlying23 h with ⟨hcs, _⟩ | ⟨a, len, cap, m, n, D, Pl, hcs, _, hl, hm, hmm, _, hx⟩
  · obtain rfl : v = .slice none 0 0 := by simpa using hcs
    exact ⟨none, 0, 0, [], rfl, Nat.zero_le _, ⟨rfl, fun j y hj => by simp at hj⟩, fun y hy => by simp at hy⟩
  · obtain rfl : v = .slice (some a) len cap := by simpa using hcs
    rw [cellsStmt] at hx
    have hm' : m = cap := by simpa using hmm
    obtain ⟨f, hf⟩ := choose_lt (α := S8) (n := len) (p := fun i y => y.fits ∧ ∃ (As : Option Addr) (ns c1 : Nat) (Ai : Option Addr) (ni c2 : Nat) (Af : Option Addr) (nf c3 : Nat),
        (w.cell? ((a.add (i * 8)).add 0) = some (.int .i64 y.k) ∧ w.cell? ((a.add (i * 8)).add 1) = some (.int .i64 y.v) ∧ w.cell? ((a.add (i * 8)).add 2) = some (.int .i64 y.e) ∧ w.cell? ((a.add (i * 8)).add 3) = some (.int .i64 y.s.1) ∧
        w.cell? ((a.add (i * 8)).add 4) = some (.slice As ns c1) ∧ w.cell? ((a.add (i * 8)).add 5) = some (.int .i64 y.i.1) ∧ w.cell? ((a.add (i * 8)).add 6) = some (.slice Ai ni c2) ∧ w.cell? ((a.add (i * 8)).add 7) = some (.slice Af nf c3)) ∧
        InL w w.heap.size As ns y.s.2 ∧ InL w w.heap.size Ai ni y.i.2 ∧ InTS w w.heap.size Af nf y.f) (fun i hi => by
      obtain ⟨cs', hc, ht⟩ := hx i (by omega)
      obtain ⟨_, hlen, hat⟩ := World.cells?_some hc
      obtain ⟨y, As, ns, c1, Ai, ni, c2, Af, nf, c3, rfl, hy, k1, k2, k3⟩ := stmt_cells hlen ht
      exact ⟨y, hy, As, ns, c1, Ai, ni, c2, Af, nf, c3, ⟨hat 0 (by omega), hat 1 (by omega), hat 2 (by omega), hat 3 (by omega), hat 4 (by omega), hat 5 (by omega), hat 6 (by omega), hat 7 (by omega)⟩, k1, k2, k3⟩)
    refine ⟨some a, len, cap, (List.range len).map f, rfl, by omega, ⟨by simp, fun j y hj => ?_⟩, fun y hy => ?_⟩
    · have hjl : j < len := by
        have := (List.getElem?_eq_some_iff.1 hj).1
        simpa using this
      obtain rfl : f j = y := by simpa [hjl] using hj
      obtain ⟨_, As, ns, c1, Ai, ni, c2, Af, nf, c3, ⟨q0, q1, q2, q3, q4, q5, q6, q7⟩, k1, k2, k3⟩ := hf j hjl
      obtain ⟨_, _, _, _, _, _, _, _, _, _, ⟨gg, _⟩, _⟩ := hf 0 (by omega)
      have hs : a.spot = none := by simpa [Addr.add] using World.cell?_spot gg
      obtain ⟨b, off, spot⟩ := a
      have hs' : spot = none := hs
      subst hs'
      rw [add_plain, add_plain] at q0 q1 q2 q3 q4 q5 q6 q7
      exact ⟨b, off, rfl, cell_lt q0, As, ns, c1, Ai, ni, c2, Af, nf, c3, q0, q1, q2, q3, q4, q5, q6, q7, k1, k2, k3⟩
    · obtain ⟨i, hi, rfl⟩ := List.mem_map.1 hy
      exact (hf i (by simpa using hi)).1
end

set_option maxRecDepth 100000 in
set_option maxHeartbeats 2000000 in
theorem szStmt_k (x : S8) (As : Option Addr) (ns c1 : Nat) (Ai : Option Addr) (ni c2 : Nat) (Af : Option Addr) (nf c3 B : Nat) (left : Int) (w : World) (hs : InL w B As ns x.s.2) (hi : InL w B Ai ni x.i.2) (hf : InTS w B Af nf x.f) (hB : B ≤ w.heap.size) (hl0 : 0 ≤ left) (hl1 : left ≤ 1048576) (hx : x.fits) :
    Calls Tryz.prog 64 #[.agg #[.int .i64 x.k, .int .i64 x.v, .int .i64 x.e, .int .i64 x.s.1, .slice As ns c1, .int .i64 x.i.1, .slice Ai ni c2, .slice Af nf c3], .int .i64 left] w fun e w' => e = .returned (.int .i64 (szv left x.tot)) ∧ Below w.heap.size w w' := by
  have hb0 := bnew w (.cells #[.int .i64 x.k, .int .i64 x.v, .int .i64 x.e, .int .i64 x.s.1, .slice As ns c1, .int .i64 x.i.1, .slice Ai ni c2, .slice Af nf c3] 109)
  have hP : BlkIs (w.alloc (.cells #[.int .i64 x.k, .int .i64 x.v, .int .i64 x.e, .int .i64 x.s.1, .slice As ns c1, .int .i64 x.i.1, .slice Ai ni c2, .slice Af nf c3] 109)) w.heap.size 109 #[.int .i64 x.k, .int .i64 x.v, .int .i64 x.e, .int .i64 x.s.1, .slice As ns c1, .int .i64 x.i.1, .slice Ai ni c2, .slice Af nf c3] := blk_new _ _ _ _ rfl
  have HF := Lib.hid (hf.next hb0 hB)
  have HX := Lib.hid hx
  have hx1 : ns ≤ maxLen := by have := hx.1; have := hs.1; omega
  have hx2 : ni ≤ maxLen := by have := hx.2.1; have := hi.1; omega
  have htot : x.tot = ns + (ni + (nf + totT x.f)) := by unfold S8.tot; rw [hs.1, hi.1, hf.1]
  have hx3 : nf ≤ maxLen := by have := hx.2.2.1; have := hf.1; omega
  rw [htot]
  clear hs hi hf htot hx
  go_enter Tryz.func64, Tryz.ntmps64
  go_wp2_with fail
  generalize w.alloc (.cells #[.int .i64 x.k, .int .i64 x.v, .int .i64 x.e, .int .i64 x.s.1, .slice As ns c1, .int .i64 x.i.1, .slice Ai ni c2, .slice Af nf c3] 109) = W at hb0 hP HF ⊢
  have hs0 := hb0.size
  refine (szTerm_c x.s.1 As ns c1 left W hl0 hl1 hx1).mono ?_
  rintro e w1 ⟨rfl, hb1⟩
  have hs1 := hb1.size
  have P1 := hP.next hb1
  have a5 : w1.cell? ⟨w.heap.size, 5, none⟩ = some (.int .i64 x.i.1) := P1.cell 5
  have a6 : w1.cell? ⟨w.heap.size, 6, none⟩ = some (.slice Ai ni c2) := P1.cell 6
  rcases Int.lt_or_le left ns with hq | hq
  · have HV : Hid (szv left (ns + (ni + (nf + totT x.f))) = -1) := szv_no (by omega)
    rw [szv_no hq]
    clear hq
    go_wp2_with fail
    go_ret
    exact ⟨ret_int HV.out.symm, bon hb0 hb1⟩
  · rw [szv_yes hq]
    obtain ⟨L1, hL1⟩ : ∃ L1, L1 = left - (ns : Int) := ⟨_, rfl⟩
    rw [← hL1]
    have h10 : 0 ≤ L1 := by omega
    have h11 : L1 ≤ 1048576 := by omega
    have HL1 := Lib.hid hL1
    clear hL1 hq
    go_wp2_with fail
    refine (szTerm_c x.i.1 Ai ni c2 L1 w1 h10 h11 hx2).mono ?_
    rintro e w2 ⟨rfl, hb2⟩
    have hs2 := hb2.size
    have P2 := P1.next hb2
    have a7 : w2.cell? ⟨w.heap.size, 7, none⟩ = some (.slice Af nf c3) := P2.cell 7
    rcases Int.lt_or_le L1 ni with hq | hq
    · have HV : Hid (szv left (ns + (ni + (nf + totT x.f))) = -1) := szv_no (by have := HL1.out; omega)
      rw [szv_no hq]
      clear hq
      go_wp2_with fail
      go_ret
      exact ⟨ret_int HV.out.symm, bon (bon hb0 hb1) hb2⟩
    · rw [szv_yes hq]
      obtain ⟨L2, hL2⟩ : ∃ L2, L2 = L1 - (ni : Int) := ⟨_, rfl⟩
      rw [← hL2]
      have h20 : 0 ≤ L2 := by omega
      have h21 : L2 ≤ 1048576 := by omega
      have HQ : Hid (szv L2 (nf + totT x.f) = szv left (ns + (ni + (nf + totT x.f)))) := by
        show _ = _
        have := HL1.out
        rcases Int.lt_or_le L2 (nf + totT x.f : Nat) with h | h
        · rw [szv_no h, szv_no (by omega)]
        · rw [szv_yes h, szv_yes (by omega)]; omega
      clear hL2 hq
      have HSZ := Lib.hid (szTermS_k Af nf c3 B x.f L2 w2 ((HF.out.next hb1 (by omega)).next hb2 (by omega)) (by omega) h20 h21 hx3 HX.out.2.2.2)
      have hc : 0 ≤ szv L2 (nf + totT x.f) ∨ szv L2 (nf + totT x.f) = -1 := by
        rcases Int.lt_or_le L2 (nf + totT x.f : Nat) with h | h
        · exact .inr (szv_no h)
        · exact .inl (by rw [szv_yes h]; omega)
      generalize szv L2 (nf + totT x.f) = V at HSZ HQ hc
      go_wp2_with fail
      refine HSZ.out.mono ?_
      rintro e w3 ⟨rfl, hb3⟩
      rcases hc with hc | rfl
      all_goals
        go_wp2_with fail
        go_ret
        exact ⟨ret_int HQ.out, bon (bon (bon hb0 hb1) hb2) hb3⟩

set_option maxRecDepth 100000 in
set_option maxHeartbeats 2000000 in
theorem szStmtS_k (A : Option Addr) (n c B : Nat) (xs : List S8) (left : Int) (w : World) (h : InST w B A n xs) (hB : B ≤ w.heap.size) (hl0 : 0 ≤ left) (hl1 : left ≤ 1048576) (hn : n ≤ maxLen) (he : ∀ x ∈ xs, x.fits) :
    Calls Tryz.prog 32 #[.slice A n c, .int .i64 left] w fun e w' => e = .returned (.int .i64 (szv left (n + totS xs))) ∧ Below w.heap.size w w' := by
  have HE := Lib.hid he
  have hlen := Lib.hid h.1
  clear he
  unfold maxLen at hn
  rcases Int.lt_or_le left n with hlt | hle
  · have HV : Hid (szv left (n + totS xs) = -1) := szv_no (by omega)
    have h1 : left - (n : Int) < 0 := by omega
    clear hlt
    go_enter Tryz.func32, Tryz.ntmps32
    go_wp2_with fail
    go_ret
    exact ⟨ret_int HV.out.symm, Below.refl _ _⟩
  · have h1 : 0 ≤ left - (n : Int) := by omega
    have HLE := Lib.hid hle
    clear hle
    go_enter Tryz.func32, Tryz.ntmps32
    go_wp2_with fail
    go_loopw [1, 5] (fun l i wr => ∃ k : Nat, k ≤ n ∧ i = .int .i64 k ∧ l = .int .i64 (left - (n : Int) - (totS (xs.take k) : Nat)) ∧ Hid ((n : Int) + (totS (xs.take k) : Nat) ≤ left) ∧ Below w.heap.size w wr) (fun _ i _ => n - (intOf i).toNat)
    case atStart => exact ⟨0, Nat.zero_le _, rfl, by simp [totS], by have := HLE.out; simp [totS]; omega, Below.refl _ _⟩
    case round =>
      obtain ⟨k, hk, rfl, rfl, hsum, hbel⟩ := hrel
      by_cases hlt : k < n
      · obtain ⟨b, off, x, rfl, hb, ht, As, ns, c1, Ai, ni, c2, Af, nf, c3, q0, q1, q2, q3, q4, q5, q6, q7, k1, k2, k3⟩ := (h.next hbel hB).at_ hlt
        have hs := totS_succ ht
        have hmx := HE.out x (List.mem_of_getElem? ht)
        have hsz := hbel.size
        have hfull := totS_take xs (k + 1)
        have HS := Lib.hid hs
        have hsum' := hsum.out
        have HSZ := Lib.hid (szStmt_k x As ns c1 Ai ni c2 Af nf c3 B (left - (n : Int) - (totS (xs.take k) : Nat)) wr k1 k2 k3 (by omega) (by omega) (by omega) hmx)
        clear ht hs k1 k2 k3 h1 hmx
        generalize totS (xs.take k) = T at HS HSZ hsum hsum' ⊢
        rcases Int.lt_or_le (left - n - T) x.tot with hq | hq
        · have HV : Hid (szv left (n + totS xs) = -1) := szv_no (by have := HS.out; omega)
          rw [szv_no hq] at HSZ
          clear hq hsum' hfull
          go_wp2_with fail
          refine HSZ.out.mono ?_
          rintro e w1 ⟨rfl, hb1⟩
          go_wp2_with fail
          go_ret
          exact ⟨ret_int HV.out.symm, hbel.trans (hb1.mono hsz)⟩
        · have HQ : Hid ((n : Int) + (totS (xs.take (k + 1)) : Nat) ≤ left) := by show _ ≤ _; have := HS.out; omega
          have HL : Hid (left - (n : Int) - T - x.tot = left - (n : Int) - (totS (xs.take (k + 1)) : Nat)) := by show _ = _; have := HS.out; omega
          rw [szv_yes hq] at HSZ
          have hp : 0 ≤ left - (n : Int) - T - x.tot := by omega
          clear hq hsum' hfull
          go_wp2_with fail
          refine HSZ.out.mono ?_
          rintro e w1 ⟨rfl, hb1⟩
          go_wp2_with fail
          go_roundw
          case rel => exact ⟨k + 1, by omega, by go_num, by rw [HL.out], HQ, hbel.trans (hb1.mono hsz)⟩
          case measure => simp [intOf]; omega
      · have HV : Hid (szv left (n + totS xs) = left - (n : Int) - (totS (xs.take k) : Nat)) := by
          show _ = _
          have hsum' := hsum.out
          rw [take_all (by have := hlen.out; omega)] at hsum' ⊢
          rw [szv_yes (by omega)]; omega
        go_wp2_with fail
        go_ret
        exact ⟨ret_int HV.out.symm, hbel⟩

/-- An element's value. -/
def S8.val (x : S8) (As : Option Addr) (ns c1 : Nat) (Ai : Option Addr) (ni c2 : Nat) (Af : Option Addr) (nf c3 : Nat) : Array Value := #[.int .i64 x.k, .int .i64 x.v, .int .i64 x.e, .int .i64 x.s.1, .slice As ns c1, .int .i64 x.i.1, .slice Ai ni c2, .slice Af nf c3]
set_option maxRecDepth 100000 in
set_option maxHeartbeats 2000000 in
theorem eqStmt_k (x : S8) (As : Option Addr) (ns c1 : Nat) (Ai : Option Addr) (ni c2 : Nat) (Af : Option Addr) (nf c3 : Nat) (Bs : Option Addr) (d1 : Nat) (Bi : Option Addr) (d2 : Nat) (Bf : Option Addr) (d3 B : Nat) (w : World)
    (hs : InL w B As ns x.s.2) (hi : InL w B Ai ni x.i.2) (hf : InTS w B Af nf x.f) (gs : InL w B Bs ns x.s.2) (gi : InL w B Bi ni x.i.2) (gf : InTS w B Bf nf x.f) (hB : B ≤ w.heap.size) (hn1 : ns ≤ 1048576) (hn2 : ni ≤ 1048576) (hn3 : nf ≤ 1048576) (hn4 : totT x.f ≤ 1048576) :
    Calls Tryz.prog 79 #[.agg (x.val As ns c1 Ai ni c2 Af nf c3), .agg (x.val Bs ns d1 Bi ni d2 Bf nf d3)] w fun e w' => e = .returned (.bool true) ∧ Below w.heap.size w w' := by
  unfold S8.val
  have hb0 : Below w.heap.size w ((w.alloc (.cells (x.val As ns c1 Ai ni c2 Af nf c3) 83)).alloc (.cells (x.val Bs ns d1 Bi ni d2 Bf nf d3) 83)) := bon (bnew _ _) (bnew _ _)
  have hP : BlkIs ((w.alloc (.cells (x.val As ns c1 Ai ni c2 Af nf c3) 83)).alloc (.cells (x.val Bs ns d1 Bi ni d2 Bf nf d3) 83)) w.heap.size 83 (x.val As ns c1 Ai ni c2 Af nf c3) := (blk_new w _ _ _ rfl).next (bnew _ _)
  have hQ : BlkIs ((w.alloc (.cells (x.val As ns c1 Ai ni c2 Af nf c3) 83)).alloc (.cells (x.val Bs ns d1 Bi ni d2 Bf nf d3) 83)) (w.heap.size + 1) 83 (x.val Bs ns d1 Bi ni d2 Bf nf d3) := blk_new _ _ _ _ (by simp)
  have h1 := Lib.hid (hs.next hb0 hB)
  have h2 := Lib.hid (hi.next hb0 hB)
  have h3 := Lib.hid (hf.next hb0 hB)
  have g1 := Lib.hid (gs.next hb0 hB)
  have g2 := Lib.hid (gi.next hb0 hB)
  have g3 := Lib.hid (gf.next hb0 hB)
  unfold S8.val at hb0 hP hQ h1 h2 h3 g1 g2 g3
  clear hs hi hf gs gi gf
  go_enter Tryz.func79, Tryz.ntmps79
  go_wp2_with fail
  generalize (w.alloc (.cells #[.int .i64 x.k, .int .i64 x.v, .int .i64 x.e, .int .i64 x.s.1, .slice As ns c1, .int .i64 x.i.1, .slice Ai ni c2, .slice Af nf c3] 83)).alloc (.cells #[.int .i64 x.k, .int .i64 x.v, .int .i64 x.e, .int .i64 x.s.1, .slice Bs ns d1, .int .i64 x.i.1, .slice Bi ni d2, .slice Bf nf d3] 83) = W at hb0 hP hQ h1 h2 h3 g1 g2 g3 ⊢
  have hs0 := hb0.size
  refine (eqTerm_k x.s.1 As Bs ns c1 d1 B B x.s.2 W h1.out g1.out (by omega) (by omega) hn1).mono ?_
  rintro e w1 ⟨rfl, hb1⟩
  have hs1 := hb1.size
  have P1 := hP.next hb1
  have Q1 := hQ.next hb1
  have a5 : w1.cell? ⟨w.heap.size, 5, none⟩ = some (.int .i64 x.i.1) := P1.cell 5
  have a6 : w1.cell? ⟨w.heap.size, 6, none⟩ = some (.slice Ai ni c2) := P1.cell 6
  have b5 : w1.cell? ⟨w.heap.size + 1, 5, none⟩ = some (.int .i64 x.i.1) := Q1.cell 5
  have b6 : w1.cell? ⟨w.heap.size + 1, 6, none⟩ = some (.slice Bi ni d2) := Q1.cell 6
  go_wp2_with fail
  refine (eqTerm_k x.i.1 Ai Bi ni c2 d2 B B x.i.2 w1 (h2.out.next hb1 (by omega)) (g2.out.next hb1 (by omega)) (by omega) (by omega) hn2).mono ?_
  rintro e w2 ⟨rfl, hb2⟩
  have hs2 := hb2.size
  have P2 := P1.next hb2
  have Q2 := Q1.next hb2
  have a7 : w2.cell? ⟨w.heap.size, 7, none⟩ = some (.slice Af nf c3) := P2.cell 7
  have b7 : w2.cell? ⟨w.heap.size + 1, 7, none⟩ = some (.slice Bf nf d3) := Q2.cell 7
  go_wp2_with fail
  refine (eqTermS_k Af Bf nf c3 d3 B B x.f w2 ((h3.out.next hb1 (by omega)).next hb2 (by omega)) ((g3.out.next hb1 (by omega)).next hb2 (by omega)) (by omega) (by omega) hn3 hn4).mono ?_
  rintro e w3 ⟨rfl, hb3⟩
  go_wp2_with fail
  go_ret
  exact ⟨rfl, bon (bon (bon hb0 hb1) hb2) hb3⟩
end Go.Proofs.YtajmbnimdngjhaaGreatDoor
