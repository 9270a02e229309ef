/-
  Annotated code (facts, facts, instructions, points): what came in reads as; how the law counts, copies and compares it. Conditions: at most 2^20 elements and numbers. (printed by gen_ann.py)
-/
import Derived.Test.YtffkdidgfeknkaaGreatDoorPointM
import Derived.Test.YtffkdidgfeknkaaGreatDoorInstrL
namespace Go.Proofs.YtffkdidgfeknkaaGreatDoor
set_option linter.unusedVariables false
open Go.RowKit Go.ChangeShapes Go.WideShapes Go.Deep Go.Joins

section
variable {H : Type} {enc : TypeId × Value → H} {w : World} {held : Bool}
set_option maxRecDepth 100000 in
theorem cellsAnnotated : Tryz.prog.cellsOf 26 = 4 := by kernel_rfl
theorem trod_struct4A {t : TypeId} {f0 f1 f2 f3 : Field} {fuel : Nat} {cs : List Value} {x : DataW H × List MemPlace} (ht : Tryz.prog.underlying t = some (.struct #[f0, f1, f2, f3])) (h : DataW.trod enc Tryz.prog w 0 (fun _ => true) held fuel t cs = some x) :
    ∃ y0 y1 y2 y3 n, DataW.trod enc Tryz.prog w 0 (fun _ => true) held n f0.type ((cs.drop f0.offset).take (Tryz.prog.cellsOf f0.type)) = some y0 ∧ DataW.trod enc Tryz.prog w 0 (fun _ => true) held n f1.type ((cs.drop f1.offset).take (Tryz.prog.cellsOf f1.type)) = some y1 ∧ DataW.trod enc Tryz.prog w 0 (fun _ => true) held n f2.type ((cs.drop f2.offset).take (Tryz.prog.cellsOf f2.type)) = some y2 ∧ DataW.trod enc Tryz.prog w 0 (fun _ => true) held n f3.type ((cs.drop f3.offset).take (Tryz.prog.cellsOf f3.type)) = some y3 := by
  obtain ⟨xs, n, _, rfl, hl, hlen, hf⟩ := DataW.trod_struct ht h
  match xs, hlen with
  | [y0, y1, y2, y3], _ => exact ⟨y0, y1, y2, y3, n, by simpa using hf 0 f0 rfl, by simpa using hf 1 f1 rfl, by simpa using hf 2 f2 rfl, by simpa using hf 3 f3 rfl⟩
set_option maxRecDepth 100000 in
/-- Annotated code that came in. -/
theorem annotated_in {r : Reach} {b0 : Nat} {v : Value} {d : DataW H} {p : List MemPlace} (hv : Value.okWide Tryz.prog w r b0 26 v) (h : DataW.Trod enc Tryz.prog w 0 (fun _ => true) held 26 v d p) :
    ∃ (A0 : Option Addr) (n0 c0 : Nat) (t0 : List (Int × List Int)) (A1 : Option Addr) (n1 c1 : Nat) (t1 : List (Int × List Int)) (A2 : Option Addr) (n2 c2 : Nat) (t2 : List (Int × Int)) (A3 : Option Addr) (n3 c3 : Nat) (t3 : List P2), v = .agg #[.slice A0 n0 c0, .slice A1 n1 c1, .slice A2 n2 c2, .slice A3 n3 c3] ∧
      InTS w w.heap.size A0 n0 t0 ∧ n0 ≤ maxLen ∧ (∀ t ∈ t0, t.2.length ≤ maxLen) ∧ InTS w w.heap.size A1 n1 t1 ∧ n1 ≤ maxLen ∧ (∀ t ∈ t1, t.2.length ≤ maxLen) ∧ InC w w.heap.size A2 n2 t2 ∧ n2 ≤ maxLen ∧ InP2 w w.heap.size A3 n3 t3 ∧ n3 ≤ maxLen ∧ (∀ y ∈ t3, y.fits) := by
  obtain ⟨cs, rfl, hsz⟩ := okWide_struct Tryz.underlying26 hv
  have h2 : cs.toList.length = 4 := by rw [cellsAnnotated] at hsz; simpa using hsz
  obtain ⟨fuel, hf⟩ := h
  have hf' : DataW.trod enc Tryz.prog w 0 (fun _ => true) held fuel 26 cs.toList = some (d, p) := by simpa [Value.cells] using hf
  obtain ⟨l⟩ := cs
  match l, h2 with
  | [d0, d1, d2, d3], _ =>
    obtain ⟨y0, y1, y2, y3, m, h0, h1, h2, h3⟩ := trod_struct4A Tryz.underlying26 hf'
    have h0' : DataW.trod enc Tryz.prog w 0 (fun _ => true) held m 22 [d0] = some y0 := h0
    have h1' : DataW.trod enc Tryz.prog w 0 (fun _ => true) held m 22 [d1] = some y1 := h1
    have h2' : DataW.trod enc Tryz.prog w 0 (fun _ => true) held m 23 [d2] = some y2 := h2
    have h3' : DataW.trod enc Tryz.prog w 0 (fun _ => true) held m 24 [d3] = some y3 := h3
    obtain ⟨A0, n0, c0, t0, rfl, a1, a2, a3, a4⟩ := terms_in h0'
    obtain ⟨A1, n1, c1, t1, rfl, b1, b2, b3, b4⟩ := terms_in h1'
    obtain ⟨A2, n2, c2, t2, rfl, g1, g2, g3⟩ := instrs_in h2'
    obtain ⟨A3, n3, c3, t3, rfl, k1, k2, k3⟩ := Points_in h3'
    exact ⟨A0, n0, c0, t0, A1, n1, c1, t1, A2, n2, c2, t2, A3, n3, c3, t3, rfl, ⟨a1, a3⟩, a2, a4, ⟨b1, b3⟩, b2, b4, g2, g1, k2, k1, k3⟩
end

set_option maxRecDepth 100000 in
set_option maxHeartbeats 4000000 in
theorem szAnnotated_k (A0 : Option Addr) (n0 c0 : Nat) (t0 : List (Int × List Int)) (A1 : Option Addr) (n1 c1 : Nat) (t1 : List (Int × List Int)) (A2 : Option Addr) (n2 c2 : Nat) (t2 : List (Int × Int)) (A3 : Option Addr) (n3 c3 : Nat) (t3 : List P2) (B : Nat) (left : Int) (w : World) (h0 : InTS w B A0 n0 t0) (h1 : InTS w B A1 n1 t1) (h3 : InP2 w B A3 n3 t3) (hB : B ≤ w.heap.size) (hl0 : 0 ≤ left) (hl1 : left ≤ 1048576)
    (hn0 : n0 ≤ maxLen) (hn1 : n1 ≤ maxLen) (hn2 : n2 ≤ maxLen) (hn3 : n3 ≤ maxLen) (he0 : ∀ t ∈ t0, t.2.length ≤ maxLen) (he1 : ∀ t ∈ t1, t.2.length ≤ maxLen) (he3 : ∀ y ∈ t3, y.fits) :
    Calls Tryz.prog 6 #[.agg #[.slice A0 n0 c0, .slice A1 n1 c1, .slice A2 n2 c2, .slice A3 n3 c3], .int .i64 left] w fun e w' => e = .returned (.int .i64 (szv left ((n0 + totT t0) + (n1 + totT t1) + (n2) + (n3 + totP2 t3)))) ∧ Below w.heap.size w w' := by
  have hb0 := bnew w (.cells #[.slice A0 n0 c0, .slice A1 n1 c1, .slice A2 n2 c2, .slice A3 n3 c3] 26)
  have hP : BlkIs (w.alloc (.cells #[.slice A0 n0 c0, .slice A1 n1 c1, .slice A2 n2 c2, .slice A3 n3 c3] 26)) w.heap.size 26 #[.slice A0 n0 c0, .slice A1 n1 c1, .slice A2 n2 c2, .slice A3 n3 c3] := blk_new _ _ _ _ rfl
  have H0 := Lib.hid (fun (W : World) (L : Int) (hb : Below w.heap.size w W) (hl0 : 0 ≤ L) (hl1 : L ≤ 1048576) => szTermS_k A0 n0 c0 B t0 L W (h0.next hb hB) (Nat.le_trans hB hb.size) hl0 hl1 hn0 he0)
  have H1 := Lib.hid (fun (W : World) (L : Int) (hb : Below w.heap.size w W) (hl0 : 0 ≤ L) (hl1 : L ≤ 1048576) => szTermS_k A1 n1 c1 B t1 L W (h1.next hb hB) (Nat.le_trans hB hb.size) hl0 hl1 hn1 he1)
  have H2 := Lib.hid (fun (W : World) (L : Int) (hb : Below w.heap.size w W) (hl0 : 0 ≤ L) (hl1 : L ≤ 1048576) => szInstrS_k A2 n2 c2 L W hl0 hl1 hn2)
  have H3 := Lib.hid (fun (W : World) (L : Int) (hb : Below w.heap.size w W) (hl0 : 0 ≤ L) (hl1 : L ≤ 1048576) => szPointS_k A3 n3 c3 B t3 L W (h3.next hb hB) (Nat.le_trans hB hb.size) hl0 hl1 hn3 he3)
  clear h0 h1 h3 he0 he1 he3 hn0 hn1 hn2 hn3
  generalize n0 + totT t0 = s0 at H0 ⊢
  generalize n1 + totT t1 = s1 at H1 ⊢
  generalize n3 + totP2 t3 = s3 at H3 ⊢
  have HLL : Hid (left = left) := rfl
  go_enter Tryz.func6, Tryz.ntmps6
  go_wp2_with fail
  generalize w.alloc (.cells #[.slice A0 n0 c0, .slice A1 n1 c1, .slice A2 n2 c2, .slice A3 n3 c3] 26) = W0 at hb0 hP ⊢
  refine (H0.out W0 left hb0 hl0 hl1).mono ?_
  rintro e W1 ⟨rfl, hc0⟩
  replace hb0 := bon hb0 hc0
  replace hP := hP.next hc0
  rcases Int.lt_or_le left s0 with hq | hq
  · have HV : Hid (szv left (s0 + s1 + n2 + s3) = -1) := szv_no (by omega)
    rw [szv_no hq]
    clear hq
    go_wp2_with fail
    go_ret
    exact ⟨ret_int HV.out.symm, hb0⟩
  · rw [szv_yes hq]
    obtain ⟨L1, hL1⟩ : ∃ L, L = left - (s0 : Int) := ⟨_, rfl⟩
    rw [← hL1]
    have hlA : 0 ≤ L1 := by omega
    have hlB : L1 ≤ 1048576 := by omega
    have HL1 : Hid (L1 = left - ((s0 : Nat) : Int)) := by show _ = _; omega
    clear hL1 hq hl0 hl1
    have hl0 := hlA
    have hl1 := hlB
    clear hlA hlB
    have p1 := hP.cell 1
    simp at p1
    go_wp2_with fail
    refine (H1.out W1 L1 hb0 hl0 hl1).mono ?_
    rintro e W2 ⟨rfl, hc1⟩
    replace hb0 := bon hb0 hc1
    replace hP := hP.next hc1
    rcases Int.lt_or_le L1 s1 with hq | hq
    · have HV : Hid (szv left (s0 + s1 + n2 + s3) = -1) := szv_no (by have := HL1.out; omega)
      rw [szv_no hq]
      clear hq
      go_wp2_with fail
      go_ret
      exact ⟨ret_int HV.out.symm, hb0⟩
    · rw [szv_yes hq]
      obtain ⟨L2, hL2⟩ : ∃ L, L = L1 - (s1 : Int) := ⟨_, rfl⟩
      rw [← hL2]
      have hlA : 0 ≤ L2 := by omega
      have hlB : L2 ≤ 1048576 := by omega
      have HL2 : Hid (L2 = left - ((s0 + s1 : Nat) : Int)) := by show _ = _; have := HL1.out; omega
      clear hL2 hq hl0 hl1
      have hl0 := hlA
      have hl1 := hlB
      clear hlA hlB
      have p2 := hP.cell 2
      simp at p2
      go_wp2_with fail
      refine (H2.out W2 L2 hb0 hl0 hl1).mono ?_
      rintro e W3 ⟨rfl, hz2⟩
      have hc2 : Below W2.heap.size W2 W3 := by first | exact hz2 | (subst hz2; exact Below.refl _ _)
      replace hb0 := bon hb0 hc2
      replace hP := hP.next hc2
      rcases Int.lt_or_le L2 n2 with hq | hq
      · have HV : Hid (szv left (s0 + s1 + n2 + s3) = -1) := szv_no (by have := HL2.out; omega)
        rw [szv_no hq]
        clear hq
        go_wp2_with fail
        go_ret
        exact ⟨ret_int HV.out.symm, hb0⟩
      · rw [szv_yes hq]
        obtain ⟨L3, hL3⟩ : ∃ L, L = L2 - (n2 : Int) := ⟨_, rfl⟩
        rw [← hL3]
        have hlA : 0 ≤ L3 := by omega
        have hlB : L3 ≤ 1048576 := by omega
        have HL3 : Hid (L3 = left - ((s0 + s1 + n2 : Nat) : Int)) := by show _ = _; have := HL2.out; omega
        clear hL3 hq hl0 hl1
        have hl0 := hlA
        have hl1 := hlB
        clear hlA hlB
        have p3 := hP.cell 3
        simp at p3
        go_wp2_with fail
        refine (H3.out W3 L3 hb0 hl0 hl1).mono ?_
        rintro e W4 ⟨rfl, hc3⟩
        replace hb0 := bon hb0 hc3
        replace hP := hP.next hc3
        rcases Int.lt_or_le L3 s3 with hq | hq
        · have HV : Hid (szv left (s0 + s1 + n2 + s3) = -1) := szv_no (by have := HL3.out; omega)
          rw [szv_no hq]
          clear hq
          go_wp2_with fail
          go_ret
          exact ⟨ret_int HV.out.symm, hb0⟩
        · rw [szv_yes hq]
          have HV : Hid (szv left (s0 + s1 + n2 + s3) = L3 - (s3 : Int)) := by show _ = _; have := HL3.out; rw [szv_yes (by omega)]; omega
          have hp : 0 ≤ L3 - (s3 : Int) := by omega
          clear hq
          go_wp2_with fail
          go_ret
          exact ⟨ret_int HV.out.symm, hb0⟩

set_option maxRecDepth 100000 in
set_option maxHeartbeats 4000000 in
theorem toAnnotated_k (A0 : Option Addr) (n0 c0 : Nat) (t0 : List (Int × List Int)) (A1 : Option Addr) (n1 c1 : Nat) (t1 : List (Int × List Int)) (A2 : Option Addr) (n2 c2 : Nat) (t2 : List (Int × Int)) (A3 : Option Addr) (n3 c3 : Nat) (t3 : List P2) (B : Nat) (w : World) (h0 : InTS w B A0 n0 t0) (h1 : InTS w B A1 n1 t1) (h2 : InC w B A2 n2 t2) (h3 : InP2 w B A3 n3 t3) (hB : B ≤ w.heap.size) (hn0 : n0 ≤ 1048576) (he0 : totT t0 ≤ 1048576) (hn1 : n1 ≤ 1048576) (he1 : totT t1 ≤ 1048576) (hn2 : n2 ≤ 1048576) (hn3 : n3 ≤ 1048576) (he3 : totP2 t3 ≤ 1048576) :
    Calls Tryz.prog 8 #[.agg #[.slice A0 n0 c0, .slice A1 n1 c1, .slice A2 n2 c2, .slice A3 n3 c3]] w fun e w' => ∃ a0 a1 a2 a3 m1 m2 m3, e = .returned (.agg #[.slice (some ⟨a0, 0, none⟩) n0 n0, .slice (some ⟨a1, 0, none⟩) n1 n1, .slice (some ⟨a2, 0, none⟩) n2 n2, .slice (some ⟨a3, 0, none⟩) n3 n3]) ∧
      OwnTS w' w.heap.size m1 (some ⟨a0, 0, none⟩) n0 n0 t0 ∧ OwnTS w' m1 m2 (some ⟨a1, 0, none⟩) n1 n1 t1 ∧ OwnC w' m2 m3 (some ⟨a2, 0, none⟩) n2 n2 t2 ∧ OwnP2 w' m3 w'.heap.size (some ⟨a3, 0, none⟩) n3 n3 t3 ∧ (w.heap.size ≤ m1 ∧ m1 ≤ m2 ∧ m2 ≤ m3 ∧ m3 ≤ w'.heap.size) ∧ Below w.heap.size w w' := by
  have hb0 : Below w.heap.size w (((w.alloc (.cells #[.slice A0 n0 c0, .slice A1 n1 c1, .slice A2 n2 c2, .slice A3 n3 c3] 26)).alloc (.cells #[.slice none 0 0, .slice none 0 0, .slice none 0 0, .slice none 0 0] 35)).alloc (.cells #[.slice none 0 0, .slice none 0 0, .slice none 0 0, .slice none 0 0] 35)) := bon (bon (bnew _ _) (bnew _ _)) (bnew _ _)
  have hsz : (((w.alloc (.cells #[.slice A0 n0 c0, .slice A1 n1 c1, .slice A2 n2 c2, .slice A3 n3 c3] 26)).alloc (.cells #[.slice none 0 0, .slice none 0 0, .slice none 0 0, .slice none 0 0] 35)).alloc (.cells #[.slice none 0 0, .slice none 0 0, .slice none 0 0, .slice none 0 0] 35)).heap.size = w.heap.size + 3 := by simp
  have hP : BlkIs (((w.alloc (.cells #[.slice A0 n0 c0, .slice A1 n1 c1, .slice A2 n2 c2, .slice A3 n3 c3] 26)).alloc (.cells #[.slice none 0 0, .slice none 0 0, .slice none 0 0, .slice none 0 0] 35)).alloc (.cells #[.slice none 0 0, .slice none 0 0, .slice none 0 0, .slice none 0 0] 35)) w.heap.size 26 #[.slice A0 n0 c0, .slice A1 n1 c1, .slice A2 n2 c2, .slice A3 n3 c3] := ((blk_new w _ _ _ rfl).next (bnew _ _)).next (bnew _ _)
  have hR : BlkIs (((w.alloc (.cells #[.slice A0 n0 c0, .slice A1 n1 c1, .slice A2 n2 c2, .slice A3 n3 c3] 26)).alloc (.cells #[.slice none 0 0, .slice none 0 0, .slice none 0 0, .slice none 0 0] 35)).alloc (.cells #[.slice none 0 0, .slice none 0 0, .slice none 0 0, .slice none 0 0] 35)) (w.heap.size + 1) 35 #[.slice none 0 0, .slice none 0 0, .slice none 0 0, .slice none 0 0] := (blk_new _ _ _ _ (by simp)).next (bnew _ _)
  have hO : BlkIs (((w.alloc (.cells #[.slice A0 n0 c0, .slice A1 n1 c1, .slice A2 n2 c2, .slice A3 n3 c3] 26)).alloc (.cells #[.slice none 0 0, .slice none 0 0, .slice none 0 0, .slice none 0 0] 35)).alloc (.cells #[.slice none 0 0, .slice none 0 0, .slice none 0 0, .slice none 0 0] 35)) (w.heap.size + 1 + 1) 35 #[.slice none 0 0, .slice none 0 0, .slice none 0 0, .slice none 0 0] := blk_new _ _ _ _ (by simp)
  have H0 := Lib.hid (h0.next hb0 hB)
  have H1 := Lib.hid (h1.next hb0 hB)
  have H2 := Lib.hid (h2.next hb0 hB)
  have H3 := Lib.hid (h3.next hb0 hB)
  clear h0 h1 h2 h3
  go_enter Tryz.func8, Tryz.ntmps8
  go_wp2_with fail
  generalize (((w.alloc (.cells #[.slice A0 n0 c0, .slice A1 n1 c1, .slice A2 n2 c2, .slice A3 n3 c3] 26)).alloc (.cells #[.slice none 0 0, .slice none 0 0, .slice none 0 0, .slice none 0 0] 35)).alloc (.cells #[.slice none 0 0, .slice none 0 0, .slice none 0 0, .slice none 0 0] 35)) = W0 at hb0 hsz H0 H1 H2 H3 hP hR hO ⊢
  have hsB := hb0.size
  refine (toTermS_k A0 n0 c0 B t0 W0 H0.out (by omega) hn0 he0).mono ?_
  rintro e v0 ⟨a0, rfl, ho0, hv0⟩
  have hs0 := hv0.size
  replace hP := hP.next hv0
  replace hR := hR.next hv0
  replace hO := hO.next hv0
  replace hb0 := bon hb0 hv0
  replace H1 := Lib.hid (H1.out.next hv0 (by omega))
  replace H2 := Lib.hid (H2.out.next hv0 (by omega))
  replace H3 := Lib.hid (H3.out.next hv0 (by omega))
  have p1 := hP.cell 1
  have o0 := hO.cell 0
  have f0 := hO.frozen 0
  simp at p1 o0
  go_wp2_with fail
  have hst : Out (w.heap.size + 1) (w.heap.size + 3) v0 (v0.setCell ⟨w.heap.size + 1 + 1, 0, none⟩ (.slice (some ⟨a0, 0, none⟩) n0 n0)) := out_set (Out.refl _ _ _) (by omega)
  replace hP := hP.far (g' := w.heap.size + 1 + 1) (by omega) 0 (.slice (some ⟨a0, 0, none⟩) n0 n0)
  replace hR := hR.far (g' := w.heap.size + 1 + 1) (by omega) 0 (.slice (some ⟨a0, 0, none⟩) n0 n0)
  replace hO := hO.set 0 (.slice (some ⟨a0, 0, none⟩) n0 n0)
  simp at hO
  clear p1 o0 f0
  replace H1 := Lib.hid (H1.out.next (hst.below (Nat.le_succ _) (by omega)) hB)
  replace H2 := Lib.hid (H2.out.next (hst.below (Nat.le_succ _) (by omega)) hB)
  replace H3 := Lib.hid (H3.out.next (hst.below (Nat.le_succ _) (by omega)) hB)
  replace ho0 := ho0.out hst (by omega)
  replace hb0 := hb0.trans (hst.below (Nat.le_succ _) (by omega))
  have hso0 := hst.size
  generalize (v0.setCell ⟨w.heap.size + 1 + 1, 0, none⟩ (.slice (some ⟨a0, 0, none⟩) n0 n0)) = W1 at hst hP hR hO hb0 hso0 H1 H2 H3 ho0 ⊢
  clear hst
  refine (toTermS_k A1 n1 c1 B t1 W1 H1.out (by omega) hn1 he1).mono ?_
  rintro e v1 ⟨a1, rfl, ho1, hv1⟩
  have hs1 := hv1.size
  replace hP := hP.next hv1
  replace hR := hR.next hv1
  replace hO := hO.next hv1
  replace hb0 := bon hb0 hv1
  replace ho0 := ho0.next hv1
  replace H2 := Lib.hid (H2.out.next hv1 (by omega))
  replace H3 := Lib.hid (H3.out.next hv1 (by omega))
  have p2 := hP.cell 2
  have o1 := hO.cell 1
  have f1 := hO.frozen 1
  simp at p2 o1
  go_wp2_with fail
  have hst : Out (w.heap.size + 1) (w.heap.size + 3) v1 (v1.setCell ⟨w.heap.size + 1 + 1, 1, none⟩ (.slice (some ⟨a1, 0, none⟩) n1 n1)) := out_set (Out.refl _ _ _) (by omega)
  replace hP := hP.far (g' := w.heap.size + 1 + 1) (by omega) 1 (.slice (some ⟨a1, 0, none⟩) n1 n1)
  replace hR := hR.far (g' := w.heap.size + 1 + 1) (by omega) 1 (.slice (some ⟨a1, 0, none⟩) n1 n1)
  replace hO := hO.set 1 (.slice (some ⟨a1, 0, none⟩) n1 n1)
  simp at hO
  clear p2 o1 f1
  replace H2 := Lib.hid (H2.out.next (hst.below (Nat.le_succ _) (by omega)) hB)
  replace H3 := Lib.hid (H3.out.next (hst.below (Nat.le_succ _) (by omega)) hB)
  replace ho0 := ho0.out hst (by omega)
  replace ho1 := ho1.out hst (by omega)
  replace hb0 := hb0.trans (hst.below (Nat.le_succ _) (by omega))
  have hso1 := hst.size
  generalize (v1.setCell ⟨w.heap.size + 1 + 1, 1, none⟩ (.slice (some ⟨a1, 0, none⟩) n1 n1)) = W2 at hst hP hR hO hb0 hso1 H2 H3 ho0 ho1 ⊢
  clear hst
  refine (toInstrS_k A2 n2 c2 B t2 W2 H2.out (by omega) hn2).mono ?_
  rintro e v2 ⟨a2, rfl, ho2, hv2⟩
  have hs2 := hv2.size
  replace hP := hP.next hv2
  replace hR := hR.next hv2
  replace hO := hO.next hv2
  replace hb0 := bon hb0 hv2
  replace ho0 := ho0.next hv2
  replace ho1 := ho1.next hv2
  replace H3 := Lib.hid (H3.out.next hv2 (by omega))
  have p3 := hP.cell 3
  have o2 := hO.cell 2
  have f2 := hO.frozen 2
  simp at p3 o2
  go_wp2_with fail
  have hst : Out (w.heap.size + 1) (w.heap.size + 3) v2 (v2.setCell ⟨w.heap.size + 1 + 1, 2, none⟩ (.slice (some ⟨a2, 0, none⟩) n2 n2)) := out_set (Out.refl _ _ _) (by omega)
  replace hP := hP.far (g' := w.heap.size + 1 + 1) (by omega) 2 (.slice (some ⟨a2, 0, none⟩) n2 n2)
  replace hR := hR.far (g' := w.heap.size + 1 + 1) (by omega) 2 (.slice (some ⟨a2, 0, none⟩) n2 n2)
  replace hO := hO.set 2 (.slice (some ⟨a2, 0, none⟩) n2 n2)
  simp at hO
  clear p3 o2 f2
  replace H3 := Lib.hid (H3.out.next (hst.below (Nat.le_succ _) (by omega)) hB)
  replace ho0 := ho0.out hst (by omega)
  replace ho1 := ho1.out hst (by omega)
  replace ho2 := ho2.out hst (by omega)
  replace hb0 := hb0.trans (hst.below (Nat.le_succ _) (by omega))
  have hso2 := hst.size
  generalize (v2.setCell ⟨w.heap.size + 1 + 1, 2, none⟩ (.slice (some ⟨a2, 0, none⟩) n2 n2)) = W3 at hst hP hR hO hb0 hso2 H3 ho0 ho1 ho2 ⊢
  clear hst
  refine (toPointS_m A3 n3 c3 B t3 W3 H3.out (by omega) hn3 he3).mono ?_
  rintro e v3 ⟨a3, rfl, ho3, hv3⟩
  have hs3 := hv3.size
  replace hP := hP.next hv3
  replace hR := hR.next hv3
  replace hO := hO.next hv3
  replace hb0 := bon hb0 hv3
  replace ho0 := ho0.next hv3
  replace ho1 := ho1.next hv3
  replace ho2 := ho2.next hv3
  have q0 := hO.cell 0
  have q1 := hO.cell 1
  have q2 := hO.cell 2
  have q3 := hO.cell 3
  have k3 := hO.frozen 3
  have r0 := hR.cell 0
  have u0 := hR.frozen 0
  have r1 := hR.cell 1
  have u1 := hR.frozen 1
  have r2 := hR.cell 2
  have u2 := hR.frozen 2
  have r3 := hR.cell 3
  have u3 := hR.frozen 3
  simp at q0 q1 q2 q3 r0 r1 r2 r3
  clear hP hR hO
  go_wp2_with fail
  refine bodyPost_ret (v := .agg #[.slice (some ⟨a0, 0, none⟩) n0 n0, .slice (some ⟨a1, 0, none⟩) n1 n1, .slice (some ⟨a2, 0, none⟩) n2 n2, .slice (some ⟨a3, 0, none⟩) n3 n3]) (by simp [results, Tryz.results8, go_sem, r0, r1, r2, r3]) rfl ?_
  have ho : Out (w.heap.size + 1) (w.heap.size + 3) v3 (((((v3.setCell ⟨w.heap.size + 1 + 1, 3, none⟩ (.slice (some ⟨a3, 0, none⟩) n3 n3)).setCell ⟨w.heap.size + 1, 0, none⟩ (.slice (some ⟨a0, 0, none⟩) n0 n0)).setCell ⟨w.heap.size + 1, 1, none⟩ (.slice (some ⟨a1, 0, none⟩) n1 n1)).setCell ⟨w.heap.size + 1, 2, none⟩ (.slice (some ⟨a2, 0, none⟩) n2 n2)).setCell ⟨w.heap.size + 1, 3, none⟩ (.slice (some ⟨a3, 0, none⟩) n3 n3)) := out_set (out_set (out_set (out_set (out_set (Out.refl _ _ _) (by omega)) (by omega)) (by omega)) (by omega)) (by omega)
  have hso := ho.size
  refine ⟨a0, a1, a2, a3, W1.heap.size, W2.heap.size, W3.heap.size, rfl, ?_, ?_, ?_, ?_, ⟨by omega, by omega, by omega, by omega⟩, hb0.trans (ho.below (Nat.le_succ _) (by omega))⟩
  · exact ((ho0.out ho (by omega)).less (by omega)).wide (by omega) (by omega)
  · exact ((ho1.out ho (by omega)).less (by omega)).wide (by omega) (by omega)
  · exact ((ho2.out ho (by omega)).less (by omega)).wide (by omega) (by omega)
  · exact ((ho3.out ho (by omega)).less (by omega)).wide (by omega) (Nat.le_refl _)

set_option maxRecDepth 100000 in
set_option maxHeartbeats 4000000 in
theorem eqAnnotated_k (A0 : Option Addr) (n0 c0 : Nat) (t0 : List (Int × List Int)) (A1 : Option Addr) (n1 c1 : Nat) (t1 : List (Int × List Int)) (A2 : Option Addr) (n2 c2 : Nat) (t2 : List (Int × Int)) (A3 : Option Addr) (n3 c3 : Nat) (t3 : List P2) (Ab0 : Option Addr) (cb0 : Nat) (Ab1 : Option Addr) (cb1 : Nat) (Ab2 : Option Addr) (cb2 : Nat) (Ab3 : Option Addr) (cb3 : Nat) (B B' : Nat) (w : World) (h0 : InTS w B A0 n0 t0) (h1 : InTS w B A1 n1 t1) (h2 : InC w B A2 n2 t2) (h3 : InP2 w B A3 n3 t3) (g0 : InTS w B' Ab0 n0 t0) (g1 : InTS w B' Ab1 n1 t1) (g2 : InC w B' Ab2 n2 t2) (g3 : InP2 w B' Ab3 n3 t3) (hB : B ≤ w.heap.size) (hB' : B' ≤ w.heap.size) (hn0 : n0 ≤ 1048576) (he0 : totT t0 ≤ 1048576) (hn1 : n1 ≤ 1048576) (he1 : totT t1 ≤ 1048576) (hn2 : n2 ≤ 1048576) (hn3 : n3 ≤ 1048576) (he3 : totP2 t3 ≤ 1048576) :
    Calls Tryz.prog 11 #[.agg #[.slice A0 n0 c0, .slice A1 n1 c1, .slice A2 n2 c2, .slice A3 n3 c3], .agg #[.slice Ab0 n0 cb0, .slice Ab1 n1 cb1, .slice Ab2 n2 cb2, .slice Ab3 n3 cb3]] w fun e w' => e = .returned (.bool true) ∧ Below w.heap.size w w' := by
  have hb0 : Below w.heap.size w ((w.alloc (.cells #[.slice A0 n0 c0, .slice A1 n1 c1, .slice A2 n2 c2, .slice A3 n3 c3] 35)).alloc (.cells #[.slice Ab0 n0 cb0, .slice Ab1 n1 cb1, .slice Ab2 n2 cb2, .slice Ab3 n3 cb3] 35)) := bon (bnew _ _) (bnew _ _)
  have hP : BlkIs ((w.alloc (.cells #[.slice A0 n0 c0, .slice A1 n1 c1, .slice A2 n2 c2, .slice A3 n3 c3] 35)).alloc (.cells #[.slice Ab0 n0 cb0, .slice Ab1 n1 cb1, .slice Ab2 n2 cb2, .slice Ab3 n3 cb3] 35)) w.heap.size 35 #[.slice A0 n0 c0, .slice A1 n1 c1, .slice A2 n2 c2, .slice A3 n3 c3] := (blk_new w _ _ _ rfl).next (bnew _ _)
  have hQ : BlkIs ((w.alloc (.cells #[.slice A0 n0 c0, .slice A1 n1 c1, .slice A2 n2 c2, .slice A3 n3 c3] 35)).alloc (.cells #[.slice Ab0 n0 cb0, .slice Ab1 n1 cb1, .slice Ab2 n2 cb2, .slice Ab3 n3 cb3] 35)) (w.heap.size + 1) 35 #[.slice Ab0 n0 cb0, .slice Ab1 n1 cb1, .slice Ab2 n2 cb2, .slice Ab3 n3 cb3] := blk_new _ _ _ _ (by simp)
  have H0 := Lib.hid (h0.next hb0 hB)
  have G0 := Lib.hid (g0.next hb0 hB')
  have H1 := Lib.hid (h1.next hb0 hB)
  have G1 := Lib.hid (g1.next hb0 hB')
  have H2 := Lib.hid (h2.next hb0 hB)
  have G2 := Lib.hid (g2.next hb0 hB')
  have H3 := Lib.hid (h3.next hb0 hB)
  have G3 := Lib.hid (g3.next hb0 hB')
  clear h0 g0 h1 g1 h2 g2 h3 g3
  go_enter Tryz.func11, Tryz.ntmps11
  go_wp2_with fail
  generalize ((w.alloc (.cells #[.slice A0 n0 c0, .slice A1 n1 c1, .slice A2 n2 c2, .slice A3 n3 c3] 35)).alloc (.cells #[.slice Ab0 n0 cb0, .slice Ab1 n1 cb1, .slice Ab2 n2 cb2, .slice Ab3 n3 cb3] 35)) = W at hb0 hP hQ H0 G0 H1 G1 H2 G2 H3 G3 ⊢
  have hs0 := hb0.size
  refine (eqTermS_k A0 Ab0 n0 c0 cb0 B B' t0 W H0.out G0.out (by omega) (by omega) hn0 he0).mono ?_
  rintro e w1 ⟨rfl, hb1⟩
  have hs1 := hb1.size
  have HBW := hb1
  have p1 : w1.cell? ⟨w.heap.size, 1, none⟩ = some (.slice A1 n1 c1) := (hP.next HBW).cell 1
  have q1 : w1.cell? ⟨w.heap.size + 1, 1, none⟩ = some (.slice Ab1 n1 cb1) := (hQ.next HBW).cell 1
  go_wp2_with fail
  refine (eqTermS_k A1 Ab1 n1 c1 cb1 B B' t1 w1 (H1.out.next HBW (by omega)) (G1.out.next HBW (by omega)) (by omega) (by omega) hn1 he1).mono ?_
  rintro e w2 ⟨rfl, hb2⟩
  have hs2 := hb2.size
  have HBW := bon HBW hb2
  have p2 : w2.cell? ⟨w.heap.size, 2, none⟩ = some (.slice A2 n2 c2) := (hP.next HBW).cell 2
  have q2 : w2.cell? ⟨w.heap.size + 1, 2, none⟩ = some (.slice Ab2 n2 cb2) := (hQ.next HBW).cell 2
  go_wp2_with fail
  refine (eqInstrS_k A2 Ab2 n2 c2 cb2 B B' t2 w2 (H2.out.next HBW (by omega)) (G2.out.next HBW (by omega)) (by omega) (by omega) hn2).mono ?_
  rintro e w3 ⟨rfl, hb3⟩
  have hs3 := hb3.size
  have HBW := bon HBW hb3
  have p3 : w3.cell? ⟨w.heap.size, 3, none⟩ = some (.slice A3 n3 c3) := (hP.next HBW).cell 3
  have q3 : w3.cell? ⟨w.heap.size + 1, 3, none⟩ = some (.slice Ab3 n3 cb3) := (hQ.next HBW).cell 3
  go_wp2_with fail
  refine (eqPointS_k A3 Ab3 n3 c3 cb3 B B' t3 w3 (H3.out.next HBW (by omega)) (G3.out.next HBW (by omega)) (by omega) (by omega) hn3 he3).mono ?_
  rintro e w4 ⟨rfl, hb4⟩
  have hs4 := hb4.size
  have HBW := bon HBW hb4
  go_wp2_with fail
  go_ret
  exact ⟨rfl, bon hb0 HBW⟩
end Go.Proofs.YtffkdidgfeknkaaGreatDoor
