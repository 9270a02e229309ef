/-
  Configs (a state, a stack, a place): what one that came in reads as; how the law counts, copies and compares them; when one is valid. Conditions: at most 2^20 numbers.
-/
import Derived.Test.YtnfapodeifpeoaaForm
import Derived.Test.YtnfapodeifpeoaaStV
namespace Go.Proofs.Ytnfapodeifpeoaa
set_option linter.unusedVariables false
open Go.RowKit Go.ChangeShapes Go.WideShapes Go.Deep Go.Joins

section
variable {H : Type} {enc : TypeId × Value → H} {w : World} {held : Bool}
set_option maxRecDepth 100000 in
theorem cellsConfig : Try.prog.cellsOf 39 = 4 := by kernel_rfl
theorem trod_struct3C {t : TypeId} {f0 f1 f2 : Field} {fuel : Nat} {cs : List Value} {x : DataW H × List MemPlace} (ht : Try.prog.underlying t = some (.struct #[f0, f1, f2])) (h : DataW.trod enc Try.prog w 0 (fun _ => true) held fuel t cs = some x) :
    ∃ y0 y1 y2 n, DataW.trod enc Try.prog w 0 (fun _ => true) held n f0.type ((cs.drop f0.offset).take (Try.prog.cellsOf f0.type)) = some y0 ∧ DataW.trod enc Try.prog w 0 (fun _ => true) held n f1.type ((cs.drop f1.offset).take (Try.prog.cellsOf f1.type)) = some y1 ∧ DataW.trod enc Try.prog w 0 (fun _ => true) held n f2.type ((cs.drop f2.offset).take (Try.prog.cellsOf f2.type)) = some y2 := by
  obtain ⟨xs, n, _, rfl, hl, hlen, hf⟩ := DataW.trod_struct ht h
  match xs, hlen with
  | [y0, y1, y2], _ => exact ⟨y0, y1, y2, n, by simpa using hf 0 f0 rfl, by simpa using hf 1 f1 rfl, by simpa using hf 2 f2 rfl⟩
set_option maxRecDepth 100000 in
/-- A config that came in. -/
theorem config_in {r : Reach} {b0 : Nat} {v : Value} {d : DataW H} {p : List MemPlace} (hv : Value.okWide Try.prog w r b0 39 v) (h : DataW.Trod enc Try.prog w 0 (fun _ => true) held 39 v d p) :
    ∃ (A : Option Addr) (n cap : Nat) (zs : List Int) (A' : Option Addr) (n' cap' : Nat) (ys : List Int) (A2 : Option Addr) (n2 cap2 : Nat) (xs : List Int) (a : Int), v = .agg #[.slice A n cap, .slice A' n' cap', .slice A2 n2 cap2, .int .i64 a] ∧ zs.length = n ∧ n ≤ maxLen ∧ Row w w.heap.size A (zs.map ic) ∧ ys.length = n' ∧ n' ≤ maxLen ∧ Row w w.heap.size A' (ys.map ic) ∧ xs.length = n2 ∧ n2 ≤ maxLen ∧ Row w w.heap.size A2 (xs.map ic) := by
  obtain ⟨cs, rfl, hsz⟩ := okWide_struct Try.underlying39 hv
  have h2 : cs.toList.length = 4 := by rw [cellsConfig] at hsz; simpa using hsz
  obtain ⟨fuel, hf⟩ := h
  have hf' : DataW.trod enc Try.prog w 0 (fun _ => true) held fuel 39 cs.toList = some (d, p) := by simpa [Value.cells] using hf
  obtain ⟨l⟩ := cs
  match l, h2 with
  | [c0, c1, c2, c3], _ =>
    obtain ⟨y0, y1, y2, m, h0, h1, h2⟩ := trod_struct3C Try.underlying39 hf'
    have h0' : DataW.trod enc Try.prog w 0 (fun _ => true) held m 37 [c0, c1] = some y0 := h0
    have h1' : DataW.trod enc Try.prog w 0 (fun _ => true) held m 35 [c2] = some y1 := h1
    have h2' : DataW.trod enc Try.prog w 0 (fun _ => true) held m 2 [c3] = some y2 := h2
    obtain ⟨u0, u1, m', k0, k1⟩ := cells2 Try.underlying37 (by kernel_rfl) h0'
    have k0' : DataW.trod enc Try.prog w 0 (fun _ => true) held m' 35 [c0] = some u0 := k0
    have k1' : DataW.trod enc Try.prog w 0 (fun _ => true) held m' 35 [c1] = some u1 := k1
    obtain ⟨A, n, cap, zs, rfl, a1, a2, a3, _⟩ := ints_in Try.underlying35 Try.underlying2 (by kernel_rfl) k0'
    obtain ⟨A', n', cap', ys, rfl, b1, b2, b3, _⟩ := ints_in Try.underlying35 Try.underlying2 (by kernel_rfl) k1'
    obtain ⟨A2, n2, cap2, xs, rfl, d1, d2, d3, _⟩ := ints_in Try.underlying35 Try.underlying2 (by kernel_rfl) h1'
    obtain ⟨z2, e2, _, _⟩ := DataW.trod_int Try.underlying2 h2'
    obtain rfl : c3 = .int .i64 z2 := by simpa using e2
    exact ⟨A, n, cap, zs, A', n', cap', ys, A2, n2, cap2, xs, z2, rfl, a1, a2, a3, b1, b2, b3, d1, d2, d3⟩
end

set_option maxRecDepth 100000 in
set_option maxHeartbeats 2000000 in
theorem szConfig_k (A : Option Addr) (n c : Nat) (A' : Option Addr) (m c' : Nat) (A2 : Option Addr) (q c2 : Nat) (a : Int) (left : Int) (w : World) (hl0 : 0 ≤ left) (hl1 : left ≤ 1048576) (hn : n ≤ maxLen) (hm : m ≤ maxLen) (hq : q ≤ maxLen) :
    Calls Try.prog 21 #[.agg #[.slice A n c, .slice A' m c', .slice A2 q c2, .int .i64 a], .int .i64 left] w fun e w' => e = .returned (.int .i64 (szv left (n + m + q))) ∧ Below w.heap.size w w' := by
  have hb0 := bnew w (.cells #[.slice A n c, .slice A' m c', .slice A2 q c2, .int .i64 a] 39)
  have hP : BlkIs (w.alloc (.cells #[.slice A n c, .slice A' m c', .slice A2 q c2, .int .i64 a] 39)) w.heap.size 39 #[.slice A n c, .slice A' m c', .slice A2 q c2, .int .i64 a] := blk_new _ _ _ _ rfl
  have hmx : (maxLen : Nat) = 140737488355328 ∨ True := .inr trivial
  go_enter Try.func21, Try.ntmps21
  go_wp2_with fail
  generalize w.alloc (.cells #[.slice A n c, .slice A' m c', .slice A2 q c2, .int .i64 a] 39) = W at hb0 hP ⊢
  refine (szState_k A n c A' m c' left W hl0 hl1 hn hm).mono ?_
  rintro e w1 ⟨rfl, hb1⟩
  have hP1 := hP.next hb1
  have p2 : w1.cell? ⟨w.heap.size, 2, none⟩ = some (.slice A2 q c2) := hP1.cell 2
  have hb01 := bon hb0 hb1
  rcases Int.lt_or_le left ((n + m : Nat) : Int) with hlt | hle
  · have HV : Hid (szv left (n + m + q) = -1) := szv_no (by omega)
    rw [szv_no hlt]
    clear hlt
    go_wp2_with fail
    go_ret
    exact ⟨ret_int HV.out.symm, hb01⟩
  · rw [szv_yes hle]
    obtain ⟨L, hL⟩ : ∃ L, L = left - ((n + m : Nat) : Int) := ⟨_, rfl⟩
    have hp : 0 ≤ L := by omega
    have HSZ := Lib.hid (szInt64S_k A2 q c2 L w1 hp (by omega) hq)
    have HQ : Hid (szv L q = szv left (n + m + q)) := by
      show _ = _
      rcases Int.lt_or_le L q with h | h
      · rw [szv_no h, szv_no (by omega)]
      · rw [szv_yes h, szv_yes (by omega)]; omega
    rw [← hL]
    have hc : 0 ≤ szv L q ∨ szv L q = -1 := by
      rcases Int.lt_or_le L q with h | h
      · exact .inr (szv_no h)
      · exact .inl (by rw [szv_yes h]; omega)
    clear hle hL
    generalize szv L q = V at HSZ HQ hc
    go_wp2_with fail
    refine HSZ.out.mono ?_
    rintro e w2 ⟨rfl, rfl⟩
    rcases hc with hc | rfl
    · go_wp2_with fail
      go_ret
      exact ⟨ret_int HQ.out, hb01⟩
    · go_wp2_with fail
      go_ret
      exact ⟨ret_int HQ.out, hb01⟩

set_option maxRecDepth 100000 in
set_option maxHeartbeats 4000000 in
theorem toConfig_k (A : Option Addr) (n c B : Nat) (zs : List Int) (A' : Option Addr) (m c' : Nat) (ys : List Int) (A2 : Option Addr) (q c2 : Nat) (xs : List Int) (a : Int) (w : World) (h : InL w B A n zs) (h' : InL w B A' m ys) (h2 : InL w B A2 q xs) (hB : B ≤ w.heap.size) (hn : n ≤ 1048576) (hm : m ≤ 1048576) (hq : q ≤ 1048576) :
    Calls Try.prog 23 #[.agg #[.slice A n c, .slice A' m c', .slice A2 q c2, .int .i64 a]] w fun e w' => ∃ g g' g2 mid mid2, e = .returned (.agg #[.slice (some ⟨g, 0, none⟩) n n, .slice (some ⟨g', 0, none⟩) m m, .slice (some ⟨g2, 0, none⟩) q q, .int .i64 a]) ∧
      OwnL w' w.heap.size mid (some ⟨g, 0, none⟩) n n zs ∧ OwnL w' mid mid2 (some ⟨g', 0, none⟩) m m ys ∧ OwnL w' mid2 w'.heap.size (some ⟨g2, 0, none⟩) q q xs ∧ (w.heap.size ≤ mid ∧ mid ≤ mid2 ∧ mid2 ≤ w'.heap.size) ∧ Below w.heap.size w w' := by
  have hb0 : Below w.heap.size w (((w.alloc (.cells #[.slice A n c, .slice A' m c', .slice A2 q c2, .int .i64 a] 39)).alloc (.cells #[.slice none 0 0, .slice none 0 0, .slice none 0 0, .int .i64 0] 44)).alloc (.cells #[.slice none 0 0, .slice none 0 0, .slice none 0 0, .int .i64 0] 44)) := bon (bon (bnew _ _) (bnew _ _)) (bnew _ _)
  have hsz : (((w.alloc (.cells #[.slice A n c, .slice A' m c', .slice A2 q c2, .int .i64 a] 39)).alloc (.cells #[.slice none 0 0, .slice none 0 0, .slice none 0 0, .int .i64 0] 44)).alloc (.cells #[.slice none 0 0, .slice none 0 0, .slice none 0 0, .int .i64 0] 44)).heap.size = w.heap.size + 3 := by simp
  have hP : BlkIs (((w.alloc (.cells #[.slice A n c, .slice A' m c', .slice A2 q c2, .int .i64 a] 39)).alloc (.cells #[.slice none 0 0, .slice none 0 0, .slice none 0 0, .int .i64 0] 44)).alloc (.cells #[.slice none 0 0, .slice none 0 0, .slice none 0 0, .int .i64 0] 44)) w.heap.size 39 #[.slice A n c, .slice A' m c', .slice A2 q c2, .int .i64 a] := ((blk_new w _ _ _ rfl).next (bnew _ _)).next (bnew _ _)
  have hR : BlkIs (((w.alloc (.cells #[.slice A n c, .slice A' m c', .slice A2 q c2, .int .i64 a] 39)).alloc (.cells #[.slice none 0 0, .slice none 0 0, .slice none 0 0, .int .i64 0] 44)).alloc (.cells #[.slice none 0 0, .slice none 0 0, .slice none 0 0, .int .i64 0] 44)) (w.heap.size + 1) 44 #[.slice none 0 0, .slice none 0 0, .slice none 0 0, .int .i64 0] := (blk_new _ _ _ _ (by simp)).next (bnew _ _)
  have hO : BlkIs (((w.alloc (.cells #[.slice A n c, .slice A' m c', .slice A2 q c2, .int .i64 a] 39)).alloc (.cells #[.slice none 0 0, .slice none 0 0, .slice none 0 0, .int .i64 0] 44)).alloc (.cells #[.slice none 0 0, .slice none 0 0, .slice none 0 0, .int .i64 0] 44)) (w.heap.size + 1 + 1) 44 #[.slice none 0 0, .slice none 0 0, .slice none 0 0, .int .i64 0] := blk_new _ _ _ _ (by simp)
  have H0 := Lib.hid (h.next hb0 hB)
  have H1 := Lib.hid (h'.next hb0 hB)
  have H2 := Lib.hid (h2.next hb0 hB)
  clear h h' h2
  go_enter Try.func23, Try.ntmps23
  go_wp2_with fail
  generalize ((w.alloc (.cells #[.slice A n c, .slice A' m c', .slice A2 q c2, .int .i64 a] 39)).alloc (.cells #[.slice none 0 0, .slice none 0 0, .slice none 0 0, .int .i64 0] 44)).alloc (.cells #[.slice none 0 0, .slice none 0 0, .slice none 0 0, .int .i64 0] 44) = W at hb0 hsz H0 H1 H2 hP hR hO ⊢
  refine (toState_k A n c B zs A' m c' ys W H0.out H1.out (by omega) hn hm).mono ?_
  rintro e w1 ⟨g, g', mid, rfl, o0, o1, hmd, hb1⟩
  have hs1 := hb1.size
  have hP1 := hP.next hb1
  have hR1 := hR.next hb1
  have hO1 := hO.next hb1
  have p2 : w1.cell? ⟨w.heap.size, 2, none⟩ = some (.slice A2 q c2) := hP1.cell 2
  have z0 : w1.cell? ⟨w.heap.size + 1 + 1, 0, none⟩ = some (.slice none 0 0) := hO1.cell 0
  have z1 : w1.cell? ⟨w.heap.size + 1 + 1, 1, none⟩ = some (.slice none 0 0) := hO1.cell 1
  have f0 := hO1.frozen 0
  have f1 := hO1.frozen 1
  have HO0 := Lib.hid o0
  have HO1 := Lib.hid o1
  clear o0 o1
  go_wp2_with fail
  have hset : Out (w.heap.size + 1 + 1) (w.heap.size + 1 + 1 + 1) w1 ((w1.setCell ⟨w.heap.size + 1 + 1, 0, none⟩ (.slice (some ⟨g, 0, none⟩) n n)).setCell ⟨w.heap.size + 1 + 1, 1, none⟩ (.slice (some ⟨g', 0, none⟩) m m)) := out_set (out_set (Out.refl _ _ _) (by omega)) (by omega)
  have hP2 := (hP1.far (g' := w.heap.size + 1 + 1) (by omega) 0 (.slice (some ⟨g, 0, none⟩) n n)).far (g' := w.heap.size + 1 + 1) (by omega) 1 (.slice (some ⟨g', 0, none⟩) m m)
  have hR2 := (hR1.far (g' := w.heap.size + 1 + 1) (by omega) 0 (.slice (some ⟨g, 0, none⟩) n n)).far (g' := w.heap.size + 1 + 1) (by omega) 1 (.slice (some ⟨g', 0, none⟩) m m)
  have hO2 := (hO1.set 0 (.slice (some ⟨g, 0, none⟩) n n)).set 1 (.slice (some ⟨g', 0, none⟩) m m)
  generalize (w1.setCell ⟨w.heap.size + 1 + 1, 0, none⟩ (.slice (some ⟨g, 0, none⟩) n n)).setCell ⟨w.heap.size + 1 + 1, 1, none⟩ (.slice (some ⟨g', 0, none⟩) m m) = w2 at hset hP2 hR2 hO2 ⊢
  have hs2 := hset.size
  have oo0 := Lib.hid (HO0.out.out hset (by omega))
  have oo1 := Lib.hid (HO1.out.out hset (by omega))
  have H2' := (H2.out.next hb1 (by omega)).next (hset.below (Nat.le_succ_of_le (Nat.le_succ _)) (by omega)) hB
  have hb02 : Below w.heap.size w w2 := (hb0.trans (hb1.mono (by omega))).trans (hset.below (Nat.le_succ_of_le (Nat.le_succ _)) (by omega))
  clear z0 z1 f0 f1 p2
  refine (toInt64S_k A2 q c2 B xs w2 H2' (by omega) hq).mono ?_
  rintro e w3 ⟨g2, rfl, o2, hb3⟩
  have hs3 := hb3.size
  have hP3 := hP2.next hb3
  have hR3 := hR2.next hb3
  have hO3 := hO2.next hb3
  have p3 : w3.cell? ⟨w.heap.size, 3, none⟩ = some (.int .i64 a) := hP3.cell 3
  have z0 : w3.cell? ⟨w.heap.size + 1 + 1, 0, none⟩ = some (.slice (some ⟨g, 0, none⟩) n n) := hO3.cell 0
  have z1 : w3.cell? ⟨w.heap.size + 1 + 1, 1, none⟩ = some (.slice (some ⟨g', 0, none⟩) m m) := hO3.cell 1
  have z2 : w3.cell? ⟨w.heap.size + 1 + 1, 2, none⟩ = some (.slice none 0 0) := hO3.cell 2
  have z3 : w3.cell? ⟨w.heap.size + 1 + 1, 3, none⟩ = some (.int .i64 0) := hO3.cell 3
  have f2 := hO3.frozen 2
  have f3 := hO3.frozen 3
  have r0 : w3.cell? ⟨w.heap.size + 1, 0, none⟩ = some (.slice none 0 0) := hR3.cell 0
  have r1 : w3.cell? ⟨w.heap.size + 1, 1, none⟩ = some (.slice none 0 0) := hR3.cell 1
  have r2 : w3.cell? ⟨w.heap.size + 1, 2, none⟩ = some (.slice none 0 0) := hR3.cell 2
  have r3 : w3.cell? ⟨w.heap.size + 1, 3, none⟩ = some (.int .i64 0) := hR3.cell 3
  have k0 := hR3.frozen 0
  have k1 := hR3.frozen 1
  have k2 := hR3.frozen 2
  have k3 := hR3.frozen 3
  have HO2 := Lib.hid o2
  clear o2
  have hb03 := hb02.trans (hb3.mono hb02.size)
  go_wp2_with fail
  refine bodyPost_ret (v := .agg #[.slice (some ⟨g, 0, none⟩) n n, .slice (some ⟨g', 0, none⟩) m m, .slice (some ⟨g2, 0, none⟩) q q, .int .i64 a]) (by simp [results, Try.results23, go_sem, r0, r1, r2, r3]) rfl ?_
  have ho : Out (w.heap.size + 1) (w.heap.size + 3) w3 ((((((w3.setCell ⟨w.heap.size + 1 + 1, 2, none⟩ (.slice (some ⟨g2, 0, none⟩) q q)).setCell ⟨w.heap.size + 1 + 1, 3, none⟩ (.int .i64 a)).setCell ⟨w.heap.size + 1, 0, none⟩ (.slice (some ⟨g, 0, none⟩) n n)).setCell ⟨w.heap.size + 1, 1, none⟩ (.slice (some ⟨g', 0, none⟩) m m)).setCell ⟨w.heap.size + 1, 2, none⟩ (.slice (some ⟨g2, 0, none⟩) q q)).setCell ⟨w.heap.size + 1, 3, none⟩ (.int .i64 a)) :=
    out_set (out_set (out_set (out_set (out_set (out_set (Out.refl _ _ _) (by omega)) (by omega)) (by omega)) (by omega)) (by omega)) (by omega)
  have hso := ho.size
  exact ⟨g, g', g2, mid, w1.heap.size, rfl, ((oo0.out.next hb3).out ho (by omega)).less (by omega), (oo1.out.next hb3).out ho (by omega), ((HO2.out.out ho (by omega)).less (by omega)).wide hso (Nat.le_refl _), ⟨by omega, by omega, by omega⟩, hb03.trans (ho.below (by omega) (by omega))⟩

set_option maxRecDepth 100000 in
set_option maxHeartbeats 2000000 in
theorem eqConfig_k (A D : Option Addr) (n c d : Nat) (zs : List Int) (A' D' : Option Addr) (m c' d' : Nat) (ys : List Int) (A2 D2 : Option Addr) (q c2 d2 : Nat) (xs : List Int) (a : Int) (B B' : Nat) (w : World) (h0 : InL w B A n zs) (h1 : InL w B A' m ys) (h2 : InL w B A2 q xs) (g0 : InL w B' D n zs) (g1 : InL w B' D' m ys) (g2 : InL w B' D2 q xs)
    (hB : B ≤ w.heap.size) (hB' : B' ≤ w.heap.size) (hn : n ≤ 1048576) (hm : m ≤ 1048576) (hq : q ≤ 1048576) :
    Calls Try.prog 25 #[.agg #[.slice A n c, .slice A' m c', .slice A2 q c2, .int .i64 a], .agg #[.slice D n d, .slice D' m d', .slice D2 q d2, .int .i64 a]] w fun e w' => e = .returned (.bool true) ∧ Below w.heap.size w w' := by
  have hb0 : Below w.heap.size w ((w.alloc (.cells #[.slice A n c, .slice A' m c', .slice A2 q c2, .int .i64 a] 44)).alloc (.cells #[.slice D n d, .slice D' m d', .slice D2 q d2, .int .i64 a] 44)) := bon (bnew _ _) (bnew _ _)
  have hP : BlkIs ((w.alloc (.cells #[.slice A n c, .slice A' m c', .slice A2 q c2, .int .i64 a] 44)).alloc (.cells #[.slice D n d, .slice D' m d', .slice D2 q d2, .int .i64 a] 44)) w.heap.size 44 #[.slice A n c, .slice A' m c', .slice A2 q c2, .int .i64 a] := (blk_new w _ _ _ rfl).next (bnew _ _)
  have hQ : BlkIs ((w.alloc (.cells #[.slice A n c, .slice A' m c', .slice A2 q c2, .int .i64 a] 44)).alloc (.cells #[.slice D n d, .slice D' m d', .slice D2 q d2, .int .i64 a] 44)) (w.heap.size + 1) 44 #[.slice D n d, .slice D' m d', .slice D2 q d2, .int .i64 a] := blk_new _ _ _ _ (by simp)
  have H0 := Lib.hid (h0.next hb0 hB)
  have H1 := Lib.hid (h1.next hb0 hB)
  have H2 := Lib.hid (h2.next hb0 hB)
  have G0 := Lib.hid (g0.next hb0 hB')
  have G1 := Lib.hid (g1.next hb0 hB')
  have G2 := Lib.hid (g2.next hb0 hB')
  clear h0 h1 h2 g0 g1 g2
  go_enter Try.func25, Try.ntmps25
  go_wp2_with fail
  generalize (w.alloc (.cells #[.slice A n c, .slice A' m c', .slice A2 q c2, .int .i64 a] 44)).alloc (.cells #[.slice D n d, .slice D' m d', .slice D2 q d2, .int .i64 a] 44) = W at hb0 hP hQ H0 H1 H2 G0 G1 G2 ⊢
  have hs0 := hb0.size
  refine (eqState_k A D n c d zs A' D' m c' d' ys B B' W H0.out H1.out G0.out G1.out (by omega) (by omega) hn hm).mono ?_
  rintro e w1 ⟨rfl, hb1⟩
  have hs1 := hb1.size
  have p2 : w1.cell? ⟨w.heap.size, 2, none⟩ = some (.slice A2 q c2) := (hP.next hb1).cell 2
  have q2 : w1.cell? ⟨w.heap.size + 1, 2, none⟩ = some (.slice D2 q d2) := (hQ.next hb1).cell 2
  go_wp2_with fail
  refine (eqInt64S_k A2 D2 q c2 d2 B B' xs w1 (H2.out.next hb1 (by omega)) (G2.out.next hb1 (by omega)) (by omega) (by omega) hq).mono ?_
  rintro e w2 ⟨rfl, hb2⟩
  have p3 : w2.cell? ⟨w.heap.size, 3, none⟩ = some (.int .i64 a) := ((hP.next hb1).next hb2).cell 3
  have q3 : w2.cell? ⟨w.heap.size + 1, 3, none⟩ = some (.int .i64 a) := ((hQ.next hb1).next hb2).cell 3
  go_wp2_with fail
  go_ret
  exact ⟨rfl, hb0.trans ((bon hb1 hb2).mono hs0)⟩
end Go.Proofs.Ytnfapodeifpeoaa
