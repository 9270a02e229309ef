/-
  States, two lists of numbers: what one that came in reads as; how the law counts, copies and compares them. Conditions: at most 2^20 numbers.
-/
import Derived.Test.YtajmbnimdngjhaaGreatDoorBlk
namespace Go.Proofs.YtajmbnimdngjhaaGreatDoor
set_option linter.unusedVariables false
open Go.RowKit Go.ChangeShapes Go.WideShapes Go.Deep Go.Joins

section
variable {H : Type} {enc : TypeId × Value → H} {w : World} {held : Bool}
theorem cellsState : Tryz.prog.cellsOf 28 = 2 := by kernel_rfl
set_option maxRecDepth 100000 in
/-- A state that came in. -/
theorem state_in {r : Reach} {b0 : Nat} {v : Value} {d : DataW H} {p : List MemPlace} (hv : Value.okWide Tryz.prog w r b0 28 v) (h : DataW.Trod enc Tryz.prog w 0 (fun _ => true) held 28 v d p) :
    ∃ (A : Option Addr) (n cap : Nat) (zs : List Int) (A' : Option Addr) (n' cap' : Nat) (ys : List Int), v = .agg #[.slice A n cap, .slice A' n' cap'] ∧ zs.length = n ∧ n ≤ maxLen ∧ Row w w.heap.size A (zs.map ic) ∧ ys.length = n' ∧ n' ≤ maxLen ∧ Row w w.heap.size A' (ys.map ic) := by
  obtain ⟨cs, rfl, hsz⟩ := okWide_struct Tryz.underlying28 hv
  have h2 : cs.toList.length = 2 := by rw [cellsState] at hsz; simpa using hsz
  obtain ⟨fuel, hf⟩ := h
  have hf' : DataW.trod enc Tryz.prog w 0 (fun _ => true) held fuel 28 cs.toList = some (d, p) := by simpa [Value.cells] using hf
  obtain ⟨l⟩ := cs
  match l, h2 with
  | [c0, c1], _ =>
    obtain ⟨y0, y1, m, h0, h1⟩ := cells2 Tryz.underlying28 (by kernel_rfl) hf'
    have h0' : DataW.trod enc Tryz.prog w 0 (fun _ => true) held m 26 [c0] = some y0 := h0
    have h1' : DataW.trod enc Tryz.prog w 0 (fun _ => true) held m 26 [c1] = some y1 := h1
    obtain ⟨A, n, cap, zs, rfl, a1, a2, a3, _⟩ := ints_in Tryz.underlying26 Tryz.underlying2 (by kernel_rfl) h0'
    obtain ⟨A', n', cap', ys, rfl, b1, b2, b3, _⟩ := ints_in Tryz.underlying26 Tryz.underlying2 (by kernel_rfl) h1'
    exact ⟨A, n, cap, zs, A', n', cap', ys, rfl, a1, a2, a3, b1, b2, b3⟩
end

set_option maxRecDepth 100000 in
theorem szInt64S_k (A : Option Addr) (n c : Nat) (left : Int) (w : World) (hl0 : 0 ≤ left) (hl1 : left ≤ 1048576) (hn : n ≤ maxLen) :
    Calls Tryz.prog 33 #[.slice A n c, .int .i64 left] w fun e w' => e = .returned (.int .i64 (szv left n)) ∧ w = w' := by
  unfold maxLen at hn
  rcases Int.lt_or_le left n with h | h
  · have HV := Lib.hid (szv_no h)
    have h1 : left - (n : Int) < 0 := by omega
    clear h
    go_enter Tryz.func33, Tryz.ntmps33
    go_wp2
    go_ret
    exact ⟨ret_int HV.out.symm, rfl⟩
  · have HV := Lib.hid (szv_yes h)
    have h1 : 0 ≤ left - (n : Int) := by omega
    clear h
    go_enter Tryz.func33, Tryz.ntmps33
    go_wp2
    go_ret
    exact ⟨ret_int HV.out.symm, rfl⟩

set_option maxRecDepth 100000 in
set_option maxHeartbeats 1000000 in
theorem szState_k (A : Option Addr) (n c : Nat) (A' : Option Addr) (m c' : Nat) (left : Int) (w : World) (hl0 : 0 ≤ left) (hl1 : left ≤ 1048576) (hn : n ≤ maxLen) (hm : m ≤ maxLen) :
    Calls Tryz.prog 8 #[.agg #[.slice A n c, .slice A' m c'], .int .i64 left] w fun e w' => e = .returned (.int .i64 (szv left (n + m))) ∧ Below w.heap.size w w' := by
  have hb0 := bnew w (.cells #[.slice A n c, .slice A' m c'] 28)
  have p1 : (w.alloc (.cells #[.slice A n c, .slice A' m c'] 28)).cell? ⟨w.heap.size, 1, none⟩ = some (.slice A' m c') := by simp
  go_enter Tryz.func8, Tryz.ntmps8
  go_wp2_with fail
  generalize w.alloc (.cells #[.slice A n c, .slice A' m c'] 28) = W at hb0 p1 ⊢
  refine (szInt64S_k A n c left W hl0 hl1 hn).mono ?_
  rintro e w1 ⟨rfl, rfl⟩
  rcases Int.lt_or_le left n with hq | hq
  · have HV : Hid (szv left (n + m) = -1) := szv_no (by omega)
    rw [szv_no hq]
    clear hq
    go_wp2_with fail
    go_ret
    exact ⟨ret_int HV.out.symm, hb0⟩
  · rw [szv_yes hq]
    have hp : 0 ≤ left - (n : Int) := by omega
    have HSZ := Lib.hid (szInt64S_k A' m c' (left - (n : Int)) W hp (by omega) hm)
    have HQ : Hid (szv (left - (n : Int)) m = szv left (n + m)) := by
      show _ = _
      rcases Int.lt_or_le (left - (n : Int)) m with h | h
      · rw [szv_no h, szv_no (by omega)]
      · rw [szv_yes h, szv_yes (by omega)]; omega
    clear hq
    generalize left - (n : Int) = L at hp HSZ HQ ⊢
    have hc : 0 ≤ szv L m ∨ szv L m = -1 := by
      rcases Int.lt_or_le L m with h | h
      · exact .inr (szv_no h)
      · exact .inl (by rw [szv_yes h]; omega)
    generalize szv L m = V at HSZ HQ hc
    go_wp2_with fail
    refine HSZ.out.mono ?_
    rintro e w2 ⟨rfl, rfl⟩
    rcases hc with hc | rfl
    · go_wp2_with fail
      go_ret
      exact ⟨ret_int HQ.out, hb0⟩
    · go_wp2_with fail
      go_ret
      exact ⟨ret_int HQ.out, hb0⟩

set_option maxRecDepth 100000 in
set_option maxHeartbeats 2000000 in
theorem toState_k (A : Option Addr) (n c B : Nat) (zs : List Int) (A' : Option Addr) (m c' : Nat) (ys : List Int) (w : World) (h : InL w B A n zs) (h' : InL w B A' m ys) (hB : B ≤ w.heap.size) (hn : n ≤ 1048576) (hm : m ≤ 1048576) :
    Calls Tryz.prog 11 #[.agg #[.slice A n c, .slice A' m c']] w fun e w' => ∃ g g' mid, e = .returned (.agg #[.slice (some ⟨g, 0, none⟩) n n, .slice (some ⟨g', 0, none⟩) m m]) ∧
      OwnL w' w.heap.size mid (some ⟨g, 0, none⟩) n n zs ∧ OwnL w' mid w'.heap.size (some ⟨g', 0, none⟩) m m ys ∧ (w.heap.size ≤ mid ∧ mid ≤ w'.heap.size) ∧ Below w.heap.size w w' := by
  have hb0 : Below w.heap.size w (((w.alloc (.cells #[.slice A n c, .slice A' m c'] 28)).alloc (.cells #[.slice none 0 0, .slice none 0 0] 31)).alloc (.cells #[.slice none 0 0, .slice none 0 0] 31)) := bon (bon (bnew _ _) (bnew _ _)) (bnew _ _)
  have hsz : (((w.alloc (.cells #[.slice A n c, .slice A' m c'] 28)).alloc (.cells #[.slice none 0 0, .slice none 0 0] 31)).alloc (.cells #[.slice none 0 0, .slice none 0 0] 31)).heap.size = w.heap.size + 3 := by simp
  have hin := Lib.hid (h.next hb0 hB)
  have hin' := Lib.hid (h'.next hb0 hB)
  clear h h'
  have hP : BlkIs (((w.alloc (.cells #[.slice A n c, .slice A' m c'] 28)).alloc (.cells #[.slice none 0 0, .slice none 0 0] 31)).alloc (.cells #[.slice none 0 0, .slice none 0 0] 31)) w.heap.size 28 #[.slice A n c, .slice A' m c'] := ((blk_new w _ _ _ rfl).next (bnew _ _)).next (bnew _ _)
  have hR : BlkIs (((w.alloc (.cells #[.slice A n c, .slice A' m c'] 28)).alloc (.cells #[.slice none 0 0, .slice none 0 0] 31)).alloc (.cells #[.slice none 0 0, .slice none 0 0] 31)) (w.heap.size + 1) 31 #[.slice none 0 0, .slice none 0 0] := (blk_new _ _ _ _ (by simp)).next (bnew _ _)
  have hO : BlkIs (((w.alloc (.cells #[.slice A n c, .slice A' m c'] 28)).alloc (.cells #[.slice none 0 0, .slice none 0 0] 31)).alloc (.cells #[.slice none 0 0, .slice none 0 0] 31)) (w.heap.size + 1 + 1) 31 #[.slice none 0 0, .slice none 0 0] := blk_new _ _ _ _ (by simp)
  go_enter Tryz.func11, Tryz.ntmps11
  go_wp2_with fail
  generalize ((w.alloc (.cells #[.slice A n c, .slice A' m c'] 28)).alloc (.cells #[.slice none 0 0, .slice none 0 0] 31)).alloc (.cells #[.slice none 0 0, .slice none 0 0] 31) = W at hb0 hsz hin hin' hP hR hO ⊢
  refine (toInt64S_k A n c B zs W hin.out (by omega) hn).mono ?_
  rintro e w1 ⟨g, rfl, hts, hb1⟩
  have hs1 := hb1.size
  have hP1 := hP.next hb1
  have hR1 := hR.next hb1
  have hO1 := hO.next hb1
  have p1 := hP1.cell 1
  have o0 := hO1.cell 0
  have f0 := hO1.frozen 0
  simp at p1 o0
  go_wp2_with fail
  have hset : Out (w.heap.size + 1 + 1) (w.heap.size + 1 + 1 + 1) w1 (w1.setCell ⟨w.heap.size + 1 + 1, 0, none⟩ (.slice (some ⟨g, 0, none⟩) n n)) := Out.of_grown (only_set (g := w.heap.size + 1 + 1)) (fun j hj => by injection hj; omega)
  have hR2 := hR1.far (g' := w.heap.size + 1 + 1) (by omega) 0 (.slice (some ⟨g, 0, none⟩) n n)
  have hO2 := hO1.set 0 (.slice (some ⟨g, 0, none⟩) n n)
  generalize w1.setCell ⟨w.heap.size + 1 + 1, 0, none⟩ (.slice (some ⟨g, 0, none⟩) n n) = w2 at hset hR2 hO2 ⊢
  have hs2 := hset.size
  have hts2 := hts.out hset (by omega)
  have hinW := (hin'.out.next hb1 (by omega)).next (hset.below (Nat.le_succ_of_le (Nat.le_succ _)) (by omega)) hB
  have hb02 : Below w.heap.size w w2 := (hb0.trans (hb1.mono (by omega))).trans (hset.below (Nat.le_succ_of_le (Nat.le_succ _)) (by omega))
  refine (toInt64S_k A' m c' B ys w2 hinW (by omega) hm).mono ?_
  rintro e w3 ⟨g', rfl, htl, hb3⟩
  have hs3 := hb3.size
  have hR3 := hR2.next hb3
  have hO3 := hO2.next hb3
  have r0 := hR3.cell 0
  have r1 := hR3.cell 1
  have q0 := hO3.cell 0
  have q1 := hO3.cell 1
  have f1 := hO3.frozen 1
  have k0 := hR3.frozen 0
  have k1 := hR3.frozen 1
  clear p1 o0 f0
  simp at r0 r1 q0 q1
  have hts3 := hts2.next hb3
  have hb03 := hb02.trans (hb3.mono hb02.size)
  go_wp2_with fail
  refine bodyPost_ret (v := .agg #[.slice (some ⟨g, 0, none⟩) n n, .slice (some ⟨g', 0, none⟩) m m]) (by simp [results, Tryz.results11, go_sem, r0, r1]) rfl ?_
  have ho : Out (w.heap.size + 1) (w.heap.size + 3) w3 (((w3.setCell ⟨w.heap.size + 1 + 1, 1, none⟩ (.slice (some ⟨g', 0, none⟩) m m)).setCell ⟨w.heap.size + 1, 0, none⟩ (.slice (some ⟨g, 0, none⟩) n n)).setCell ⟨w.heap.size + 1, 1, none⟩ (.slice (some ⟨g', 0, none⟩) m m)) :=
    out_set (out_set (out_set (Out.refl _ _ _) (by omega)) (by omega)) (by omega)
  have hso := ho.size
  exact ⟨g, g', w1.heap.size, rfl, (hts3.out ho (by omega)).less (by omega), ((htl.out ho (by omega)).less (by omega)).wide hso (Nat.le_refl _), ⟨by omega, by omega⟩, hb03.trans (ho.below (by omega) (by omega))⟩

set_option maxRecDepth 100000 in
set_option maxHeartbeats 1000000 in
theorem eqState_k (A A' : Option Addr) (n c c' : Nat) (zs : List Int) (D D' : Option Addr) (m d d' : Nat) (ys : List Int) (B B' : Nat) (w : World) (h : InL w B A n zs) (hl : InL w B D m ys) (h' : InL w B' A' n zs) (hl' : InL w B' D' m ys)
    (hB : B ≤ w.heap.size) (hB' : B' ≤ w.heap.size) (hn : n ≤ 1048576) (hm : m ≤ 1048576) :
    Calls Tryz.prog 13 #[.agg #[.slice A n c, .slice D m d], .agg #[.slice A' n c', .slice D' m d']] w fun e w' => e = .returned (.bool true) ∧ Below w.heap.size w w' := by
  have hb0 : Below w.heap.size w ((w.alloc (.cells #[.slice A n c, .slice D m d] 31)).alloc (.cells #[.slice A' n c', .slice D' m d'] 31)) := bon (bnew _ _) (bnew _ _)
  have hP : BlkIs ((w.alloc (.cells #[.slice A n c, .slice D m d] 31)).alloc (.cells #[.slice A' n c', .slice D' m d'] 31)) w.heap.size 31 #[.slice A n c, .slice D m d] := (blk_new w _ _ _ rfl).next (bnew _ _)
  have hQ : BlkIs ((w.alloc (.cells #[.slice A n c, .slice D m d] 31)).alloc (.cells #[.slice A' n c', .slice D' m d'] 31)) (w.heap.size + 1) 31 #[.slice A' n c', .slice D' m d'] := blk_new _ _ _ _ (by simp)
  have h1 := Lib.hid (h.next hb0 hB)
  have h2 := Lib.hid (hl.next hb0 hB)
  have h3 := Lib.hid (h'.next hb0 hB')
  have h4 := Lib.hid (hl'.next hb0 hB')
  clear h hl h' hl'
  go_enter Tryz.func13, Tryz.ntmps13
  go_wp2_with fail
  generalize (w.alloc (.cells #[.slice A n c, .slice D m d] 31)).alloc (.cells #[.slice A' n c', .slice D' m d'] 31) = W at hb0 hP hQ h1 h2 h3 h4 ⊢
  have hs0 := hb0.size
  refine (eqInt64S_k A A' n c c' B B' zs W h1.out h3.out (by omega) (by omega) hn).mono ?_
  rintro e w1 ⟨rfl, hb1⟩
  have hs1 := hb1.size
  have p1 := (hP.next hb1).cell 1
  have q1 := (hQ.next hb1).cell 1
  simp at p1 q1
  go_wp2_with fail
  refine (eqInt64S_k D D' m d d' B B' ys w1 (h2.out.next hb1 (by omega)) (h4.out.next hb1 (by omega)) (by omega) (by omega) hm).mono ?_
  rintro e w2 ⟨rfl, hb2⟩
  go_wp2_with fail
  go_ret
  exact ⟨rfl, hb0.trans ((bon hb1 hb2).mono hs0)⟩
end Go.Proofs.YtajmbnimdngjhaaGreatDoor
