/-
  Programs: what one that came in reads as; how the law counts, copies and compares them. Conditions: at most 2^20 elements, terms and coefficients.
-/
import Derived.Test.YtajmbnimdngjhaaGreatDoorStmtO
namespace Go.Proofs.YtajmbnimdngjhaaGreatDoor
set_option linter.unusedVariables false
open Go.RowKit Go.ChangeShapes Go.WideShapes Go.Deep Go.Joins

section
variable {H : Type} {enc : TypeId × Value → H} {w : World} {held : Bool}
theorem cellsProg : Tryz.prog.cellsOf 25 = 3 := by kernel_rfl
theorem cellsTS1 : Tryz.prog.cellsOf 22 = 1 := by kernel_rfl
theorem cellsSS1 : Tryz.prog.cellsOf 23 = 1 := by kernel_rfl
set_option maxRecDepth 100000 in
/-- A program that came in. -/
theorem program_in {r : Reach} {b0 : Nat} {v : Value} {d : DataW H} {p : List MemPlace} (hv : Value.okWide Tryz.prog w r b0 25 v) (h : DataW.Trod enc Tryz.prog w 0 (fun _ => true) held 25 v d p) :
    ∃ (A : Option Addr) (n cap : Nat) (ts : List (Int × List Int)) (D : Option Addr) (m dap : Nat) (xs : List S8) (E : Option Addr) (q eap : Nat) (us : List (Int × List Int)), v = .agg #[.slice A n cap, .slice D m dap, .slice E q eap] ∧
      n ≤ maxLen ∧ InTS w w.heap.size A n ts ∧ (∀ t ∈ ts, t.2.length ≤ maxLen) ∧ m ≤ maxLen ∧ InST w w.heap.size D m xs ∧ (∀ y ∈ xs, y.fits) ∧ q ≤ maxLen ∧ InTS w w.heap.size E q us ∧ (∀ t ∈ us, t.2.length ≤ maxLen) := by
  obtain ⟨cs, rfl, hsz⟩ := okWide_struct Tryz.underlying25 hv
  have h2 : cs.toList.length = 3 := by rw [cellsProg] at hsz; simpa using hsz
  obtain ⟨fuel, hf⟩ := h
  have hf' : DataW.trod enc Tryz.prog w 0 (fun _ => true) held fuel 25 cs.toList = some (d, p) := by simpa [Value.cells] using hf
  obtain ⟨l⟩ := cs
  obtain ⟨ys, n, e1, e2, hl, hlen, hg⟩ := DataW.trod_struct Tryz.underlying25 hf'
  match l, h2, ys, hlen with
  | [c0, c1, c2], _, [y0, y1, y2], _ =>
    have h0 : DataW.trod enc Tryz.prog w 0 (fun _ => true) held n 22 [c0] = some y0 := by simpa [cellsTS1] using hg 0 _ rfl
    have h1 : DataW.trod enc Tryz.prog w 0 (fun _ => true) held n 23 [c1] = some y1 := by simpa [cellsSS1] using hg 1 _ rfl
    have h2 : DataW.trod enc Tryz.prog w 0 (fun _ => true) held n 22 [c2] = some y2 := by simpa [cellsTS1] using hg 2 _ rfl
    obtain ⟨A, n', cap, ts, rfl, a1, a2, a3, a4⟩ := terms_in h0
    obtain ⟨D, m, dap, xs, rfl, b1, b2, b3⟩ := stmts_in h1
    obtain ⟨E, q, eap, us, rfl, g1, g2, g3, g4⟩ := terms_in h2
    exact ⟨A, n', cap, ts, D, m, dap, xs, E, q, eap, us, rfl, a2, ⟨a1, a3⟩, a4, b1, b2, b3, g2, ⟨g1, g3⟩, g4⟩
end

/-- How much a program holds, as the law counts it. -/
def progN (n : Nat) (ts : List (Int × List Int)) (m : Nat) (xs : List S8) (q : Nat) (us : List (Int × List Int)) : Nat := (n + totT ts) + ((m + totS xs) + (q + totT us))
set_option maxRecDepth 100000 in
set_option maxHeartbeats 2000000 in
theorem szProgram_k (A : Option Addr) (n c : Nat) (ts : List (Int × List Int)) (D : Option Addr) (m d : Nat) (xs : List S8) (E : Option Addr) (q e' B : Nat) (us : List (Int × List Int)) (left : Int) (w : World)
    (h1 : InTS w B A n ts) (h2 : InST w B D m xs) (h3 : InTS w B E q us) (hB : B ≤ w.heap.size) (hl0 : 0 ≤ left) (hl1 : left ≤ 1048576)
    (hn : n ≤ maxLen) (he1 : ∀ t ∈ ts, t.2.length ≤ maxLen) (hm : m ≤ maxLen) (he2 : ∀ y ∈ xs, y.fits) (hq : q ≤ maxLen) (he3 : ∀ t ∈ us, t.2.length ≤ maxLen) :
    Calls Tryz.prog 7 #[.agg #[.slice A n c, .slice D m d, .slice E q e'], .int .i64 left] w fun e w' => e = .returned (.int .i64 (szv left (progN n ts m xs q us))) ∧ Below w.heap.size w w' := by
  have hb0 := bnew w (.cells #[.slice A n c, .slice D m d, .slice E q e'] 25)
  have hP : BlkIs (w.alloc (.cells #[.slice A n c, .slice D m d, .slice E q e'] 25)) w.heap.size 25 #[.slice A n c, .slice D m d, .slice E q e'] := blk_new _ _ _ _ rfl
  have H1 := Lib.hid (szTermS_k A n c B ts left _ (h1.next hb0 hB) (Nat.le_trans hB hb0.size) hl0 hl1 hn he1)
  have H2 := Lib.hid (h2.next hb0 hB)
  have H3 := Lib.hid (h3.next hb0 hB)
  have HE2 := Lib.hid he2
  have HE3 := Lib.hid he3
  clear h1 h2 h3 he1 he2 he3
  unfold progN
  generalize totT ts = T1 at H1 ⊢
  go_enter Tryz.func7, Tryz.ntmps7
  go_wp2_with fail
  generalize w.alloc (.cells #[.slice A n c, .slice D m d, .slice E q e'] 25) = W at hb0 hP H1 H2 H3 ⊢
  have hs0 := hb0.size
  refine H1.out.mono ?_
  rintro e w1 ⟨rfl, hb1⟩
  have hs1 := hb1.size
  have P1 := hP.next hb1
  have a1 : w1.cell? ⟨w.heap.size, 1, none⟩ = some (.slice D m d) := P1.cell 1
  have hb01 := bon hb0 hb1
  clear H1 hP
  rcases Int.lt_or_le left (n + T1 : Nat) with hz | hz
  · have HV : Hid (szv left (n + T1 + (m + totS xs + (q + totT us))) = -1) := szv_no (by omega)
    rw [szv_no hz]
    clear hz
    go_wp2_with fail
    go_ret
    exact ⟨ret_int HV.out.symm, hb01⟩
  · rw [szv_yes hz]
    obtain ⟨L1, hL1⟩ : ∃ L1, L1 = left - ((n + T1 : Nat) : Int) := ⟨_, rfl⟩
    rw [← hL1]
    have h10 : 0 ≤ L1 := by omega
    have h11 : L1 ≤ 1048576 := by omega
    have HL1 := Lib.hid hL1
    have H2' := Lib.hid (szStmtS_k D m d B xs L1 w1 (H2.out.next hb1 (by omega)) (by omega) h10 h11 hm HE2.out)
    clear hL1 hz
    go_wp2_with fail
    refine H2'.out.mono ?_
    rintro e w2 ⟨rfl, hb2⟩
    have hs2 := hb2.size
    have P2 := P1.next hb2
    have a2 : w2.cell? ⟨w.heap.size, 2, none⟩ = some (.slice E q e') := P2.cell 2
    have hb02 := bon hb01 hb2
    clear H2' a1 P1
    rcases Int.lt_or_le L1 (m + totS xs : Nat) with hz | hz
    · have HV : Hid (szv left (n + T1 + (m + totS xs + (q + totT us))) = -1) := szv_no (by have := HL1.out; omega)
      rw [szv_no hz]
      clear hz
      go_wp2_with fail
      go_ret
      exact ⟨ret_int HV.out.symm, hb02⟩
    · rw [szv_yes hz]
      obtain ⟨L2, hL2⟩ : ∃ L2, L2 = L1 - ((m + totS xs : Nat) : Int) := ⟨_, rfl⟩
      rw [← hL2]
      have h20 : 0 ≤ L2 := by omega
      have h21 : L2 ≤ 1048576 := by omega
      have HQ : Hid (szv L2 (q + totT us) = szv left (n + T1 + (m + totS xs + (q + totT us)))) := by
        show _ = _
        have := HL1.out
        rcases Int.lt_or_le L2 (q + totT us : Nat) with h | h
        · rw [szv_no h, szv_no (by omega)]
        · rw [szv_yes h, szv_yes (by omega)]; omega
      clear hL2 hz
      have HSZ := Lib.hid (szTermS_k E q e' B us L2 w2 ((H3.out.next hb1 (by omega)).next hb2 (by omega)) (by omega) h20 h21 hq HE3.out)
      have hc : 0 ≤ szv L2 (q + totT us) ∨ szv L2 (q + totT us) = -1 := by
        rcases Int.lt_or_le L2 (q + totT us : Nat) with h | h
        · exact .inr (szv_no h)
        · exact .inl (by rw [szv_yes h]; omega)
      generalize szv L2 (q + totT us) = V at HSZ HQ hc
      go_wp2_with fail
      refine HSZ.out.mono ?_
      rintro e w3 ⟨rfl, hb3⟩
      rcases hc with hc | rfl
      all_goals
        go_wp2_with fail
        go_ret
        exact ⟨ret_int HQ.out, bon hb02 hb3⟩

/-- A program's three lists below a block. -/
def PIn (w : World) (B : Nat) (A : Option Addr) (n : Nat) (ts : List (Int × List Int)) (D : Option Addr) (m : Nat) (xs : List S8) (E : Option Addr) (q : Nat) (us : List (Int × List Int)) : Prop := InTS w B A n ts ∧ InST w B D m xs ∧ InTS w B E q us
section
variable {w w' : World} {B B' : Nat} {A : Option Addr} {n : Nat} {ts : List (Int × List Int)} {D : Option Addr} {m : Nat} {xs : List S8} {E : Option Addr} {q : Nat} {us : List (Int × List Int)}
theorem PIn.next (h : PIn w B A n ts D m xs E q us) (hb : Below B' w w') (hB : B ≤ B') : PIn w' B A n ts D m xs E q us := ⟨h.1.next hb hB, h.2.1.next hb hB, h.2.2.next hb hB⟩
theorem PIn.more (h : PIn w B A n ts D m xs E q us) (hB : B ≤ B') : PIn w B' A n ts D m xs E q us := ⟨h.1.more hB, h.2.1.more hB, h.2.2.more hB⟩
end
set_option maxRecDepth 100000 in
set_option maxHeartbeats 4000000 in
theorem toProgram_k (A : Option Addr) (n c : Nat) (ts : List (Int × List Int)) (D : Option Addr) (m d : Nat) (xs : List S8) (E : Option Addr) (q e' B : Nat) (us : List (Int × List Int)) (w : World) (h : PIn w B A n ts D m xs E q us) (hB : B ≤ w.heap.size)
    (hn : progN n ts m xs q us ≤ 1048576) :
    Calls Tryz.prog 10 #[.agg #[.slice A n c, .slice D m d, .slice E q e']] w fun e w' => ∃ g1 g2 g3 m1 m2, e = .returned (.agg #[.slice (some ⟨g1, 0, none⟩) n n, .slice (some ⟨g2, 0, none⟩) m m, .slice (some ⟨g3, 0, none⟩) q q]) ∧
      OwnTS w' w.heap.size m1 (some ⟨g1, 0, none⟩) n n ts ∧ OwnST w' m1 m2 (some ⟨g2, 0, none⟩) m m xs ∧ OwnTS w' m2 w'.heap.size (some ⟨g3, 0, none⟩) q q us ∧ (w.heap.size ≤ m1 ∧ m1 ≤ m2 ∧ m2 ≤ w'.heap.size) ∧ Below w.heap.size w w' := by
  unfold progN at hn
  have hb0 : Below w.heap.size w (((w.alloc (.cells #[.slice A n c, .slice D m d, .slice E q e'] 25)).alloc (.cells #[.slice none 0 0, .slice none 0 0, .slice none 0 0] 37)).alloc (.cells #[.slice none 0 0, .slice none 0 0, .slice none 0 0] 37)) := bon (bon (bnew _ _) (bnew _ _)) (bnew _ _)
  have hsz : (((w.alloc (.cells #[.slice A n c, .slice D m d, .slice E q e'] 25)).alloc (.cells #[.slice none 0 0, .slice none 0 0, .slice none 0 0] 37)).alloc (.cells #[.slice none 0 0, .slice none 0 0, .slice none 0 0] 37)).heap.size = w.heap.size + 3 := by simp
  have H1 := Lib.hid (h.1.next hb0 hB)
  have H2 := Lib.hid (h.2.1.next hb0 hB)
  have H3 := Lib.hid (h.2.2.next hb0 hB)
  clear h
  have hP : BlkIs (((w.alloc (.cells #[.slice A n c, .slice D m d, .slice E q e'] 25)).alloc (.cells #[.slice none 0 0, .slice none 0 0, .slice none 0 0] 37)).alloc (.cells #[.slice none 0 0, .slice none 0 0, .slice none 0 0] 37)) w.heap.size 25 #[.slice A n c, .slice D m d, .slice E q e'] := ((blk_new w _ _ _ rfl).next (bnew _ _)).next (bnew _ _)
  have hR : BlkIs (((w.alloc (.cells #[.slice A n c, .slice D m d, .slice E q e'] 25)).alloc (.cells #[.slice none 0 0, .slice none 0 0, .slice none 0 0] 37)).alloc (.cells #[.slice none 0 0, .slice none 0 0, .slice none 0 0] 37)) (w.heap.size + 1) 37 #[.slice none 0 0, .slice none 0 0, .slice none 0 0] := (blk_new _ _ _ _ (by simp)).next (bnew _ _)
  have hO : BlkIs (((w.alloc (.cells #[.slice A n c, .slice D m d, .slice E q e'] 25)).alloc (.cells #[.slice none 0 0, .slice none 0 0, .slice none 0 0] 37)).alloc (.cells #[.slice none 0 0, .slice none 0 0, .slice none 0 0] 37)) (w.heap.size + 1 + 1) 37 #[.slice none 0 0, .slice none 0 0, .slice none 0 0] := blk_new _ _ _ _ (by simp)
  go_enter Tryz.func10, Tryz.ntmps10
  go_wp2_with fail
  generalize ((w.alloc (.cells #[.slice A n c, .slice D m d, .slice E q e'] 25)).alloc (.cells #[.slice none 0 0, .slice none 0 0, .slice none 0 0] 37)).alloc (.cells #[.slice none 0 0, .slice none 0 0, .slice none 0 0] 37) = W at hb0 hsz H1 H2 H3 hP hR hO ⊢
  refine (toTermS_k A n c B ts W H1.out (by omega) (by omega) (by omega)).mono ?_
  rintro e w1 ⟨g1, rfl, o1, hb1⟩
  have hs1 := hb1.size
  have hP1 := hP.next hb1
  have hR1 := hR.next hb1
  have hO1 := hO.next hb1
  have p1 := hP1.cell 1
  have o0 := hO1.cell 0
  have f0 := hO1.frozen 0
  simp at p1 o0
  go_wp2_with fail
  have hset : Out (w.heap.size + 1) (w.heap.size + 3) w1 (w1.setCell ⟨w.heap.size + 1 + 1, 0, none⟩ (.slice (some ⟨g1, 0, none⟩) n n)) := out_set (Out.refl _ _ _) (by omega)
  have hP2 := hP1.far (g' := w.heap.size + 1 + 1) (by omega) 0 (.slice (some ⟨g1, 0, none⟩) n n)
  have hR2 := hR1.far (g' := w.heap.size + 1 + 1) (by omega) 0 (.slice (some ⟨g1, 0, none⟩) n n)
  have hO2 := hO1.set 0 (.slice (some ⟨g1, 0, none⟩) n n)
  simp at hO2
  clear p1 o0 f0 hP1 hR1 hO1 hP hR hO
  generalize w1.setCell ⟨w.heap.size + 1 + 1, 0, none⟩ (.slice (some ⟨g1, 0, none⟩) n n) = w2 at hset hP2 hR2 hO2 ⊢
  have hs2 := hset.size
  have o12 := o1.out hset (by omega)
  have hb02 : Below w.heap.size w w2 := (hb0.trans (hb1.mono (by omega))).trans (hset.below (by omega) (by omega))
  have H22 := Lib.hid ((H2.out.next hb1 (by omega)).next (hset.below (Nat.le_succ _) (by omega)) hB)
  have H32 := Lib.hid ((H3.out.next hb1 (by omega)).next (hset.below (Nat.le_succ _) (by omega)) hB)
  refine (toStmtS_o D m d B xs w2 H22.out (by omega) (by omega) (by omega)).mono ?_
  rintro e w3 ⟨g2, rfl, o2, hb3⟩
  have hs3 := hb3.size
  have hP3 := hP2.next hb3
  have hR3 := hR2.next hb3
  have hO3 := hO2.next hb3
  have p2 := hP3.cell 2
  have o1' := hO3.cell 1
  have f1 := hO3.frozen 1
  simp at p2 o1'
  have o13 := o12.next hb3
  have hb03 := hb02.trans (hb3.mono hb02.size)
  go_wp2_with fail
  have hset3 : Out (w.heap.size + 1) (w.heap.size + 3) w3 (w3.setCell ⟨w.heap.size + 1 + 1, 1, none⟩ (.slice (some ⟨g2, 0, none⟩) m m)) := out_set (Out.refl _ _ _) (by omega)
  have hR4 := hR3.far (g' := w.heap.size + 1 + 1) (by omega) 1 (.slice (some ⟨g2, 0, none⟩) m m)
  have hO4 := hO3.set 1 (.slice (some ⟨g2, 0, none⟩) m m)
  simp at hO4
  clear p2 o1' f1 hP3 hR3 hO3 hP2 hR2 hO2
  generalize w3.setCell ⟨w.heap.size + 1 + 1, 1, none⟩ (.slice (some ⟨g2, 0, none⟩) m m) = w4 at hset3 hR4 hO4 ⊢
  have hs4 := hset3.size
  have o14 := o13.out hset3 (by omega)
  have o24 := o2.out hset3 (by omega)
  have hb04 : Below w.heap.size w w4 := hb03.trans (hset3.below (by omega) (by omega))
  have H34 := Lib.hid ((H32.out.next hb3 (by omega)).next (hset3.below (Nat.le_succ _) (by omega)) hB)
  refine (toTermS_k E q e' B us w4 H34.out (by omega) (by omega) (by omega)).mono ?_
  rintro e w5 ⟨g3, rfl, o3, hb5⟩
  have hs5 := hb5.size
  have hR5 := hR4.next hb5
  have hO5 := hO4.next hb5
  have r0 := hR5.cell 0
  have r1 := hR5.cell 1
  have r2 := hR5.cell 2
  have q0 := hO5.cell 0
  have q1 := hO5.cell 1
  have q2 := hO5.cell 2
  have f2 := hO5.frozen 2
  have k0 := hR5.frozen 0
  have k1 := hR5.frozen 1
  have k2 := hR5.frozen 2
  simp at r0 r1 r2 q0 q1 q2
  have o15 := o14.next hb5
  have o25 := o24.next hb5
  have hb05 := hb04.trans (hb5.mono hb04.size)
  go_wp2_with fail
  refine bodyPost_ret (v := .agg #[.slice (some ⟨g1, 0, none⟩) n n, .slice (some ⟨g2, 0, none⟩) m m, .slice (some ⟨g3, 0, none⟩) q q]) (by simp [results, Tryz.results10, go_sem, r0, r1, r2]) rfl ?_
  have ho : Out (w.heap.size + 1) (w.heap.size + 3) w5 ((((w5.setCell ⟨w.heap.size + 1 + 1, 2, none⟩ (.slice (some ⟨g3, 0, none⟩) q q)).setCell ⟨w.heap.size + 1, 0, none⟩ (.slice (some ⟨g1, 0, none⟩) n n)).setCell ⟨w.heap.size + 1, 1, none⟩ (.slice (some ⟨g2, 0, none⟩) m m)).setCell ⟨w.heap.size + 1, 2, none⟩ (.slice (some ⟨g3, 0, none⟩) q q)) :=
    out_set (out_set (out_set (out_set (Out.refl _ _ _) (by omega)) (by omega)) (by omega)) (by omega)
  have hso := ho.size
  refine ⟨g1, g2, g3, w2.heap.size, w4.heap.size, rfl, ?_, ?_, ?_, ⟨by omega, by omega, by omega⟩, hb05.trans (ho.below (by omega) (by omega))⟩
  · exact ((o15.out ho (by omega)).less (by omega)).wide (by omega) (by omega)
  · exact (o25.out ho (by omega)).wide (by omega) (by omega)
  · exact ((o3.out ho (by omega)).less (by omega)).wide hso (Nat.le_refl _)

set_option maxRecDepth 100000 in
set_option maxHeartbeats 2000000 in
theorem eqProgram_k (A A' : Option Addr) (n c c' : Nat) (ts : List (Int × List Int)) (D D' : Option Addr) (m d d' : Nat) (xs : List S8) (E E' : Option Addr) (q e e' : Nat) (us : List (Int × List Int)) (B B' : Nat) (w : World) (h : PIn w B A n ts D m xs E q us) (h' : PIn w B' A' n ts D' m xs E' q us)
    (hB : B ≤ w.heap.size) (hB' : B' ≤ w.heap.size) (hn : progN n ts m xs q us ≤ 1048576) :
    Calls Tryz.prog 15 #[.agg #[.slice A n c, .slice D m d, .slice E q e], .agg #[.slice A' n c', .slice D' m d', .slice E' q e']] w fun e w' => e = .returned (.bool true) ∧ Below w.heap.size w w' := by
  unfold progN at hn
  have hb0 : Below w.heap.size w ((w.alloc (.cells #[.slice A n c, .slice D m d, .slice E q e] 37)).alloc (.cells #[.slice A' n c', .slice D' m d', .slice E' q e'] 37)) := bon (bnew _ _) (bnew _ _)
  have hP : BlkIs ((w.alloc (.cells #[.slice A n c, .slice D m d, .slice E q e] 37)).alloc (.cells #[.slice A' n c', .slice D' m d', .slice E' q e'] 37)) w.heap.size 37 #[.slice A n c, .slice D m d, .slice E q e] := (blk_new w _ _ _ rfl).next (bnew _ _)
  have hQ : BlkIs ((w.alloc (.cells #[.slice A n c, .slice D m d, .slice E q e] 37)).alloc (.cells #[.slice A' n c', .slice D' m d', .slice E' q e'] 37)) (w.heap.size + 1) 37 #[.slice A' n c', .slice D' m d', .slice E' q e'] := blk_new _ _ _ _ (by simp)
  have h1 := Lib.hid (h.next hb0 hB)
  have h2 := Lib.hid (h'.next hb0 hB')
  clear h h'
  go_enter Tryz.func15, Tryz.ntmps15
  go_wp2_with fail
  generalize (w.alloc (.cells #[.slice A n c, .slice D m d, .slice E q e] 37)).alloc (.cells #[.slice A' n c', .slice D' m d', .slice E' q e'] 37) = W at hb0 hP hQ h1 h2 ⊢
  have hs0 := hb0.size
  refine (eqTermS_k A A' n c c' B B' ts W h1.out.1 h2.out.1 (by omega) (by omega) (by omega) (by omega)).mono ?_
  rintro e9 w1 ⟨rfl, hb1⟩
  have hs1 := hb1.size
  have hP1 := hP.next hb1
  have hQ1 := hQ.next hb1
  have p1 := hP1.cell 1
  have q1 := hQ1.cell 1
  simp at p1 q1
  go_wp2_with fail
  refine (eqStmtS_k D D' m d d' B B' xs w1 (h1.out.2.1.next hb1 (by omega)) (h2.out.2.1.next hb1 (by omega)) (by omega) (by omega) (by omega) (by omega)).mono ?_
  rintro e9 w2 ⟨rfl, hb2⟩
  have hs2 := hb2.size
  have p2 := (hP1.next hb2).cell 2
  have q2 := (hQ1.next hb2).cell 2
  simp at p2 q2
  clear p1 q1
  go_wp2_with fail
  refine (eqTermS_k E E' q e e' B B' us w2 ((h1.out.2.2.next hb1 (by omega)).next hb2 (by omega)) ((h2.out.2.2.next hb1 (by omega)).next hb2 (by omega)) (by omega) (by omega) (by omega) (by omega)).mono ?_
  rintro e9 w3 ⟨rfl, hb3⟩
  go_wp2_with fail
  go_ret
  exact ⟨rfl, bon (bon (bon hb0 hb1) hb2) hb3⟩
end Go.Proofs.YtajmbnimdngjhaaGreatDoor
