/-
  Sequents: how the law counts, copies and compares them; whether one is valid. Conditions: at most 2^20 terms and coefficients.
-/
import Derived.Test.YtahlpjhhbcjfpaaDoorBlk
namespace Go.Proofs.YtahlpjhhbcjfpaaDoor
open Go.RowKit

set_option maxRecDepth 100000 in
set_option maxHeartbeats 1000000 in
theorem szSequent_k (c0 : Int) (A : Option Addr) (n c B : Nat) (ts : List (Int × List Int)) (A' : Option Addr) (m c' : Nat) (left : Int) (w : World) (h : InTS w B A n ts) (hB : B ≤ w.heap.size) (hl0 : 0 ≤ left) (hl1 : left ≤ 1048576) (hn : n ≤ maxLen) (he : ∀ t ∈ ts, t.2.length ≤ maxLen) (hm : m ≤ maxLen) :
    Calls Tryd.prog 26 #[.agg #[.slice A n c, .int .i64 c0, .slice A' m c'], .int .i64 left] w fun e w' => e = .returned (.int .i64 (szv left (n + totT ts + m))) ∧ Below w.heap.size w w' := by
  have hb0 := bnew w (.cells #[.slice A n c, .int .i64 c0, .slice A' m c'] 51)
  have p1 : (w.alloc (.cells #[.slice A n c, .int .i64 c0, .slice A' m c'] 51)).cell? ⟨w.heap.size, 1, none⟩ = some (.int .i64 c0) := by simp
  have p2 : (w.alloc (.cells #[.slice A n c, .int .i64 c0, .slice A' m c'] 51)).cell? ⟨w.heap.size, 2, none⟩ = some (.slice A' m c') := by simp
  have hin := Lib.hid (h.next hb0 hB)
  have hE := Lib.hid he
  clear h he
  go_enter Tryd.func26, Tryd.ntmps26
  go_wp2_with fail
  generalize w.alloc (.cells #[.slice A n c, .int .i64 c0, .slice A' m c'] 51) = W at hb0 p1 p2 hin ⊢
  have hs0 := hb0.size
  refine (szTermS_k A n c B ts left W hin.out (by omega) hl0 hl1 hn hE.out).mono ?_
  rintro e w1 ⟨rfl, hb1⟩
  have q1 := cell_next p1 hb1
  have q2 := cell_next p2 hb1
  rcases Int.lt_or_le left (n + totT ts : Nat) with hq | hq
  · have HV : Hid (szv left (n + totT ts + m) = -1) := szv_no (by omega)
    rw [szv_no hq]
    clear hq
    go_wp2_with fail
    go_ret
    exact ⟨ret_int HV.out.symm, hb0.trans (hb1.mono hs0)⟩
  · rw [szv_yes hq]
    have hp : 0 ≤ left - ((n + totT ts : Nat) : Int) := by omega
    have HSZ := Lib.hid (szTerm_c c0 A' m c' (left - ((n + totT ts : Nat) : Int)) w1 hp (by omega) hm)
    have HQ : Hid (szv (left - ((n + totT ts : Nat) : Int)) m = szv left (n + totT ts + m)) := by
      show _ = _
      rcases Int.lt_or_le (left - ((n + totT ts : Nat) : Int)) m with h | h
      · rw [szv_no h, szv_no (by omega)]
      · rw [szv_yes h, szv_yes (by omega)]; omega
    clear hq
    generalize left - ((n + totT ts : Nat) : Int) = L at hp HSZ HQ ⊢
    have hc : 0 ≤ szv L m ∨ szv L m = -1 := by
      rcases Int.lt_or_le L m with h | h
      · exact .inr (szv_no h)
      · exact .inl (by rw [szv_yes h]; omega)
    generalize szv L m = V at HSZ HQ hc
    go_wp2_with fail
    refine HSZ.out.mono ?_
    rintro e w2 ⟨rfl, hb2⟩
    have hbf := hb0.trans ((bon hb1 hb2).mono hs0)
    rcases hc with hc | rfl
    · go_wp2_with fail
      go_ret
      exact ⟨ret_int HQ.out, hbf⟩
    · go_wp2_with fail
      go_ret
      exact ⟨ret_int HQ.out, hbf⟩

set_option maxRecDepth 100000 in
set_option maxHeartbeats 2000000 in
theorem toSequent_k (c0 : Int) (A : Option Addr) (n c B : Nat) (ts : List (Int × List Int)) (A' : Option Addr) (m c' : Nat) (zs : List Int) (w : World) (h : InTS w B A n ts) (h' : InL w B A' m zs) (hB : B ≤ w.heap.size) (hn : n ≤ 1048576) (he : totT ts ≤ 1048576) (hm : m ≤ 1048576) :
    Calls Tryd.prog 28 #[.agg #[.slice A n c, .int .i64 c0, .slice A' m c']] w fun e w' => ∃ g g' mid, e = .returned (.agg #[.slice (some ⟨g, 0, none⟩) n n, .int .i64 c0, .slice (some ⟨g', 0, none⟩) m m]) ∧
      OwnTS w' w.heap.size mid (some ⟨g, 0, none⟩) n n ts ∧ OwnL w' mid w'.heap.size (some ⟨g', 0, none⟩) m m zs ∧ (w.heap.size ≤ mid ∧ mid ≤ w'.heap.size) ∧ Below w.heap.size w w' := by
  have hb0 : Below w.heap.size w (((w.alloc (.cells #[.slice A n c, .int .i64 c0, .slice A' m c'] 51)).alloc (.cells #[.slice none 0 0, .int .i64 0, .slice none 0 0] 56)).alloc (.cells #[.slice none 0 0, .int .i64 0, .slice none 0 0] 56)) := bon (bon (bnew _ _) (bnew _ _)) (bnew _ _)
  have hsz : (((w.alloc (.cells #[.slice A n c, .int .i64 c0, .slice A' m c'] 51)).alloc (.cells #[.slice none 0 0, .int .i64 0, .slice none 0 0] 56)).alloc (.cells #[.slice none 0 0, .int .i64 0, .slice none 0 0] 56)).heap.size = w.heap.size + 3 := by simp
  have hin := Lib.hid (h.next hb0 hB)
  have hin' := Lib.hid (h'.next hb0 hB)
  clear h h'
  have hP : BlkIs (((w.alloc (.cells #[.slice A n c, .int .i64 c0, .slice A' m c'] 51)).alloc (.cells #[.slice none 0 0, .int .i64 0, .slice none 0 0] 56)).alloc (.cells #[.slice none 0 0, .int .i64 0, .slice none 0 0] 56)) w.heap.size 51 #[.slice A n c, .int .i64 c0, .slice A' m c'] := ((blk_new w _ _ _ rfl).next (bnew _ _)).next (bnew _ _)
  have hR : BlkIs (((w.alloc (.cells #[.slice A n c, .int .i64 c0, .slice A' m c'] 51)).alloc (.cells #[.slice none 0 0, .int .i64 0, .slice none 0 0] 56)).alloc (.cells #[.slice none 0 0, .int .i64 0, .slice none 0 0] 56)) (w.heap.size + 1) 56 #[.slice none 0 0, .int .i64 0, .slice none 0 0] := (blk_new _ _ _ _ (by simp)).next (bnew _ _)
  have hO : BlkIs (((w.alloc (.cells #[.slice A n c, .int .i64 c0, .slice A' m c'] 51)).alloc (.cells #[.slice none 0 0, .int .i64 0, .slice none 0 0] 56)).alloc (.cells #[.slice none 0 0, .int .i64 0, .slice none 0 0] 56)) (w.heap.size + 1 + 1) 56 #[.slice none 0 0, .int .i64 0, .slice none 0 0] := blk_new _ _ _ _ (by simp)
  go_enter Tryd.func28, Tryd.ntmps28
  go_wp2_with fail
  generalize ((w.alloc (.cells #[.slice A n c, .int .i64 c0, .slice A' m c'] 51)).alloc (.cells #[.slice none 0 0, .int .i64 0, .slice none 0 0] 56)).alloc (.cells #[.slice none 0 0, .int .i64 0, .slice none 0 0] 56) = W at hb0 hsz hin hin' hP hR hO ⊢
  refine (toTermS_k A n c B ts W hin.out (by omega) hn he).mono ?_
  rintro e w1 ⟨g, rfl, hts, hb1⟩
  have hs1 := hb1.size
  have hP1 := hP.next hb1
  have hR1 := hR.next hb1
  have hO1 := hO.next hb1
  have p1 := hP1.cell 1
  have p2 := hP1.cell 2
  have o0 := hO1.cell 0
  have f0 := hO1.frozen 0
  go_wp2_with fail
  have hset : Out (w.heap.size + 1 + 1) (w.heap.size + 1 + 1 + 1) w1 (w1.setCell ⟨w.heap.size + 1 + 1, 0, none⟩ (.slice (some ⟨g, 0, none⟩) n n)) := Out.of_grown (only_set (g := w.heap.size + 1 + 1)) (fun j hj => by injection hj; omega)
  have hR2 := hR1.far (g' := w.heap.size + 1 + 1) (by omega) 0 (.slice (some ⟨g, 0, none⟩) n n)
  have hO2 := hO1.set 0 (.slice (some ⟨g, 0, none⟩) n n)
  generalize w1.setCell ⟨w.heap.size + 1 + 1, 0, none⟩ (.slice (some ⟨g, 0, none⟩) n n) = w2 at hset hR2 hO2 ⊢
  have hs2 := hset.size
  have hts2 := hts.out hset (by omega)
  have hinW := (hin'.out.next hb1 (by omega)).next (hset.below (Nat.le_succ_of_le (Nat.le_succ _)) (by omega)) hB
  have hb02 : Below w.heap.size w w2 := (hb0.trans (hb1.mono (by omega))).trans (hset.below (Nat.le_succ_of_le (Nat.le_succ _)) (by omega))
  refine (toTerm_k c0 A' m c' B zs w2 hinW (by omega) hm).mono ?_
  rintro e w3 ⟨g', rfl, htl, hb3⟩
  have hs3 := hb3.size
  have hR3 := hR2.next hb3
  have hO3 := hO2.next hb3
  have r0 := hR3.cell 0
  have r1 := hR3.cell 1
  have r2 := hR3.cell 2
  have q0 := hO3.cell 0
  have q1 := hO3.cell 1
  have q2 := hO3.cell 2
  have f1 := hO3.frozen 1
  have f2 := hO3.frozen 2
  have k0 := hR3.frozen 0
  have k1 := hR3.frozen 1
  have k2 := hR3.frozen 2
  clear p1 p2 o0 f0
  simp at r0 r1 r2 q0 q1 q2
  have hts3 := hts2.next hb3
  have hb03 := hb02.trans (hb3.mono hb02.size)
  go_wp2_with fail
  refine bodyPost_ret (v := .agg #[.slice (some ⟨g, 0, none⟩) n n, .int .i64 c0, .slice (some ⟨g', 0, none⟩) m m]) (by simp [results, Tryd.results28, go_sem, r0, r1, r2]) rfl ?_
  have ho : Out (w.heap.size + 1) (w.heap.size + 3) w3 (((((w3.setCell ⟨w.heap.size + 1 + 1, 1, none⟩ (.int .i64 c0)).setCell ⟨w.heap.size + 1 + 1, 2, none⟩ (.slice (some ⟨g', 0, none⟩) m m)).setCell ⟨w.heap.size + 1, 0, none⟩ (.slice (some ⟨g, 0, none⟩) n n)).setCell ⟨w.heap.size + 1, 1, none⟩ (.int .i64 c0)).setCell ⟨w.heap.size + 1, 2, none⟩ (.slice (some ⟨g', 0, none⟩) m m)) :=
    out_set (out_set (out_set (out_set (out_set (Out.refl _ _ _) (by omega)) (by omega)) (by omega)) (by omega)) (by omega)
  have hso := ho.size
  exact ⟨g, g', w1.heap.size, rfl, (hts3.out ho (by omega)).less (by omega), ((htl.out ho (by omega)).less (by omega)).wide hso (Nat.le_refl _), ⟨by omega, by omega⟩, hb03.trans (ho.below (by omega) (by omega))⟩

set_option maxRecDepth 100000 in
set_option maxHeartbeats 1000000 in
theorem eqSequent_k (c0 : Int) (A A' : Option Addr) (n c c' : Nat) (ts : List (Int × List Int)) (D D' : Option Addr) (m d d' : Nat) (zs : List Int) (B B' : Nat) (w : World) (h : InTS w B A n ts) (hl : InL w B D m zs) (h' : InTS w B' A' n ts) (hl' : InL w B' D' m zs)
    (hB : B ≤ w.heap.size) (hB' : B' ≤ w.heap.size) (hn : n ≤ 1048576) (he : totT ts ≤ 1048576) (hm : m ≤ 1048576) :
    Calls Tryd.prog 30 #[.agg #[.slice A n c, .int .i64 c0, .slice D m d], .agg #[.slice A' n c', .int .i64 c0, .slice D' m d']] w fun e w' => e = .returned (.bool true) ∧ Below w.heap.size w w' := by
  have hb0 : Below w.heap.size w ((w.alloc (.cells #[.slice A n c, .int .i64 c0, .slice D m d] 56)).alloc (.cells #[.slice A' n c', .int .i64 c0, .slice D' m d'] 56)) := bon (bnew _ _) (bnew _ _)
  have hP : BlkIs ((w.alloc (.cells #[.slice A n c, .int .i64 c0, .slice D m d] 56)).alloc (.cells #[.slice A' n c', .int .i64 c0, .slice D' m d'] 56)) w.heap.size 56 #[.slice A n c, .int .i64 c0, .slice D m d] := (blk_new w _ _ _ rfl).next (bnew _ _)
  have hQ : BlkIs ((w.alloc (.cells #[.slice A n c, .int .i64 c0, .slice D m d] 56)).alloc (.cells #[.slice A' n c', .int .i64 c0, .slice D' m d'] 56)) (w.heap.size + 1) 56 #[.slice A' n c', .int .i64 c0, .slice D' m d'] := blk_new _ _ _ _ (by simp)
  have h1 := Lib.hid (h.next hb0 hB)
  have h2 := Lib.hid (hl.next hb0 hB)
  have h3 := Lib.hid (h'.next hb0 hB')
  have h4 := Lib.hid (hl'.next hb0 hB')
  clear h hl h' hl'
  go_enter Tryd.func30, Tryd.ntmps30
  go_wp2_with fail
  generalize (w.alloc (.cells #[.slice A n c, .int .i64 c0, .slice D m d] 56)).alloc (.cells #[.slice A' n c', .int .i64 c0, .slice D' m d'] 56) = W at hb0 hP hQ h1 h2 h3 h4 ⊢
  have hs0 := hb0.size
  refine (eqTermS_k A A' n c c' B B' ts W h1.out h3.out (by omega) (by omega) hn he).mono ?_
  rintro e w1 ⟨rfl, hb1⟩
  have hs1 := hb1.size
  have p1 := (hP.next hb1).cell 1
  have p2 := (hP.next hb1).cell 2
  have q1 := (hQ.next hb1).cell 1
  have q2 := (hQ.next hb1).cell 2
  simp at p1 p2 q1 q2
  go_wp2_with fail
  refine (eqTerm_k c0 D D' m d d' B B' zs w1 (h2.out.next hb1 (by omega)) (h4.out.next hb1 (by omega)) (by omega) (by omega) hm).mono ?_
  rintro e w2 ⟨rfl, hb2⟩
  go_wp2_with fail
  go_ret
  exact ⟨rfl, hb0.trans ((bon hb1 hb2).mono hs0)⟩

/-- A valid sequent. -/
def seqB (ts : List (Int × List Int)) (g : Int × List Int) : Bool := allT 13 ts && tmB g
set_option maxRecDepth 100000 in
set_option maxHeartbeats 1000000 in
theorem l02Sequent_c (b o : Nat) (c0 : Int) (A : Option Addr) (n c B : Nat) (ts : List (Int × List Int)) (D : Option Addr) (m d : Nat) (zs : List Int) (w : World)
    (q0 : w.cell? ⟨b, o, none⟩ = some (.slice A n c)) (q1 : w.cell? ⟨b, o + 1, none⟩ = some (.int .i64 c0)) (q2 : w.cell? ⟨b, o + 1 + 1, none⟩ = some (.slice D m d)) (h : InTS w B A n ts) (hl : InL w B D m zs) (hn : n ≤ 1048576) (he : totT ts ≤ 1048576) (hm : m ≤ 1048576) :
    Calls Tryd.prog 73 #[.pointer (some ⟨b, o, none⟩)] w fun e w' => e = .returned (.bool (seqB ts (c0, zs))) ∧ w = w' := by
  have HA := Lib.hid (l02All_c A n c B ts 13 w h hn he)
  have HI := Lib.hid (l02Is_c b (o + 1) c0 D m d B zs w q1 q2 hl.2 hl.1 hm)
  clear h hl
  cases hv : allT 13 ts with
  | true =>
    have HV : Hid (seqB ts (c0, zs) = tmB (c0, zs)) := by show _ = _; unfold seqB; rw [hv]; rfl
    rw [hv] at HA
    clear hv
    go_enter Tryd.func73, Tryd.ntmps73
    go_wp2_with fail
    refine HA.out.mono ?_
    rintro e w1 ⟨rfl, rfl⟩
    go_wp2_with fail
    refine HI.out.mono ?_
    rintro e w1 ⟨rfl, rfl⟩
    go_wp2_with fail
    go_ret
    exact ⟨ret_bool HV.out.symm, rfl⟩
  | false =>
    have HV : Hid (seqB ts (c0, zs) = false) := by show _ = _; unfold seqB; rw [hv]; rfl
    rw [hv] at HA
    clear hv
    go_enter Tryd.func73, Tryd.ntmps73
    go_wp2_with fail
    refine HA.out.mono ?_
    rintro e w1 ⟨rfl, rfl⟩
    go_wp2_with fail
    go_ret
    exact ⟨ret_bool HV.out.symm, rfl⟩
set_option maxRecDepth 100000 in
set_option maxHeartbeats 1000000 in
theorem implSeq_c (c0 : Int) (A : Option Addr) (n c B : Nat) (ts : List (Int × List Int)) (D : Option Addr) (m d : Nat) (zs : List Int) (w : World) (h : InTS w B A n ts) (hl : InL w B D m zs) (hB : B ≤ w.heap.size) (he : totT ts ≤ 1048576) (hm : m ≤ 1048576) :
    Calls Tryd.prog 76 #[.agg #[.slice A n c, .int .i64 c0, .slice D m d]] w fun e w' => e = .returned (.bool (seqB ts (c0, zs))) ∧ Below w.heap.size w w' := by
  have hb0 := bnew w (.cells #[.slice A n c, .int .i64 c0, .slice D m d] 56)
  have hP : BlkIs (w.alloc (.cells #[.slice A n c, .int .i64 c0, .slice D m d] 56)) w.heap.size 56 #[.slice A n c, .int .i64 c0, .slice D m d] := blk_new _ _ _ _ rfl
  have h1 := Lib.hid (h.next hb0 hB)
  have h2 := Lib.hid (hl.next hb0 hB)
  clear h hl
  go_enter Tryd.func76, Tryd.ntmps76
  go_wp2_with fail
  generalize w.alloc (.cells #[.slice A n c, .int .i64 c0, .slice D m d] 56) = W at hb0 hP h1 h2 ⊢
  have hs0 := hb0.size
  refine (areTerms_c A n c B ts 13 W h1.out (by omega) he (by omega)).mono ?_
  rintro e w1 ⟨rfl, hb1⟩
  have hs1 := hb1.size
  have p1 := (hP.next hb1).cell 1
  have p2 := (hP.next hb1).cell 2
  simp at p1 p2
  have hbf := hb0.trans (hb1.mono hs0)
  cases hv : allT 13 ts with
  | true =>
    have HV : Hid (seqB ts (c0, zs) = tmB (c0, zs)) := by show _ = _; unfold seqB; rw [hv]; rfl
    clear hv
    go_wp2_with fail
    refine (implValid_c c0 D m d B zs w1 (h2.out.next hb1 (by omega)).2 (by omega) h2.out.1 hm).mono ?_
    rintro e w2 ⟨rfl, hb2⟩
    go_wp2_with fail
    go_ret
    exact ⟨ret_bool HV.out.symm, hbf.trans (hb2.mono hbf.size)⟩
  | false =>
    have HV : Hid (seqB ts (c0, zs) = false) := by show _ = _; unfold seqB; rw [hv]; rfl
    clear hv
    go_wp2_with fail
    go_ret
    exact ⟨ret_bool HV.out.symm, hbf⟩
end Go.Proofs.YtahlpjhhbcjfpaaDoor
