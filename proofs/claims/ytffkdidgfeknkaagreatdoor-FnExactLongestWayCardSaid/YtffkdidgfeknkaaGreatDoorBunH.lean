/-
  Several texts in one: Open, Graph, GrO. Conditions: as each says.
-/
import Derived.Test.YtffkdidgfeknkaaGreatDoorWith
import Derived.Test.YtffkdidgfeknkaaGreatDoorBunC
import Derived.Lib.SliceRun
import Derived.Test.YtffkdidgfeknkaaGreatDoorDelG
import Derived.Test.YtffkdidgfeknkaaGreatDoorBunF
import Derived.Test.YtffkdidgfeknkaaGreatDoorBunG

/-! The program's optimiser: whether a place is open; one instruction deleted. Conditions: valid code. -/
namespace Go.Proofs.YtffkdidgfeknkaaGreatDoor
set_option linter.unusedVariables false
open Go.RowKit

set_option maxRecDepth 100000 in
theorem atPlace_c (P : Nat) (a k : Int) (A : Option Addr) (n c : Nat) (w : World) (hP : w.cell? ⟨P, 0, none⟩ = some (.int .i64 k)) :
    Calls Tryz.prog 93 #[.agg #[.int .i64 a, .slice A n c], .pointer (some ⟨P, 0, none⟩)] w fun e w' => e = .returned (.bool (a == k)) ∧ Below w.heap.size w w' := by
  have hb := bnew w (.cells #[.int .i64 a, .slice A n c] 56)
  have p0 := cell_next hP hb
  go_enter Tryz.func93, Tryz.ntmps93
  go_wp2_with fail
  go_ret
  exact ⟨rfl, hb⟩

set_option maxRecDepth 100000 in
set_option maxHeartbeats 4000000 in
theorem indexP_c (P : Nat) (k : Int) (A : Option Addr) (n c B : Nat) (ps : List P2) (w : World) (hP : w.cell? ⟨P, 0, none⟩ = some (.int .i64 k)) (h : InP2 w B A n ps) (hB : B ≤ w.heap.size) (hn : n ≤ 1048576) :
    Calls Tryz.prog 92 #[.slice A n c, .func (Fn.func 93) #[] #[.pointer (some ⟨P, 0, none⟩)]] w fun e w' => ∃ r : Int, e = .returned (.int .i64 r) ∧ (r == -1) = !ptB ps k ∧ Below w.heap.size w w' := by
  have hlen := Lib.hid h.1
  go_enter Tryz.func92, Tryz.ntmps92
  go_wp2_with fail
  go_loopw [5, 8] (fun _ q wr => ∃ j : Nat, j ≤ n ∧ q = .int .i64 j ∧ Hid (ptB (ps.take j) k = false) ∧ Below w.heap.size w wr) (fun _ q _ => n - (intOf q).toNat)
  case atStart => exact ⟨0, Nat.zero_le _, rfl, Lib.hid rfl, Below.refl _ _⟩
  case round =>
    obtain ⟨j, hj, rfl, ha, hb⟩ := hrel
    by_cases hlt : j < n
    · obtain ⟨b, off, x, rfl, hbB, hx, A0, n0, c0, q0, q1, kf⟩ := (h.next hb hB).at_ hlt
      have HC := Lib.hid (atPlace_c P x.a k A0 n0 c0 wr (cell_next hP hb))
      clear kf
      by_cases hk : x.a = k
      · have e0 : (x.a == k) = true := by simp [hk]
        have HN := Lib.hid (ptB_yes hx hk)
        rw [e0] at HC
        clear hx ha hk
        go_wp2_with fail
        refine HC.out.mono ?_
        rintro e w1 ⟨rfl, hb1⟩
        go_wp2_with fail
        go_ret
        exact ⟨(j : Int), rfl, (by rw [HN.out]; first | (simp; done) | (simp; omega)), bon hb hb1⟩
      · have e0 : (x.a == k) = false := by simp [hk]
        have HS := Lib.hid (ptB_take_no ha.out hx hk)
        rw [e0] at HC
        clear hx ha hk
        go_wp2_with fail
        refine HC.out.mono ?_
        rintro e w1 ⟨rfl, hb1⟩
        go_wp2_with fail
        go_roundw
        case rel => exact ⟨j + 1, by omega, by go_num, HS, bon hb hb1⟩
        case measure => simp [intOf]; omega
    · have HN := Lib.hid (ptB_all ha.out (by rw [hlen.out]; omega))
      clear ha
      go_wp2_with fail
      go_ret
      exact ⟨-1, rfl, by rw [HN.out]; rfl, hb⟩

set_option maxRecDepth 100000 in
set_option maxHeartbeats 4000000 in
theorem pointAt_c (v0 v1 v2 : Value) (k : Int) (A : Option Addr) (n c B : Nat) (ps : List P2) (w : World) (h : InP2 w B A n ps) (hB : B ≤ w.heap.size) (hn : n ≤ 1048576) :
    Calls Tryz.prog 73 #[.agg #[v0, v1, v2, .slice A n c], .int .i64 k] w fun e w' => ∃ r : Int, e = .returned (.int .i64 r) ∧ (r == -1) = !ptB ps k ∧ Below w.heap.size w w' := by
  have hb0 : Below w.heap.size w ((w.alloc (.cells #[v0, v1, v2, .slice A n c] 35)).alloc (.cells #[.int .i64 k] 2)) := bon (bnew _ _) (bnew _ _)
  have p3 : ((w.alloc (.cells #[v0, v1, v2, .slice A n c] 35)).alloc (.cells #[.int .i64 k] 2)).cell? ⟨w.heap.size, 3, none⟩ = some (.slice A n c) := by simp
  have pk : ((w.alloc (.cells #[v0, v1, v2, .slice A n c] 35)).alloc (.cells #[.int .i64 k] 2)).cell? ⟨w.heap.size + 1, 0, none⟩ = some (.int .i64 k) := by simp
  have HC := Lib.hid (indexP_c (w.heap.size + 1) k A n c B ps _ pk (h.next hb0 hB) (Nat.le_trans hB hb0.size) hn)
  clear pk h
  go_enter Tryz.func73, Tryz.ntmps73
  go_wp2_with fail
  refine HC.out.mono ?_
  rintro e w1 ⟨r, rfl, hr, hb1⟩
  have HR := Lib.hid hr
  clear hr
  go_wp2_with fail
  go_ret
  exact ⟨r, rfl, HR.out, bon hb0 hb1⟩

end Go.Proofs.YtffkdidgfeknkaaGreatDoor

/-! The graph of annotated code: for each instruction those without a point to which it goes on. Conditions: valid annotated code. -/
namespace Go.Proofs.YtffkdidgfeknkaaGreatDoor
set_option linter.unusedVariables false
open Go.RowKit

def testB (n : Int) (ps : List P2) (z : Int) : Bool := decide (n ≤ z) || ptB ps z
theorem gList_is (xs : List (Int × Int)) (ps : List P2) (k : Nat) : gList xs (atsP ps) k = (tgtN xs k).filter fun z => !testB (xs.length : Int) ps z := by
  unfold gList
  congr 1
  funext t
  unfold testB
  rw [Bool.not_or]
  congr 1
  · rw [Bool.eq_iff_iff]; simp
  · congr 1
    rw [Bool.eq_iff_iff, ptB_ats]
    simp
set_option maxRecDepth 100000 in
set_option maxHeartbeats 1000000 in
theorem graphTest_c (P : Nat) (A0 : Option Addr) (n0 c0 : Nat) (A1 : Option Addr) (n1 c1 : Nat) (A : Option Addr) (n c : Nat) (A3 : Option Addr) (n3 c3 B : Nat) (ps : List P2) (z : Int) (W : World)
    (hP : BlkIs W P 35 #[.slice A0 n0 c0, .slice A1 n1 c1, .slice A n c, .slice A3 n3 c3]) (h3 : InP2 W B A3 n3 ps) (hB : B ≤ W.heap.size) (hn : n3 ≤ 1048576) :
    Calls Tryz.prog 72 #[.int .i64 z, .pointer (some ⟨P, 0, none⟩)] W fun e w' => e = .returned (.bool (testB (n : Int) ps z)) ∧ Below W.heap.size W w' := by
  have p0 := hP.cell 0
  have p1 := hP.cell 1
  have p2 := hP.cell 2
  have p3 := hP.cell 3
  simp at p0 p1 p2 p3
  by_cases hz : (n : Int) ≤ z
  · have HE : Hid (testB (n : Int) ps z = true) := by show testB _ _ _ = true; unfold testB; rw [decide_eq_true hz]; rfl
    go_enter Tryz.func72, Tryz.ntmps72
    go_wp2_with fail
    go_ret
    exact ⟨by rw [HE.out]; rfl, Below.refl _ _⟩
  · have hz' : ¬ (n : Int) ≤ z := hz
    have HE : Hid (testB (n : Int) ps z = ptB ps z) := by show testB _ _ _ = _; unfold testB; rw [decide_eq_false hz]; rfl
    have HP := Lib.hid (pointAt_c (.slice A0 n0 c0) (.slice A1 n1 c1) (.slice A n c) z A3 n3 c3 B ps W h3 hB hn)
    go_enter Tryz.func72, Tryz.ntmps72
    go_wp2_with fail
    refine HP.out.mono ?_
    rintro e w1 ⟨r, rfl, hr, hb1⟩
    have HR := Lib.hid hr
    clear hr
    go_wp2_with fail
    go_ret
    refine ⟨?_, hb1⟩
    rw [HE.out]
    have : (r != -1) = ptB ps z := by rw [bne, HR.out, Bool.not_not]
    rw [← this]
    rfl
theorem infoSet : (Tryz.prog.info? 68).map (fun i => (i.zero, i.size, i.bytes)) = some (some (.agg #[.int .u64 0, .int .u64 0]), 2, 16) := by kernel_rfl
/-- A row of sets that is laid as far as the first ones go. -/
def LaidG (ys : List Value) (k : Nat) (G : Nat → Nat) : Prop := ∀ j, j < k → ys[j * 2]? = some (.int .u64 (loW (G j) : Nat)) ∧ ys[j * 2 + 1]? = some (.int .u64 (hiW (G j) : Nat))
theorem LaidG.step {ys : List Value} {k n : Nat} {G : Nat → Nat} (h : LaidG ys k G) (hl : ys.length = n * 2) (hk : k < n) : LaidG ((ys.set (k * 2) (.int .u64 (loW (G k) : Nat))).set (k * 2 + 1) (.int .u64 (hiW (G k) : Nat))) (k + 1) G := fun j hj => by
  by_cases e : j = k
  · subst e
    refine ⟨?_, ?_⟩
    · rw [List.getElem?_set_ne (by omega), List.getElem?_set_self (by omega)]
    · rw [List.getElem?_set_self (by simp; omega)]
  · obtain ⟨a, b⟩ := h j (by omega)
    refine ⟨?_, ?_⟩
    · rw [List.getElem?_set_ne (by omega), List.getElem?_set_ne (by omega)]; exact a
    · rw [List.getElem?_set_ne (by omega), List.getElem?_set_ne (by omega)]; exact b

set_option maxRecDepth 100000 in
set_option maxHeartbeats 4000000 in
theorem graphOf_c (A0 : Option Addr) (n0 c0 : Nat) (t0 : List (Int × List Int)) (A1 : Option Addr) (n1 c1 : Nat) (t1 : List (Int × List Int)) (A : Option Addr) (n c B : Nat) (xs : List (Int × Int)) (A3 : Option Addr) (n3 c3 : Nat) (ps : List P2) (w : World)
    (h : InC w B A n xs) (h3 : InP2 w B A3 n3 ps) (hB : B ≤ w.heap.size) (hann : annB t0 t1 xs ps = true) :
    Calls Tryz.prog 37 #[.agg #[.slice A0 n0 c0, .slice A1 n1 c1, .slice A n c, .slice A3 n3 c3]] w fun e w' => ∃ gb, e = .returned (.slice (some ⟨gb, 0, none⟩) n n) ∧ w.heap.size ≤ gb ∧ GrAt w' gb n (gN xs (atsP ps)) ∧ Below w.heap.size w w' := by
  obtain ⟨i0, hi, hz0, hz1, hz2⟩ := info_parts infoSet
  have hv := (annB_parts hann).1
  have hps := (annB_small hann).2.2.2.1
  have hpn : ps.length = n3 := h3.1
  have hxn : xs.length = n := h.1
  have hp := codeB_parts hv
  have hn80 : 1 ≤ n ∧ n ≤ 80 := by omega
  have hb0 := bnew w (.cells #[.slice A0 n0 c0, .slice A1 n1 c1, .slice A n c, .slice A3 n3 c3] 35)
  have hP : BlkIs (w.alloc (.cells #[.slice A0 n0 c0, .slice A1 n1 c1, .slice A n c, .slice A3 n3 c3] 35)) w.heap.size 35 #[.slice A0 n0 c0, .slice A1 n1 c1, .slice A n c, .slice A3 n3 c3] := blk_new _ _ _ _ rfl
  have p2 := hP.cell 2
  simp at p2
  have HI := Lib.hid h
  have H3 := Lib.hid h3
  have HT := Lib.hid (tgt_in hv)
  have HV := Lib.hid hv
  clear h h3 hv hp hann
  go_enter Tryz.func37, Tryz.ntmps37
  go_upto_region 2 with (at_make; refine wpList_make_full _ rfl _ _ 70 rfl (w.heap.size + 1) 68 i0 (.agg #[.int .u64 0, .int .u64 0]) 2 Tryz.underlying70 hi hz0 hz1 .i64 .i64 _ _ n rfl rfl rfl rfl (by rw [hz2]; omega) (by unfold maxLen; omega) (by simp) ?_; intro w1 hown hgrow)
  rw [World.size_alloc] at hown
  have hb1 := (Below.refl (w.alloc (.cells #[.slice A0 n0 c0, .slice A1 n1 c1, .slice A n c, .slice A3 n3 c3] 35)).heap.size _).grown hgrow (Nat.le_refl _) (fun _ h => by cases h)
  have hP1 := hP.next hb1
  have hb01 := bon hb0 hb1
  have hlt1 : w.heap.size + 1 < w1.heap.size := (hown.lt (w.heap.size + 1) rfl).2
  obtain ⟨ys0, hys0⟩ : ∃ ys0, (madeCells (Value.agg #[Value.int IntKind.u64 0, Value.int IntKind.u64 0]).cells (n * 2)).toList = ys0 := ⟨_, rfl⟩
  rw [hys0] at hown
  obtain ⟨G, hG⟩ : ∃ G, gN xs (atsP ps) = G := ⟨_, rfl⟩
  have HGN := Lib.hid hG
  have hl0 : LaidG ys0 0 G := fun j hj => by omega
  clear hgrow hys0 hG hP hb0 hb1
  go_upto_region 3 with fail
  go_loopw [4, 11] (fun _ i wr => ∃ (k : Nat) (ys : List Value), k ≤ n ∧ i = .int .i64 k ∧ wr.ownsRow (w.heap.size + 1) 68 2 (.slice (some ⟨w.heap.size + 1, 0, none⟩) n n) n ys ∧ LaidG ys k G ∧ BlkIs wr w.heap.size 35 #[.slice A0 n0 c0, .slice A1 n1 c1, .slice A n c, .slice A3 n3 c3] ∧ Below w.heap.size w wr ∧ w.heap.size + 1 < wr.heap.size) (fun _ i _ => n - (intOf i).toNat)
  case atStart => exact ⟨0, ys0, Nat.zero_le _, rfl, hown, hl0, hP1, hb01, hlt1⟩
  case round =>
    clear hown hl0 hP1 hb01 hlt1
    obtain ⟨k, ys, hk, rfl, hown, hL, hP, hbel, hlt1⟩ := hrel
    have hyl : ys.length = n * 2 := hown.1
    by_cases hlt : k < n
    · have hkn : (k : Int) < (n : Int) := by omega
      have q2 := hP.cell 2
      simp at q2
      have hkl : k < xs.length := by omega
      have hx : xs[k]? = some xs[k] := List.getElem?_eq_getElem hkl
      have HTC := Lib.hid (targetsOf_c A n c B xs k xs[k] wr (HI.out.next hbel hB) (Nat.le_trans hB hbel.size) hx (by omega) (codeB_at HV.out hx))
      have htg : tgtN xs k = tgt1 xs[k].1 xs[k].2 k := by unfold tgtN; rw [List.getD_eq_getElem?_getD, hx]; rfl
      have hGk : G k = putsS 0 ((tgt1 xs[k].1 xs[k].2 k).filter fun z => !testB (xs.length : Int) ps z) := by
        rw [← HGN.out]
        unfold gN
        rw [gList_is, htg]
      have HGK := Lib.hid hGk
      have HTI := Lib.hid (HT.out k xs[k] hx)
      have htl := tgt_len xs[k].1 xs[k].2 k
      clear hx htg hGk
      generalize tgt1 xs[k].1 xs[k].2 k = ts at HTC HGK HTI htl
      go_wp2_with fail
      refine HTC.out.mono ?_
      rintro e w2 ⟨At, ct, rfl, hto, hb2⟩
      have hP2 := hP.next hb2
      have hown2 := own_below hown hb2
      have hb02 := bon hbel hb2
      have HTE : Hid (TestG (testB (n : Int) ps) w.heap.size wr.heap.size w2) := fun z W hW => by
        have hPW : BlkIs W w.heap.size 35 #[.slice A0 n0 c0, .slice A1 n1 c1, .slice A n c, .slice A3 n3 c3] := (hW.block w.heap.size (by omega)).trans hP2
        have hwW : Below w.heap.size w W := hb02.trans (hW.mono (by omega))
        exact graphTest_c w.heap.size A0 n0 c0 A1 n1 c1 A n c A3 n3 c3 B ps z W hPW (H3.out.next hwW hB) (Nat.le_trans hB hwW.size) (by omega)
      have HDE := Lib.hid (deleteG_c HTE.out At ct hto.2.1 hb2.size (by omega))
      clear HTC hP hown q2 hto HTE
      go_wp2_with fail
      refine HDE.out.mono ?_
      rintro e w3 ⟨Ad, cd, rfl, hdl, hb3⟩
      have hb23 : Below wr.heap.size wr w3 := hb2.trans hb3
      have hP3 : BlkIs w3 w.heap.size 35 #[.slice A0 n0 c0, .slice A1 n1 c1, .slice A n c, .slice A3 n3 c3] := (hb3.block w.heap.size (by omega)).trans hP2
      have hown3 : w3.ownsRow (w.heap.size + 1) 68 2 (.slice (some ⟨w.heap.size + 1, 0, none⟩) n n) n ys := by
        have e1 : w3.heap[w.heap.size + 1]? = w2.heap[w.heap.size + 1]? := hb3.block _ hlt1
        rcases hown2 with ⟨a1, a2 | ⟨g, cap, cur, k1, k2, k3, k4⟩⟩
        · exact ⟨a1, .inl a2⟩
        · have eg : g = w.heap.size + 1 := by injection k1 with k1; injection k1 with k1; injection k1 with k1; exact k1.symm
          subst eg
          exact ⟨a1, .inr ⟨_, cap, cur, k1, k2, e1.trans k3, k4⟩⟩
      have hflt : ∀ z ∈ ts.filter (fun z => !testB (n : Int) ps z), 0 ≤ z ∧ z < 128 := fun z hz => by
        have := HTI.out z (List.mem_filter.1 hz).1; omega
      have hfl : (ts.filter fun z => !testB (n : Int) ps z).length ≤ 2 := Nat.le_trans (List.length_filter_le _ _) htl
      have HPL := Lib.hid (placesOf_c Ad _ cd w3.heap.size _ w3 hdl (Nat.le_refl _) (by omega) hflt)
      have HGK2 : Hid (putsS 0 (ts.filter fun z => !testB (n : Int) ps z) = G k) := by show _ = _; rw [HGK.out, hxn]
      rw [HGK2.out] at HPL
      clear HDE hdl hP2 hown2 hflt
      go_wp2_with fail
      refine HPL.out.mono ?_
      rintro e w4 ⟨rfl, hb4⟩
      have hP4 := hP3.next hb4
      have hown4 := own_below hown3 hb4
      have hb24 := bon hbel (bon hb23 hb4)
      have c0 := hown4.cellAt (k * 2) (by omega)
      have c1 := hown4.cellAt (k * 2 + 1) (by omega)
      rw [List.getElem?_eq_getElem (by omega)] at c0 c1
      have f0 := hown4.frozenAt (k * 2)
      have f1 := hown4.frozenAt (k * 2 + 1)
      have hst := ((hown4.stored (k * 2) (.int .u64 (loW (G k) : Nat))).1.stored (k * 2 + 1) (.int .u64 (hiW (G k) : Nat))).1
      have HL := Lib.hid (hL.step hyl hlt)
      have hP5 := (hP4.far (show w.heap.size ≠ w.heap.size + 1 by omega) (k * 2) (.int .u64 (loW (G k) : Nat))).far (show w.heap.size ≠ w.heap.size + 1 by omega) (k * 2 + 1) (.int .u64 (hiW (G k) : Nat))
      have hb5 := (hb24.setCell (p := ⟨w.heap.size + 1, k * 2, none⟩) (Nat.le_succ _) (.int .u64 (loW (G k) : Nat))).setCell (p := ⟨w.heap.size + 1, k * 2 + 1, none⟩) (Nat.le_succ _) (.int .u64 (hiW (G k) : Nat))
      have hs4 := hb4.size
      have hs23 := hb23.size
      clear hown3 hown4 hP3 hP4 HPL hL
      go_wp2_with fail
      go_roundw
      case rel => exact ⟨k + 1, _, by omega, by go_num, hst, HL.out, hP5, hb5, by simp; omega⟩
      case measure => simp [intOf]; omega
    · have e : k = n := by omega
      subst e
      have hGA : GrAt wr (w.heap.size + 1) k G := fun j hj => by
        obtain ⟨a, b⟩ := hL j hj
        exact ⟨(hown.cellAt (j * 2) (by omega)).trans a, (hown.cellAt (j * 2 + 1) (by omega)).trans b⟩
      clear hown hL hP
      go_wp2_with fail
      go_ret
      exact ⟨w.heap.size + 1, rfl, Nat.le_succ _, by rw [HGN.out]; exact hGA, hbel⟩
end Go.Proofs.YtffkdidgfeknkaaGreatDoor

/-! Graphs in rows of the call's own, and a copy of one. Conditions: at most 1000 instructions. -/
namespace Go.Proofs.YtffkdidgfeknkaaGreatDoor
set_option linter.unusedVariables false
open Go.RowKit

def flatG (G : Nat → Nat) : Nat → List Value
  | 0 => []
  | k + 1 => flatG G k ++ [.int .u64 (loW (G k) : Nat), .int .u64 (hiW (G k) : Nat)]
theorem flatG_len (G : Nat → Nat) : ∀ n, (flatG G n).length = n * 2
  | 0 => rfl
  | k + 1 => by
    show (flatG G k ++ _).length = _
    rw [List.length_append, flatG_len G k]
    simp; omega
theorem flatG_laid (G : Nat → Nat) : ∀ n, LaidG (flatG G n) n G
  | 0 => fun j hj => absurd hj (Nat.not_lt_zero _)
  | k + 1 => fun j hj => by
    have hl := flatG_len G k
    show (flatG G k ++ _)[j * 2]? = _ ∧ (flatG G k ++ _)[j * 2 + 1]? = _
    by_cases e : j = k
    · subst e
      rw [List.getElem?_append_right (by omega), List.getElem?_append_right (by omega), hl, Nat.sub_self, show j * 2 + 1 - j * 2 = 1 by omega]
      exact ⟨rfl, rfl⟩
    · rw [List.getElem?_append_left (by omega), List.getElem?_append_left (by omega)]
      exact flatG_laid G k j (by omega)
theorem flatG_cells {w : World} {gb : Nat} (G : Nat → Nat) : ∀ n, GrAt w gb n G → ∀ j u, (flatG G n)[j]? = some u → w.cell? ⟨gb, j, none⟩ = some u
  | 0, _ => fun j u h => by cases h
  | k + 1, hG => fun j u h => by
    have hl := flatG_len G k
    change (flatG G k ++ _)[j]? = _ at h
    by_cases e : j < k * 2
    · rw [List.getElem?_append_left (by omega)] at h
      exact flatG_cells G k (fun i hi => hG i (by omega)) j u h
    · rw [List.getElem?_append_right (by omega), hl] at h
      obtain ⟨h1, h2⟩ := hG k (Nat.lt_succ_self k)
      obtain ⟨d, rfl⟩ : ∃ d, j = k * 2 + d := ⟨j - k * 2, by omega⟩
      rw [Nat.add_sub_cancel_left] at h
      match d, h with
      | 0, h => rw [← Option.some.inj h]; exact h1
      | 1, h => rw [← Option.some.inj h]; exact h2
      | d + 2, h => simp at h
theorem flatG_one (G : Nat → Nat) : ∀ n, ∀ u ∈ flatG G n, u.oneCell' = true
  | 0 => fun u h => by cases h
  | k + 1 => fun u h => by
    rcases List.mem_append.1 (show u ∈ flatG G k ++ _ from h) with e | e
    · exact flatG_one G k u e
    · simp at e
      rcases e with rfl | rfl <;> rfl
/-- One set of a graph is another one. -/
theorem LaidG.upd {ys : List Value} {k n v : Nat} {R R' : Nat → Nat} (h : LaidG ys n R) (hl : ys.length = n * 2) (hk : k < n) (hv : R' k = v) (ho : ∀ j, j ≠ k → R' j = R j) : LaidG ((ys.set (k * 2) (.int .u64 (loW v : Nat))).set (k * 2 + 1) (.int .u64 (hiW v : Nat))) n R' := fun j hj => by
  by_cases e : j = k
  · subst e
    rw [hv]
    refine ⟨?_, ?_⟩
    · rw [List.getElem?_set_ne (by omega), List.getElem?_set_self (by omega)]
    · rw [List.getElem?_set_self (by simp; omega)]
  · obtain ⟨a, b⟩ := h j hj
    rw [ho j e]
    refine ⟨?_, ?_⟩
    · rw [List.getElem?_set_ne (by omega), List.getElem?_set_ne (by omega)]; exact a
    · rw [List.getElem?_set_ne (by omega), List.getElem?_set_ne (by omega)]; exact b

/-- A graph in a row of the call's own. -/
structure GrO (W : World) (lo gb n c : Nat) (R : Nat → Nat) : Prop where
  own : ∃ ys, W.ownsRow lo 68 2 (.slice (some ⟨gb, 0, none⟩) n c) n ys ∧ ys.length = n * 2 ∧ LaidG ys n R
section
variable {W W' : World} {lo gb n c k : Nat} {R : Nat → Nat}
theorem GrO.cells (h : GrO W lo gb n c R) (hk : k < n) : W.cell? ⟨gb, k * 2, none⟩ = some (.int .u64 (loW (R k) : Nat)) ∧ W.cell? ⟨gb, k * 2 + 1, none⟩ = some (.int .u64 (hiW (R k) : Nat)) := by
  obtain ⟨ys, h1, h2, h3⟩ := h.own
  obtain ⟨a, b⟩ := h3 k hk
  exact ⟨by rw [h1.cellAt (k * 2) (by omega)]; exact a, by rw [h1.cellAt (k * 2 + 1) (by omega)]; exact b⟩
theorem GrO.frozen (h : GrO W lo gb n c R) (i : Nat) : W.frozen? ⟨gb, i, none⟩ = false := by
  obtain ⟨ys, h1, h2, h3⟩ := h.own
  exact h1.frozenAt i
theorem GrO.next (h : GrO W lo gb n c R) (hb : Below W.heap.size W W') : GrO W' lo gb n c R := by
  obtain ⟨ys, h1, h2, h3⟩ := h.own
  exact ⟨ys, own_below h1 hb, h2, h3⟩
theorem GrO.lt (h : GrO W lo gb n c R) : lo ≤ gb ∧ gb < W.heap.size := by
  obtain ⟨ys, h1, h2, h3⟩ := h.own
  exact h1.lt gb rfl
theorem GrO.put {R' : Nat → Nat} {v : Nat} (h : GrO W lo gb n c R) (hk : k < n) (hv : R' k = v) (ho : ∀ j, j ≠ k → R' j = R j) : GrO ((W.setCell ⟨gb, k * 2, none⟩ (.int .u64 (loW v : Nat))).setCell ⟨gb, k * 2 + 1, none⟩ (.int .u64 (hiW v : Nat))) lo gb n c R' := by
  obtain ⟨ys, h1, h2, h3⟩ := h.own
  exact ⟨_, (((h1.stored (k * 2) (.int .u64 (loW v : Nat))).1).stored (k * 2 + 1) (.int .u64 (hiW v : Nat))).1, by rw [List.length_set, List.length_set]; exact h2, h3.upd h2 hk hv ho⟩
theorem GrO.other (h : GrO W lo gb n c R) {g i : Nat} {u : Value} (hne : g ≠ gb) : GrO (W.setCell ⟨g, i, none⟩ u) lo gb n c R := by
  obtain ⟨ys, h1, h2, h3⟩ := h.own
  exact ⟨ys, ownsRow_setCell_other (a := ⟨g, i, none⟩) h1 (fun e => hne (Option.some.inj (show some gb = some g from e)).symm) u, h2, h3⟩
theorem GrO.same {R' : Nat → Nat} (h : GrO W lo gb n c R) (e : R' = R) : GrO W lo gb n c R' := by rw [e]; exact h
end

set_option maxRecDepth 100000 in
set_option maxHeartbeats 2000000 in
theorem cloneG_c (gb n c : Nat) (G : Nat → Nat) (w : World) (h : GrAt w gb n G) (hn : 1 ≤ n ∧ n ≤ 1000) :
    Calls Tryz.prog 74 #[.slice (some ⟨gb, 0, none⟩) n c] w fun e w' => ∃ g' c', e = .returned (.slice (some ⟨g', 0, none⟩) n c') ∧ GrO w' w.heap.size g' n c' G ∧ Below w.heap.size w w' := by
  obtain ⟨i0, hi, hz0, hz1, hz2⟩ := info_parts infoSet
  have q22 : ∀ (w : World) (a : Option Addr) (n c n' c' : Nat), (binOp .eql 70 (.slice a n c) (.slice none n' c')).run Tryz.prog w = .ok (.bool a.isNone) w := fun w a n c n' c' => Lib.run_eql_slice_nil w _ _ a n c n' c' Tryz.underlying70
  have hb0 := bnew w (.cells #[] 68)
  have hG := h.next hb0
  obtain ⟨v', w', e1, e2, e3, _⟩ := run_append_own (w.alloc (.cells #[] 68)) w.heap.size 70 70 68 i0 (.agg #[.int .u64 0, .int .u64 0]) 2 16 Tryz.underlying70 hi hz0 hz1 hz2 rfl (by decide) _ 0 _ (own_empty2 w 68) ⟨gb, 0, none⟩ n c (flatG G n) (by rw [flatG_len])
    (fun j u hu => by
      have ha : (⟨gb, 0, none⟩ : Addr).add j = ⟨gb, j, none⟩ := by unfold Addr.add; simp; try omega
      rw [ha]; exact flatG_cells G n hG j u hu) (flatG_one G n) (by unfold maxLen; omega) (by omega) hb0.size
  rw [Nat.zero_add, List.nil_append] at e2
  have hbw : Below w.heap.size w w' := hb0.grown e3 hb0.size (fun j hj => by have := (own_empty2 w 68).lt j hj; exact this.1)
  rcases e2.2 with ⟨h1, h2⟩ | ⟨g, cap, cur, rfl, h2, h3⟩
  · exfalso
    rw [h1] at e2
    omega
  · have E1 := Lib.hid e1
    have HO := Lib.hid e2
    clear e1 e2 e3 h hG h2 h3
    go_enter Tryz.func74, Tryz.ntmps74
    go_wp2_with (at_builtin; refine Lib.wpList_append_run (w.alloc (.cells #[] 68)) rfl _ _ _ _ rfl _ _ rfl rfl _ _ E1.out ?_)
    go_ret
    exact ⟨g, cap, rfl, ⟨_, HO.out, flatG_len G n, flatG_laid G n⟩, hbw⟩
end Go.Proofs.YtffkdidgfeknkaaGreatDoor
