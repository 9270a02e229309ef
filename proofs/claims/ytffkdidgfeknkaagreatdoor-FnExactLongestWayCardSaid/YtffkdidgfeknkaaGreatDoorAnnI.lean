/-
  When annotated code is valid: the model's ValidAnnotated and the program's. Conditions: at most 2^20 elements and numbers.
-/
import Derived.Test.YtffkdidgfeknkaaGreatDoorAnnV
namespace Go.Proofs.YtffkdidgfeknkaaGreatDoor
set_option linter.unusedVariables false
open Go.RowKit

set_option maxRecDepth 100000 in
set_option maxHeartbeats 4000000 in
theorem arePoints_c (A : Option Addr) (n c B len : Nat) (ps : List P2) (w : World) (h : InP2 w B A n ps) (hB : B ≤ w.heap.size) (hn : n ≤ 1048576) (he : totP2 ps ≤ 1048576) (hlen : len ≤ 1048576) :
    Calls Tryz.prog 65 #[.slice A n c, .int .i64 (len : Int)] w fun e w' => e = .returned (.bool (ptsB (len : Int) ps)) ∧ Below w.heap.size w w' := by
  have hl := Lib.hid h.1
  by_cases h8 : n ≤ 8
  · have HP : Hid (ptsB (len : Int) ps = ptsF (len : Int) 0 ps) := by show _ = _; exact ptsB_is (by rw [hl.out]; exact h8)
    have h82 : ¬ (8 < (n : Int)) := by omega
    go_enter Tryz.func65, Tryz.ntmps65
    go_wp2_with fail
    go_loopw [5, 7, 13] (fun l _ i wr => ∃ (k : Nat) (least : Int), k ≤ n ∧ i = .int .i64 k ∧ l = .int .i64 least ∧ 0 ≤ least ∧ Hid (ptsF (len : Int) 0 ps = ptsF (len : Int) least (ps.drop k)) ∧ Below w.heap.size w wr) (fun _ _ i _ => n - (intOf i).toNat)
    case atStart => exact ⟨0, 0, Nat.zero_le _, rfl, rfl, Int.le_refl 0, by show _ = _; rw [List.drop_zero], Below.refl _ _⟩
    case round =>
      obtain ⟨k, least, hk, rfl, rfl, hl0, hst, hbel⟩ := hrel
      have hsz := hbel.size
      by_cases hlt : k < n
      · obtain ⟨b, off, x, rfl, hb, ht, Af, nf, cf, q0, q1, kf⟩ := (h.next hbel hB).at_ hlt
        have hmx := totP2_mem (List.mem_of_getElem? ht)
        unfold P2.tot at hmx
        rw [kf.1] at hmx
        have hstep := ptsF_step (len := (len : Int)) (l := least) ht
        have hbA := bnew wr (.cells #[.int .i64 x.a, .slice Af nf cf] 56)
        have wn : IntKind.i64.wrap ((len : Int) - 1) = (len : Int) - 1 := IntWalk.i64_in _ (by omega)
        have HA0 := isBetween_i x.a least ((len : Int) - 1) (wr.alloc (.cells #[.int .i64 x.a, .slice Af nf cf] 56))
        have HF0 := areOver_c Af nf cf B x.s 6 (wr.alloc (.cells #[.int .i64 x.a, .slice Af nf cf] 56)) (kf.next hbA (by omega)) (by have := hbA.size; omega) (by omega) (by omega)
        have z0 : (wr.alloc (.cells #[.int .i64 x.a, .slice Af nf cf] 56)).cell? ⟨wr.heap.size, 0, none⟩ = some (.int .i64 x.a) := by simp
        have z1 : (wr.alloc (.cells #[.int .i64 x.a, .slice Af nf cf] 56)).cell? ⟨wr.heap.size, 1, none⟩ = some (.slice Af nf cf) := by simp
        cases hin : (decide (least ≤ x.a) && decide (x.a ≤ (len : Int) - 1)) with
        | false =>
          rw [hin] at HA0 hstep
          have HA := Lib.hid HA0
          have HN : Hid (ptsB (len : Int) ps = false) := by show _ = _; rw [HP.out, hst.out, hstep]; rfl
          clear ht kf hstep hst HP hmx HA0 HF0 hin
          go_wp2_with fail
          generalize wr.alloc (.cells #[.int .i64 x.a, .slice Af nf cf] 56) = W at hbA HA z0 z1 ⊢
          refine HA.out.mono ?_
          rintro e w1 ⟨rfl, rfl⟩
          go_wp2_with fail
          go_ret
          exact ⟨ret_bool HN.out.symm, bon hbel hbA⟩
        | true =>
          rw [hin] at HA0 hstep
          have HA := Lib.hid HA0
          cases hov : oversB 6 x.s with
          | false =>
            rw [hov] at HF0 hstep
            have HF := Lib.hid HF0
            have HN : Hid (ptsB (len : Int) ps = false) := by show _ = _; rw [HP.out, hst.out, hstep]; rfl
            clear ht kf hstep hst HP hmx HA0 HF0 hin hov
            go_wp2_with fail
            generalize wr.alloc (.cells #[.int .i64 x.a, .slice Af nf cf] 56) = W at hbA HA HF z0 z1 ⊢
            refine HA.out.mono ?_
            rintro e w1 ⟨rfl, rfl⟩
            go_wp2_with fail
            refine HF.out.mono ?_
            rintro e w1 ⟨rfl, hb1⟩
            go_wp2_with fail
            go_ret
            exact ⟨ret_bool HN.out.symm, bon (bon hbel hbA) hb1⟩
          | true =>
            rw [hov] at HF0 hstep
            have HF := Lib.hid HF0
            have HS : Hid (ptsF (len : Int) 0 ps = ptsF (len : Int) (x.a + 1) (ps.drop (k + 1))) := by show _ = _; rw [hst.out, hstep]; rfl
            simp only [Bool.and_eq_true, decide_eq_true_eq] at hin
            have hx0 : 0 ≤ x.a + 1 := by omega
            have wa : IntKind.i64.wrap (x.a + 1) = x.a + 1 := IntWalk.i64_in _ (by omega)
            clear ht kf hstep hst HP hmx HA0 HF0 hin hov
            go_wp2_with fail
            generalize wr.alloc (.cells #[.int .i64 x.a, .slice Af nf cf] 56) = W at hbA HA HF z0 z1 ⊢
            refine HA.out.mono ?_
            rintro e w1 ⟨rfl, rfl⟩
            go_wp2_with fail
            refine HF.out.mono ?_
            rintro e w1 ⟨rfl, hb1⟩
            have y0 := cell_next z0 hb1
            go_wp2_with fail
            go_roundw
            case rel => exact ⟨k + 1, x.a + 1, by omega, by go_num, by first | rfl | (rw [wa]), hx0, HS, bon (bon hbel hbA) hb1⟩
            case measure => simp [intOf]; omega
      · have HY : Hid (ptsB (len : Int) ps = true) := by show _ = _; rw [HP.out, hst.out]; exact ptsF_end (by have := hl.out; omega)
        go_wp2_with fail
        go_ret
        exact ⟨ret_bool HY.out.symm, hbel⟩
  · have HN : Hid (ptsB (len : Int) ps = false) := ptsB_long (by rw [hl.out]; omega)
    have h82 : 8 < (n : Int) := by omega
    go_enter Tryz.func65, Tryz.ntmps65
    go_wp2_with fail
    go_ret
    exact ⟨ret_bool HN.out.symm, Below.refl _ _⟩

set_option maxRecDepth 100000 in
set_option maxHeartbeats 4000000 in
theorem implAnn_c (A0 : Option Addr) (n0 c0 : Nat) (t0 : List (Int × List Int)) (A1 : Option Addr) (n1 c1 : Nat) (t1 : List (Int × List Int)) (A2 : Option Addr) (n2 c2 : Nat) (t2 : List (Int × Int)) (A3 : Option Addr) (n3 c3 : Nat) (t3 : List P2) (w : World) (h0 : InTS w w.heap.size A0 n0 t0) (h1 : InTS w w.heap.size A1 n1 t1) (h2 : InC w w.heap.size A2 n2 t2) (h3 : InP2 w w.heap.size A3 n3 t3) (hn0 : n0 ≤ 1048576) (he0 : totT t0 ≤ 1048576) (hn1 : n1 ≤ 1048576) (he1 : totT t1 ≤ 1048576) (hn2 : n2 ≤ 1048576) (hn3 : n3 ≤ 1048576) (he3 : totP2 t3 ≤ 1048576) :
    Calls Tryz.prog 28 #[.agg #[.slice A0 n0 c0, .slice A1 n1 c1, .slice A2 n2 c2, .slice A3 n3 c3]] w fun e w' => e = .returned (.bool (annB t0 t1 t2 t3)) ∧ Below w.heap.size w w' := by
  have hb0 := bnew w (.cells #[.slice A0 n0 c0, .slice A1 n1 c1, .slice A2 n2 c2, .slice A3 n3 c3] 35)
  have hP : BlkIs (w.alloc (.cells #[.slice A0 n0 c0, .slice A1 n1 c1, .slice A2 n2 c2, .slice A3 n3 c3] 35)) w.heap.size 35 #[.slice A0 n0 c0, .slice A1 n1 c1, .slice A2 n2 c2, .slice A3 n3 c3] := blk_new _ _ _ _ rfl
  have HC0 := implCode_c A2 n2 c2 w.heap.size t2 _ (h2.next hb0 (Nat.le_refl _)) hb0.size hn2
  have hl2 := Lib.hid h2.1
  have HF0 : Hid (∀ w1, Below w.heap.size w w1 → Calls Tryz.prog 64 #[.slice A0 n0 c0, .int .i64 6] w1 fun e w' => e = .returned (.bool (oversB 6 t0)) ∧ Below w1.heap.size w1 w') := fun w1 hb => areOver_c A0 n0 c0 w.heap.size t0 6 w1 (h0.next hb (Nat.le_refl _)) hb.size he0 (by omega)
  have HF1 : Hid (∀ w1, Below w.heap.size w w1 → Calls Tryz.prog 64 #[.slice A1 n1 c1, .int .i64 6] w1 fun e w' => e = .returned (.bool (oversB 6 t1)) ∧ Below w1.heap.size w1 w') := fun w1 hb => areOver_c A1 n1 c1 w.heap.size t1 6 w1 (h1.next hb (Nat.le_refl _)) hb.size he1 (by omega)
  have HF3 : Hid (∀ w1, Below w.heap.size w w1 → Calls Tryz.prog 65 #[.slice A3 n3 c3, .int .i64 (n2 : Int)] w1 fun e w' => e = .returned (.bool (ptsB (n2 : Int) t3)) ∧ Below w1.heap.size w1 w') := fun w1 hb => arePoints_c A3 n3 c3 w.heap.size n2 t3 w1 (h3.next hb (Nat.le_refl _)) hb.size hn3 he3 hn2
  clear h0 h1 h2 h3
  cases hv : codeB t2 with
  | false =>
    have HN := Lib.hid (annB_code (t0 := t0) (t1 := t1) (ps := t3) hv)
    rw [hv] at HC0
    have HC := Lib.hid HC0
    clear HC0 hv HF0 HF1 HF3
    go_enter Tryz.func28, Tryz.ntmps28
    go_wp2_with fail
    generalize w.alloc (.cells #[.slice A0 n0 c0, .slice A1 n1 c1, .slice A2 n2 c2, .slice A3 n3 c3] 35) = W at hb0 hP HC ⊢
    refine HC.out.mono ?_
    rintro e w1 ⟨rfl, hb1⟩
    go_wp2_with fail
    go_ret
    exact ⟨ret_bool HN.out.symm, bon hb0 hb1⟩
  | true =>
  rw [hv] at HC0
  have HC := Lib.hid HC0
  have HV := Lib.hid hv
  clear HC0 hv
  cases hv0 : oversB 6 t0 with
  | false =>
    have HN := Lib.hid (annB_pre (t1 := t1) (xs := t2) (ps := t3) hv0)
    rw [hv0] at HF0
    clear hv0 HF1 HF3
    go_enter Tryz.func28, Tryz.ntmps28
    go_wp2_with fail
    generalize w.alloc (.cells #[.slice A0 n0 c0, .slice A1 n1 c1, .slice A2 n2 c2, .slice A3 n3 c3] 35) = W at hb0 hP HC ⊢
    refine HC.out.mono ?_
    rintro e w1 ⟨rfl, hb1⟩
    have p0 := (hP.next hb1).cell 0
    simp at p0
    have hb01 := bon hb0 hb1
    go_wp2_with fail
    refine (HF0.out w1 hb01).mono ?_
    rintro e w2 ⟨rfl, hb2⟩
    go_wp2_with fail
    go_ret
    exact ⟨ret_bool HN.out.symm, bon hb01 hb2⟩
  | true =>
  have HV0 := Lib.hid hv0
  rw [hv0] at HF0
  clear hv0
  cases hv1 : oversB 6 t1 with
  | false =>
    have HN := Lib.hid (annB_post (t0 := t0) (xs := t2) (ps := t3) hv1)
    rw [hv1] at HF1
    clear hv1 HF3
    go_enter Tryz.func28, Tryz.ntmps28
    go_wp2_with fail
    generalize w.alloc (.cells #[.slice A0 n0 c0, .slice A1 n1 c1, .slice A2 n2 c2, .slice A3 n3 c3] 35) = W at hb0 hP HC ⊢
    refine HC.out.mono ?_
    rintro e w1 ⟨rfl, hb1⟩
    have hP1 := hP.next hb1
    have p0 := hP1.cell 0
    simp at p0
    have hb01 := bon hb0 hb1
    go_wp2_with fail
    refine (HF0.out w1 hb01).mono ?_
    rintro e w2 ⟨rfl, hb2⟩
    have p1 := (hP1.next hb2).cell 1
    simp at p1
    have hb02 := bon hb01 hb2
    go_wp2_with fail
    refine (HF1.out w2 hb02).mono ?_
    rintro e w3 ⟨rfl, hb3⟩
    go_wp2_with fail
    go_ret
    exact ⟨ret_bool HN.out.symm, bon hb02 hb3⟩
  | true =>
  have HIS : Hid (annB t0 t1 t2 t3 = ptsB (n2 : Int) t3) := by show _ = _; rw [annB_is HV.out HV0.out hv1, hl2.out]
  rw [hv1] at HF1
  clear hv1
  generalize annB t0 t1 t2 t3 = r at HIS ⊢
  generalize ptsB (n2 : Int) t3 = r' at HF3 HIS
  go_enter Tryz.func28, Tryz.ntmps28
  go_wp2_with fail
  generalize w.alloc (.cells #[.slice A0 n0 c0, .slice A1 n1 c1, .slice A2 n2 c2, .slice A3 n3 c3] 35) = W at hb0 hP HC ⊢
  refine HC.out.mono ?_
  rintro e w1 ⟨rfl, hb1⟩
  have hP1 := hP.next hb1
  have p0 := hP1.cell 0
  simp at p0
  have hb01 := bon hb0 hb1
  go_wp2_with fail
  refine (HF0.out w1 hb01).mono ?_
  rintro e w2 ⟨rfl, hb2⟩
  have hP2 := hP1.next hb2
  have p1 := hP2.cell 1
  simp at p1
  have hb02 := bon hb01 hb2
  go_wp2_with fail
  refine (HF1.out w2 hb02).mono ?_
  rintro e w3 ⟨rfl, hb3⟩
  have hP3 := hP2.next hb3
  have p3 := hP3.cell 3
  have p2 := hP3.cell 2
  simp at p2 p3
  have hb03 := bon hb02 hb3
  go_wp2_with fail
  refine (HF3.out w3 hb03).mono ?_
  rintro e w4 ⟨rfl, hb4⟩
  go_wp2_with fail
  go_ret
  exact ⟨ret_bool HIS.out.symm, bon hb03 hb4⟩
end Go.Proofs.YtffkdidgfeknkaaGreatDoor
