/-
  A fact divided by the common divisor of its coefficients: the model's function. Conditions: at most 2^20 coefficients.
-/
import Derived.Test.YtaioekjjhaklhaaDivis
import Derived.BigQuiet
import Derived.Deep.QuietTactic
namespace Go.Proofs.Ytaioekjjhaklhaa
open Go.RowKit
set_option linter.unusedVariables false

set_option maxRecDepth 100000 in
set_option maxHeartbeats 4000000 in
theorem l02Tight_c (B b o : Nat) (t : Int × List Int) (w : World) (ht : PtrT w B b o t) (hB : B ≤ w.heap.size) (hv : tmB t = true) :
    Calls Try.prog 77 #[.pointer (some ⟨b, o, none⟩)] w (GivesT (tightR t) w) := by
  obtain ⟨i0, hi, hz0, hz1, hzb⟩ := info_parts info64
  have hb0 := bnew w (.cells #[.int .i64 0, .slice none 0 0] 26)
  have hR : BlkIs (w.alloc (.cells #[.int .i64 0, .slice none 0 0] 26)) w.heap.size 26 #[.int .i64 0, .slice none 0 0] := blk_new _ _ _ _ rfl
  have hp := ht.next hb0 hB
  have hzb2 := (tmB_parts hv).2.2.1
  have hcb := (tmB_parts hv).2.1
  have hl10 := (tmB_parts hv).1
  have hgs := gcdL_small hzb2
  have hlast := (tmB_parts hv).2.2.2
  obtain ⟨R, HR⟩ : ∃ R, Hid (tightR t = R) := ⟨_, rfl⟩
  rw [HR.out]
  have HD := Lib.hid (l02Divisor_c B b o t _ hp hv)
  have HV := Lib.hid hv
  have HZB := Lib.hid hzb2
  clear ht hzb2 hlast hv
  obtain ⟨d, hd⟩ : ∃ d, gcdL t.2 = d := ⟨_, rfl⟩
  have HDD := Lib.hid hd
  rw [hd] at HD hgs
  clear hd
  go_enter Try.func77, Try.ntmps77
  go_wp2_with fail
  generalize w.alloc (.cells #[.int .i64 0, .slice none 0 0] 26) = W at hb0 hR hp HD ⊢
  have hsW := hb0.size
  have hlR := hR.lt
  refine HD.out.mono ?_
  rintro e w1 ⟨rfl, dd, hdd⟩
  have hb1 : Below W.heap.size W w1 := by rw [hdd]; exact below_drewN (Below.refl W.heap.size W) dd
  clear hdd HD
  have hs1 := hb1.size
  replace hR := hR.next hb1
  replace hp := hp.next hb1 (by omega)
  have hb01 := bon hb0 hb1
  clear hb0 hb1
  by_cases hd2 : 2 ≤ d
  · have hto := tight_ok HV.out (by rw [HDD.out]; exact hd2)
    rw [HDD.out] at hto
    have HRR : Hid (R = ((t.1 / (d : Int), t.2.map (fun z => z.tdiv (d : Int))), true)) := by
      show _ = _
      rw [← HR.out, tightR_yes HV.out (by rw [HDD.out]; exact hd2), HDD.out]
    have HMK : Hid (mkL (t.1 / (d : Int)) (t.2.map (fun z => z.tdiv (d : Int))) = R) := by
      show _ = _
      rw [mk_same hto.1, HRR.out]
    have hdi : ¬ ((d : Int) < 2) := by omega
    have hd1 : (1 : Int) ≤ (d : Int) := by omega
    have hne : ((d : Int) == 0) = false := by simp; omega
    have hne2 : ¬ (d : Int) = 0 := by omega
    have hR0 := Lib.hid hR
    have hP0 := Lib.hid hp
    have hbe := bnew w1 (.cells #[] 2)
    have hown0 := own_empty w1 2
    clear HR hto hR hp
    go_wp2_with fail
    go_loopw [5, 6] (fun v i wr => ∃ (k g' c' : Nat), k ≤ t.2.length ∧ i = .int .i64 k ∧ v = .slice (some ⟨g', 0, none⟩) k c' ∧ k ≤ c' ∧ wr.ownsRow w1.heap.size 2 1 (.slice (some ⟨g', 0, none⟩) k c') k (((t.2.take k).map (fun z => z.tdiv (d : Int))).map ic) ∧ Below w1.heap.size w1 wr) (fun _ i _ => t.2.length - (intOf i).toNat)
    case atStart => exact ⟨0, _, 0, Nat.zero_le _, rfl, rfl, Nat.le_refl _, hown0, hbe⟩
    case round =>
      clear hown0 hbe
      obtain ⟨k, g', c', hk, rfl, rfl, hkc, hown, hbel⟩ := hrel
      have hsz := hbel.size
      obtain ⟨A, n, c, hlb, p0, p1, p3⟩ := hP0.out.next hbel (by omega)
      have hln := Lib.hid p3.1
      have hnl : (n : Int) = (t.2.length : Int) := by have := p3.1; omega
      by_cases hlt : k < t.2.length
      · obtain ⟨b1, off1, x, rfl, hb1, hx, hc⟩ := p3.2.int_at (k := k) hlt
        have hxb := HZB.out x (List.mem_of_getElem? hx)
        have hq := tdiv_le (d := d) hxb.1 hxb.2
        obtain ⟨hq1, hq2⟩ := hq
        have HT : Hid ((((t.2.take (k + 1)).map (fun z => z.tdiv (d : Int))).map ic) = ((t.2.take k).map (fun z => z.tdiv (d : Int))).map ic ++ [.int .i64 (x.tdiv (d : Int))]) := by
          show _ = _
          rw [List.take_add_one, hx]; simp [ic]
        have kn : (k : Int) < (n : Int) := by have := hln.out; omega
        have kn2 : k < n := by have := hln.out; omega
        clear hx p3 hxb hnl
        go_wp2_with (at_builtin; refine wpList_append_own _ rfl _ _ 24 rfl w1.heap.size 2 i0 (.int .i64 0) 1 8 Try.underlying24 hi hz0 hz1 hzb rfl (by decide) _ _ _ rfl (hown.alloc _) ⟨wr.heap.size, 0, none⟩ 1 1 [.int .i64 (x.tdiv (d : Int))] rfl rfl (cell_one_new _ _ _) (fun u hu => by simp at hu; subst hu; rfl) (by unfold maxLen; omega) (by omega) (by simp; omega) ?_; intro v1 w2 hown1 hgrow _)
        have hb2 : Below w1.heap.size w1 w2 := (hbel.alloc hsz _).grown hgrow (by simp; omega) (fun j hj => (hown.lt j hj).1)
        rw [← HT.out] at hown1
        obtain ⟨g1, c1, rfl, hc1⟩ := own_block hown1 (by omega)
        go_wp2_with fail
        go_roundw
        case rel => exact ⟨k + 1, g1, c1, by omega, by go_num, by go_num, hc1, hown1, hb2⟩
        case measure => simp [intOf]; omega
      · have e : t.2.take k = t.2 := List.take_of_length_le (by omega)
        have hkn : k = n := by have := hln.out; omega
        rw [e] at hown
        rw [hkn] at hown hkc
        have hin : InL wr wr.heap.size (some ⟨g', 0, none⟩) n (t.2.map (fun z => z.tdiv (d : Int))) := (OwnL.of_own hown).all
        have hMK := l02Make_c (t.1 / (d : Int)) g' n c' (t.2.map (fun z => z.tdiv (d : Int))) wr hin (by have := hln.out; omega) hkc
        rw [HMK.out] at hMK
        have HM := Lib.hid hMK
        have HF := Lib.hid (tdiv_floor t.1 (d : Int) hd1)
        have hq := tdiv_le (d := d) hcb.1 hcb.2
        obtain ⟨hq1, hq2⟩ := hq
        obtain ⟨hcb1, hcb2⟩ := hcb
        have hrr : (t.1.tmod (d : Int)).natAbs < (d : Int).natAbs := tmod_small hne2
        have hr1 : -1000000 ≤ t.1.tmod (d : Int) := by omega
        have hr2 : t.1.tmod (d : Int) ≤ 1000000 := by omega
        have hw1 : IntKind.i64.wrap (t.1.tdiv (d : Int)) = t.1.tdiv (d : Int) := IntWalk.i64_in _ (by omega)
        have hw2 : IntKind.i64.wrap (t.1.tmod (d : Int)) = t.1.tmod (d : Int) := IntWalk.i64_in _ (by omega)
        have hw3 : IntKind.i64.wrap (t.1.tdiv (d : Int) - 1) = t.1.tdiv (d : Int) - 1 := IntWalk.i64_in _ (by omega)
        have hRr := hR0.out.next hbel
        have hb7 := bon hb01 hbel
        clear hown hin hMK p3 e hnl
        by_cases hneg : t.1.tmod (d : Int) < 0
        · have HQ : Hid (t.1.tdiv (d : Int) - 1 = t.1 / (d : Int)) := by
            show _ = _
            rw [← HF.out, if_pos hneg]
          rw [← HQ.out] at HM
          go_wp2_with fail
          refine HM.out.mono ?_
          rintro e w3 ⟨A1, m1, c1, rfl, hown, hb3⟩
          have hR6 := hRr.next hb3
          have r0 := hR6.cell 0
          have r1 := hR6.cell 1
          have f0 := hR6.frozen 0
          have f1 := hR6.frozen 1
          simp at r0 r1
          go_wp2_with fail
          refine bodyPost_ret (v := .tuple #[.agg #[.int .i64 R.1.1, .slice A1 m1 c1], .bool R.2]) (by simp [results, Try.results77, go_sem, r0, r1]) rfl ?_
          exact ⟨_, _, _, rfl, give_end hb7 (by omega) (by omega) hown hb3⟩
        · have HQ : Hid (t.1.tdiv (d : Int) = t.1 / (d : Int)) := by
            show _ = _
            rw [← HF.out, if_neg hneg]
          rw [← HQ.out] at HM
          go_wp2_with fail
          refine HM.out.mono ?_
          rintro e w3 ⟨A1, m1, c1, rfl, hown, hb3⟩
          have hR6 := hRr.next hb3
          have r0 := hR6.cell 0
          have r1 := hR6.cell 1
          have f0 := hR6.frozen 0
          have f1 := hR6.frozen 1
          simp at r0 r1
          go_wp2_with fail
          refine bodyPost_ret (v := .tuple #[.agg #[.int .i64 R.1.1, .slice A1 m1 c1], .bool R.2]) (by simp [results, Try.results77, go_sem, r0, r1]) rfl ?_
          exact ⟨_, _, _, rfl, give_end hb7 (by omega) (by omega) hown hb3⟩
  · have HE : Hid (R = ((0, []), false)) := HR.out.symm.trans (tightR_no2 (by rw [HDD.out]; exact hd2))
    have r0 := hR.cell 0
    have r1 := hR.cell 1
    have f0 := hR.frozen 0
    have f1 := hR.frozen 1
    simp at r0 r1
    have hdi : (d : Int) < 2 := by omega
    clear HR
    obtain rfl := HE.out
    clear HE
    go_wp2_with fail
    refine bodyPost_ret (v := .tuple #[.agg #[.int .i64 0, .slice none 0 0], .bool false]) (by simp [results, Try.results77, go_sem, r0, r1]) rfl ?_
    unfold GivesT
    exact ⟨none, 0, 0, rfl, own_nil _ _, give_no hb01 (by omega)⟩

set_option maxRecDepth 100000 in
set_option maxHeartbeats 2000000 in
theorem specTight_c (c0 : Int) (A : Option Addr) (n cp : Nat) (zs : List Int) (w : World) (h : InL w w.heap.size A n zs) (hn : n ≤ 1048576) :
    Calls Try.prog 42 #[.agg #[.int .i64 c0, .slice A n cp]] w (GivesT (tightR (c0, zs)) w) := by
  have hb0 : Below w.heap.size w ((w.alloc (.cells #[.int .i64 c0, .slice A n cp] 26)).alloc (.cells #[.int .i64 0, .slice none 0 0] 26)) := bon (bnew _ _) (bnew _ _)
  have hP : BlkIs ((w.alloc (.cells #[.int .i64 c0, .slice A n cp] 26)).alloc (.cells #[.int .i64 0, .slice none 0 0] 26)) w.heap.size 26 #[.int .i64 c0, .slice A n cp] := (blk_new w _ _ _ rfl).next (bnew _ _)
  have hR : BlkIs ((w.alloc (.cells #[.int .i64 c0, .slice A n cp] 26)).alloc (.cells #[.int .i64 0, .slice none 0 0] 26)) (w.heap.size + 1) 26 #[.int .i64 0, .slice none 0 0] := blk_new _ _ _ _ (by simp)
  have H1 := Lib.hid (h.next hb0 (Nat.le_refl _))
  clear h
  obtain ⟨R, HR⟩ : ∃ R, Hid (tightR (c0, zs) = R) := ⟨_, rfl⟩
  rw [HR.out]
  go_enter Try.func42, Try.ntmps42
  go_wp2_with fail
  generalize (w.alloc (.cells #[.int .i64 c0, .slice A n cp] 26)).alloc (.cells #[.int .i64 0, .slice none 0 0] 26) = W at hb0 hP hR H1 ⊢
  have hsW := hb0.size
  have p0 := hP.cell 0
  have p1 := hP.cell 1
  have r0 := hR.cell 0
  have r1 := hR.cell 1
  have f0 := hR.frozen 0
  have f1 := hR.frozen 1
  simp at p0 p1 r0 r1
  have hlR := hR.lt
  refine (l02Is_c w.heap.size 0 c0 A n cp _ zs W p0 p1 H1.out.2 H1.out.1 hn).mono ?_
  rintro e w1 ⟨rfl, rfl⟩
  cases hv : tmB (c0, zs) with
  | false =>
    have HE : Hid (R = ((0, []), false)) := HR.out.symm.trans (tightR_no hv)
    clear hv HR
    obtain rfl := HE.out
    clear HE
    go_wp2_with fail
    refine bodyPost_ret (v := .tuple #[.agg #[.int .i64 0, .slice none 0 0], .bool false]) (by simp [results, Try.results42, go_sem, r0, r1]) rfl ?_
    unfold GivesT
    exact ⟨none, 0, 0, rfl, own_nil _ _, give_no hb0 (by omega)⟩
  | true =>
    have hC := l02Tight_c W.heap.size w.heap.size 0 (c0, zs) W ⟨A, n, cp, by omega, p0, p1, H1.out.more hsW⟩ (Nat.le_refl _) hv
    rw [HR.out] at hC
    have HC := Lib.hid hC
    clear hC hv
    go_wp2_with fail
    refine HC.out.mono ?_
    rintro e w2 ⟨A1, k1, c1, rfl, hown, hb2⟩
    have hR2 := hR.next hb2
    have r0 := hR2.cell 0
    have r1 := hR2.cell 1
    have f0 := hR2.frozen 0
    have f1 := hR2.frozen 1
    simp at r0 r1
    go_wp2_with fail
    refine bodyPost_ret (v := .tuple #[.agg #[.int .i64 R.1.1, .slice A1 k1 c1], .bool R.2]) (by simp [results, Try.results42, go_sem, r0, r1]) rfl ?_
    exact ⟨_, _, _, rfl, give_end hb0 (by omega) hlR hown hb2⟩
end Go.Proofs.Ytaioekjjhaklhaa
