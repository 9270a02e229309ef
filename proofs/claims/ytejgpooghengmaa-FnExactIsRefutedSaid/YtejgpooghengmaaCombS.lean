/-
  The model's sum of multiples of terms. Conditions: at most 2^20 terms, coefficients and multipliers.
-/
import Derived.Test.YtejgpooghengmaaComb
namespace Go.Proofs.Ytejgpooghengmaa
open Go.RowKit

set_option maxRecDepth 100000 in
set_option maxHeartbeats 1000000 in
theorem l02Multipliers_c (A : Option Addr) (n c B : Nat) (ks : List Int) (w : World) (h : InL w B A n ks) (hn : n ≤ 1048576) :
    Calls Try.prog 13 #[.slice A n c] w fun e w' => e = .returned (.bool (btw 0 1000000 ks)) ∧ w = w' := by
  have hlen := Lib.hid h.1
  go_enter Try.func13, Try.ntmps13
  go_wp2_with fail
  go_loop [3] (fun i => ∃ k : Nat, k ≤ n ∧ i = .int .i64 k ∧ Hid (∀ z ∈ ks.take k, 0 ≤ z ∧ z ≤ 1000000)) (fun i => n - (intOf i).toNat)
  case atStart => exact ⟨0, Nat.zero_le _, rfl, by intro z hz; simp at hz⟩
  case round =>
    obtain ⟨k, hk, rfl, ha⟩ := hrel
    by_cases hlt : k < n
    · obtain ⟨b, off, x, rfl, hb, hx, hc⟩ := h.2.int_at (k := k) (by have := hlen.out; omega)
      have HX := Lib.hid hx
      clear hx
      by_cases h1 : 0 ≤ x
      · by_cases h2 : x ≤ 1000000
        · go_wp2
          go_round
          case rel => exact ⟨k + 1, by omega, by go_num, btw_take_succ ha.out HX.out h1 h2⟩
          case measure => simp [intOf]; omega
        · have HN := Lib.hid (btw_no (lo := 0) (hi := 1000000) HX.out (by omega))
          go_wp2
          go_ret
          exact ⟨ret_bool HN.out.symm, rfl⟩
      · have HN := Lib.hid (btw_no (lo := 0) (hi := 1000000) HX.out (by omega))
        go_wp2
        go_ret
        exact ⟨ret_bool HN.out.symm, rfl⟩
    · have HY := Lib.hid (btw_yes ha.out (by have := hlen.out; omega))
      go_wp2
      go_ret
      exact ⟨ret_bool HY.out.symm, rfl⟩

/-- A term's multiple added as far as its first k coefficients go. -/
def part (f : Int → Int) (x : Int) (t : Int × List Int) (k : Nat) : Int → Int := fun j => f j + (if j < (k : Int) then x * tf t j else 0)
theorem part_0 (f : Int → Int) (x : Int) (t : Int × List Int) : ten (part f x t 0) = ten f := ten_eq fun i => by
  unfold part; rw [if_neg (by omega)]; omega
theorem part_end (f : Int → Int) (x : Int) (t : Int × List Int) : ten (part f x t t.2.length) = ten (addT f x t) := ten_eq fun i => by
  unfold part addT
  by_cases h : (i : Int) < (t.2.length : Nat)
  · rw [if_pos h]
  · rw [if_neg h, tf_nat, List.getD_eq_getElem?_getD, List.getElem?_eq_none (by omega)]; simp
theorem ten_set {f : Int → Int} {x : Int} {t : Int × List Int} {k : Nat} (hk : k < 10) :
    ((ten (part f x t k)).map ic).set k (.int .i64 (part f x t k k + x * t.2.getD k 0)) = (ten (part f x t (k + 1))).map ic := by
  refine List.ext_getElem? fun j => ?_
  rw [List.getElem?_set]
  by_cases e : k = j
  · subst e
    rw [if_pos rfl, if_pos (by rw [List.length_map, ten_len]; exact hk), List.getElem?_map, ten_at _ hk]
    unfold part ic
    rw [if_neg (by omega), if_pos (by omega), tf_nat]
    simp
  · rw [if_neg e]
    by_cases hj : j < 10
    · rw [List.getElem?_map, List.getElem?_map, ten_at _ hj, ten_at _ hj]
      have : part f x t k (j : Nat) = part f x t (k + 1) (j : Nat) := by
        unfold part
        by_cases hl : (j : Int) < (k : Nat)
        · rw [if_pos hl, if_pos (by omega)]
        · rw [if_neg hl, if_neg (by omega)]
      rw [this]
    · rw [List.getElem?_eq_none (by rw [List.length_map, ten_len]; omega), List.getElem?_eq_none (by rw [List.length_map, ten_len]; omega)]
theorem part_bound {f : Int → Int} {x : Int} {t : Int × List Int} {M : Int} (_ : 0 ≤ M) (hf : ∀ j, -M ≤ f j ∧ f j ≤ M) (h1 : -1000000 ≤ x) (h2 : x ≤ 1000000) (ht : tmB t = true) (k : Nat) (j : Int) : -(M + 1000000000000) ≤ part f x t k j ∧ part f x t k j ≤ M + 1000000000000 := by
  have a := hf j
  have b := tf_small ht j
  have p := prod_le h1 h2 b.1 b.2
  unfold part
  by_cases hl : j < (k : Int)
  · rw [if_pos hl]; omega
  · rw [if_neg hl]; omega

set_option maxRecDepth 100000 in
set_option maxHeartbeats 4000000 in
theorem l02Combine_c (A : Option Addr) (n cp B : Nat) (ts : List (Int × List Int)) (D : Option Addr) (m cq : Nat) (ks : List Int) (w : World) (h : InTS w B A n ts) (hk : InL w B D m ks) (hB : B ≤ w.heap.size)
    (hv : ∀ t ∈ ts, tmB t = true) (h14 : n ≤ 14) (hmn : m = n) (hb : btw 0 1000000 ks = true) :
    Calls Try.prog 14 #[.slice A n cp, .slice D m cq] w (GivesT (mkL (combTo ts ks ts.length (-1)) (ten (combTo ts ks ts.length))) w) := by
  subst hmn
  have hb0 : Below w.heap.size w (w.alloc (.cells #[.int .i64 0, .slice none 0 0] 37)) := bnew _ _
  have b10 : (w.alloc (.cells #[.int .i64 0, .slice none 0 0] 37)).cell? ⟨w.heap.size, 0, none⟩ = some (.int .i64 0) := cell_new w _ _ 0 _ rfl
  have b11 : (w.alloc (.cells #[.int .i64 0, .slice none 0 0] 37)).cell? ⟨w.heap.size, 1, none⟩ = some (.slice none 0 0) := cell_new w _ _ 1 _ rfl
  have b1l : w.heap.size < (w.alloc (.cells #[.int .i64 0, .slice none 0 0] 37)).heap.size := by simp
  have rf : ∀ i, (w.alloc (.cells #[.int .i64 0, .slice none 0 0] 37)).frozen? ⟨w.heap.size, i, none⟩ = false := fun i => fro_new _ _ _ _
  have HI := Lib.hid (h.next hb0 hB)
  have HK := Lib.hid (hk.next hb0 hB)
  have hlt := Lib.hid h.1
  have hlk := Lib.hid hk.1
  have HT := Lib.hid hv
  have HB := Lib.hid (fun k h1 h2 => comb_bound hv hb k h1 h2)
  have HKB := Lib.hid (btw_in hb)
  clear h hk hv hb
  have hmk : ∀ w : World, Sem.run Try.prog (Instr.makeSlice 23 (.int .i64 10) (.int .i64 10)) w = .ok (.slice (some ⟨w.heap.size, 0, none⟩) 10 10) (w.alloc (.cells (madeCells #[.int .i64 0] 10) 2)) := run_make_row' (P := Try.prog) 23 2 (.int .i64 0) 8 Try.underlying23 info64 rfl .i64 .i64 10 (by omega) (by omega)
  have hWs : (w.alloc (.cells #[.int .i64 0, .slice none 0 0] 37)).heap.size = w.heap.size + 1 := by simp
  go_enter Try.func14, Try.ntmps14
  go_wp2_with fail
  generalize w.alloc (.cells #[.int .i64 0, .slice none 0 0] 37) = W at hb0 b10 b11 b1l rf HI HK hWs ⊢
  have hz0 : ((ten (combTo ts ks 0)).map ic) = List.replicate 10 (.int .i64 0) := by rfl
  have hown0 : (W.alloc (.cells (madeCells #[.int .i64 0] 10) 2)).ownsRow (w.heap.size + 1) 2 1 (.slice (some ⟨w.heap.size + 1, 0, none⟩) 10 10) 10 ((ten (combTo ts ks 0)).map ic) := by
    rw [hz0, ← hWs]
    exact own_zeros (heap_alloc_new W _) (Nat.le_refl _) (by omega)
  have hbw := bnew W (.cells (madeCells #[.int .i64 0] 10) 2)
  have HW := Lib.hid hWs
  have rf0 := rf 0
  have rf1 := rf 1
  clear hmk hWs hz0 rf
  go_loopw [6, 8, 9] (fun c i _ wr => ∃ k : Nat, k ≤ m ∧ i = .int .i64 k ∧ c = .int .i64 (combTo ts ks k (-1)) ∧ wr.ownsRow (w.heap.size + 1) 2 1 (.slice (some ⟨w.heap.size + 1, 0, none⟩) 10 10) 10 ((ten (combTo ts ks k)).map ic) ∧ Below W.heap.size W wr) (fun _ i _ _ => m - (intOf i).toNat)
  case atStart => exact ⟨0, Nat.zero_le _, rfl, rfl, hown0, hbw⟩
  case round =>
    clear hown0 hbw
    obtain ⟨k, hk, rfl, rfl, hrow, hbel⟩ := hrel
    have hsz := hbel.size
    by_cases hlt1 : k < m
    · obtain ⟨wo, rfl⟩ : ∃ wo : World, wo = wr := ⟨_, rfl⟩
      obtain ⟨b', off, A', n', c', t, rfl, hb', ht, hc0, hc1, hin⟩ := HI.out.at_ hlt1
      obtain ⟨b2, off2, x, rfl, hb2, hx, hd⟩ := HK.out.2.int_at (k := k) (by have := hlk.out; omega)
      have e1 : ts.getD k (0, []) = t := by rw [List.getD_eq_getElem?_getD, ht]; rfl
      have e2 : ks.getD k 0 = x := by rw [List.getD_eq_getElem?_getD, hx]; rfl
      have HS : Hid (combTo ts ks (k + 1) = addT (combTo ts ks k) x t) := by show _ = _; rw [combTo, e1, e2]
      have HS1 : Hid (combTo ts ks (k + 1) (-1) = combTo ts ks k (-1) + x * t.1) := by show _ = _; rw [HS.out]; unfold addT; rw [tf_const]
      have hvt := HT.out t (List.mem_of_getElem? ht)
      have hxb := HKB.out x (List.mem_of_getElem? hx)
      have hbd := HB.out k (by have := hlt.out; omega) (by have := hlk.out; omega)
      have HPB := Lib.hid (fun q j => part_bound (f := combTo ts ks k) (x := x) (t := t) (M := (k : Int) * 1000000000000) (by omega) hbd (by omega) (by omega) hvt q j)
      have HGS := Lib.hid (fun q => getD_small hvt q)
      have hl10 : n' ≤ 10 := by have := (tmB_parts hvt).1; have := hin.1; omega
      have ht1 := (tmB_parts hvt).2.1
      obtain ⟨ht1, ht2⟩ := ht1
      obtain ⟨hx1, hx2⟩ := hxb
      have hp1 := prod_le (a := x) (b := t.1) (by omega) (by omega) ht1 ht2
      obtain ⟨hp1, hp2⟩ := hp1
      have hb1 := hbd (-1)
      obtain ⟨hbd1, hbd2⟩ := hb1
      have hin0 := Lib.hid hin.1
      have hin2 := Lib.hid hin.2
      have C0 := Lib.hid hc0
      have C1 := Lib.hid hc1
      have CD := Lib.hid hd
      have g0 := cell_next hc0 hbel
      have g1 := cell_next hc1 hbel
      have gd := cell_next hd hbel
      have hrow0 : wo.ownsRow (w.heap.size + 1) 2 1 (.slice (some ⟨w.heap.size + 1, 0, none⟩) 10 10) 10 ((ten (part (combTo ts ks k) x t 0)).map ic) := by rw [part_0]; exact hrow
      clear hin ht hx hc0 hc1 hd e1 e2 hbd hvt hrow
      generalize combTo ts ks k (-1) = E at HS1 hbd1 hbd2 ⊢
      go_wp2_with fail
      go_quiet (fail)
      go_wp2_with fail
      go_loopw [9] (fun j wr => ∃ q : Nat, q ≤ n' ∧ j = .int .i64 q ∧ wr.ownsRow (w.heap.size + 1) 2 1 (.slice (some ⟨w.heap.size + 1, 0, none⟩) 10 10) 10 ((ten (part (combTo ts ks k) x t q)).map ic) ∧ Below W.heap.size W wr) (fun j _ => n' - (intOf j).toNat)
      case atStart => exact ⟨0, Nat.zero_le _, rfl, by first | exact hrow0 | exact (show World.ownsRow wo _ _ _ _ _ _ from hrow0), by first | exact hbel | exact below_drewN hbel _⟩
      case round =>
        clear hrow0 hbel g0 g1 gd
        obtain ⟨q, hq, rfl, hrow, hbel⟩ := hrel
        have hsz2 := hbel.size
        have g0 := cell_next C0.out hbel
        have g1 := cell_next C1.out hbel
        by_cases hlt2 : q < n'
        · have gd := cell_next CD.out hbel
          obtain ⟨b3, off3, y, rfl, hb3, hy, hcy⟩ := hin2.out.int_at (k := q) (by have := hin0.out; omega)
          have gy := cell_next hcy hbel
          have ey : t.2.getD q 0 = y := by rw [List.getD_eq_getElem?_getD, hy]; rfl
          have hyb := HGS.out q
          rw [ey] at hyb
          have pp := prod_le (a := x) (b := y) (by omega) (by omega) hyb.1 hyb.2
          obtain ⟨pp1, pp2⟩ := pp
          have pb := HPB.out q q
          obtain ⟨pb1, pb2⟩ := pb
          have hcl := hrow.cellAt q (by omega)
          rw [List.getElem?_map, ten_at _ (by omega)] at hcl
          have hcl2 : wr.cell? ⟨w.heap.size + 1, q, none⟩ = some (.int .i64 (part (combTo ts ks k) x t q q)) := hcl
          have hfk := hrow.frozenAt q
          have hst := hrow.stored q (.int .i64 (part (combTo ts ks k) x t q q + x * t.2.getD q 0))
          rw [ten_set (by omega), ey] at hst
          have HST := Lib.hid hst
          clear hst hrow hy hcy ey hcl hyb
          have hq1 : q < 10 := by omega
          have hq2 : (q : Int) < 10 := by omega
          generalize part (combTo ts ks k) x t q q = F at hcl2 pb1 pb2 HST ⊢
          go_wp2_with fail
          go_still_tail 19, (by kernel_rfl)
          change wpList _ _ _ _ _ wr.drew
          go_wp2_with fail
          go_roundw
          case rel =>
            refine ⟨q + 1, by omega, by go_num, HST.out.1, ?_⟩
            exact hbel.drew.setCell (p := ⟨w.heap.size + 1, q, none⟩) (by have := HW.out; show _ ≤ w.heap.size + 1; omega) _
          case measure => simp [intOf]; omega
        · have e : q = n' := by omega
          subst e
          have hend : ten (part (combTo ts ks k) x t q) = ten (combTo ts ks (k + 1)) := by rw [HS.out, ← part_end, hin0.out]
          rw [hend] at hrow
          clear hend
          go_wp2_with fail
          go_roundw
          case rel => exact ⟨k + 1, by omega, by go_num, by rw [HS1.out], hrow, hbel⟩
          case measure => simp [intOf]; omega
    · have e : k = m := by omega
      subst e
      have ek : ts.length = k := hlt.out
      have hown : OwnL wr (w.heap.size + 1) wr.heap.size (some ⟨w.heap.size + 1, 0, none⟩) 10 10 (ten (combTo ts ks k)) := OwnL.of_own hrow
      have hMK := Lib.hid (l02Make_c (combTo ts ks k (-1)) (w.heap.size + 1) 10 10 (ten (combTo ts ks k)) wr hown.all (by omega) (by omega))
      replace b10 := cell_next b10 hbel
      replace b11 := cell_next b11 hbel
      replace rf0 := (hbel.frozen (p := ⟨w.heap.size, 0, none⟩) b1l).trans rf0
      replace rf1 := (hbel.frozen (p := ⟨w.heap.size, 1, none⟩) b1l).trans rf1
      have hb7 := bon hb0 hbel
      clear hown hrow
      obtain ⟨R, HR⟩ : ∃ R, Hid (mkL (combTo ts ks k (-1)) (ten (combTo ts ks k)) = R) := ⟨_, rfl⟩
      rw [HR.out] at hMK
      go_wp2_with fail
      refine hMK.out.mono ?_
      rintro e w3 ⟨A1, m1, c1, rfl, hown, hb3⟩
      replace b10 := cell_next b10 hb3
      replace b11 := cell_next b11 hb3
      replace rf0 := (hb3.frozen (p := ⟨w.heap.size, 0, none⟩) (by show w.heap.size < _; omega)).trans rf0
      replace rf1 := (hb3.frozen (p := ⟨w.heap.size, 1, none⟩) (by show w.heap.size < _; omega)).trans rf1
      go_wp2_with fail
      refine bodyPost_ret (v := .tuple #[.agg #[.int .i64 R.1.1, .slice A1 m1 c1], .bool R.2]) (by simp [results, Try.results14, go_sem, b10, b11]) rfl ?_
      rw [ek, HR.out]
      exact ⟨_, _, _, rfl, give_end hb7 (by omega) (by omega) hown hb3⟩

end Go.Proofs.Ytejgpooghengmaa
