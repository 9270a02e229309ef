/-
  A term with symbols replaced by terms: the model's side. Conditions: valid terms.
-/
import Derived.Test.YtddmpdpmgjggoaaCombS
namespace Go.Proofs.Ytddmpdpmgjggoaa
open Go.RowKit

/-- One coefficient's part: a multiple of the term that stands for the symbol, or the symbol itself. -/
def subStep (ts : List (Int × List Int)) (f : Int → Int) (i : Nat) (x : Int) : Int → Int := if i < ts.length then addT f x (ts.getD i (0, [])) else upd f (i : Int) x
def subTo (u : Int × List Int) (ts : List (Int × List Int)) : Nat → Int → Int
  | 0 => fun j => if j = -1 then u.1 else 0
  | k + 1 => subStep ts (subTo u ts k) k (u.2.getD k 0)
def subR (u : Int × List Int) (ts : List (Int × List Int)) : (Int × List Int) × Bool := if tmB u = true ∧ allT 10 ts = true then mkL (subTo u ts u.2.length (-1)) (ten (subTo u ts u.2.length)) else ((0, []), false)
theorem sub_bound {u : Int × List Int} {ts : List (Int × List Int)} (hu : tmB u = true) (ht : ∀ t ∈ ts, tmB t = true) : ∀ (k : Nat) (j : Int), -(1000000 + (k : Int) * 1000000000000) ≤ subTo u ts k j ∧ subTo u ts k j ≤ 1000000 + (k : Int) * 1000000000000
  | 0, j => by
    have := (tmB_parts hu).2.1
    simp only [subTo]
    by_cases h : j = -1
    · rw [if_pos h]; omega
    · rw [if_neg h]; omega
  | k + 1, j => by
    have ih := sub_bound hu ht k j
    have b := getD_small hu k
    simp only [subTo, subStep]
    by_cases h : k < ts.length
    · rw [if_pos h]
      have e1 : ts.getD k (0, []) = ts[k] := by rw [List.getD_eq_getElem?_getD, List.getElem?_eq_getElem h]; rfl
      have a := tf_small (ht ts[k] (List.getElem_mem _)) j
      have p := prod_le (a := u.2.getD k 0) (b := tf ts[k] j) b.1 b.2 a.1 a.2
      simp only [addT]
      rw [e1]
      omega
    · rw [if_neg h]
      unfold upd
      by_cases hj : j = (k : Int)
      · rw [if_pos hj]; omega
      · rw [if_neg hj]; omega
theorem ten_upd {f : Int → Int} {x : Int} {k : Nat} (hk : k < 10) : ((ten f).map ic).set k (.int .i64 (f k + x)) = (ten (upd f (k : Int) x)).map ic := by
  refine List.ext_getElem? fun j => ?_
  rw [List.getElem?_set]
  by_cases e : k = j
  · subst e
    rw [if_pos rfl, if_pos (by rw [List.length_map, ten_len]; exact hk), List.getElem?_map, ten_at _ hk]
    unfold upd ic
    rw [if_pos rfl]
    rfl
  · rw [if_neg e]
    by_cases hj : j < 10
    · rw [List.getElem?_map, List.getElem?_map, ten_at _ hj, ten_at _ hj]
      unfold upd
      rw [if_neg (by omega)]
    · rw [List.getElem?_eq_none (by rw [List.length_map, ten_len]; omega), List.getElem?_eq_none (by rw [List.length_map, ten_len]; omega)]

set_option maxRecDepth 100000 in
set_option maxHeartbeats 4000000 in
theorem l02Replace_c (bp op B : Nat) (u : Int × List Int) (A : Option Addr) (n cp : Nat) (ts : List (Int × List Int)) (w : World) (hp : PtrT w B bp op u) (h : InTS w B A n ts) (hB : B ≤ w.heap.size)
    (hu : tmB u = true) (hv : ∀ t ∈ ts, tmB t = true) :
    Calls Try.prog 67 #[.pointer (some ⟨bp, op, none⟩), .slice A n cp] w (GivesT (mkL (subTo u ts u.2.length (-1)) (ten (subTo u ts u.2.length))) w) := by
  obtain ⟨D, m, d, hlb, u0, u1, hk⟩ := hp
  have hb0 : Below w.heap.size w (w.alloc (.cells #[.int .i64 0, .slice none 0 0] 26)) := bnew _ _
  have b10 : (w.alloc (.cells #[.int .i64 0, .slice none 0 0] 26)).cell? ⟨w.heap.size, 0, none⟩ = some (.int .i64 0) := cell_new w _ _ 0 _ rfl
  have b11 : (w.alloc (.cells #[.int .i64 0, .slice none 0 0] 26)).cell? ⟨w.heap.size, 1, none⟩ = some (.slice none 0 0) := cell_new w _ _ 1 _ rfl
  have b1l : w.heap.size < (w.alloc (.cells #[.int .i64 0, .slice none 0 0] 26)).heap.size := by simp
  have rf : ∀ i, (w.alloc (.cells #[.int .i64 0, .slice none 0 0] 26)).frozen? ⟨w.heap.size, i, none⟩ = false := fun i => fro_new _ _ _ _
  have HI := Lib.hid (h.next hb0 hB)
  have HK := Lib.hid (hk.next hb0 hB)
  have hlt := Lib.hid h.1
  have hlk := Lib.hid hk.1
  have HT := Lib.hid hv
  have HB := Lib.hid (fun k => sub_bound hu hv k)
  have HUS := Lib.hid (fun k => getD_small hu k)
  have hm10 : m ≤ 10 := by have := (tmB_parts hu).1; have := hk.1; omega
  have U0 := cell_next u0 hb0
  have U1 := cell_next u1 hb0
  clear h hk hv hu u0 u1
  have hmk : ∀ w : World, Sem.run Try.prog (Instr.makeSlice 24 (.int .i64 10) (.int .i64 10)) w = .ok (.slice (some ⟨w.heap.size, 0, none⟩) 10 10) (w.alloc (.cells (madeCells #[.int .i64 0] 10) 2)) := run_make_row' (P := Try.prog) 24 2 (.int .i64 0) 8 Try.underlying24 info64 rfl .i64 .i64 10 (by omega) (by omega)
  have hWs : (w.alloc (.cells #[.int .i64 0, .slice none 0 0] 26)).heap.size = w.heap.size + 1 := by simp
  go_enter Try.func67, Try.ntmps67
  go_wp2_with fail
  generalize w.alloc (.cells #[.int .i64 0, .slice none 0 0] 26) = W at hb0 b10 b11 b1l rf HI HK hWs U0 U1 ⊢
  have hz0 : ((ten (subTo u ts 0)).map ic) = List.replicate 10 (.int .i64 0) := by
    have : ten (subTo u ts 0) = ten (fun _ => 0) := ten_eq fun i => by simp only [subTo]; rw [if_neg (by omega)]
    rw [this]; rfl
  have hown0 : (W.alloc (.cells (madeCells #[.int .i64 0] 10) 2)).ownsRow (w.heap.size + 1) 2 1 (.slice (some ⟨w.heap.size + 1, 0, none⟩) 10 10) 10 ((ten (subTo u ts 0)).map ic) := by
    rw [hz0, ← hWs]
    exact own_zeros (heap_alloc_new W _) (Nat.le_refl _) (by omega)
  have hbw := bnew W (.cells (madeCells #[.int .i64 0] 10) 2)
  have HW := Lib.hid hWs
  have rf0 := rf 0
  have rf1 := rf 1
  clear hmk hWs hz0 rf
  go_loopw [6, 8, 9] (fun c i _ wr => ∃ k : Nat, k ≤ m ∧ i = .int .i64 k ∧ c = .int .i64 (subTo u ts k (-1)) ∧ wr.ownsRow (w.heap.size + 1) 2 1 (.slice (some ⟨w.heap.size + 1, 0, none⟩) 10 10) 10 ((ten (subTo u ts k)).map ic) ∧ Below W.heap.size W wr) (fun _ i _ _ => m - (intOf i).toNat)
  case atStart => exact ⟨0, Nat.zero_le _, rfl, rfl, hown0, hbw⟩
  case round =>
    clear hown0 hbw
    obtain ⟨k, hk, rfl, rfl, hrow, hbel⟩ := hrel
    have hsz := hbel.size
    by_cases hlt1 : k < m
    · obtain ⟨wo, rfl⟩ : ∃ wo : World, wo = wr := ⟨_, rfl⟩
      obtain ⟨b2, off2, x, rfl, hb2, hx, hd⟩ := HK.out.2.int_at (k := k) (by have := hlk.out; omega)
      have e2 : u.2.getD k 0 = x := by rw [List.getD_eq_getElem?_getD, hx]; rfl
      have hxb := HUS.out k
      rw [e2] at hxb
      have hbd := HB.out k
      obtain ⟨hx1, hx2⟩ := hxb
      have hb1 := hbd (-1)
      obtain ⟨hbd1, hbd2⟩ := hb1
      have CD := Lib.hid hd
      have V1 := cell_next U1 hbel
      have gd := cell_next hd hbel
      by_cases hn1 : k < n
      case neg =>
        have HS : Hid (subTo u ts (k + 1) = upd (subTo u ts k) (k : Int) x) := by show _ = _; rw [subTo, e2, subStep, if_neg (by have := hlt.out; omega)]
        have HS1 : Hid (subTo u ts (k + 1) (-1) = subTo u ts k (-1)) := by show _ = _; rw [HS.out]; unfold upd; rw [if_neg (by omega)]
        have hcl := hrow.cellAt k (by omega)
        rw [List.getElem?_map, ten_at _ (by omega)] at hcl
        have hcl2 : wo.cell? ⟨w.heap.size + 1, k, none⟩ = some (.int .i64 (subTo u ts k k)) := hcl
        have hfk := hrow.frozenAt k
        have hst := hrow.stored k (.int .i64 (subTo u ts k k + x))
        rw [ten_upd (by omega), ← HS.out] at hst
        have HST := Lib.hid hst
        have hbk := hbd k
        obtain ⟨hbk1, hbk2⟩ := hbk
        have hq1 : k < 10 := by omega
        have hq2 : (k : Int) < 10 := by omega
        have hn2 : n ≤ k := by omega
        clear hst hrow hcl hx hd e2 hbd HS
        generalize subTo u ts k k = F at hcl2 hbk1 hbk2 HST ⊢
        go_wp2_with fail
        go_still_tail 13, (by kernel_rfl)
        change wpList _ _ _ _ _ wo.drew
        go_wp2_with fail
        go_roundw
        case rel =>
          refine ⟨k + 1, by omega, by go_num, by rw [HS1.out], HST.out.1, ?_⟩
          exact hbel.drew.setCell (p := ⟨w.heap.size + 1, k, none⟩) (by have := HW.out; show _ ≤ w.heap.size + 1; omega) _
        case measure => simp [intOf]; omega
      obtain ⟨b', off, A', n', c', t, rfl, hb', ht, hc0, hc1, hin⟩ := HI.out.at_ hn1
      have e1 : ts.getD k (0, []) = t := by rw [List.getD_eq_getElem?_getD, ht]; rfl
      have HS : Hid (subTo u ts (k + 1) = addT (subTo u ts k) x t) := by show _ = _; rw [subTo, e2, subStep, if_pos (by have := hlt.out; omega), e1]
      have HS1 : Hid (subTo u ts (k + 1) (-1) = subTo u ts k (-1) + x * t.1) := by show _ = _; rw [HS.out]; unfold addT; rw [tf_const]
      have hvt := HT.out t (List.mem_of_getElem? ht)
      have HPB := Lib.hid (fun q j => part_bound (f := subTo u ts k) (x := x) (t := t) (M := 1000000 + (k : Int) * 1000000000000) (by omega) hbd (by omega) (by omega) hvt q j)
      have HGS := Lib.hid (fun q => getD_small hvt q)
      have hl10 : n' ≤ 10 := by have := (tmB_parts hvt).1; have := hin.1; omega
      have ht1 := (tmB_parts hvt).2.1
      obtain ⟨ht1, ht2⟩ := ht1
      have hp1 := prod_le (a := x) (b := t.1) (by omega) (by omega) ht1 ht2
      obtain ⟨hp1, hp2⟩ := hp1
      have hin0 := Lib.hid hin.1
      have hin2 := Lib.hid hin.2
      have C0 := Lib.hid hc0
      have C1 := Lib.hid hc1
      have g0 := cell_next hc0 hbel
      have g1 := cell_next hc1 hbel
      have hrow0 : wo.ownsRow (w.heap.size + 1) 2 1 (.slice (some ⟨w.heap.size + 1, 0, none⟩) 10 10) 10 ((ten (part (subTo u ts k) x t 0)).map ic) := by rw [part_0]; exact hrow
      clear hin ht hx hc0 hc1 hd e1 e2 hbd hvt hrow
      generalize subTo u ts k (-1) = E at HS1 hbd1 hbd2 ⊢
      have q27 : decide ((n : Int) ≤ (k : Int)) = false := by simp; omega
      have q27' : decide ((k : Int) ≥ (n : Int)) = false := by simp; omega
      have q27'' : decide (n ≤ k) = false := by simp; omega
      go_wp2_with fail
      go_quiet (fail)
      go_wp2_with fail
      go_loopw [9] (fun j wr => ∃ q : Nat, q ≤ n' ∧ j = .int .i64 q ∧ wr.ownsRow (w.heap.size + 1) 2 1 (.slice (some ⟨w.heap.size + 1, 0, none⟩) 10 10) 10 ((ten (part (subTo u ts k) x t q)).map ic) ∧ Below W.heap.size W wr) (fun j _ => n' - (intOf j).toNat)
      case atStart => exact ⟨0, Nat.zero_le _, rfl, by first | exact hrow0 | exact (show World.ownsRow wo _ _ _ _ _ _ from hrow0), by first | exact hbel | exact below_drewN hbel _⟩
      case round =>
        clear hrow0 hbel g0 g1 gd V1
        obtain ⟨q, hq, rfl, hrow, hbel⟩ := hrel
        have hsz2 := hbel.size
        have g0 := cell_next C0.out hbel
        have g1 := cell_next C1.out hbel
        have V1 := cell_next U1 hbel
        by_cases hlt2 : q < n'
        · have gd := cell_next CD.out hbel
          obtain ⟨b3, off3, y, rfl, hb3, hy, hcy⟩ := hin2.out.int_at (k := q) (by have := hin0.out; omega)
          have gy := cell_next hcy hbel
          have ey : t.2.getD q 0 = y := by rw [List.getD_eq_getElem?_getD, hy]; rfl
          have hyb := HGS.out q
          rw [ey] at hyb
          have pp := prod_le (a := x) (b := y) (by omega) (by omega) hyb.1 hyb.2
          obtain ⟨pp1, pp2⟩ := pp
          have pb := HPB.out q q
          obtain ⟨pb1, pb2⟩ := pb
          have hcl := hrow.cellAt q (by omega)
          rw [List.getElem?_map, ten_at _ (by omega)] at hcl
          have hcl2 : wr.cell? ⟨w.heap.size + 1, q, none⟩ = some (.int .i64 (part (subTo u ts k) x t q q)) := hcl
          have hfk := hrow.frozenAt q
          have hst := hrow.stored q (.int .i64 (part (subTo u ts k) x t q q + x * t.2.getD q 0))
          rw [ten_set (by omega), ey] at hst
          have HST := Lib.hid hst
          clear hst hrow hy hcy ey hcl hyb
          have hq1 : q < 10 := by omega
          have hq2 : (q : Int) < 10 := by omega
          generalize part (subTo u ts k) x t q q = F at hcl2 pb1 pb2 HST ⊢
          go_wp2_with fail
          go_still_tail 22, (by kernel_rfl)
          change wpList _ _ _ _ _ wr.drew
          go_wp2_with fail
          go_roundw
          case rel =>
            refine ⟨q + 1, by omega, by go_num, HST.out.1, ?_⟩
            exact hbel.drew.setCell (p := ⟨w.heap.size + 1, q, none⟩) (by have := HW.out; show _ ≤ w.heap.size + 1; omega) _
          case measure => simp [intOf]; omega
        · have e : q = n' := by omega
          subst e
          have hend : ten (part (subTo u ts k) x t q) = ten (subTo u ts (k + 1)) := by rw [HS.out, ← part_end, hin0.out]
          rw [hend] at hrow
          clear hend
          go_wp2_with fail
          go_roundw
          case rel => exact ⟨k + 1, by omega, by go_num, by rw [HS1.out], hrow, hbel⟩
          case measure => simp [intOf]; omega
    · have e : k = m := by omega
      subst e
      have ek : u.2.length = k := hlk.out
      have V0 := cell_next U0 hbel
      have V1 := cell_next U1 hbel
      have hown : OwnL wr (w.heap.size + 1) wr.heap.size (some ⟨w.heap.size + 1, 0, none⟩) 10 10 (ten (subTo u ts k)) := OwnL.of_own hrow
      have hMK := Lib.hid (l02Make_c (subTo u ts k (-1)) (w.heap.size + 1) 10 10 (ten (subTo u ts k)) wr hown.all (by omega) (by omega))
      replace b10 := cell_next b10 hbel
      replace b11 := cell_next b11 hbel
      replace rf0 := (hbel.frozen (p := ⟨w.heap.size, 0, none⟩) b1l).trans rf0
      replace rf1 := (hbel.frozen (p := ⟨w.heap.size, 1, none⟩) b1l).trans rf1
      have hb7 := bon hb0 hbel
      clear hown hrow
      obtain ⟨R, HR⟩ : ∃ R, Hid (mkL (subTo u ts k (-1)) (ten (subTo u ts k)) = R) := ⟨_, rfl⟩
      rw [HR.out] at hMK
      go_wp2_with fail
      refine hMK.out.mono ?_
      rintro e w3 ⟨A1, m1, c1, rfl, hown, hb3⟩
      replace b10 := cell_next b10 hb3
      replace b11 := cell_next b11 hb3
      replace rf0 := (hb3.frozen (p := ⟨w.heap.size, 0, none⟩) (by show w.heap.size < _; omega)).trans rf0
      replace rf1 := (hb3.frozen (p := ⟨w.heap.size, 1, none⟩) (by show w.heap.size < _; omega)).trans rf1
      go_wp2_with fail
      refine bodyPost_ret (v := .tuple #[.agg #[.int .i64 R.1.1, .slice A1 m1 c1], .bool R.2]) (by simp [results, Try.results67, go_sem, b10, b11]) rfl ?_
      rw [ek, HR.out]
      exact ⟨_, _, _, rfl, give_end hb7 (by omega) (by omega) hown hb3⟩

end Go.Proofs.Ytddmpdpmgjggoaa
