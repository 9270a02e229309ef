/-
  For all bytes, of the fact, the numbers and the values that are drawn from them: the multiple with a changed constant is tightened exactly if it has a symbol; the tightened fact holds for the values exactly if it does, and cannot be tightened again.
  Conditions: none but those that the statement itself bears.
-/
import Derived.Test.YtaioekjjhaklhaaRows
import Derived.WalkKit
import Derived.ProofKit
import Derived.OpenShut
import Derived.ShutString
import Derived.ChangeOld
import Derived.Below
import Derived.Test.YtaioekjjhaklhaaBase
import Derived.Test.YtaioekjjhaklhaaLawG
import Derived.StillTailTactics
namespace Go.Proofs.Ytaioekjjhaklhaa.fnTightened
open Go.ChangeShapes Go.WideShapes Go.ChangeAt Go.RowKit
open Go.ChangeMaps (open_string shut_string)
set_option linter.unusedVariables false

theorem own : ownKnob Try.prog.godebug = none := by kernel_rfl
theorem laidOut : laidOutB Try.prog = true := by kernel_rfl

/-- WHAT THE WALK IS TOLD OF A SLICE OF INTEGERS THAT CAME IN: it is nil; or it leads to a row of 'cap' cells, the numbers 'zs' (the first 'len' are its elements, the rest its spare room), each fitting its kind. -/
def IsRow (k : IntKind) (w : World) (a : Option Addr) (len cap : Nat) (zs : List Int) : Prop :=
  (a = none ∧ len = 0 ∧ cap = 0 ∧ zs = []) ∨
  ∃ x, a = some x ∧ len ≤ cap ∧ cap ≤ maxLen ∧ zs.length = cap ∧ (∀ i, i < zs.length → w.cell? (x.add i) = some (.int k (zs.getD i 0))) ∧ ∀ n ∈ zs, (Lit.int k n).wf = true

theorem IsRow.row {k : IntKind} {w : World} {a : Option Addr} {len cap : Nat} {zs : List Int} (h : IsRow k w a len cap zs) :
    Row w w.heap.size a ((zs.take len).map (Value.int k)) ∧ (zs.take len).length = len ∧ ∀ n ∈ zs.take len, (Lit.int k n).wf = true := by
  rcases h with ⟨rfl, rfl, rfl, rfl⟩ | ⟨x, rfl, hl, _, hz, hcell, hwz⟩
  · exact ⟨Row.nil, rfl, fun n hn => by simp at hn⟩
  · have hlen : (zs.take len).length = len := by rw [List.length_take]; omega
    refine ⟨fun j hj => ?_, hlen, fun n hn => hwz n (List.mem_of_mem_take hn)⟩
    rw [List.length_map, hlen] at hj
    have hc := hcell j (by omega)
    obtain ⟨b, off, spot⟩ := x
    have hspot : spot = none := by simpa [Addr.add] using World.cell?_spot (hcell 0 (by omega))
    subst hspot
    have ha : (⟨b, off, none⟩ : Addr).add j = ⟨b, off + j, none⟩ := by unfold Addr.add; split <;> simp_all
    rw [ha] at hc
    refine ⟨b, off, rfl, cell_lt hc, ?_⟩
    rw [hc, List.getElem?_map, List.getElem?_take, if_pos (by omega), List.getElem?_eq_getElem (by omega)]
    simp [List.getD, List.getElem?_eq_getElem (show j < zs.length by omega)]

set_option maxRecDepth 100000 in
set_option maxHeartbeats 4000000 in
theorem walk (a0 : Option Addr) (len0 cap0 : Nat) (z0 : List Int) (a1 : Option Addr) (len1 cap1 : Nat) (z1 : List Int) (w : World) (w0 : IsRow .u8 w a0 len0 cap0 z0) (w1 : IsRow .u8 w a1 len1 cap1 z1) :
    Calls Try.prog 5 #[.slice a0 len0 cap0, .slice a1 len1 cap1] w fun e w' => e = .returned (.bool true) ∧ Below w.heap.size w w' := by
  obtain ⟨hrow0, hlen0, hwf0⟩ := w0.row
  obtain ⟨hrow1, hlen1, hwf1⟩ := w1.row
  obtain ⟨bs0, hbs0, hb0⟩ := bytes_of hwf0
  obtain ⟨bs1, hbs1, hb1⟩ := bytes_of hwf1
  rw [hbs0] at hrow0 hlen0
  rw [hbs1] at hrow1 hlen1
  rw [List.map_map] at hrow0 hrow1
  rw [List.length_map] at hlen0 hlen1
  change Row w w.heap.size a0 (bs0.map bc) at hrow0
  change Row w w.heap.size a1 (bs1.map bc) at hrow1
  clear hbs0 hbs1 w0 w1 hwf0 hwf1
  by_cases hl0 : (1048576 : Int) < len0
  · go_enter Try.func5, Try.ntmps5
    go_wp2
    go_ret
    exact ⟨rfl, Below.refl _ _⟩
  by_cases hl1 : (1048576 : Int) < len1
  · go_enter Try.func5, Try.ntmps5
    go_wp2
    go_ret
    exact ⟨rfl, Below.refl _ _⟩
  have HR0 := Lib.hid hrow0
  have HR1 := Lib.hid hrow1
  have HB0 := Lib.hid hb0
  have HB1 := Lib.hid hb1
  have hbw := Below.refl w.heap.size w
  clear hrow0 hrow1 hb0 hb1
  go_enter Try.func5, Try.ntmps5
  go_wp2_with (first | (go_at_call 10; go_in))
  refine (B10Term_c a0 len0 cap0 bs0 w ((HR0.out.below hbw (Nat.le_refl _)).more hbw.size) hlen0 HB0.out (by omega)).mono ?_
  rintro e v1 ⟨Aa, ma, ca, t, rfl, hst, hoa, hda⟩
  replace hbw := bon hbw hda
  have ia := hoa.all
  clear hoa
  have hx1 := bnew v1 (.cells #[.int .i64 t.1, .slice Aa ma ca] 26)
  have ba : BlkIs (v1.alloc (.cells #[.int .i64 t.1, .slice Aa ma ca] 26)) v1.heap.size 26 #[.int .i64 t.1, .slice Aa ma ca] := blk_new _ _ _ _ rfl
  replace ia := ia.on hx1
  replace hbw := bon hbw hx1
  have hz1 : (v1.alloc (.cells #[.int .i64 t.1, .slice Aa ma ca] 26)).heap.size = v1.heap.size + 1 := by simp
  go_wp2_with fail
  generalize v1.alloc (.cells #[.int .i64 t.1, .slice Aa ma ca] 26) = v2 at ba ia hbw hx1 hz1 ⊢
  have ht10 := (tmB_parts hst.1).1
  obtain ⟨x, hx0, hx4, hAt⟩ := b10At4_c a1 len1 cap1 w.heap.size bs1 0 v2 (HR1.out.below hbw (Nat.le_refl _)) hlen1 HB1.out (by omega)
  refine hAt.mono ?_
  rintro e vv ⟨rfl, hvv⟩
  replace hvv := hvv.symm
  subst hvv
  clear hAt
  obtain ⟨n, hn⟩ : ∃ n, n = 2 + x := ⟨_, rfl⟩
  have hn2 : 2 ≤ n := by omega
  have hn5 : n ≤ 5 := by omega
  have HN := Lib.hid hn
  have ca0 : (v2).cell? ⟨v1.heap.size, 0, none⟩ = some (.int .i64 t.1) := ba.cell 0
  have ca1 : (v2).cell? ⟨v1.heap.size, 1, none⟩ = some (.slice Aa ma ca) := ba.cell 1
  go_wp2_with fail
  rw [← hn]
  clear hn
  have hsc := scale_is (t := t) (n := n) hst.1 (by omega) (by omega) ⟨by have := hst.2.1; omega, by have := hst.2.2.1; omega⟩ (fun z hz => by have := hst.2.2.2 z hz; omega)
  obtain ⟨r, hr⟩ : ∃ r : Int × List Int, r = (n * t.1, t.2.map (fun z => n * z)) := ⟨_, rfl⟩
  rw [← hr] at hsc
  have hr10 := (tmB_parts hsc.2).1
  have hrc : -35 ≤ r.1 ∧ r.1 ≤ 35 := by
    rw [hr]
    have p := mul_le' (a := n) (b := t.1) (m := 5) (n := 7) (by omega) (by omega) (by have := hst.2.1; omega) (by have := hst.2.2.1; omega)
    show -35 ≤ n * t.1 ∧ n * t.1 ≤ 35
    omega
  have hrl : r.2.length = t.2.length := by rw [hr]; simp
  have HRR := Lib.hid hr
  clear hr
  have hC := implScale_c t.1 Aa ma ca t.2 n v2 ia (by have := ia.1; omega)
  rw [show scaleR (t.1, t.2) n = (r, true) from hsc.1] at hC
  replace hC : Calls _ _ _ _ (fun e w' => ∃ A k c, e = .returned (.tuple #[.agg #[.int .i64 r.1, .slice A k c], .bool true]) ∧ OwnL w' v2.heap.size w'.heap.size A k c r.2 ∧ Below v2.heap.size v2 w') := hC
  have HC := Lib.hid hC
  clear hC
  clear ca0 ca1
  refine HC.out.mono ?_
  rintro e v3 ⟨As, ms, cs, rfl, hos, hds⟩
  clear HC
  replace ba := ba.next hds
  replace ia := ia.on hds
  replace hbw := bon hbw hds
  have is := hos.all
  have hma := ia.1
  have hwv3 := hbw.size
  have hlA := ba.lt
  clear hos ia
  have hx3 := bnew v3 (.cells #[.int .i64 r.1, .slice As ms cs] 26)
  have bs : BlkIs (v3.alloc (.cells #[.int .i64 r.1, .slice As ms cs] 26)) v3.heap.size 26 #[.int .i64 r.1, .slice As ms cs] := blk_new _ _ _ _ rfl
  replace ba := ba.next hx3
  replace is := is.next hx3 (Nat.le_refl _)
  replace hbw := bon hbw hx3
  have hz3 : (v3.alloc (.cells #[.int .i64 r.1, .slice As ms cs] 26)).heap.size = v3.heap.size + 1 := by simp
  go_wp2_with fail
  generalize v3.alloc (.cells #[.int .i64 r.1, .slice As ms cs] 26) = v4 at ba bs is hbw hx3 hz3 ⊢
  refine (B10Values_c a1 len1 cap1 bs1 v4 ((HR1.out.below hbw (Nat.le_refl _)).more hbw.size) hlen1 HB1.out (by omega)).mono ?_
  rintro e v5 ⟨gV, cV, vs, rfl, hvl, hvb, hoV, hdV⟩
  replace ba := ba.next hdV
  replace bs := bs.next hdV
  replace is := is.next hdV (by omega)
  have hwv4 := hbw.size
  replace hbw := bon hbw hdV
  have hvs := Lib.hid (valsB_of hvl hvb)
  have hs5 := hdV.size
  clear hvl hvb
  have cs0 : (v5).cell? ⟨v3.heap.size, 0, none⟩ = some (.int .i64 r.1) := bs.cell 0
  have cs1 : (v5).cell? ⟨v3.heap.size, 1, none⟩ = some (.slice As ms cs) := bs.cell 1
  obtain ⟨k, hk0, hk7, hAt⟩ := b10At7_c a1 len1 cap1 w.heap.size bs1 1 v5.drew (HR1.out.below hbw.drew (Nat.le_refl _)) hlen1 HB1.out (by omega)
  have gs0 : v5.drew.cell? ⟨v3.heap.size, 0, none⟩ = some (.int .i64 r.1) := cs0
  have fs0 : v5.drew.frozen? ⟨v3.heap.size, 0, none⟩ = false := bs.frozen 0
  obtain ⟨hrc1, hrc2⟩ := hrc
  have hlt9 : r.1 < 999991 := by omega
  have bs2 : BlkIs ((v5.setCell ⟨v3.heap.size, 0, none⟩ (.int .i64 (r.1 + (k - 3)))).drew) v3.heap.size 26 #[.int .i64 (r.1 + (k - 3)), .slice As ms cs] := BlkIs.set (w := v5) bs 0 (.int .i64 (r.1 + (k - 3)))
  have hst2 : v5.grownBy ((v5.setCell ⟨v3.heap.size, 0, none⟩ (.int .i64 (r.1 + (k - 3)))).drew) (some v3.heap.size) := only_drewN only_set 1
  have ds0 : ((v5.setCell ⟨v3.heap.size, 0, none⟩ (.int .i64 (r.1 + (k - 3)))).drew).cell? ⟨v3.heap.size, 0, none⟩ = some (.int .i64 (r.1 + (k - 3))) := bs2.cell 0
  have ds1 : ((v5.setCell ⟨v3.heap.size, 0, none⟩ (.int .i64 (r.1 + (k - 3)))).drew).cell? ⟨v3.heap.size, 1, none⟩ = some (.slice As ms cs) := bs2.cell 1
  go_wp2_with fail
  refine wp_region_still_tail 7 (by kernel_rfl) (by kernel_rfl) ?_
  simp only [List.take_succ_cons, List.take_zero, List.drop_succ_cons, List.drop_zero]
  iterate 3 still_step
  still_call hAt
  iterate 3 still_step
  refine wpStill_nil ?_
  change wpList _ _ _ _ _ v5.drew
  go_wp2_with fail
  obtain ⟨q, hq⟩ : ∃ q : Int × List Int, q = (r.1 + (k - 3), r.2) := ⟨_, rfl⟩
  have hq2 : r.2 = q.2 := by rw [hq]
  have hq1 : r.1 + (k - 3) = q.1 := by rw [hq]
  have hqb : -1000000 ≤ q.1 ∧ q.1 ≤ 1000000 := by omega
  rw [hq1] at bs2 hst2 ⊢
  rw [hq2] at is hr10 hrl
  have hqt : tmB q = true := by
    obtain ⟨x1, _, x3, x4⟩ := tmB_parts hsc.2
    rw [hq2] at x1 x3 x4
    exact tmB_mk x1 x4 hqb.1 hqb.2 x3
  have hbs2 : Below v3.heap.size v5 ((v5.setCell ⟨v3.heap.size, 0, none⟩ (.int .i64 q.1)).drew) := only_below hst2 (Nat.le_refl _) (by omega)
  have hgs : q.2 = t.2.map (fun z => n * z) := by rw [← hq2, HRR.out]
  have HGS := Lib.hid hgs
  have HN2 := Lib.hid hn2
  clear ds0 ds1 cs0 cs1 gs0 fs0 hAt hq hq1 hq2 HRR hgs hsc hlt9 hrc1 hrc2
  generalize (v5.setCell ⟨v3.heap.size, 0, none⟩ (.int .i64 q.1)).drew = v6 at bs2 hst2 hbs2 ⊢
  have ba6 : BlkIs v6 v1.heap.size 26 #[.int .i64 t.1, .slice Aa ma ca] := (hbs2.block _ hlA).trans ba
  have is6 := is.next hbs2 (Nat.le_refl _)
  have hoV6 := hoV.out (Out.of_grown hst2 (fun j hj => by injection hj with hj; exact ⟨by omega, by omega⟩) : Out v3.heap.size (v3.heap.size + 1) v5 v6) (.inl (by omega))
  have hs6 := hst2.size
  have hbw6 : Below w.heap.size w v6 := hbw.trans (hbs2.mono (by omega))
  have HQT := Lib.hid hqt
  clear ba is hoV hbw hbs2 hst2 bs hqt
  have e0 : v6.cell? ⟨v3.heap.size, 0, none⟩ = some (.int .i64 q.1) := bs2.cell 0
  have e1 : v6.cell? ⟨v3.heap.size, 1, none⟩ = some (.slice As ms cs) := bs2.cell 1
  have hC := implTight_c q.1 As ms cs q.2 v6 (is6.more (by omega)) (by have := is6.1; omega)
  rcases Nat.eq_zero_or_pos ms with hz | hz
  · have hnil : q.2 = [] := List.eq_nil_of_length_eq_zero (by have := is6.1; omega)
    rw [show tightR (q.1, q.2) = ((0, []), false) from tightR_no2 (by show ¬ 2 ≤ gcdL q.2; rw [hnil, gcdL_nil]; omega)] at hC
    have HC := Lib.hid hC
    have hma0 : ma = 0 := by have := is6.1; omega
    have hm0 : (ma : Int) = 0 := by omega
    clear hC
    go_wp2_with fail
    refine HC.out.mono ?_
    rintro e v7 ⟨A7, m7, c7, rfl, ho7, hb7⟩
    have ba7 := (ba6.next hb7).next (bnew v7 (.cells #[.int .i64 0, .slice A7 m7 c7] 26))
    have g1 : (v7.alloc (.cells #[.int .i64 0, .slice A7 m7 c7] 26)).cell? ⟨v1.heap.size, 1, none⟩ = some (.slice Aa ma ca) := ba7.cell 1
    clear e0 e1 HC
    subst hma0
    go_wp2_with fail
    go_ret
    exact ⟨rfl, bon (bon hbw6 hb7) (bnew _ _)⟩
  · have h2 : 2 ≤ gcdL q.2 := by
      have hl := (tmB_parts HQT.out).2.2.2
      rw [HGS.out] at hl ⊢
      exact gcd_scale HN2.out (by have := is6.1; omega) hl
    obtain ⟨y, hy⟩ : ∃ y : Int × List Int, y = (q.1 / (gcdL q.2 : Int), q.2.map (fun z => z.tdiv (gcdL q.2 : Int))) := ⟨_, rfl⟩
    rw [show tightR (q.1, q.2) = (y, true) from (tightR_yes (t := q) HQT.out h2).trans (by rw [hy])] at hC
    have hto := tight_ok HQT.out h2
    rw [← hy] at hto
    have hsg := tight_sign h2 vs q.2.length
    rw [← hy] at hsg
    have hyl : y.2.length = q.2.length := by rw [hy]; simp
    rw [← hyl] at hsg
    have HSG : Hid (0 ≤ evTo y vs y.2.length ↔ 0 ≤ evTo q vs q.2.length) := by
      show _ ↔ _
      rw [hsg, hyl]
    have HTO := Lib.hid hto
    have hy10 : y.2.length ≤ 10 := by rw [hyl]; exact (tmB_parts HQT.out).1
    have HC := Lib.hid hC
    have hm0 : (0 : Int) < (ma : Int) := by have := is6.1; omega
    have hm1 : 0 < ma := by omega
    have hm2 : decide ((0 : Int) < (ma : Int)) = true := by simp; omega
    have hm3 : decide (0 < ma) = true := by simp; omega
    have hm4 : (true != decide ((0 : Int) < (ma : Int))) = false := by simp; omega
    have hm5 : (true != decide (0 < ma)) = false := by simp; omega
    have hm6 : ma ≠ 0 := by omega
    have hm7 : ¬ ma = 0 := by omega
    clear hC hy hto hsg hyl h2
    go_wp2_with fail
    refine HC.out.mono ?_
    rintro e v7 ⟨A7, m7, c7, rfl, ho7, hb7⟩
    clear e0 e1 HC
    have hx7 := bnew v7 (.cells #[.int .i64 y.1, .slice A7 m7 c7] 26)
    have by7 : BlkIs (v7.alloc (.cells #[.int .i64 y.1, .slice A7 m7 c7] 26)) v7.heap.size 26 #[.int .i64 y.1, .slice A7 m7 c7] := blk_new _ _ _ _ rfl
    have iy := (ho7.all).on hx7
    have ba7 := (ba6.next hb7).next hx7
    have bs7 := (bs2.next hb7).next hx7
    have is7 := (is6.next hb7 (by omega)).next hx7 (by have := hb7.size; omega)
    have oV7 := (hoV6.next hb7).next hx7
    have hb07 := bon (bon hbw6 hb7) hx7
    have hs7 := hb7.size
    have a1' : (v7.alloc (.cells #[.int .i64 y.1, .slice A7 m7 c7] 26)).cell? ⟨v1.heap.size, 1, none⟩ = some (.slice Aa ma ca) := ba7.cell 1
    have y0 : (v7.alloc (.cells #[.int .i64 y.1, .slice A7 m7 c7] 26)).cell? ⟨v7.heap.size, 0, none⟩ = some (.int .i64 y.1) := by7.cell 0
    have y1 : (v7.alloc (.cells #[.int .i64 y.1, .slice A7 m7 c7] 26)).cell? ⟨v7.heap.size, 1, none⟩ = some (.slice A7 m7 c7) := by7.cell 1
    clear ho7 ba6 bs2 is6 hoV6
    go_wp2_with fail
    have hz7 := hx7.size
    generalize v7.alloc (.cells #[.int .i64 y.1, .slice A7 m7 c7] 26) = v8 at hx7 by7 iy ba7 bs7 is7 oV7 hb07 a1' y0 y1 hz7 ⊢
    have hC := implTight_c y.1 A7 m7 c7 y.2 v8 iy (by have := iy.1; omega)
    rw [show tightR (y.1, y.2) = ((0, []), false) from HTO.out.2] at hC
    have HC := Lib.hid hC
    clear hC a1' y0 y1
    refine HC.out.mono ?_
    rintro e v9 ⟨A9, m9, c9, rfl, ho9, hb9⟩
    have hx9 := bnew v9 (.cells #[.int .i64 0, .slice A9 m9 c9] 26)
    have by9 := (by7.next hb9).next hx9
    have bs9 := (bs7.next hb9).next hx9
    have iy9 := (iy.on hb9).on hx9
    have is9 := ((is7.next hb9 (by omega)).next hx9 (by have := hb9.size; omega)).more (B' := (v9.alloc (.cells #[.int .i64 0, .slice A9 m9 c9] 26)).heap.size) (by have := hb9.size; have := hx9.size; omega)
    have iV9 := ((oV7.next hb9).next hx9).all
    have hb09 := bon (bon hb07 hb9) hx9
    clear HC ho9 by7 bs7 iy is7 oV7 ba7
    go_wp2_with fail
    generalize v9.alloc (.cells #[.int .i64 0, .slice A9 m9 c9] 26) = u0 at hx9 by9 bs9 iy9 is9 iV9 hb09 ⊢
    have y0 : u0.cell? ⟨v7.heap.size, 0, none⟩ = some (.int .i64 y.1) := by9.cell 0
    have y1 : u0.cell? ⟨v7.heap.size, 1, none⟩ = some (.slice A7 m7 c7) := by9.cell 1
    have s0 : u0.cell? ⟨v3.heap.size, 0, none⟩ = some (.int .i64 q.1) := bs9.cell 0
    have s1 : u0.cell? ⟨v3.heap.size, 1, none⟩ = some (.slice As ms cs) := bs9.cell 1
    have HY : Hid (∀ x, Below u0.drew.heap.size u0.drew x → Calls Try.prog 20 #[.agg #[.int .i64 y.1, .slice A7 m7 c7], .slice (some ⟨gV, 0, none⟩) 10 cV] x fun e w' => e = .returned (.int .i64 (evTo y vs y.2.length)) ∧ Below x.heap.size x w') := fun x h =>
      b10Value_c u0.heap.size y.1 A7 m7 c7 y.2 _ 10 cV vs x (iy9.call (Nat.le_refl _) h) (iV9.call (Nat.le_refl _) h) (le_call (Nat.le_refl _) h) HTO.out.1 hvs.out
    have HS : Hid (∀ x, Below u0.drew.heap.size u0.drew x → Calls Try.prog 20 #[.agg #[.int .i64 q.1, .slice As ms cs], .slice (some ⟨gV, 0, none⟩) 10 cV] x fun e w' => e = .returned (.int .i64 (evTo q vs q.2.length)) ∧ Below x.heap.size x w') := fun x h =>
      b10Value_c u0.heap.size q.1 As ms cs q.2 _ 10 cV vs x (is9.call (Nat.le_refl _) h) (iV9.call (Nat.le_refl _) h) (le_call (Nat.le_refl _) h) HQT.out hvs.out
    have hSG := HSG.out
    generalize evTo y vs y.2.length = E at HY hSG
    generalize evTo q vs q.2.length = F at HS hSG
    clear by9 bs9 iy9 is9 iV9
    by_cases hE : 0 ≤ E
    all_goals
      go_region_held3 (fun w' => w'.cell? ⟨v7.heap.size, 0, none⟩ = some (.int .i64 y.1) ∧ w'.cell? ⟨v7.heap.size, 1, none⟩ = some (.slice A7 m7 c7) ∧ w'.cell? ⟨v3.heap.size, 0, none⟩ = some (.int .i64 q.1) ∧ w'.cell? ⟨v3.heap.size, 1, none⟩ = some (.slice As ms cs))
        (first | go_keep | exact ⟨cell_on y0 (by with_reducible repeat' (first | exact Below.refl _ _ | refine bon ?_ hq1 | refine bon ?_ hq2 | fail)), cell_on y1 (by with_reducible repeat' (first | exact Below.refl _ _ | refine bon ?_ hq1 | refine bon ?_ hq2 | fail)), cell_on s0 (by with_reducible repeat' (first | exact Below.refl _ _ | refine bon ?_ hq1 | refine bon ?_ hq2 | fail)), cell_on s1 (by with_reducible repeat' (first | exact Below.refl _ _ | refine bon ?_ hq1 | refine bon ?_ hq2 | fail))⟩ | fail "none keeps")
        (first | (go_at_call_of 20 A7; with_reducible refine (HY.out _ (by with_reducible repeat' (first | exact Below.refl _ _ | refine bon ?_ hq2 | fail))).mono ?_; rintro e z1 ⟨rfl, hq1⟩) | (go_at_call_of 20 As; with_reducible refine (HS.out _ (by with_reducible repeat' (first | exact Below.refl _ _ | refine bon ?_ hq1 | fail))).mono ?_; rintro e z2 ⟨rfl, hq2⟩) | fail "no arm")
      all_goals
        go_wp2_with fail
        go_ret
        refine ⟨?_, ?_⟩
        · have hd : decide (0 ≤ E) = decide (0 ≤ F) := decide_eq_decide.2 hSG
          first | (simp; done) | (simp; omega)
        · exact bon hb09 (bstep (by with_reducible repeat' (first | exact Below.refl _ _ | refine bon ?_ hq1 | refine bon ?_ hq2 | fail)))

set_option maxRecDepth 100000 in
theorem lifted (os : Os) (started : os.Started) (H : Type) (enc : TypeId × Value → H) :
    ReturnsInHanded {} Try.checked os 5 .any (Rows.fnTightenedSpec.pre6 enc Try.prog Try.f5 Rows.fnTightenedRow.domain false) (Rows.fnTightenedSpec.post enc Try.prog Try.f5 false true false false) := by
  refine returnsInHanded_of_change (C := Try.checked) own started (by kernel_rfl) Try.func5
    (ChangeSpec.witness6 (enc := enc) (C := Try.checked) false ⟨#[], #[.slice none 0 0, .slice none 0 0], []⟩ 8 (by kernel_rfl) (by kernel_rfl) (by kernel_rfl) (by kernel_rfl)) ?_
  intro W base args ds gs before hval0 hW hcnd _
  have hval : ∀ (j : Nat) t v, Try.f5.params[j]? = some t → args[j]? = some v → Value.okWide Try.prog W .any base t v := hval0
  have hW' := hW
  obtain ⟨p, q, hA0, hV, rfl, hfz, hnd⟩ := hW
  have hA : DataW.TrodAll enc Try.prog W 0 (fun _ => true) true Try.f5.params.toList args.toList ds p := hA0
  rw [Try.params5] at hA hval
  obtain ⟨v0, vs0, d0, ds0, p0, q0, hargs, rfl, rfl, h0, r0⟩ := trodAll_cons hA
  obtain ⟨v1, vs1, d1, ds1, p1, q1, rfl, rfl, rfl, h1, r1⟩ := trodAll_cons r0
  obtain ⟨rfl, rfl, rfl⟩ := trodAll_nil r1
  obtain rfl : args = #[v0, v1] := by cases args; simp_all
  obtain ⟨rfl, rfl⟩ := trodVars_none hV
  obtain ⟨a0, len0, cap0, rfl⟩ := okWide_slice Try.underlying22 (hval 0 22 v0 rfl rfl)
  have k0 := h0
  have lt0 : ∀ x ∈ p0, x.block < W.heap.size := by obtain ⟨m, hm⟩ := k0; exact DataW.trod_lt m _ _ _ hm
  obtain ⟨z0, w0⟩ : ∃ zs, IsRow .u8 W a0 len0 cap0 zs := by
    obtain ⟨fuel, hf⟩ := h0
    rcases open_ints Try.underlying22 Try.underlying5 (by kernel_rfl) hf with ⟨hcs, _⟩ | ⟨x, l, c, zs, hcs, _, hl, hm, hz, _, hcell, hwz⟩
    · simp [Value.cells] at hcs
      obtain ⟨rfl, rfl, rfl⟩ := hcs
      exact ⟨[], .inl ⟨rfl, rfl, rfl, rfl⟩⟩
    · simp [Value.cells] at hcs
      obtain ⟨rfl, rfl, rfl⟩ := hcs
      exact ⟨zs, .inr ⟨_, rfl, hl, hm, by simpa using hz, hcell, hwz⟩⟩
  obtain ⟨a1, len1, cap1, rfl⟩ := okWide_slice Try.underlying22 (hval 1 22 v1 rfl rfl)
  have k1 := h1
  have lt1 : ∀ x ∈ p1, x.block < W.heap.size := by obtain ⟨m, hm⟩ := k1; exact DataW.trod_lt m _ _ _ hm
  obtain ⟨z1, w1⟩ : ∃ zs, IsRow .u8 W a1 len1 cap1 zs := by
    obtain ⟨fuel, hf⟩ := h1
    rcases open_ints Try.underlying22 Try.underlying5 (by kernel_rfl) hf with ⟨hcs, _⟩ | ⟨x, l, c, zs, hcs, _, hl, hm, hz, _, hcell, hwz⟩
    · simp [Value.cells] at hcs
      obtain ⟨rfl, rfl, rfl⟩ := hcs
      exact ⟨[], .inl ⟨rfl, rfl, rfl, rfl⟩⟩
    · simp [Value.cells] at hcs
      obtain ⟨rfl, rfl, rfl⟩ := hcs
      exact ⟨zs, .inr ⟨_, rfl, hl, hm, by simpa using hz, hcell, hwz⟩⟩
  clear hA0 hval0
  refine (walk a0 len0 cap0 z0 a1 len1 cap1 z1 W w0 w1).mono fun e W' ⟨he, bel⟩ => ?_
  subst he
  exact ⟨_, rfl, _, _, _, [], _, [], hW', trodAll_mk1 (shut_bool Try.underlying4 _), (trodAll_cons_mk (Below.trod laidOut (by kernel_rfl) (of_decide_eq_true (by kernel_rfl)) k0 bel lt0) (trodAll_cons_mk (Below.trod laidOut (by kernel_rfl) (of_decide_eq_true (by kernel_rfl)) k1 bel lt1) trodAll_mk0)), rfl, bel.frame _, fun h => by cases h⟩

theorem over : Rows.fnTightenedRow.holds Try.pinned (OpenSpec.ofChange Rows.fnTightenedSpec) :=
  OpenClaim.holds_of_wide 5 Try.f5 rfl rfl rfl rfl rfl rfl rfl ⟨rfl, rfl, rfl, rfl, rfl⟩ rfl rfl rfl rfl rfl (by kernel_rfl) Try.func5 (by kernel_rfl)
    (of_decide_eq_true (by kernel_rfl)) (by unfold Func.isWrapper; first | (rw [if_pos (by decide +kernel)]; kernel_rfl) | (rw [if_neg (by decide +kernel)]; exact ⟨rfl, rfl⟩))
    (fun os started H enc _ => lifted os started H enc)

/-- The statement. -/
theorem proved : Rows.FnTightenedSaid := over
#print axioms proved
end Go.Proofs.Ytaioekjjhaklhaa.fnTightened
