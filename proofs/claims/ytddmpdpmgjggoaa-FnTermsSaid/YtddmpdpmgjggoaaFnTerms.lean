/-
  For all bytes, of the terms and the values that are drawn from them: the sum, a multiple and the term with a replaced symbol are for the values the sum, the multiple and the number with the replaced one.
  Conditions: none but those that the statement itself bears.
-/
import Derived.Test.YtddmpdpmgjggoaaRows
import Derived.WalkKit
import Derived.ProofKit
import Derived.OpenShut
import Derived.ShutString
import Derived.ChangeOld
import Derived.Below
import Derived.Test.YtddmpdpmgjggoaaBase
import Derived.Test.YtddmpdpmgjggoaaLawF
namespace Go.Proofs.Ytddmpdpmgjggoaa.fnTerms
open Go.ChangeShapes Go.WideShapes Go.ChangeAt Go.RowKit
open Go.ChangeMaps (open_string shut_string)
set_option linter.unusedVariables false

theorem own : ownKnob Try.prog.godebug = none := by kernel_rfl
theorem laidOut : laidOutB Try.prog = true := by kernel_rfl

/-- WHAT THE WALK IS TOLD OF A SLICE OF INTEGERS THAT CAME IN: it is nil; or it leads to a row of 'cap' cells, the numbers 'zs' (the first 'len' are its elements, the rest its spare room), each fitting its kind. -/
def IsRow (k : IntKind) (w : World) (a : Option Addr) (len cap : Nat) (zs : List Int) : Prop :=
  (a = none ∧ len = 0 ∧ cap = 0 ∧ zs = []) ∨
  ∃ x, a = some x ∧ len ≤ cap ∧ cap ≤ maxLen ∧ zs.length = cap ∧ (∀ i, i < zs.length → w.cell? (x.add i) = some (.int k (zs.getD i 0))) ∧ ∀ n ∈ zs, (Lit.int k n).wf = true

theorem IsRow.row {k : IntKind} {w : World} {a : Option Addr} {len cap : Nat} {zs : List Int} (h : IsRow k w a len cap zs) :
    Row w w.heap.size a ((zs.take len).map (Value.int k)) ∧ (zs.take len).length = len ∧ ∀ n ∈ zs.take len, (Lit.int k n).wf = true := by
  rcases h with ⟨rfl, rfl, rfl, rfl⟩ | ⟨x, rfl, hl, _, hz, hcell, hwz⟩
  · exact ⟨Row.nil, rfl, fun n hn => by simp at hn⟩
  · have hlen : (zs.take len).length = len := by rw [List.length_take]; omega
    refine ⟨fun j hj => ?_, hlen, fun n hn => hwz n (List.mem_of_mem_take hn)⟩
    rw [List.length_map, hlen] at hj
    have hc := hcell j (by omega)
    obtain ⟨b, off, spot⟩ := x
    have hspot : spot = none := by simpa [Addr.add] using World.cell?_spot (hcell 0 (by omega))
    subst hspot
    have ha : (⟨b, off, none⟩ : Addr).add j = ⟨b, off + j, none⟩ := by unfold Addr.add; split <;> simp_all
    rw [ha] at hc
    refine ⟨b, off, rfl, cell_lt hc, ?_⟩
    rw [hc, List.getElem?_map, List.getElem?_take, if_pos (by omega), List.getElem?_eq_getElem (by omega)]
    simp [List.getD, List.getElem?_eq_getElem (show j < zs.length by omega)]

set_option maxRecDepth 100000 in
set_option maxHeartbeats 4000000 in
theorem walk (a0 : Option Addr) (len0 cap0 : Nat) (z0 : List Int) (a1 : Option Addr) (len1 cap1 : Nat) (z1 : List Int) (w : World) (w0 : IsRow .u8 w a0 len0 cap0 z0) (w1 : IsRow .u8 w a1 len1 cap1 z1) :
    Calls Try.prog 3 #[.slice a0 len0 cap0, .slice a1 len1 cap1] w fun e w' => e = .returned (.bool true) ∧ Below w.heap.size w w' := by
  obtain ⟨hrow0, hlen0, hwf0⟩ := w0.row
  obtain ⟨hrow1, hlen1, hwf1⟩ := w1.row
  obtain ⟨bs0, hbs0, hb0⟩ := bytes_of hwf0
  obtain ⟨bs1, hbs1, hb1⟩ := bytes_of hwf1
  rw [hbs0] at hrow0 hlen0
  rw [hbs1] at hrow1 hlen1
  rw [List.map_map] at hrow0 hrow1
  rw [List.length_map] at hlen0 hlen1
  change Row w w.heap.size a0 (bs0.map bc) at hrow0
  change Row w w.heap.size a1 (bs1.map bc) at hrow1
  clear hbs0 hbs1 w0 w1 hwf0 hwf1
  by_cases hl0 : (1048576 : Int) < len0
  · go_enter Try.func3, Try.ntmps3
    go_wp2
    go_ret
    exact ⟨rfl, Below.refl _ _⟩
  by_cases hl1 : (1048576 : Int) < len1
  · go_enter Try.func3, Try.ntmps3
    go_wp2
    go_ret
    exact ⟨rfl, Below.refl _ _⟩
  have HR0 := Lib.hid hrow0
  have HR1 := Lib.hid hrow1
  have HB0 := Lib.hid hb0
  have HB1 := Lib.hid hb1
  have hbw := Below.refl w.heap.size w
  clear hrow0 hrow1 hb0 hb1
  go_enter Try.func3, Try.ntmps3
  go_wp2_with (first | (go_at_call 11; go_in))
  refine (B10Term_c a0 len0 cap0 bs0 w ((HR0.out.below hbw (Nat.le_refl _)).more hbw.size) hlen0 HB0.out (by omega)).mono ?_
  rintro e v1 ⟨Aa, ma, ca, t, rfl, hst, hoa, hda⟩
  replace hbw := bon hbw hda
  have ia := hoa.all
  clear hoa
  have hx1 := bnew v1 (.cells #[.int .i64 t.1, .slice Aa ma ca] 26)
  have ba : BlkIs (v1.alloc (.cells #[.int .i64 t.1, .slice Aa ma ca] 26)) v1.heap.size 26 #[.int .i64 t.1, .slice Aa ma ca] := blk_new _ _ _ _ rfl
  replace ia := ia.on hx1
  replace hbw := bon hbw hx1
  have hz1 : (v1.alloc (.cells #[.int .i64 t.1, .slice Aa ma ca] 26)).heap.size = v1.heap.size + 1 := by simp
  go_wp2_with fail
  generalize v1.alloc (.cells #[.int .i64 t.1, .slice Aa ma ca] 26) = v2 at ba ia hbw hx1 hz1 ⊢
  refine (B10Term_c a1 len1 cap1 bs1 v2 ((HR1.out.below hbw (Nat.le_refl _)).more hbw.size) hlen1 HB1.out (by omega)).mono ?_
  rintro e v3 ⟨Ab, mb, cb, u, rfl, hsu, hob, hdb⟩
  replace ba := ba.next hdb
  replace ia := ia.on hdb
  replace hbw := bon hbw hdb
  have ib := hob.all
  clear hob
  have hx3 := bnew v3 (.cells #[.int .i64 u.1, .slice Ab mb cb] 26)
  have bb : BlkIs (v3.alloc (.cells #[.int .i64 u.1, .slice Ab mb cb] 26)) v3.heap.size 26 #[.int .i64 u.1, .slice Ab mb cb] := blk_new _ _ _ _ rfl
  replace ba := ba.next hx3
  replace ia := ia.on hx3
  replace ib := ib.on hx3
  replace hbw := bon hbw hx3
  have hz3 : (v3.alloc (.cells #[.int .i64 u.1, .slice Ab mb cb] 26)).heap.size = v3.heap.size + 1 := by simp
  go_wp2_with fail
  generalize v3.alloc (.cells #[.int .i64 u.1, .slice Ab mb cb] 26) = v4 at ba ia bb ib hbw hx3 hz3 ⊢
  refine (B10Values_c a1 len1 cap1 bs1 v4 ((HR1.out.below hbw (Nat.le_refl _)).more hbw.size) hlen1 HB1.out (by omega)).mono ?_
  rintro e v5 ⟨gV, cV, vs, rfl, hvl, hvb, hoV, hdV⟩
  replace ba := ba.next hdV
  replace ia := ia.on hdV
  replace bb := bb.next hdV
  replace ib := ib.on hdV
  replace hbw := bon hbw hdV
  have iV := hoV.all
  have hvs := valsB_of hvl hvb
  clear hoV
  obtain ⟨rs, ea1, ea2, ea3⟩ := sum_val hst hsu vs
  obtain ⟨rb, eb1, eb2, eb3⟩ := by_val hst hsu vs
  have HSV := Lib.hid ea3
  have HBV := Lib.hid eb3
  have hX := ev_le hst.1 hvs
  have hY := ev_le hsu.1 hvs
  have hF := coef_le hst 0
  have hv0 : -6 ≤ vs.getD 0 0 ∧ vs.getD 0 0 ≤ 6 := by
    by_cases h0 : vs.getD 0 0 = 0
    · omega
    · exact hvb _ (getD_mem h0)
  have ht10 := (tmB_parts hst.1).1
  have hu10 := (tmB_parts hsu.1).1
  have hs10 := (tmB_parts ea2).1
  have hb10 := (tmB_parts eb2).1
  go_wp2_with fail
  refine (b10At9_c a1 len1 cap1 w.heap.size bs1 0 v5 (HR1.out.below hbw (Nat.le_refl _)) hlen1 HB1.out (by omega)).mono ?_
  rintro e vv ⟨x, rfl, hx0, hx9, rfl⟩
  obtain ⟨rt, et1, et2, et3⟩ := times_val hst (n := x - 4) (by omega) (by omega) vs
  have HTV := Lib.hid et3
  have ht10b := (tmB_parts et2).1
  have ca0 : (v5).cell? ⟨v1.heap.size, 0, none⟩ = some (.int .i64 t.1) := ba.cell 0
  have ca1 : (v5).cell? ⟨v1.heap.size, 1, none⟩ = some (.slice Aa ma ca) := ba.cell 1
  have cb0 : (v5).cell? ⟨v3.heap.size, 0, none⟩ = some (.int .i64 u.1) := bb.cell 0
  have cb1 : (v5).cell? ⟨v3.heap.size, 1, none⟩ = some (.slice Ab mb cb) := bb.cell 1
  go_wp2_with fail
  have hC := implAdd_c t.1 Aa ma ca t.2 u.1 Ab mb cb u.2 v5 ia ib (by have := ia.1; have := ib.1; omega)
  rw [show addR (t.1, t.2) (u.1, u.2) = (rs, true) from ea1] at hC
  replace hC : Calls _ _ _ _ (fun e w' => ∃ A k c, e = .returned (.tuple #[.agg #[.int .i64 rs.1, .slice A k c], .bool true]) ∧ OwnL w' v5.heap.size w'.heap.size A k c rs.2 ∧ Below v5.heap.size v5 w') := hC
  have HC := Lib.hid hC
  clear hC
  clear ca0 ca1 cb0 cb1
  refine HC.out.mono ?_
  rintro e v6 ⟨As, ms, cs, rfl, hos, hds⟩
  clear HC
  replace ba := ba.next hds
  replace ia := ia.on hds
  replace bb := bb.next hds
  replace ib := ib.on hds
  replace iV := iV.on hds
  replace hbw := bon hbw hds
  have is := hos.all
  clear hos
  have hx6 := bnew v6 (.cells #[.int .i64 rs.1, .slice As ms cs] 26)
  have bs : BlkIs (v6.alloc (.cells #[.int .i64 rs.1, .slice As ms cs] 26)) v6.heap.size 26 #[.int .i64 rs.1, .slice As ms cs] := blk_new _ _ _ _ rfl
  replace ba := ba.next hx6
  replace ia := ia.on hx6
  replace bb := bb.next hx6
  replace ib := ib.on hx6
  replace is := is.on hx6
  replace iV := iV.on hx6
  replace hbw := bon hbw hx6
  have ca0 : (v6.alloc (.cells #[.int .i64 rs.1, .slice As ms cs] 26)).cell? ⟨v1.heap.size, 0, none⟩ = some (.int .i64 t.1) := ba.cell 0
  have ca1 : (v6.alloc (.cells #[.int .i64 rs.1, .slice As ms cs] 26)).cell? ⟨v1.heap.size, 1, none⟩ = some (.slice Aa ma ca) := ba.cell 1
  have hz6 : (v6.alloc (.cells #[.int .i64 rs.1, .slice As ms cs] 26)).heap.size = v6.heap.size + 1 := by simp
  go_wp2_with fail
  generalize v6.alloc (.cells #[.int .i64 rs.1, .slice As ms cs] 26) = v7 at ba ia bb ib bs is iV hbw hx6 hz6 ca0 ca1 ⊢
  have hC := implScale_c t.1 Aa ma ca t.2 (x - 4) v7 ia (by have := ia.1; omega)
  rw [show scaleR (t.1, t.2) (x - 4) = (rt, true) from et1] at hC
  replace hC : Calls _ _ _ _ (fun e w' => ∃ A k c, e = .returned (.tuple #[.agg #[.int .i64 rt.1, .slice A k c], .bool true]) ∧ OwnL w' v7.heap.size w'.heap.size A k c rt.2 ∧ Below v7.heap.size v7 w') := hC
  have HC := Lib.hid hC
  clear hC
  clear ca0 ca1
  refine HC.out.mono ?_
  rintro e v8 ⟨Am, mm, cm, rfl, hom, hdm⟩
  clear HC
  replace ba := ba.next hdm
  replace ia := ia.on hdm
  replace bb := bb.next hdm
  replace ib := ib.on hdm
  replace bs := bs.next hdm
  replace is := is.on hdm
  replace iV := iV.on hdm
  replace hbw := bon hbw hdm
  have im := hom.all
  clear hom
  have hx8 := bnew v8 (.cells #[.int .i64 rt.1, .slice Am mm cm] 26)
  have bm : BlkIs (v8.alloc (.cells #[.int .i64 rt.1, .slice Am mm cm] 26)) v8.heap.size 26 #[.int .i64 rt.1, .slice Am mm cm] := blk_new _ _ _ _ rfl
  replace ba := ba.next hx8
  replace ia := ia.on hx8
  replace bb := bb.next hx8
  replace ib := ib.on hx8
  replace bs := bs.next hx8
  replace is := is.on hx8
  replace im := im.on hx8
  replace iV := iV.on hx8
  replace hbw := bon hbw hx8
  have ca0 : (v8.alloc (.cells #[.int .i64 rt.1, .slice Am mm cm] 26)).cell? ⟨v1.heap.size, 0, none⟩ = some (.int .i64 t.1) := ba.cell 0
  have ca1 : (v8.alloc (.cells #[.int .i64 rt.1, .slice Am mm cm] 26)).cell? ⟨v1.heap.size, 1, none⟩ = some (.slice Aa ma ca) := ba.cell 1
  have cb0 : (v8.alloc (.cells #[.int .i64 rt.1, .slice Am mm cm] 26)).cell? ⟨v3.heap.size, 0, none⟩ = some (.int .i64 u.1) := bb.cell 0
  have cb1 : (v8.alloc (.cells #[.int .i64 rt.1, .slice Am mm cm] 26)).cell? ⟨v3.heap.size, 1, none⟩ = some (.slice Ab mb cb) := bb.cell 1
  have hz8 : (v8.alloc (.cells #[.int .i64 rt.1, .slice Am mm cm] 26)).heap.size = v8.heap.size + 1 := by simp
  go_wp2_with fail
  generalize v8.alloc (.cells #[.int .i64 rt.1, .slice Am mm cm] 26) = v9 at ba ia bb ib bs is bm im iV hbw hx8 hz8 ca0 ca1 cb0 cb1 ⊢
  clear ca0 ca1 cb0 cb1
  have hxl := bnew v9 (.cells #[.int .i64 u.1, .slice Ab mb cb] 26)
  have bL : BlkIs (v9.alloc (.cells #[.int .i64 u.1, .slice Ab mb cb] 26)) v9.heap.size 26 #[.int .i64 u.1, .slice Ab mb cb] := blk_new _ _ _ _ rfl
  rw [hz8] at bL
  replace ba := ba.next hxl
  replace ia := ia.on hxl
  replace bb := bb.next hxl
  replace ib := ib.on hxl
  replace bs := bs.next hxl
  replace is := is.on hxl
  replace bm := bm.next hxl
  replace im := im.on hxl
  replace iV := iV.on hxl
  replace hbw := bon hbw hxl
  generalize v9.alloc (.cells #[.int .i64 u.1, .slice Ab mb cb] 26) = v10 at ba ia bb ib bs is bm im iV hbw hxl bL ⊢
  have l0 : v10.cell? ⟨v8.heap.size + 1, 0, none⟩ = some (.int .i64 u.1) := bL.cell 0
  have l1 : v10.cell? ⟨v8.heap.size + 1, 1, none⟩ = some (.slice Ab mb cb) := bL.cell 1
  have hlL := bL.lt
  have iL : InTS v10 v10.heap.size (some ⟨v8.heap.size + 1, 0, none⟩) 1 [u] := ⟨rfl, fun j t hj => by
    match j with
    | 0 => obtain rfl := by simpa using hj
           exact ⟨v8.heap.size + 1, 0, Ab, mb, cb, rfl, hlL, l0, l1, ib.1, ib.2⟩
    | j + 1 => simp at hj⟩
  clear l0 l1 bL
  have hC := implSub_c t.1 Aa ma ca t.2 (some ⟨v8.heap.size + 1, 0, none⟩) 1 1 [u] v10 ia (by have := ia.1; omega) iL (by omega) (by unfold totT; simp; omega)
  rw [show subR (t.1, t.2) [u] = (rb, true) from eb1] at hC
  replace hC : Calls _ _ _ _ (fun e w' => ∃ A k c, e = .returned (.tuple #[.agg #[.int .i64 rb.1, .slice A k c], .bool true]) ∧ OwnL w' v10.heap.size w'.heap.size A k c rb.2 ∧ Below v10.heap.size v10 w') := hC
  have HC := Lib.hid hC
  clear hC
  refine HC.out.mono ?_
  rintro e v11 ⟨Az, mz, cz, rfl, hoz, hdz⟩
  clear HC
  replace ba := ba.next hdz
  replace ia := ia.on hdz
  replace bb := bb.next hdz
  replace ib := ib.on hdz
  replace bs := bs.next hdz
  replace is := is.on hdz
  replace bm := bm.next hdz
  replace im := im.on hdz
  replace iV := iV.on hdz
  replace hbw := bon hbw hdz
  have iz := hoz.all
  clear hoz
  have hx11 := bnew v11 (.cells #[.int .i64 rb.1, .slice Az mz cz] 26)
  have bz : BlkIs (v11.alloc (.cells #[.int .i64 rb.1, .slice Az mz cz] 26)) v11.heap.size 26 #[.int .i64 rb.1, .slice Az mz cz] := blk_new _ _ _ _ rfl
  replace ba := ba.next hx11
  replace ia := ia.on hx11
  replace bb := bb.next hx11
  replace ib := ib.on hx11
  replace bs := bs.next hx11
  replace is := is.on hx11
  replace bm := bm.next hx11
  replace im := im.on hx11
  replace iz := iz.on hx11
  replace iV := iV.on hx11
  replace hbw := bon hbw hx11
  have ca0 : (v11.alloc (.cells #[.int .i64 rb.1, .slice Az mz cz] 26)).cell? ⟨v1.heap.size, 0, none⟩ = some (.int .i64 t.1) := ba.cell 0
  have ca1 : (v11.alloc (.cells #[.int .i64 rb.1, .slice Az mz cz] 26)).cell? ⟨v1.heap.size, 1, none⟩ = some (.slice Aa ma ca) := ba.cell 1
  have hz11 : (v11.alloc (.cells #[.int .i64 rb.1, .slice Az mz cz] 26)).heap.size = v11.heap.size + 1 := by simp
  go_wp2_with fail
  generalize v11.alloc (.cells #[.int .i64 rb.1, .slice Az mz cz] 26) = v12 at ba ia bb ib bs is bm im bz iz iV hbw hx11 hz11 ca0 ca1 ⊢
  clear iL hlL
  have HVS := Lib.hid hvs
  obtain ⟨X, HX⟩ : ∃ X, Hid (evTo t vs t.2.length = X) := ⟨_, rfl⟩
  obtain ⟨Y, HY⟩ : ∃ Y, Hid (evTo u vs u.2.length = Y) := ⟨_, rfl⟩
  obtain ⟨F, HF⟩ : ∃ F, Hid (t.2.getD 0 0 = F) := ⟨_, rfl⟩
  obtain ⟨V0, HV0⟩ : ∃ V0, Hid (vs.getD 0 0 = V0) := ⟨_, rfl⟩
  rw [HX.out, HY.out] at HSV
  rw [HX.out] at HTV
  rw [HX.out, HY.out, HF.out, HV0.out] at HBV
  rw [HX.out] at hX
  rw [HY.out] at hY
  rw [HF.out] at hF
  rw [HV0.out] at hv0
  have hC := implEval_c t.1 Aa ma ca t.2 _ 10 cV vs v12 ia (by have := ia.1; omega) iV (by omega)
  rw [show evalR (t.1, t.2) vs = (X, true) from (evalR_yes (t := t) hst.1 HVS.out).trans (by rw [HX.out])] at hC
  have HC := Lib.hid hC
  clear hC
  clear ca0 ca1
  refine HC.out.mono ?_
  rintro e v13 ⟨rfl, hea⟩
  clear HC
  replace ba := ba.next hea
  replace ia := ia.on hea
  replace bb := bb.next hea
  replace ib := ib.on hea
  replace bs := bs.next hea
  replace is := is.on hea
  replace bm := bm.next hea
  replace im := im.on hea
  replace bz := bz.next hea
  replace iz := iz.on hea
  replace iV := iV.on hea
  replace hbw := bon hbw hea
  have cb0 : (v13).cell? ⟨v3.heap.size, 0, none⟩ = some (.int .i64 u.1) := bb.cell 0
  have cb1 : (v13).cell? ⟨v3.heap.size, 1, none⟩ = some (.slice Ab mb cb) := bb.cell 1
  go_wp2_with fail
  have hC := implEval_c u.1 Ab mb cb u.2 _ 10 cV vs v13 ib (by have := ib.1; omega) iV (by omega)
  rw [show evalR (u.1, u.2) vs = (Y, true) from (evalR_yes (t := u) hsu.1 HVS.out).trans (by rw [HY.out])] at hC
  have HC := Lib.hid hC
  clear hC
  clear cb0 cb1
  refine HC.out.mono ?_
  rintro e v14 ⟨rfl, heb⟩
  clear HC
  replace ba := ba.next heb
  replace ia := ia.on heb
  replace bb := bb.next heb
  replace ib := ib.on heb
  replace bs := bs.next heb
  replace is := is.on heb
  replace bm := bm.next heb
  replace im := im.on heb
  replace bz := bz.next heb
  replace iz := iz.on heb
  replace iV := iV.on heb
  replace hbw := bon hbw heb
  have cs0 : (v14).cell? ⟨v6.heap.size, 0, none⟩ = some (.int .i64 rs.1) := bs.cell 0
  have cs1 : (v14).cell? ⟨v6.heap.size, 1, none⟩ = some (.slice As ms cs) := bs.cell 1
  go_wp2_with fail
  have hC := implEval_c rs.1 As ms cs rs.2 _ 10 cV vs v14 is (by have := is.1; omega) iV (by omega)
  rw [show evalR (rs.1, rs.2) vs = (X + Y, true) from (evalR_yes (t := rs) ea2 HVS.out).trans (by rw [HSV.out])] at hC
  have HC := Lib.hid hC
  clear hC
  clear cs0 cs1
  refine HC.out.mono ?_
  rintro e v15 ⟨rfl, hes⟩
  clear HC
  replace ba := ba.next hes
  replace ia := ia.on hes
  replace bb := bb.next hes
  replace ib := ib.on hes
  replace bs := bs.next hes
  replace is := is.on hes
  replace bm := bm.next hes
  replace im := im.on hes
  replace bz := bz.next hes
  replace iz := iz.on hes
  replace iV := iV.on hes
  replace hbw := bon hbw hes
  have cm0 : (v15).cell? ⟨v8.heap.size, 0, none⟩ = some (.int .i64 rt.1) := bm.cell 0
  have cm1 : (v15).cell? ⟨v8.heap.size, 1, none⟩ = some (.slice Am mm cm) := bm.cell 1
  go_wp2_with fail
  have hC := implEval_c rt.1 Am mm cm rt.2 _ 10 cV vs v15 im (by have := im.1; omega) iV (by omega)
  rw [show evalR (rt.1, rt.2) vs = ((x - 4) * X, true) from (evalR_yes (t := rt) et2 HVS.out).trans (by rw [HTV.out])] at hC
  have HC := Lib.hid hC
  clear hC
  clear cm0 cm1
  refine HC.out.mono ?_
  rintro e v16 ⟨rfl, hem⟩
  clear HC
  replace ba := ba.next hem
  replace ia := ia.on hem
  replace bb := bb.next hem
  replace ib := ib.on hem
  replace bs := bs.next hem
  replace is := is.on hem
  replace bm := bm.next hem
  replace im := im.on hem
  replace bz := bz.next hem
  replace iz := iz.on hem
  replace iV := iV.on hem
  replace hbw := bon hbw hem
  have cz0 : (v16).cell? ⟨v11.heap.size, 0, none⟩ = some (.int .i64 rb.1) := bz.cell 0
  have cz1 : (v16).cell? ⟨v11.heap.size, 1, none⟩ = some (.slice Az mz cz) := bz.cell 1
  go_wp2_with fail
  have hC := implEval_c rb.1 Az mz cz rb.2 _ 10 cV vs v16 iz (by have := iz.1; omega) iV (by omega)
  rw [show evalR (rb.1, rb.2) vs = (X - F * V0 + F * Y, true) from (evalR_yes (t := rb) eb2 HVS.out).trans (by rw [HBV.out])] at hC
  have HC := Lib.hid hC
  clear hC
  clear cz0 cz1
  refine HC.out.mono ?_
  rintro e v17 ⟨rfl, hez⟩
  clear HC
  replace ba := ba.next hez
  replace ia := ia.on hez
  replace bb := bb.next hez
  replace ib := ib.on hez
  replace bs := bs.next hez
  replace is := is.on hez
  replace bm := bm.next hez
  replace im := im.on hez
  replace bz := bz.next hez
  replace iz := iz.on hez
  replace iV := iV.on hez
  replace hbw := bon hbw hez
  have P1 := mul_le' (a := x - 4) (b := X) (m := 4) (n := 20000000000000000) (by omega) (by omega) (by omega) (by omega)
  have P2 := mul_le' (a := F) (b := V0) (m := 4) (n := 6) (by omega) (by omega) (by omega) (by omega)
  have P3 := mul_le' (a := F) (b := Y) (m := 4) (n := 20000000000000000) (by omega) (by omega) (by omega) (by omega)
  obtain ⟨hX1, hX2⟩ := hX
  obtain ⟨hY1, hY2⟩ := hY
  obtain ⟨hF1, hF2⟩ := hF
  obtain ⟨hV1, hV2⟩ := hv0
  obtain ⟨P11, P12⟩ := P1
  obtain ⟨P21, P22⟩ := P2
  obtain ⟨P31, P32⟩ := P3
  have q1 := IntWalk.i64_in (X + Y) (by omega)
  have q2 := IntWalk.i64_in ((x - 4) * X) (by omega)
  have q3 := IntWalk.i64_in (F * V0) (by omega)
  have q4 := IntWalk.i64_in (X - F * V0) (by omega)
  have q5 := IntWalk.i64_in (F * Y) (by omega)
  have q6 := IntWalk.i64_in (X - F * V0 + F * Y) (by omega)
  obtain ⟨bv, ov, xv, hAv, hbv, hxv, hcv⟩ := iV.2.int_at (k := 0) (by rw [iV.1]; omega)
  have gv : xv = V0 := by have := HV0.out; rw [List.getD_eq_getElem?_getD, hxv] at this; exact this
  subst gv
  obtain ⟨rfl, rfl⟩ : gV = bv ∧ 0 = ov := by injection hAv with h; injection h with h1 h2; exact ⟨h1, h2⟩
  have iA := ia
  have bA := ba
  clear bb ib
  clear bs is
  clear bm im
  clear bz iz
  clear HVS hvs hvl hvb hst hsu ea1 ea2 ea3 eb1 eb2 eb3 et1 et2 et3 hxv hAv HSV HTV HBV HX HY HV0
  have ca0 : (v17).cell? ⟨v1.heap.size, 0, none⟩ = some (.int .i64 t.1) := ba.cell 0
  have ca1 : (v17).cell? ⟨v1.heap.size, 1, none⟩ = some (.slice Aa ma ca) := ba.cell 1
  rw [Nat.zero_add] at hcv
  rcases Nat.eq_zero_or_pos ma with hz | hz
  · have hF0 : F = 0 := by have := HF.out; rw [getD_off (by have := iA.1; omega)] at this; exact this.symm
    subst hz
    subst hF0
    go_wp2_with fail
    go_ret
    exact ⟨by congr 1, hbw⟩
  · obtain ⟨b2, o2, xx, rfl, hb2, hx2, hc2⟩ := iA.2.int_at (k := 0) (by rw [iA.1]; omega)
    have gF : xx = F := by have := HF.out; rw [List.getD_eq_getElem?_getD, hx2] at this; exact this
    subst gF
    rw [Nat.add_zero] at hc2
    clear hx2
    have hz2 : (0 : Int) < (ma : Int) := by omega
    go_wp2_with fail
    go_ret
    exact ⟨by congr 1, hbw⟩

set_option maxRecDepth 100000 in
theorem lifted (os : Os) (started : os.Started) (H : Type) (enc : TypeId × Value → H) :
    ReturnsInHanded {} Try.checked os 3 .any (Rows.fnTermsSpec.pre6 enc Try.prog Try.f3 Rows.fnTermsRow.domain false) (Rows.fnTermsSpec.post enc Try.prog Try.f3 false true false false) := by
  refine returnsInHanded_of_change (C := Try.checked) own started (by kernel_rfl) Try.func3
    (ChangeSpec.witness6 (enc := enc) (C := Try.checked) false ⟨#[], #[.slice none 0 0, .slice none 0 0], []⟩ 8 (by kernel_rfl) (by kernel_rfl) (by kernel_rfl) (by kernel_rfl)) ?_
  intro W base args ds gs before hval0 hW hcnd _
  have hval : ∀ (j : Nat) t v, Try.f3.params[j]? = some t → args[j]? = some v → Value.okWide Try.prog W .any base t v := hval0
  have hW' := hW
  obtain ⟨p, q, hA0, hV, rfl, hfz, hnd⟩ := hW
  have hA : DataW.TrodAll enc Try.prog W 0 (fun _ => true) true Try.f3.params.toList args.toList ds p := hA0
  rw [Try.params3] at hA hval
  obtain ⟨v0, vs0, d0, ds0, p0, q0, hargs, rfl, rfl, h0, r0⟩ := trodAll_cons hA
  obtain ⟨v1, vs1, d1, ds1, p1, q1, rfl, rfl, rfl, h1, r1⟩ := trodAll_cons r0
  obtain ⟨rfl, rfl, rfl⟩ := trodAll_nil r1
  obtain rfl : args = #[v0, v1] := by cases args; simp_all
  obtain ⟨rfl, rfl⟩ := trodVars_none hV
  obtain ⟨a0, len0, cap0, rfl⟩ := okWide_slice Try.underlying22 (hval 0 22 v0 rfl rfl)
  have k0 := h0
  have lt0 : ∀ x ∈ p0, x.block < W.heap.size := by obtain ⟨m, hm⟩ := k0; exact DataW.trod_lt m _ _ _ hm
  obtain ⟨z0, w0⟩ : ∃ zs, IsRow .u8 W a0 len0 cap0 zs := by
    obtain ⟨fuel, hf⟩ := h0
    rcases open_ints Try.underlying22 Try.underlying5 (by kernel_rfl) hf with ⟨hcs, _⟩ | ⟨x, l, c, zs, hcs, _, hl, hm, hz, _, hcell, hwz⟩
    · simp [Value.cells] at hcs
      obtain ⟨rfl, rfl, rfl⟩ := hcs
      exact ⟨[], .inl ⟨rfl, rfl, rfl, rfl⟩⟩
    · simp [Value.cells] at hcs
      obtain ⟨rfl, rfl, rfl⟩ := hcs
      exact ⟨zs, .inr ⟨_, rfl, hl, hm, by simpa using hz, hcell, hwz⟩⟩
  obtain ⟨a1, len1, cap1, rfl⟩ := okWide_slice Try.underlying22 (hval 1 22 v1 rfl rfl)
  have k1 := h1
  have lt1 : ∀ x ∈ p1, x.block < W.heap.size := by obtain ⟨m, hm⟩ := k1; exact DataW.trod_lt m _ _ _ hm
  obtain ⟨z1, w1⟩ : ∃ zs, IsRow .u8 W a1 len1 cap1 zs := by
    obtain ⟨fuel, hf⟩ := h1
    rcases open_ints Try.underlying22 Try.underlying5 (by kernel_rfl) hf with ⟨hcs, _⟩ | ⟨x, l, c, zs, hcs, _, hl, hm, hz, _, hcell, hwz⟩
    · simp [Value.cells] at hcs
      obtain ⟨rfl, rfl, rfl⟩ := hcs
      exact ⟨[], .inl ⟨rfl, rfl, rfl, rfl⟩⟩
    · simp [Value.cells] at hcs
      obtain ⟨rfl, rfl, rfl⟩ := hcs
      exact ⟨zs, .inr ⟨_, rfl, hl, hm, by simpa using hz, hcell, hwz⟩⟩
  clear hA0 hval0
  refine (walk a0 len0 cap0 z0 a1 len1 cap1 z1 W w0 w1).mono fun e W' ⟨he, bel⟩ => ?_
  subst he
  exact ⟨_, rfl, _, _, _, [], _, [], hW', trodAll_mk1 (shut_bool Try.underlying4 _), (trodAll_cons_mk (Below.trod laidOut (by kernel_rfl) (of_decide_eq_true (by kernel_rfl)) k0 bel lt0) (trodAll_cons_mk (Below.trod laidOut (by kernel_rfl) (of_decide_eq_true (by kernel_rfl)) k1 bel lt1) trodAll_mk0)), rfl, bel.frame _, fun h => by cases h⟩

theorem over : Rows.fnTermsRow.holds Try.pinned (OpenSpec.ofChange Rows.fnTermsSpec) :=
  OpenClaim.holds_of_wide 3 Try.f3 rfl rfl rfl rfl rfl rfl rfl ⟨rfl, rfl, rfl, rfl, rfl⟩ rfl rfl rfl rfl rfl (by kernel_rfl) Try.func3 (by kernel_rfl)
    (of_decide_eq_true (by kernel_rfl)) (by unfold Func.isWrapper; first | (rw [if_pos (by decide +kernel)]; kernel_rfl) | (rw [if_neg (by decide +kernel)]; exact ⟨rfl, rfl⟩))
    (fun os started H enc _ => lifted os started H enc)

/-- The statement. -/
theorem proved : Rows.FnTermsSaid := over
#print axioms proved
end Go.Proofs.Ytddmpdpmgjggoaa.fnTerms
