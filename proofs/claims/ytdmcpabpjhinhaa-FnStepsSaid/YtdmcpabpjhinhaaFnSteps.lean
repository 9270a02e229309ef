/-
  For all bytes, of the code and the state that are drawn from them: a run makes the steps one after another, tells their events, counts each instruction that is executed, and ends as the last step does.
  Conditions: none but those that the statement itself bears.
-/
import Derived.Test.YtdmcpabpjhinhaaRows
import Derived.WalkKit
import Derived.ProofKit
import Derived.OpenShut
import Derived.ShutString
import Derived.ChangeOld
import Derived.Below
import Derived.Test.YtdmcpabpjhinhaaBase
import Derived.Test.YtdmcpabpjhinhaaStpB
import Derived.Test.YtdmcpabpjhinhaaAppend
namespace Go.Proofs.Ytdmcpabpjhinhaa.fnSteps
open Go.ChangeShapes Go.WideShapes Go.ChangeAt Go.RowKit
open Go.ChangeMaps (open_string shut_string)
set_option linter.unusedVariables false

theorem own : ownKnob Try.prog.godebug = none := by kernel_rfl
theorem laidOut : laidOutB Try.prog = true := by kernel_rfl

/-- WHAT THE WALK IS TOLD OF A SLICE OF INTEGERS THAT CAME IN: it is nil; or it leads to a row of 'cap' cells, the numbers 'zs' (the first 'len' are its elements, the rest its spare room), each fitting its kind. -/
def IsRow (k : IntKind) (w : World) (a : Option Addr) (len cap : Nat) (zs : List Int) : Prop :=
  (a = none ∧ len = 0 ∧ cap = 0 ∧ zs = []) ∨
  ∃ x, a = some x ∧ len ≤ cap ∧ cap ≤ maxLen ∧ zs.length = cap ∧ (∀ i, i < zs.length → w.cell? (x.add i) = some (.int k (zs.getD i 0))) ∧ ∀ n ∈ zs, (Lit.int k n).wf = true

theorem IsRow.row {k : IntKind} {w : World} {a : Option Addr} {len cap : Nat} {zs : List Int} (h : IsRow k w a len cap zs) :
    Row w w.heap.size a ((zs.take len).map (Value.int k)) ∧ (zs.take len).length = len ∧ ∀ n ∈ zs.take len, (Lit.int k n).wf = true := by
  rcases h with ⟨rfl, rfl, rfl, rfl⟩ | ⟨x, rfl, hl, _, hz, hcell, hwz⟩
  · exact ⟨Row.nil, rfl, fun n hn => by simp at hn⟩
  · have hlen : (zs.take len).length = len := by rw [List.length_take]; omega
    refine ⟨fun j hj => ?_, hlen, fun n hn => hwz n (List.mem_of_mem_take hn)⟩
    rw [List.length_map, hlen] at hj
    have hc := hcell j (by omega)
    obtain ⟨b, off, spot⟩ := x
    have hspot : spot = none := by simpa [Addr.add] using World.cell?_spot (hcell 0 (by omega))
    subst hspot
    have ha : (⟨b, off, none⟩ : Addr).add j = ⟨b, off + j, none⟩ := by unfold Addr.add; split <;> simp_all
    rw [ha] at hc
    refine ⟨b, off, rfl, cell_lt hc, ?_⟩
    rw [hc, List.getElem?_map, List.getElem?_take, if_pos (by omega), List.getElem?_eq_getElem (by omega)]
    simp [List.getD, List.getElem?_eq_getElem (show j < zs.length by omega)]

set_option maxRecDepth 100000 in
set_option maxHeartbeats 4000000 in
theorem walk (a0 : Option Addr) (len0 cap0 : Nat) (z0 : List Int) (a1 : Option Addr) (len1 cap1 : Nat) (z1 : List Int) (w : World) (w0 : IsRow .u8 w a0 len0 cap0 z0) (w1 : IsRow .u8 w a1 len1 cap1 z1) :
    Calls Try.prog 4 #[.slice a0 len0 cap0, .slice a1 len1 cap1] w fun e w' => e = .returned (.bool true) ∧ Below w.heap.size w w' := by
  obtain ⟨i0, hi, hz0, hz1, hz2⟩ := info_parts infoS64
  obtain ⟨hrow0, hlen0, hwf0⟩ := w0.row
  obtain ⟨hrow1, hlen1, hwf1⟩ := w1.row
  obtain ⟨bs0, hbs0, hb0⟩ := bytes_of hwf0
  obtain ⟨bs1, hbs1, hb1⟩ := bytes_of hwf1
  rw [hbs0] at hrow0 hlen0
  rw [hbs1] at hrow1 hlen1
  rw [List.map_map] at hrow0 hrow1
  rw [List.length_map] at hlen0 hlen1
  change Row w w.heap.size a0 (bs0.map bc) at hrow0
  change Row w w.heap.size a1 (bs1.map bc) at hrow1
  clear hbs0 hbs1 w0 w1 hwf0 hwf1
  by_cases hl0 : (48 : Int) < len0
  · go_enter Try.func4, Try.ntmps4
    go_wp2
    go_ret
    exact ⟨rfl, Below.refl _ _⟩
  by_cases hl1 : (48 : Int) < len1
  · go_enter Try.func4, Try.ntmps4
    go_wp2
    go_ret
    exact ⟨rfl, Below.refl _ _⟩
  have HR0 := Lib.hid hrow0
  have HR1 := Lib.hid hrow1
  have HB0 := Lib.hid hb0
  have HB1 := Lib.hid hb1
  clear hrow0 hrow1 hb0 hb1
  go_enter Try.func4, Try.ntmps4
  go_wp2_with (first | (go_at_call 16; go_in))
  refine (R8Code_c a0 len0 cap0 bs0 w HR0.out hlen0 HB0.out (by omega)).mono ?_
  rintro e v1 ⟨C, cc, cs, rfl, hcb, hin1, hb1⟩
  obtain ⟨hc1, hc2, _⟩ := codeB_parts hcb
  have HCB := Lib.hid hcb
  have HR2 := Lib.hid ((HR1.out.below hb1 (Nat.le_refl _)).more hb1.size)
  obtain ⟨cn, hcn⟩ : ∃ cn, cs.length = cn := ⟨_, rfl⟩
  rw [hcn] at hc1 hc2 hin1 ⊢
  have HCN := Lib.hid hcn
  have HI1 := Lib.hid (fun W (h : Below v1.heap.size v1 W) => (hin1.next h (Nat.le_refl _)).more h.size)
  clear hcb hin1 hcn HR1 HR0 HB0
  go_wp2_with fail
  refine (R8State_c a1 len1 cap1 bs1 v1 HR2.out hlen1 HB1.out (by omega)).mono ?_
  rintro e v2 ⟨A0, c0, vs, A1, c1, zs, rfl, hst, h0, h1, hb2⟩
  have hrb : runB cs vs zs 60 = true := by unfold runB; rw [HCB.out, hst]; rfl
  have hrr := runR_yes hrb
  have hcr := cntR_yes hrb
  have HCV : Hid (CfC (c0R vs zs)) := (runB_parts hrb).2.2.2.1
  rw [show (60 : Int).toNat = 60 from rfl] at hrr hcr
  obtain ⟨L, hL⟩ : ∃ L, Hid (runN cs 60 (c0R vs zs) = L) := ⟨_, rfl⟩
  rw [hL.out] at hrr hcr
  rw [HCN.out] at hcr
  obtain ⟨⟨lv, lz, ls, lp⟩, lps, lo⟩ := L
  dsimp only at hrr hcr
  have hb3 := bnew v2 (.cells #[.slice A0 4 c0, .slice A1 8 c1] 52)
  have hS : BlkIs (v2.alloc (.cells #[.slice A0 4 c0, .slice A1 8 c1] 52)) v2.heap.size 52 #[.slice A0 4 c0, .slice A1 8 c1] := blk_new _ _ _ _ rfl
  have p0 : (v2.alloc (.cells #[.slice A0 4 c0, .slice A1 8 c1] 52)).cell? ⟨v2.heap.size, 0, none⟩ = some (.slice A0 4 c0) := hS.cell 0
  have p1 : (v2.alloc (.cells #[.slice A0 4 c0, .slice A1 8 c1] 52)).cell? ⟨v2.heap.size, 1, none⟩ = some (.slice A1 8 c1) := hS.cell 1
  have HZ0 := Lib.hid (fun W (h : Below v2.heap.size v2 W) => (h0.next h (Nat.le_refl _)).more h.size)
  have HZ1 := Lib.hid (fun W (h : Below v2.heap.size v2 W) => (h1.next h (Nat.le_refl _)).more h.size)
  have hrun := implRun_c C cn cc cs A0 4 c0 vs A1 8 c1 zs 60 (v2.alloc (.cells #[.slice A0 4 c0, .slice A1 8 c1] 52)) (HI1.out _ (bon hb2 hb3)) (HZ0.out _ hb3) (HZ1.out _ hb3) (by omega) (by omega) (by omega)
  rw [hrr] at hrun
  dsimp only at hrun
  have HRUN := Lib.hid hrun
  have HCR := Lib.hid hcr
  clear hst h0 h1 hrb hrr hcr hrun HB1 HR2
  go_wp2_with fail
  generalize hv3 : v2.alloc (.cells #[.slice A0 4 c0, .slice A1 8 c1] 52) = v3 at hS p0 p1 hb3 HRUN ⊢
  obtain ⟨sb, hsb⟩ : ∃ sb, Hid (v2.heap.size = sb) := ⟨_, rfl⟩
  rw [hsb.out] at hS p0 p1 ⊢
  clear hv3
  refine HRUN.out.mono ?_
  rintro e v4 ⟨R0, d0, R1, d1, R2, d2, m0, m1, rfl, o0, o1, o2, hmd, hb4⟩
  have hT : BlkIs (v4.alloc (.cells #[.slice R0 lv.length d0, .slice R1 lz.length d1] 52)) v4.heap.size 52 #[.slice R0 lv.length d0, .slice R1 lz.length d1] := blk_new _ _ _ _ rfl
  have hb5 := bnew v4 (.cells #[.slice R0 lv.length d0, .slice R1 lz.length d1] 52)
  have hS5 := hS.next (bon hb4 hb5)
  have hb25 := bon (bon hb3 hb4) hb5
  have r0 : (v4.alloc (.cells #[.slice R0 lv.length d0, .slice R1 lz.length d1] 52)).cell? ⟨sb, 0, none⟩ = some (.slice A0 4 c0) := hS5.cell 0
  have r1 : (v4.alloc (.cells #[.slice R0 lv.length d0, .slice R1 lz.length d1] 52)).cell? ⟨sb, 1, none⟩ = some (.slice A1 8 c1) := hS5.cell 1
  have hq4 : v4.cell? ⟨sb, 0, none⟩ = some (.slice A0 4 c0) := (hS.next hb4).cell 0
  have hq5 : v4.cell? ⟨sb, 1, none⟩ = some (.slice A1 8 c1) := (hS.next hb4).cell 1
  have HRa := Lib.hid (fun W (h : Below v4.heap.size v4 W) => (o0.all.next h (Nat.le_refl _)).more h.size)
  have HRb := Lib.hid (fun W (h : Below v4.heap.size v4 W) => (o1.all.next h (Nat.le_refl _)).more h.size)
  have HRe := Lib.hid (fun W (h : Below v4.heap.size v4 W) => (o2.all.next h (Nat.le_refl _)).more h.size)
  have hcnt := implCount_c C cn cc cs A0 4 c0 vs A1 8 c1 zs 60 (v4.alloc (.cells #[.slice R0 lv.length d0, .slice R1 lz.length d1] 52)) (HI1.out _ (bon hb2 hb25)) (HZ0.out _ hb25) (HZ1.out _ hb25) (by omega) (by omega) (by omega)
  rw [HCR.out] at hcnt
  dsimp only at hcnt
  rw [countR_len] at hcnt
  have HCNT := Lib.hid hcnt
  have HW5 := Lib.hid hb25
  have HB45 := Lib.hid hb5
  have HT := Lib.hid hT
  have HS5 := Lib.hid hS5
  have HBV := Lib.hid (bon hb1 (bon hb2 hb25))
  have HBV1 := Lib.hid (bon hb2 hb25)
  clear hS p0 p1 o0 o1 o2 hmd hcnt HRUN hb25 hb5 hT hS5 hb3 hb4 HCR hb1 hb2
  go_wp2_with fail
  generalize v4.alloc (.cells #[.slice R0 lv.length d0, .slice R1 lz.length d1] 52) = v5 at r0 r1 HCNT HW5 HB45 HT HS5 HBV HBV1 ⊢
  obtain ⟨tb, htb⟩ : ∃ tb, Hid (v4.heap.size = tb) := ⟨_, rfl⟩
  rw [htb.out] at HT ⊢
  refine HCNT.out.mono ?_
  rintro e v6 ⟨R3, d3, rfl, o3, hb6⟩
  have hS6 := HS5.out.next hb6
  have r0 : v6.cell? ⟨sb, 0, none⟩ = some (.slice A0 4 c0) := hS6.cell 0
  have r1 : v6.cell? ⟨sb, 1, none⟩ = some (.slice A1 8 c1) := hS6.cell 1
  have HT6 := Lib.hid (fun W (h : Below v6.heap.size v6 W) => HT.out.next (bon hb6 h))
  have HRc := Lib.hid (fun W (h : Below v6.heap.size v6 W) => (o3.all.next h (Nat.le_refl _)).more h.size)
  have HV6 := Lib.hid (fun W (h : Below v6.heap.size v6 W) => bon (bon HBV.out hb6) h)
  have HI6 := Lib.hid (fun W (h : Below v6.heap.size v6 W) => HI1.out W (bon (bon HBV1.out hb6) h))
  have HR6 := Lib.hid (fun W (h : Below v6.heap.size v6 W) => (And.intro (HRa.out W (bon (bon HB45.out hb6) h)) (And.intro (HRb.out W (bon (bon HB45.out hb6) h)) (HRe.out W (bon (bon HB45.out hb6) h)))))
  have HZ6 := Lib.hid (And.intro (HZ0.out v6 (bon HW5.out hb6)) (HZ1.out v6 (bon HW5.out hb6)))
  clear hS6 o3 hb6 HCNT HT HS5 HRa HRb HRe HZ0 HZ1 HBV HBV1 HI1 HW5 HB45
  go_wp2_with (at_make; refine wpList_make_full _ rfl _ _ 50 rfl v6.heap.size 2 i0 (.int .i64 0) 1 Try.underlying50 hi hz0 hz1 .i64 .i64 _ _ cn rfl rfl rfl rfl (by rw [hz2]; omega) (by unfold maxLen; omega) (by simp; try omega) ?_; intro v9 hown hgrow)
  have hb7 := bnew v6 (.cells #[.slice A0 4 c0, .slice A1 8 c1, .slice none 0 0, .int .i64 0] 59)
  have hX7 : BlkIs (v6.alloc (.cells #[.slice A0 4 c0, .slice A1 8 c1, .slice none 0 0, .int .i64 0] 59)) v6.heap.size 59 #[.slice A0 4 c0, .slice A1 8 c1, .slice none 0 0, .int .i64 0] := blk_new _ _ _ _ rfl
  have hz7 : (v6.alloc (.cells #[.slice A0 4 c0, .slice A1 8 c1, .slice none 0 0, .int .i64 0] 59)).heap.size = v6.heap.size + 1 := by simp
  have he7 := own_empty (v6.alloc (.cells #[.slice A0 4 c0, .slice A1 8 c1, .slice none 0 0, .int .i64 0] 59)) 2
  have hb8 := bnew (v6.alloc (.cells #[.slice A0 4 c0, .slice A1 8 c1, .slice none 0 0, .int .i64 0] 59)) (.cells #[] 2)
  have hz8 : ((v6.alloc (.cells #[.slice A0 4 c0, .slice A1 8 c1, .slice none 0 0, .int .i64 0] 59)).alloc (.cells #[] 2)).heap.size = v6.heap.size + 1 + 1 := by simp
  have hb9 : Below ((v6.alloc (.cells #[.slice A0 4 c0, .slice A1 8 c1, .slice none 0 0, .int .i64 0] 59)).alloc (.cells #[] 2)).heap.size ((v6.alloc (.cells #[.slice A0 4 c0, .slice A1 8 c1, .slice none 0 0, .int .i64 0] 59)).alloc (.cells #[] 2)) v9 := (Below.refl _ _).grown hgrow (Nat.le_refl _) (fun q hq => by cases hq)
  rw [hz7] at he7
  rw [hz8] at hown
  have hown2 : v9.ownsRow v6.heap.size 2 1 (.slice (some ⟨v6.heap.size + 1 + 1, 0, none⟩) (countR cn []).length cn) (countR cn []).length ((countR cn []).map ic) := by
    rw [countR_len]
    have e : countR cn [] = List.replicate cn 0 := rfl
    rw [e, List.map_replicate]
    have e2 := hown
    rw [show (Value.int .i64 0).cells = #[Value.int .i64 0] from rfl, toList_madeCells_one] at e2
    simpa [ic] using e2
  have hM : StpS v6 v6.heap.size (v6.heap.size + 1) 0 (v6.heap.size + 1 + 1) cn (evR cs []) (countR cn []) (c0R vs zs) A0 c0 A1 c1 none 0 v9 := by
    have hv := HCV.out
    refine ⟨?_, ?_, ?_, ?_, ?_, hown2, by omega, bon (bon hb7 hb8) hb9, Nat.le_refl _⟩
    · have := (hX7.next hb8).next hb9
      rw [show (c0R vs zs).1.length = 4 from hv.lv, show (c0R vs zs).2.1.length = 8 from hv.lz]
      exact this
    · have := FarR.of_in (P := P3 (v6.heap.size + 1) (v6.heap.size + 1 + 1) v6.heap.size) HZ6.out.1 (by omega) (fun b hb => by rcases hb with rfl | rfl | rfl <;> omega)
      rw [show (c0R vs zs).1.length = 4 from hv.lv]
      exact this.next (bon (bon hb7 hb8) hb9)
    · have := FarR.of_in (P := P3 (v6.heap.size + 1) (v6.heap.size + 1 + 1) v6.heap.size) HZ6.out.2 (by omega) (fun b hb => by rcases hb with rfl | rfl | rfl <;> omega)
      rw [show (c0R vs zs).2.1.length = 8 from hv.lz]
      exact this.next (bon (bon hb7 hb8) hb9)
    · exact FarR.none _ _
    · exact own_below (own_less he7 (by omega)) hb9
  have HM := Lib.hid hM
  clear hX7 hz7 hz8 he7 hown hown2 hM hb7 hb8 hb9 hgrow r0 r1 HZ6
  generalize v6.heap.size + 1 + 1 = gO at HM ⊢
  generalize v6.heap.size + 1 = gT at HM ⊢
  generalize hbb : v6.heap.size = b at HM ⊢
  have HBB := Lib.hid hbb
  clear hbb
  go_loopw [14, 16, 17, 18, 19, 20] (fun t e k _ _ _ wr => ∃ (j gT cT : Nat) (ps : List Int) (c : Cf) (B0 : Option Addr) (e0 : Nat) (B1 : Option Addr) (e1 : Nat) (B2 : Option Addr) (e2 : Nat), t = .slice (some ⟨gT, 0, none⟩) (evR cs ps).length cT ∧ e = .int .i64 1 ∧ k = .int .i64 j ∧ j ≤ 60 ∧ Hid (CfC c) ∧ Hid (Along cs (c0R vs zs) c ps j) ∧ Hid (ps.length = j) ∧ Hid (StpS v6 b gT cT gO cn (evR cs ps) (countR cn ps) c B0 e0 B1 e1 B2 e2 wr)) (fun _ _ k _ _ _ _ => (60 - intOf k).toNat)
  case atStart => exact ⟨0, gT, 0, [], c0R vs zs, A0, c0, A1, c1, none, 0, rfl, rfl, rfl, by omega, HCV, Along.start _ _, rfl, HM⟩
  case round =>
    clear HM
    rename World => wr
    obtain ⟨j, gT, cT, ps, c, B0, e0, B1, e1, B2, e2, rfl, rfl, rfl, hj, HV, HAL, HPL, HM⟩ := hrel
    have hel : (evR cs ps).length ≤ 60 := by have := evR_len cs ps; have := HPL.out; omega
    obtain ⟨cv, cz, cst, cp⟩ := c
    obtain ⟨pn, rfl⟩ : ∃ pn : Nat, cp = pn := ⟨cp.toNat, by have : 0 ≤ cp := HV.out.p0; omega⟩
    by_cases hlt : j < 60
    · have i3 : (j : Int) < 60 := by omega
      have hM := HM.out
      have z0 : wr.cell? ⟨b, 0, none⟩ = some (.slice B0 cv.length e0) := hM.box.cell 0
      have z1 : wr.cell? ⟨b, 1, none⟩ = some (.slice B1 cz.length e1) := hM.box.cell 1
      have z2 : wr.cell? ⟨b, 2, none⟩ = some (.slice B2 cst.length e2) := hM.box.cell 2
      have z3 : wr.cell? ⟨b, 3, none⟩ = some (.int .i64 pn) := hM.box.cell 3
      have hcl : cv.length = 4 := HV.out.lv
      have hzl : cz.length = 8 := HV.out.lz
      have hsl : cst.length ≤ 6 := HV.out.ls
      have hstep := implStep_c C cn cc cs B0 cv.length e0 cv B1 cz.length e1 cz B2 cst.length e2 cst (pn : Int) wr (HI6.out wr hM.low) hM.f0.1 hM.f1.1 hM.f2.1 (by omega) (by omega) (by omega) (by omega)
      rw [stepR_yes (vcfB_cf HCB.out HV.out)] at hstep
      by_cases ho : outN cs cst (pn : Int) = 0
      · rw [behN_go ho] at hstep
        obtain ⟨hpn, x, hx, -, -⟩ := outC_parts (cs := cs) (c := (cv, cz, cst, (pn : Int))) ho HV.out
        have HNV := Lib.hid (CfC.next HV.out HCB.out (show outC cs (cv, cz, cst, (pn : Int)) = 0 from ho))
        have HAL2 := Lib.hid (HAL.out.step hlt ho)
        rw [ho] at hstep
        obtain ⟨⟨nv, nz, ns, np⟩, hN⟩ : ∃ d : Cf, Hid (nextN cs (cv, cz, cst, (pn : Int)) = d) := ⟨_, rfl⟩
        rw [hN.out] at hstep HNV HAL2
        dsimp only at hx hpn HAL2
        rw [HCN.out] at hpn
        have hpn2 : pn < cn := by omega
        have i4 : ¬ (pn : Int) < 0 := by omega
        have i5 : ¬ (cn : Int) ≤ (pn : Int) := by omega
        rw [Int.toNat_natCast] at hx
        have HSTEP := Lib.hid hstep
        have HX := Lib.hid hx
        clear hstep hx ho hM hcl hzl hsl
        go_wp2_with fail
        refine HSTEP.out.mono ?_
        rintro e w1 ⟨X0, x0, X1, x1, X2, x2, md, md2, rfl, q0, q1, q2, hmd, hbs⟩
        dsimp only at q0 q1 q2 ⊢
        have hM := HM.out
        have hlow := hM.low
        have hba := bnew w1 (.cells #[.slice X0 nv.length x0, .slice X1 nz.length x1, .slice X2 ns.length x2, .int .i64 np] 59)
        have hNB : BlkIs (w1.alloc (.cells #[.slice X0 nv.length x0, .slice X1 nz.length x1, .slice X2 ns.length x2, .int .i64 np] 59)) w1.heap.size 59 #[.slice X0 nv.length x0, .slice X1 nz.length x1, .slice X2 ns.length x2, .int .i64 np] := blk_new _ _ _ _ rfl
        have hP : ∀ y, P3 gT gO b y → y < wr.heap.size := fun y hy => by rcases hy with rfl | rfl | rfl; exact (hM.told.lt _ rfl).2; exact (hM.own.lt _ rfl).2; exact hM.box.lt
        have k0 := (FarR.of_own q0 hP).next hba
        have k1 := (FarR.of_own q1 (fun y hy => Nat.lt_of_lt_of_le (hP y hy) hmd.1)).next hba
        have k2 := (FarR.of_own q2 (fun y hy => Nat.lt_of_lt_of_le (hP y hy) (Nat.le_trans hmd.1 hmd.2.1))).next hba
        have hM2 := (hM.keep hbs).keep hba
        have hnb : b < w1.heap.size ∧ gT < w1.heap.size ∧ gO < w1.heap.size := ⟨Nat.lt_of_lt_of_le (hP b (.inr (.inr rfl))) hbs.size, Nat.lt_of_lt_of_le (hP gT (.inl rfl)) hbs.size, Nat.lt_of_lt_of_le (hP gO (.inr (.inl rfl))) hbs.size⟩
        clear q0 q1 q2 hmd hM hbs hba HM hlow hP z0 z1 z2 z3 HSTEP
        have z3 : (w1.alloc (.cells #[.slice X0 nv.length x0, .slice X1 nz.length x1, .slice X2 ns.length x2, .int .i64 np] 59)).cell? ⟨b, 3, none⟩ = some (.int .i64 pn) := hM2.box.cell 3
        have hva := implConfig_c C cn cc cs X0 nv.length x0 nv X1 nz.length x1 nz X2 ns.length x2 ns np (w1.alloc (.cells #[.slice X0 nv.length x0, .slice X1 nz.length x1, .slice X2 ns.length x2, .int .i64 np] 59)) (HI6.out _ hM2.low) k0.1 k1.1 k2.1 (by omega) (by have : nv.length = 4 := HNV.out.lv; omega) (by have : nz.length = 8 := HNV.out.lz; omega) (by have : ns.length ≤ 6 := HNV.out.ls; omega)
        rw [vcfB_cf (c := (nv, nz, ns, np)) HCB.out HNV.out] at hva
        have HVA := Lib.hid hva
        have n0 : (w1.alloc (.cells #[.slice X0 nv.length x0, .slice X1 nz.length x1, .slice X2 ns.length x2, .int .i64 np] 59)).cell? ⟨w1.heap.size, 0, none⟩ = some (.slice X0 nv.length x0) := hNB.cell 0
        have n1 : (w1.alloc (.cells #[.slice X0 nv.length x0, .slice X1 nz.length x1, .slice X2 ns.length x2, .int .i64 np] 59)).cell? ⟨w1.heap.size, 1, none⟩ = some (.slice X1 nz.length x1) := hNB.cell 1
        have n2 : (w1.alloc (.cells #[.slice X0 nv.length x0, .slice X1 nz.length x1, .slice X2 ns.length x2, .int .i64 np] 59)).cell? ⟨w1.heap.size, 2, none⟩ = some (.slice X2 ns.length x2) := hNB.cell 2
        have n3 : (w1.alloc (.cells #[.slice X0 nv.length x0, .slice X1 nz.length x1, .slice X2 ns.length x2, .int .i64 np] 59)).cell? ⟨w1.heap.size, 3, none⟩ = some (.int .i64 np) := hNB.cell 3
        clear hva
        go_wp2_with fail
        generalize (w1.alloc (.cells #[.slice X0 nv.length x0, .slice X1 nz.length x1, .slice X2 ns.length x2, .int .i64 np] 59)) = w2 at hM2 hNB k0 k1 k2 HVA z3 n0 n1 n2 n3 ⊢
        generalize w1.heap.size = nb at hNB n0 n1 n2 n3 hnb ⊢
        refine HVA.out.mono ?_
        rintro e w3 ⟨rfl, hb3⟩
        have hM3 := hM2.keep hb3
        have hNB3 := hNB.next hb3
        have k03 := k0.next hb3
        have k13 := k1.next hb3
        have k23 := k2.next hb3
        have z3 := cell_next z3 hb3
        clear hM2 hNB k0 k1 k2 HVA n0 n1 n2 n3 hb3
        obtain ⟨y, hy⟩ : ∃ y, (countR cn ps)[pn]? = some y := ⟨_, List.getElem?_eq_getElem (by rw [countR_len]; exact hpn2)⟩
        have hyb := countR_bound (n := cn) (ks := ps) y (List.mem_of_getElem? hy)
        rw [HPL.out] at hyb
        have o3 : w3.cell? ⟨gO, pn, none⟩ = some (.int .i64 y) := by rw [hM3.own.cellAt pn (by rw [countR_len]; omega), List.getElem?_map, hy]; rfl
        have f3 : w3.frozen? ⟨gO, pn, none⟩ = false := own_frozen hM3.own
        have hbump : (countR cn ps).set pn (y + 1) = countR cn (ps ++ [(pn : Int)]) := by rw [countR_snoc]; unfold bump; rw [Int.toNat_natCast, List.getD_eq_getElem?_getD, hy]; rfl
        have hM4 := hM3.put (k := pn) (z := y + 1)
        rw [hbump] at hM4
        have hNB4 : BlkIs (w3.setCell ⟨gO, pn, none⟩ (.int .i64 (y + 1))) nb 59 #[.slice X0 nv.length x0, .slice X1 nz.length x1, .slice X2 ns.length x2, .int .i64 np] := hNB3.far (by omega) pn _
        have k04 := k03.grown (only_set (g := gO) (i := pn) (x := .int .i64 (y + 1))) (.inr (.inl rfl))
        have k14 := k13.grown (only_set (g := gO) (i := pn) (x := .int .i64 (y + 1))) (.inr (.inl rfl))
        have k24 := k23.grown (only_set (g := gO) (i := pn) (x := .int .i64 (y + 1))) (.inr (.inl rfl))
        have z4 : (w3.setCell ⟨gO, pn, none⟩ (.int .i64 (y + 1))).cell? ⟨b, 3, none⟩ = some (.int .i64 pn) := hM4.box.cell 3
        obtain ⟨cb, off, x2, hC, hcb, hx2, a0, a1⟩ := (HI6.out (w3.setCell ⟨gO, pn, none⟩ (.int .i64 (y + 1))) hM4.low).at_ hpn2
        rw [HX.out] at hx2
        obtain rfl := Option.some.inj hx2
        subst hC
        obtain ⟨cb3, off3, x3, hC3, hcb3, hx3, a03, a13⟩ := (HI6.out w3 hM3.low).at_ hpn2
        rw [HX.out] at hx3
        obtain rfl := Option.some.inj hx3
        injection hC3 with hC3
        injection hC3 with hC4 hC5
        subst hC4 hC5
        have HY := Lib.hid hy
        have HY := Lib.hid hy
        have hw : IntKind.i64.wrap (y + 1) = y + 1 := IntWalk.i64_in _ (by omega)
        clear hM3 hNB3 k03 k13 k23 hy hx2 hx3 hbump
        by_cases h9 : x.1 = 9
        · have e9 : (x.1 == 9) = true := beq_iff_eq.2 h9
          have hev : evR cs (ps ++ [(pn : Int)]) = evR cs ps ++ [x.2] := evR_yes (by rw [Int.toNat_natCast]; exact HX.out) h9
          obtain ⟨xo, xa⟩ := x
          dsimp only at h9 e9 hev a0 a1 a03 a13
          subst h9
          have hM5 := hM4
          have HM5 := Lib.hid hM5
          have hown := hM5.told
          have hlow := hM5.low.size
          have HK := Lib.hid (And.intro hNB4 (And.intro k04 (And.intro k14 k24)))
          have HEV := Lib.hid hev
          clear hM4 hM5 hNB4 k04 k14 k24 hev
          simp at hlow
          have hbn := bnew (w3.setCell ⟨gO, pn, none⟩ (.int .i64 (y + 1))) (.cells #[.int .i64 xa] 2)
          have hnw := blk_new (w3.setCell ⟨gO, pn, none⟩ (.int .i64 (y + 1))) 2 #[.int .i64 xa] w3.heap.size (by simp)
          have HBN := Lib.hid (And.intro hbn hnw)
          have hb0 := own_below hown hbn
          have HB0 := Lib.hid hb0
          have hne := own_ne_blk hown HK.out.1 (by decide)
          clear hbn hnw hb0
          go_wp2_with (at_builtin; (refine wpList_append_sep rfl _ _ 50 rfl v6.heap.size 2 i0 (.int .i64 0) 1 8 Try.underlying50 hi hz0 hz1 hz2 rfl (by decide) _ _ _ rfl HB0.out ⟨w3.heap.size, 0, none⟩ 1 1 [.int .i64 xa] rfl rfl (World.news_of_block (cs := #[.int .i64 xa]) HBN.out.2) (by simp [Value.oneCell']) (by unfold maxLen; omega) (by omega) (by simp; omega) (by omega) ?_); intro g' cap' w5 hown5 hgrow5 hsep5; (have hs5 : g' = gT ∨ (w3.setCell ⟨gO, pn, none⟩ (.int .i64 (y + 1))).heap.size ≤ g' := hsep5.imp (fun e => Option.some.inj e) (fun h => by simp at h ⊢; omega)); (have ho5 : w5.ownsRow v6.heap.size 2 1 (.slice (some ⟨g', 0, none⟩) (evR cs ps ++ [xa]).length cap') (evR cs ps ++ [xa]).length ((evR cs ps ++ [xa]).map ic) := by rw [List.length_append, List.map_append]; exact hown5); (have hM6 := HM5.out.tell HBN.out.1 hgrow5 hs5 ho5); (have hNB6 := (HK.out.1.next HBN.out.1).by_grown hgrow5 hne); (have k06 := HK.out.2.1.told HBN.out.1 hgrow5 hs5); (have k16 := HK.out.2.2.1.told HBN.out.1 hgrow5 hs5); (have k26 := HK.out.2.2.2.told HBN.out.1 hgrow5 hs5); (clear hown5 hgrow5 hsep5 ho5 hs5); (have n0 : w5.cell? ⟨nb, 0, none⟩ = some (.slice X0 nv.length x0) := hNB6.cell 0); (have n1 : w5.cell? ⟨nb, 1, none⟩ = some (.slice X1 nz.length x1) := hNB6.cell 1); (have n2 : w5.cell? ⟨nb, 2, none⟩ = some (.slice X2 ns.length x2) := hNB6.cell 2); (have n3 : w5.cell? ⟨nb, 3, none⟩ = some (.int .i64 np) := hNB6.cell 3); (have m0 : w5.cell? ⟨b, 0, none⟩ = some (.slice B0 cv.length e0) := hM6.box.cell 0); (have m1 : w5.cell? ⟨b, 1, none⟩ = some (.slice B1 cz.length e1) := hM6.box.cell 1); (have m2 : w5.cell? ⟨b, 2, none⟩ = some (.slice B2 cst.length e2) := hM6.box.cell 2); (have m3 : w5.cell? ⟨b, 3, none⟩ = some (.int .i64 pn) := hM6.box.cell 3); (have f0 := hM6.box.frozen 0); (have f1 := hM6.box.frozen 1); (have f2 := hM6.box.frozen 2); (have f3 := hM6.box.frozen 3); (have hM7 := Lib.hid (hM6.turn (d := (nv, nz, ns, np)) (d0 := x0) (d1 := x1) (d2 := x2) k06 k16 k26)); (clear hM6 hNB6 k06 k16 k26))
          go_roundw
          case rel => exact ⟨j + 1, g', cap', ps ++ [(pn : Int)], (nv, nz, ns, np), X0, x0, X1, x1, X2, x2, by rw [HEV.out, List.length_append]; rfl, rfl, by go_num, by omega, HNV, HAL2, (by show _ = _; rw [List.length_append, HPL.out]; rfl), by rw [HEV.out]; exact hM7⟩
          case measure => simp [intOf]; omega
        · have e9 : (x.1 == 9) = false := beq_eq_false_iff_ne.2 h9
          have hev : evR cs (ps ++ [(pn : Int)]) = evR cs ps := evR_no (by rw [Int.toNat_natCast]; exact HX.out) h9
          have HEV := Lib.hid hev
          have hM6 := hM4
          have hNB6 := hNB4
          have k06 := k04
          have k16 := k14
          have k26 := k24
          have n0 : (w3.setCell ⟨gO, pn, none⟩ (.int .i64 (y + 1))).cell? ⟨nb, 0, none⟩ = some (.slice X0 nv.length x0) := hNB6.cell 0
          have n1 : (w3.setCell ⟨gO, pn, none⟩ (.int .i64 (y + 1))).cell? ⟨nb, 1, none⟩ = some (.slice X1 nz.length x1) := hNB6.cell 1
          have n2 : (w3.setCell ⟨gO, pn, none⟩ (.int .i64 (y + 1))).cell? ⟨nb, 2, none⟩ = some (.slice X2 ns.length x2) := hNB6.cell 2
          have n3 : (w3.setCell ⟨gO, pn, none⟩ (.int .i64 (y + 1))).cell? ⟨nb, 3, none⟩ = some (.int .i64 np) := hNB6.cell 3
          have m0 : (w3.setCell ⟨gO, pn, none⟩ (.int .i64 (y + 1))).cell? ⟨b, 0, none⟩ = some (.slice B0 cv.length e0) := hM6.box.cell 0
          have m1 : (w3.setCell ⟨gO, pn, none⟩ (.int .i64 (y + 1))).cell? ⟨b, 1, none⟩ = some (.slice B1 cz.length e1) := hM6.box.cell 1
          have m2 : (w3.setCell ⟨gO, pn, none⟩ (.int .i64 (y + 1))).cell? ⟨b, 2, none⟩ = some (.slice B2 cst.length e2) := hM6.box.cell 2
          have m3 : (w3.setCell ⟨gO, pn, none⟩ (.int .i64 (y + 1))).cell? ⟨b, 3, none⟩ = some (.int .i64 pn) := hM6.box.cell 3
          have f0 := hM6.box.frozen 0
          have f1 := hM6.box.frozen 1
          have f2 := hM6.box.frozen 2
          have f3 := hM6.box.frozen 3
          have hM7 := Lib.hid (hM6.turn (d := (nv, nz, ns, np)) (d0 := x0) (d1 := x1) (d2 := x2) k06 k16 k26)
          clear hM6 hNB6 k06 k16 k26
          clear hev hM4 hNB4 k04 k14 k24
          go_wp2_with fail
          go_roundw
          case rel => exact ⟨j + 1, gT, cT, ps ++ [(pn : Int)], (nv, nz, ns, np), X0, x0, X1, x1, X2, x2, by rw [HEV.out], rfl, by go_num, by omega, HNV, HAL2, (by show _ = _; rw [List.length_append, HPL.out]; rfl), by rw [HEV.out]; exact hM7⟩
          case measure => simp [intOf]; omega
      · rw [behN_stop ho] at hstep
        have hend := HAL.out.stop hlt (show outC cs (cv, cz, cst, (pn : Int)) ≠ 0 from ho)
        rw [hL.out, show outC cs (cv, cz, cst, (pn : Int)) = outN cs cst (pn : Int) from rfl] at hend
        generalize outN cs cst (pn : Int) = o at hstep ho hend
        have HSTEP := Lib.hid hstep
        injection hend with q1 q2
        injection q1 with q3 q4
        injection q4 with q5 q6
        injection q6 with q7 q8
        injection q2 with q9 q10
        replace q3 := q3.symm
        replace q5 := q5.symm
        replace q9 := q9.symm
        clear q7 q8
        subst q3 q5 q9
        have HQ := Lib.hid q10
        clear hstep hM hcl hzl hsl q10 hL
        go_wp2_with fail
        refine HSTEP.out.mono ?_
        rintro e w1 ⟨X0, x0, X1, x1, X2, x2, md, md2, rfl, q0, q1, q2, hmd, hbs⟩
        dsimp only at q0 q1 q2 ⊢
        have HMn := Lib.hid ((HM.out.keep hbs).keep (bnew w1 (.cells #[.slice X0 cv.length x0, .slice X1 cz.length x1, .slice X2 cst.length x2, .int .i64 pn] 59)))
        clear HM HSTEP q0 q1 q2 hmd hbs z0 z1 z2 z3
        obtain ⟨wx, hwx⟩ : ∃ wx, Hid ((w1.alloc (.cells #[.slice X0 cv.length x0, .slice X1 cz.length x1, .slice X2 cst.length x2, .int .i64 pn] 59)) = wx) := ⟨_, rfl⟩
        rw [hwx.out] at HMn
        have HM := HMn
        clear HMn
        by_cases h6 : o = 6
        · subst h6
          have hlo : lo = 0 := HQ.out
          subst hlo
          have hM := HM.out
          have hx := hM.low
          have b0 : wx.cell? ⟨b, 0, none⟩ = some (.slice B0 cv.length e0) := hM.box.cell 0
          have b1 : wx.cell? ⟨b, 1, none⟩ = some (.slice B1 cz.length e1) := hM.box.cell 1
          have t0 : wx.cell? ⟨tb, 0, none⟩ = some (.slice R0 cv.length d0) := (HT6.out _ hx).cell 0
          have t1 : wx.cell? ⟨tb, 1, none⟩ = some (.slice R1 cz.length d1) := (HT6.out _ hx).cell 1
          obtain ⟨ja, jb, je⟩ := HR6.out _ hx
          have jc := HRc.out _ hx
          have k0 := (OwnL.of_own hM.told).all
          have k1 := (OwnL.of_own hM.own).all
          rw [countR_len] at k1
          have j0 := hM.f0.1
          have j1 := hM.f1.1
          have hcl : cv.length = 4 := HV.out.lv
          have hzl : cz.length = 8 := HV.out.lz
          have hS1 := Lib.hid (r8Same_c R2 (evR cs ps).length d2 (some ⟨gT, 0, none⟩) cT (evR cs ps) wx je k0 (by omega))
          have hS2 := Lib.hid (fun W (h : Below wx.heap.size wx W) => r8Same_c R3 cn d3 (some ⟨gO, 0, none⟩) cn (countR cn ps) W ((jc.next h (Nat.le_refl _)).more h.size) ((k1.next h (Nat.le_refl _)).more h.size) (by omega))
          have hS3 := Lib.hid (fun W (h : Below wx.heap.size wx W) => r8States_c R0 cv.length d0 R1 cz.length d1 B0 e0 B1 e1 cv cz W ((ja.next h (Nat.le_refl _)).more h.size) ((jb.next h (Nat.le_refl _)).more h.size) ((j0.next h (Nat.le_refl _)).more h.size) ((j1.next h (Nat.le_refl _)).more h.size) (by omega) (by omega))
          have HX := Lib.hid (HV6.out _ hx)
          clear hM hx ja jb je jc k0 k1 j0 j1 hcl hzl HT6 HR6 HRc HI6 HV6
          rw [← hwx.out] at hS1 hS2 hS3 b0 b1 t0 t1 HX
          go_wp2_with fail
          refine hS1.out.mono ?_
          rintro e y1 ⟨rfl, hy1⟩
          go_wp2_with fail
          refine (hS2.out y1 hy1).mono ?_
          rintro e y2 ⟨rfl, hy2⟩
          have hy12 := bon hy1 hy2
          have b0 := cell_next b0 hy12
          have b1 := cell_next b1 hy12
          have t0 := cell_next t0 hy12
          have t1 := cell_next t1 hy12
          go_wp2_with fail
          refine (hS3.out y2 hy12).mono ?_
          rintro e y3 ⟨rfl, hy3⟩
          go_wp2_with fail
          go_ret
          exact ⟨rfl, HX.out.trans ((bon hy12 hy3).mono HX.out.size)⟩
        · have hlo : lo = o := HQ.out.trans (if_neg h6)
          subst hlo
          have e6 : (lo == 6) = false := beq_eq_false_iff_ne.2 h6
          have hM := HM.out
          have hx := hM.low
          have b0 : wx.cell? ⟨b, 0, none⟩ = some (.slice B0 cv.length e0) := hM.box.cell 0
          have b1 : wx.cell? ⟨b, 1, none⟩ = some (.slice B1 cz.length e1) := hM.box.cell 1
          have t0 : wx.cell? ⟨tb, 0, none⟩ = some (.slice R0 cv.length d0) := (HT6.out _ hx).cell 0
          have t1 : wx.cell? ⟨tb, 1, none⟩ = some (.slice R1 cz.length d1) := (HT6.out _ hx).cell 1
          obtain ⟨ja, jb, je⟩ := HR6.out _ hx
          have jc := HRc.out _ hx
          have k0 := (OwnL.of_own hM.told).all
          have k1 := (OwnL.of_own hM.own).all
          rw [countR_len] at k1
          have j0 := hM.f0.1
          have j1 := hM.f1.1
          have hcl : cv.length = 4 := HV.out.lv
          have hzl : cz.length = 8 := HV.out.lz
          have hS1 := Lib.hid (r8Same_c R2 (evR cs ps).length d2 (some ⟨gT, 0, none⟩) cT (evR cs ps) wx je k0 (by omega))
          have hS2 := Lib.hid (fun W (h : Below wx.heap.size wx W) => r8Same_c R3 cn d3 (some ⟨gO, 0, none⟩) cn (countR cn ps) W ((jc.next h (Nat.le_refl _)).more h.size) ((k1.next h (Nat.le_refl _)).more h.size) (by omega))
          have hS3 := Lib.hid (fun W (h : Below wx.heap.size wx W) => r8States_c R0 cv.length d0 R1 cz.length d1 B0 e0 B1 e1 cv cz W ((ja.next h (Nat.le_refl _)).more h.size) ((jb.next h (Nat.le_refl _)).more h.size) ((j0.next h (Nat.le_refl _)).more h.size) ((j1.next h (Nat.le_refl _)).more h.size) (by omega) (by omega))
          have HX := Lib.hid (HV6.out _ hx)
          clear hM hx ja jb je jc k0 k1 j0 j1 hcl hzl HT6 HR6 HRc HI6 HV6
          rw [← hwx.out] at hS1 hS2 hS3 b0 b1 t0 t1 HX
          go_wp2_with fail
          refine hS1.out.mono ?_
          rintro e y1 ⟨rfl, hy1⟩
          go_wp2_with fail
          refine (hS2.out y1 hy1).mono ?_
          rintro e y2 ⟨rfl, hy2⟩
          have hy12 := bon hy1 hy2
          have b0 := cell_next b0 hy12
          have b1 := cell_next b1 hy12
          have t0 := cell_next t0 hy12
          have t1 := cell_next t1 hy12
          go_wp2_with fail
          refine (hS3.out y2 hy12).mono ?_
          rintro e y3 ⟨rfl, hy3⟩
          go_wp2_with fail
          go_ret
          exact ⟨rfl, HX.out.trans ((bon hy12 hy3).mono HX.out.size)⟩
    · obtain rfl : j = 60 := by omega
      have i3 : ¬ ((60 : Nat) : Int) < 60 := by omega
      have hend := HAL.out.done
      rw [hL.out] at hend
      injection hend with q1 q2
      injection q1 with q3 q4
      injection q4 with q5 q6
      injection q6 with q7 q8
      injection q2 with q9 q10
      replace q3 := q3.symm
      replace q5 := q5.symm
      replace q9 := q9.symm
      clear q7 q8
      subst q3 q5 q9
      subst q10
      clear hL hj hlt
      have hM := HM.out
      have hx := hM.low
      have b0 : wr.cell? ⟨b, 0, none⟩ = some (.slice B0 cv.length e0) := hM.box.cell 0
      have b1 : wr.cell? ⟨b, 1, none⟩ = some (.slice B1 cz.length e1) := hM.box.cell 1
      have t0 : wr.cell? ⟨tb, 0, none⟩ = some (.slice R0 cv.length d0) := (HT6.out _ hx).cell 0
      have t1 : wr.cell? ⟨tb, 1, none⟩ = some (.slice R1 cz.length d1) := (HT6.out _ hx).cell 1
      obtain ⟨ja, jb, je⟩ := HR6.out _ hx
      have jc := HRc.out _ hx
      have k0 := (OwnL.of_own hM.told).all
      have k1 := (OwnL.of_own hM.own).all
      rw [countR_len] at k1
      have j0 := hM.f0.1
      have j1 := hM.f1.1
      have hcl : cv.length = 4 := HV.out.lv
      have hzl : cz.length = 8 := HV.out.lz
      have hS1 := Lib.hid (r8Same_c R2 (evR cs ps).length d2 (some ⟨gT, 0, none⟩) cT (evR cs ps) wr je k0 (by omega))
      have hS2 := Lib.hid (fun W (h : Below wr.heap.size wr W) => r8Same_c R3 cn d3 (some ⟨gO, 0, none⟩) cn (countR cn ps) W ((jc.next h (Nat.le_refl _)).more h.size) ((k1.next h (Nat.le_refl _)).more h.size) (by omega))
      have hS3 := Lib.hid (fun W (h : Below wr.heap.size wr W) => r8States_c R0 cv.length d0 R1 cz.length d1 B0 e0 B1 e1 cv cz W ((ja.next h (Nat.le_refl _)).more h.size) ((jb.next h (Nat.le_refl _)).more h.size) ((j0.next h (Nat.le_refl _)).more h.size) ((j1.next h (Nat.le_refl _)).more h.size) (by omega) (by omega))
      have HX := Lib.hid (HV6.out _ hx)
      clear hM hx ja jb je jc k0 k1 j0 j1 hcl hzl HT6 HR6 HRc HI6 HV6
      go_wp2_with fail
      refine hS1.out.mono ?_
      rintro e y1 ⟨rfl, hy1⟩
      go_wp2_with fail
      refine (hS2.out y1 hy1).mono ?_
      rintro e y2 ⟨rfl, hy2⟩
      have hy12 := bon hy1 hy2
      have b0 := cell_next b0 hy12
      have b1 := cell_next b1 hy12
      have t0 := cell_next t0 hy12
      have t1 := cell_next t1 hy12
      go_wp2_with fail
      refine (hS3.out y2 hy12).mono ?_
      rintro e y3 ⟨rfl, hy3⟩
      go_wp2_with fail
      go_ret
      exact ⟨rfl, HX.out.trans ((bon hy12 hy3).mono HX.out.size)⟩

set_option maxRecDepth 100000 in
theorem lifted (os : Os) (started : os.Started) (H : Type) (enc : TypeId × Value → H) :
    ReturnsInHanded {} Try.checked os 4 .any (Rows.fnStepsSpec.pre6 enc Try.prog Try.f4 Rows.fnStepsRow.domain false) (Rows.fnStepsSpec.post enc Try.prog Try.f4 false true false false) := by
  refine returnsInHanded_of_change (C := Try.checked) own started (by kernel_rfl) Try.func4
    (ChangeSpec.witness6 (enc := enc) (C := Try.checked) false ⟨#[], #[.slice none 0 0, .slice none 0 0], []⟩ 8 (by kernel_rfl) (by kernel_rfl) (by kernel_rfl) (by kernel_rfl)) ?_
  intro W base args ds gs before hval0 hW hcnd _
  have hval : ∀ (j : Nat) t v, Try.f4.params[j]? = some t → args[j]? = some v → Value.okWide Try.prog W .any base t v := hval0
  have hW' := hW
  obtain ⟨p, q, hA0, hV, rfl, hfz, hnd⟩ := hW
  have hA : DataW.TrodAll enc Try.prog W 0 (fun _ => true) true Try.f4.params.toList args.toList ds p := hA0
  rw [Try.params4] at hA hval
  obtain ⟨v0, vs0, d0, ds0, p0, q0, hargs, rfl, rfl, h0, r0⟩ := trodAll_cons hA
  obtain ⟨v1, vs1, d1, ds1, p1, q1, rfl, rfl, rfl, h1, r1⟩ := trodAll_cons r0
  obtain ⟨rfl, rfl, rfl⟩ := trodAll_nil r1
  obtain rfl : args = #[v0, v1] := by cases args; simp_all
  obtain ⟨rfl, rfl⟩ := trodVars_none hV
  obtain ⟨a0, len0, cap0, rfl⟩ := okWide_slice Try.underlying47 (hval 0 47 v0 rfl rfl)
  have k0 := h0
  have lt0 : ∀ x ∈ p0, x.block < W.heap.size := by obtain ⟨m, hm⟩ := k0; exact DataW.trod_lt m _ _ _ hm
  obtain ⟨z0, w0⟩ : ∃ zs, IsRow .u8 W a0 len0 cap0 zs := by
    obtain ⟨fuel, hf⟩ := h0
    rcases open_ints Try.underlying47 Try.underlying5 (by kernel_rfl) hf with ⟨hcs, _⟩ | ⟨x, l, c, zs, hcs, _, hl, hm, hz, _, hcell, hwz⟩
    · simp [Value.cells] at hcs
      obtain ⟨rfl, rfl, rfl⟩ := hcs
      exact ⟨[], .inl ⟨rfl, rfl, rfl, rfl⟩⟩
    · simp [Value.cells] at hcs
      obtain ⟨rfl, rfl, rfl⟩ := hcs
      exact ⟨zs, .inr ⟨_, rfl, hl, hm, by simpa using hz, hcell, hwz⟩⟩
  obtain ⟨a1, len1, cap1, rfl⟩ := okWide_slice Try.underlying47 (hval 1 47 v1 rfl rfl)
  have k1 := h1
  have lt1 : ∀ x ∈ p1, x.block < W.heap.size := by obtain ⟨m, hm⟩ := k1; exact DataW.trod_lt m _ _ _ hm
  obtain ⟨z1, w1⟩ : ∃ zs, IsRow .u8 W a1 len1 cap1 zs := by
    obtain ⟨fuel, hf⟩ := h1
    rcases open_ints Try.underlying47 Try.underlying5 (by kernel_rfl) hf with ⟨hcs, _⟩ | ⟨x, l, c, zs, hcs, _, hl, hm, hz, _, hcell, hwz⟩
    · simp [Value.cells] at hcs
      obtain ⟨rfl, rfl, rfl⟩ := hcs
      exact ⟨[], .inl ⟨rfl, rfl, rfl, rfl⟩⟩
    · simp [Value.cells] at hcs
      obtain ⟨rfl, rfl, rfl⟩ := hcs
      exact ⟨zs, .inr ⟨_, rfl, hl, hm, by simpa using hz, hcell, hwz⟩⟩
  clear hA0 hval0
  refine (walk a0 len0 cap0 z0 a1 len1 cap1 z1 W w0 w1).mono fun e W' ⟨he, bel⟩ => ?_
  subst he
  exact ⟨_, rfl, _, _, _, [], _, [], hW', trodAll_mk1 (shut_bool Try.underlying4 _), (trodAll_cons_mk (Below.trod laidOut (by kernel_rfl) (of_decide_eq_true (by kernel_rfl)) k0 bel lt0) (trodAll_cons_mk (Below.trod laidOut (by kernel_rfl) (of_decide_eq_true (by kernel_rfl)) k1 bel lt1) trodAll_mk0)), rfl, bel.frame _, fun h => by cases h⟩

theorem over : Rows.fnStepsRow.holds Try.pinned (OpenSpec.ofChange Rows.fnStepsSpec) :=
  OpenClaim.holds_of_wide 4 Try.f4 rfl rfl rfl rfl rfl rfl rfl ⟨rfl, rfl, rfl, rfl, rfl⟩ rfl rfl rfl rfl rfl (by kernel_rfl) Try.func4 (by kernel_rfl)
    (of_decide_eq_true (by kernel_rfl)) (by unfold Func.isWrapper; first | (rw [if_pos (by decide +kernel)]; kernel_rfl) | (rw [if_neg (by decide +kernel)]; exact ⟨rfl, rfl⟩))
    (fun os started H enc _ => lifted os started H enc)

/-- The statement. -/
theorem proved : Rows.FnStepsSaid := over
#print axioms proved
end Go.Proofs.Ytdmcpabpjhinhaa.fnSteps
