/-
  For all bytes, of the code and the state that are drawn from them: code with heights never stops for its stack, it executes only what can be reached, what can be reached has heights, and where a jump leads is a leader.
  Conditions: those that the card itself bears (the tables that the program's text lays).
-/
import Derived.Test.YtffkdidgfeknkaaDoorRows
import Derived.WalkKit
import Derived.ProofKit
import Derived.OpenShut
import Derived.ShutString
import Derived.ChangeOld
import Derived.Below
import Derived.WalkSmall
import Derived.Test.YtffkdidgfeknkaaDoorTms
import Derived.Test.YtffkdidgfeknkaaDoorCards
import Derived.Test.YtffkdidgfeknkaaDoorTie
import Derived.ChangeSame
import Derived.ChangeVars
import Derived.OpenVars
import Derived.JoinedOf
import Derived.RowKit
import Derived.RowKitTokens
import Derived.LaidLaws
import Derived.LaidHandle
import Derived.Stop.LaidErr
import Derived.Stop.Joined
import Derived.SevenTiedAt
import Derived.Test.YtffkdidgfeknkaaDoorByRow
import Derived.Test.YtffkdidgfeknkaaDoorStuk
import Derived.Test.YtffkdidgfeknkaaDoorBunB
import Derived.Test.YtffkdidgfeknkaaDoorBunE
import Derived.Test.YtffkdidgfeknkaaDoorRunE
import Derived.Test.YtffkdidgfeknkaaDoorRunI
import Derived.Test.YtffkdidgfeknkaaDoorReachC
import Derived.Test.YtffkdidgfeknkaaDoorLeadI
import Derived.Test.YtffkdidgfeknkaaDoorTargC
namespace Go.Proofs.YtffkdidgfeknkaaDoor.fnHeights
open Go.ChangeShapes Go.WideShapes Go.ChangeAt Go.RowKit
open Go.ChangeMaps (open_string shut_string)
set_option linter.unusedVariables false

theorem own : ownKnob Tryd.prog.godebug = none := by kernel_rfl
theorem laidOut : laidOutB Tryd.prog = true := by kernel_rfl
set_option maxRecDepth 100000 in
set_option maxHeartbeats 2000000 in
theorem r8Has_c (A : Option Addr) (n c : Nat) (zs : List Int) (z : Int) (w : World) (h : InL w w.heap.size A n zs) (hn : n ≤ 1048576) :
    Calls Tryd.prog 28 #[.slice A n c, .int .i64 z] w fun e w' => e = .returned (.bool (decide (z ∈ zs))) ∧ Below w.heap.size w w' := by
  have H := Lib.hid h
  clear h
  go_enter Tryd.func28, Tryd.ntmps28
  go_wp2_with fail
  go_loopw [5] (fun i wr => ∃ k : Nat, i = .int .i64 k ∧ k ≤ n ∧ Hid (z ∉ zs.take k) ∧ Hid (Below w.heap.size w wr)) (fun i _ => (n - intOf i).toNat)
  case atStart => exact ⟨0, rfl, Nat.zero_le _, Lib.hid (by simp), Below.refl _ _⟩
  case round =>
    rename World => wr
    obtain ⟨k, rfl, hk, hno, hb⟩ := hrel
    by_cases hlt : k < n
    · have i3 : (k : Int) < (n : Int) := by omega
      obtain ⟨b, off, y, rfl, hbb, hy, hc⟩ := (H.out.next hb.out (Nat.le_refl _)).2.int_at (k := k) (by rw [H.out.1]; exact hlt)
      by_cases he : y = z
      · have e0 : (y == z) = true := beq_iff_eq.2 he
        have hin : z ∈ zs := by rw [← he]; exact List.mem_of_getElem? hy
        have HIN := Lib.hid hin
        have HB := Lib.hid (hb.out)
        clear hy hbb hb hin he hno
        go_wp2_with fail
        go_ret
        exact ⟨ret_bool (decide_eq_true HIN.out).symm, HB.out⟩
      · have e0 : (y == z) = false := beq_eq_false_iff_ne.2 he
        have hno2 : z ∉ zs.take (k + 1) := by
          rw [List.take_add_one, hy]
          intro e
          rcases List.mem_append.1 e with e | e
          · exact hno.out e
          · have : z = y := by simpa using e
            exact he this.symm
        have HNO := Lib.hid hno2
        have HB := Lib.hid (hb.out)
        clear hy hbb hb hno he hno2
        go_wp2_with fail
        go_roundw
        case rel => exact ⟨k + 1, by go_num, by omega, HNO, HB.out⟩
        case measure => simp [intOf]; omega
    · obtain rfl : k = n := by omega
      have i3 : ¬ (k : Int) < (k : Int) := by omega
      have hno2 : z ∉ zs := by have := hno.out; rwa [List.take_of_length_le (by rw [H.out.1]; omega)] at this
      have HNO := Lib.hid hno2
      clear hno hno2
      go_wp2_with fail
      go_ret
      exact ⟨ret_bool (decide_eq_false HNO.out).symm, hb.out⟩

set_option maxRecDepth 100000 in
set_option maxHeartbeats 20000000 in
theorem walk (a0 : Option Addr) (len0 cap0 : Nat) (z0 : List Int) (a1 : Option Addr) (len1 cap1 : Nat) (z1 : List Int) (w : World) (hT : StuckX w) (w0 : IsRow .u8 w a0 len0 cap0 z0) (w1 : IsRow .u8 w a1 len1 cap1 z1) :
    Calls Tryd.prog 5 #[.slice a0 len0 cap0, .slice a1 len1 cap1] w fun e w' => e = .returned (.bool true) ∧ Below w.heap.size w w' := by
  obtain ⟨tp, pv, hstk⟩ := hT
  obtain ⟨hrow0, hlen0, hwf0⟩ := w0.row
  obtain ⟨hrow1, hlen1, hwf1⟩ := w1.row
  obtain ⟨bs0, hbs0, hb0⟩ := bytes_of hwf0
  obtain ⟨bs1, hbs1, hb1⟩ := bytes_of hwf1
  rw [hbs0] at hrow0 hlen0
  rw [hbs1] at hrow1 hlen1
  rw [List.map_map] at hrow0 hrow1
  rw [List.length_map] at hlen0 hlen1
  change Row w w.heap.size a0 (bs0.map bc) at hrow0
  change Row w w.heap.size a1 (bs1.map bc) at hrow1
  clear hbs0 hbs1 w0 w1 hwf0 hwf1
  by_cases hl0 : (48 : Int) < len0
  · go_enter Tryd.func5, Tryd.ntmps5
    go_wp2
    go_ret
    exact ⟨rfl, Below.refl _ _⟩
  by_cases hl1 : (48 : Int) < len1
  · go_enter Tryd.func5, Tryd.ntmps5
    go_wp2
    go_ret
    exact ⟨rfl, Below.refl _ _⟩
  have HR0 := Lib.hid hrow0
  have HR1 := Lib.hid hrow1
  have HB0 := Lib.hid hb0
  have HB1 := Lib.hid hb1
  have HS := Lib.hid hstk
  clear hrow0 hrow1 hb0 hb1 hstk
  go_enter Tryd.func5, Tryd.ntmps5
  go_wp2_with (first | (go_at_call 6; go_in))
  refine (R8Code_c a0 len0 cap0 bs0 w HR0.out hlen0 HB0.out (by omega)).mono ?_
  rintro e v1 ⟨C, cc, cs, rfl, hcb, hin1, hb1⟩
  obtain ⟨hc1, hc2, _⟩ := codeB_parts hcb
  have HCB := Lib.hid hcb
  have HR2 := Lib.hid ((HR1.out.below hb1 (Nat.le_refl _)).more hb1.size)
  obtain ⟨cn, hcn⟩ : ∃ cn, cs.length = cn := ⟨_, rfl⟩
  rw [hcn] at hc1 hc2 hin1 ⊢
  have HCN := Lib.hid hcn
  have HI1 := Lib.hid (fun W (h : Below v1.heap.size v1 W) => (hin1.next h (Nat.le_refl _)).more h.size)
  have HS1 := Lib.hid (HS.out.next hb1)
  have HW1 := Lib.hid hb1
  clear hcb hin1 hcn HR1 HR0 HB0 HS hb1
  go_wp2_with fail
  refine (R8State_c a1 len1 cap1 bs1 v1 HR2.out hlen1 HB1.out (by omega)).mono ?_
  rintro e v2 ⟨A0, c0, vs, A1, c1, zs, rfl, hst, h0, h1, hb2⟩
  have hrb : runB cs vs zs 60 = true := by unfold runB; rw [HCB.out, hst]; rfl
  have hrr := runR_yes hrb
  have hcr := cntR_yes hrb
  have HCV : Hid (CfC (c0R vs zs)) := (runB_parts hrb).2.2.2.1
  rw [show (60 : Int).toNat = 60 from rfl] at hrr hcr
  obtain ⟨ms, hms⟩ := marks_exist cs (fun t => t = 0)
  have hcount := fun (k : Nat) (h : 0 < (countR cn (runN cs 60 (c0R vs zs)).2.1).getD k 0) => count_reached HCB.out HCV.out (.base rfl) h
  have hheights := fun (G : List Int) (g : GoodH cs G) => run_heights HCB.out g 60 (c0R vs zs) HCV.out ⟨by show (0 : Int) < _; have := HCN.out; omega, by show G[(0 : Int).toNat]? = _; exact g.zero⟩
  have HCOUNT := Lib.hid hcount
  have HHEIGHTS := Lib.hid hheights
  clear hcount hheights
  have HSZ := Lib.hid (countR_bound (n := cn) (ks := (runN cs 60 (c0R vs zs)).2.1))
  obtain ⟨L, hL⟩ : ∃ L, Hid (runN cs 60 (c0R vs zs) = L) := ⟨_, rfl⟩
  rw [hL.out] at hrr hcr HCOUNT HHEIGHTS HSZ
  rw [HCN.out] at hcr
  obtain ⟨⟨lv, lz, ls, lp⟩, lps, lo⟩ := L
  dsimp only at hrr hcr HCOUNT HHEIGHTS HSZ
  obtain ⟨ct, hct⟩ : ∃ ct, Hid (countR cn lps = ct) := ⟨_, rfl⟩
  have hctl : ct.length = cn := by rw [← hct.out]; exact countR_len _ _
  rw [hct.out] at hcr HCOUNT HSZ
  have hb3 := bnew v2 (.cells #[.slice A0 4 c0, .slice A1 8 c1] 46)
  have hX : BlkIs (v2.alloc (.cells #[.slice A0 4 c0, .slice A1 8 c1] 46)) v2.heap.size 46 #[.slice A0 4 c0, .slice A1 8 c1] := blk_new _ _ _ _ rfl
  have HZ0 := Lib.hid (fun W (h : Below v2.heap.size v2 W) => (h0.next h (Nat.le_refl _)).more h.size)
  have HZ1 := Lib.hid (fun W (h : Below v2.heap.size v2 W) => (h1.next h (Nat.le_refl _)).more h.size)
  have HMS := Lib.hid hms
  have HS3 := Lib.hid (HS1.out.next (bon hb2 hb3))
  have HI3 := Lib.hid (HI1.out _ (bon hb2 hb3))
  have HB23 := Lib.hid (bon hb2 hb3)
  have HB3 := Lib.hid hb3
  have HRR := Lib.hid hrr
  have HCR := Lib.hid hcr
  have HX := Lib.hid hX
  clear hst h0 h1 hrb hrr hcr HB1 HR2 hms hb2 hb3 HS1 hX
  go_wp2_with fail
  generalize hv3 : v2.alloc (.cells #[.slice A0 4 c0, .slice A1 8 c1] 46) = v3 at HX HB3 HB23 HS3 HI3 ⊢
  obtain ⟨sb, hsb⟩ : ∃ sb, Hid (v2.heap.size = sb) := ⟨_, rfl⟩
  rw [hsb.out] at HX ⊢
  clear hv3
  refine (implHgt_c tp pv C cn cc _ cs v3 HI3.out (Nat.le_refl _) (by omega) HS3.out).mono ?_
  have hHR : ((hgtR cs).2 = true → LeastH cs (hgtR cs).1) := hgtR_is
  have hHL : (hgtR cs).1.length ≤ 80 := hgtR_len cs
  obtain ⟨RR, hRR⟩ : ∃ RR, Hid (hgtR cs = RR) := ⟨_, rfl⟩
  rw [hRR.out] at hHR hHL ⊢
  obtain ⟨hs, ha⟩ := RR
  dsimp only at hHR hHL ⊢
  have HHR := Lib.hid hHR
  clear hHR
  obtain ⟨hn, hhn⟩ : ∃ hn, Hid (hs.length = hn) := ⟨_, rfl⟩
  rw [hhn.out] at hHL ⊢
  rintro e v4 ⟨R0, d0, rfl, o0, hb4⟩
  have HO0 := Lib.hid (fun W (h : Below v4.heap.size v4 W) => (o0.all.next h (Nat.le_refl _)).more h.size)
  have HB4 := Lib.hid hb4
  clear o0 hb4 HS3
  go_wp2_with fail
  refine (implReach_c C cn cc _ cs ms v4 (HI1.out v4 (bon HB23.out HB4.out)) (Nat.le_refl _) (by omega) HMS.out).mono ?_
  rw [show rchR cs ms = (lstM ms cs.length, true) from if_pos HCB.out]
  dsimp only
  rintro e v5 ⟨R1, d1, rfl, o1, hb5⟩
  obtain ⟨rs, hrs⟩ : ∃ rs, Hid (lstM ms cs.length = rs) := ⟨_, rfl⟩
  have hrl : rs.length ≤ 80 := by rw [← hrs.out]; have := lstM_len ms cs.length; have := HCN.out; omega
  have HREACH : Hid (∀ k : Nat, k < cn → ((k : Int) ∈ rs ↔ RchP cs (fun t => t = 0) k)) := fun k hk => by rw [← hrs.out]; exact mem_reached HMS.out (by have := HCN.out; omega)
  rw [hrs.out] at o1 ⊢
  have HO1 := Lib.hid (fun W (h : Below v5.heap.size v5 W) => (o1.all.next h (Nat.le_refl _)).more h.size)
  have HB5 := Lib.hid hb5
  clear o1 hb5
  go_wp2_with fail
  refine (implLeaders_c C cn cc _ cs v5 (HI1.out v5 (bon (bon HB23.out HB4.out) HB5.out)) (Nat.le_refl _) (by omega)).mono ?_
  have hll := ledR_len cs
  rw [ledR_yes HCB.out] at hll ⊢
  dsimp only at hll ⊢
  obtain ⟨les, hles⟩ : ∃ les, Hid (ledTo cs cs.length = les) := ⟨_, rfl⟩
  rw [hles.out] at hll ⊢
  have HZL : Hid ((0 : Int) ∈ les) := by show _; rw [← hles.out]; exact zero_leads (by have := HCN.out; omega)
  rintro e v6 ⟨R2, d2, rfl, o2, hb6⟩
  have HO2 := Lib.hid (fun W (h : Below v6.heap.size v6 W) => (o2.all.next h (Nat.le_refl _)).more h.size)
  have HB6 := Lib.hid hb6
  clear o2 hb6
  have hX6 := HX.out.next (bon (bon HB4.out HB5.out) HB6.out)
  have p0 : v6.cell? ⟨sb, 0, none⟩ = some (.slice A0 4 c0) := hX6.cell 0
  have p1 : v6.cell? ⟨sb, 1, none⟩ = some (.slice A1 8 c1) := hX6.cell 1
  have HX6 := Lib.hid hX6
  have HV6 := Lib.hid (bon (bon (bon HB23.out HB4.out) HB5.out) HB6.out)
  have HV26 := Lib.hid (bon (bon (bon HB3.out HB4.out) HB5.out) HB6.out)
  have hcnt := implCount_c C cn cc cs A0 4 c0 vs A1 8 c1 zs 60 v6 (HI1.out _ HV6.out) (HZ0.out _ HV26.out) (HZ1.out _ HV26.out) (by omega) (by omega) (by omega)
  rw [HCR.out] at hcnt
  dsimp only at hcnt
  rw [hctl] at hcnt
  have HCNT := Lib.hid hcnt
  clear hX6 hcnt HCR HX
  go_wp2_with fail
  refine HCNT.out.mono ?_
  rintro e v7 ⟨R3, d3, rfl, o3, hb7⟩
  have HO3 := Lib.hid (fun W (h : Below v7.heap.size v7 W) => (o3.all.next h (Nat.le_refl _)).more h.size)
  have HB7 := Lib.hid hb7
  have hX7 := HX6.out.next hb7
  have p0 : v7.cell? ⟨sb, 0, none⟩ = some (.slice A0 4 c0) := hX7.cell 0
  have p1 : v7.cell? ⟨sb, 1, none⟩ = some (.slice A1 8 c1) := hX7.cell 1
  have hrun := implRun_c C cn cc cs A0 4 c0 vs A1 8 c1 zs 60 v7 (HI1.out _ (bon HV6.out hb7)) (HZ0.out _ (bon HV26.out hb7)) (HZ1.out _ (bon HV26.out hb7)) (by omega) (by omega) (by omega)
  rw [HRR.out] at hrun
  dsimp only at hrun
  have HRUN := Lib.hid hrun
  clear o3 hb7 hX7 hrun HRR HX6 HCNT
  go_wp2_with fail
  refine HRUN.out.mono ?_
  rintro e v8 ⟨Q0, f0, Q1, f1, Q2, f2, m0, m1, rfl, _, _, _, _, hb8⟩
  have hb9 := bnew v8 (.cells #[.slice Q0 lv.length f0, .slice Q1 lz.length f1] 46)
  have HB9 := Lib.hid (bon hb8 hb9)
  have HC0 := Lib.hid (fun W (h : Below v8.heap.size v8 W) => HO0.out W (bon (bon (bon (bon HB5.out HB6.out) HB7.out) hb8) h))
  have HC1 := Lib.hid (fun W (h : Below v8.heap.size v8 W) => HO1.out W (bon (bon (bon HB6.out HB7.out) hb8) h))
  have HC2 := Lib.hid (fun W (h : Below v8.heap.size v8 W) => HO2.out W (bon (bon HB7.out hb8) h))
  have HC3 := Lib.hid (fun W (h : Below v8.heap.size v8 W) => HO3.out W (bon hb8 h))
  have HC4 := Lib.hid (fun W (h : Below v8.heap.size v8 W) => HI1.out W (bon (bon (bon HV6.out HB7.out) hb8) h))
  have HCW := Lib.hid (fun W (h : Below v8.heap.size v8 W) => (HW1.out.trans ((bon (bon (bon HV6.out HB7.out) hb8) h).mono HW1.out.size)))
  clear HO0 HO1 HO2 HO3 HI1 HB5 HB6 HB7 hb8 HRUN HV6 HV26 HZ0 HZ1 HB23 HB3 HB4 HI3 HW1 hsb HB9
  have HY9 := Lib.hid hb9
  have HEV : Hid (ha = true → hn = cn ∧ lo ≠ 5) := fun e => ⟨by rw [← hhn.out, (HHR.out e).good.len]; exact HCN.out, HHEIGHTS.out hs (HHR.out e).good⟩
  have h0in : ((0 : Int) ∈ rs) := (HREACH.out 0 (by omega)).2 (.base rfl)
  have HZR := Lib.hid h0in
  clear hb9 h0in
  generalize hv9 : v8.alloc (.cells #[.slice Q0 lv.length f0, .slice Q1 lz.length f1] 46) = v9 at HY9
  have hh1 := r8Has_c R2 les.length d2 les 0 v9 (HC2.out _ HY9.out) (by omega)
  rw [decide_eq_true HZL.out] at hh1
  have HH1 := Lib.hid hh1
  clear hh1 HZL
  
  go_upto_region 10 with fail
  clear hv9
  go_cut [105] from 61 to 105 (fun s wx => s = .bool false ∧ Below v8.heap.size v8 wx)
  case first =>
    cases ha
    case false =>
      go_wp2_with fail
      refine HH1.out.mono ?_
      rintro e v10 ⟨rfl, hb10⟩
      go_wp2_with fail
      have hh2 := r8Has_c R1 rs.length d1 rs 0 v10 (HC1.out _ (bon HY9.out hb10)) (by omega)
      rw [decide_eq_true HZR.out] at hh2
      refine hh2.mono ?_
      rintro e v11 ⟨rfl, hb11⟩
      go_wp2_with fail
      go_meet
      exact ⟨rfl, bon (bon HY9.out hb10) hb11⟩
    case true =>
      obtain ⟨hsl, hlo⟩ := HEV.out rfl
      subst hsl
      have e5 : (lo == 5) = false := beq_eq_false_iff_ne.2 hlo
      go_wp2_with fail
      refine HH1.out.mono ?_
      rintro e v10 ⟨rfl, hb10⟩
      go_wp2_with fail
      have hh2 := r8Has_c R1 rs.length d1 rs 0 v10 (HC1.out _ (bon HY9.out hb10)) (by omega)
      rw [decide_eq_true HZR.out] at hh2
      refine hh2.mono ?_
      rintro e v11 ⟨rfl, hb11⟩
      go_wp2_with fail
      go_meet
      exact ⟨rfl, bon (bon HY9.out hb10) hb11⟩
  case rest =>
    obtain ⟨rfl, hbw⟩ := hcut
    have HV := Lib.hid hbw
    clear HH1 HZR HY9 hbw
    go_wp2_with fail
    go_loopw [19, 20, 21, 22, 23, 24] (fun k _ _ _ _ _ wr => ∃ j : Nat, k = .int .i64 j ∧ j ≤ cn ∧ Hid (Below v8.heap.size v8 wr)) (fun k _ _ _ _ _ _ => (cn - intOf k).toNat)
    case atStart => exact ⟨0, rfl, Nat.zero_le _, HV⟩
    case round =>
      clear HV
      rename World => wr
      obtain ⟨j, rfl, hj, HW⟩ := hrel
      by_cases hlt : j < cn
      · have i3 : (j : Int) < (cn : Int) := by omega
        obtain ⟨x, hx⟩ : ∃ x, cs[j]? = some x := ⟨_, List.getElem?_eq_getElem (by have := HCN.out; omega)⟩
        have htg := implTargets_c C cn cc _ cs (j : Int) wr (HC4.out wr HW.out) (Nat.le_refl _) (by omega) (WalkArith.wf_i64 (by omega))
        rw [tgtR_yes HCB.out hx] at htg
        dsimp only at htg
        have htl := tgt_len x.1 x.2 j
        have HTI := Lib.hid (tgt_in HCB.out j x hx)
        have HTR := Lib.hid (fun t ht hr => tgt_reached (t := t) hx ht hr)
        have HTL : Hid (∀ t, t ∈ tgt1 x.1 x.2 j → t ≠ (j : Int) + 1 → t < (cn : Int) → t ∈ les) := fun t ht hn hl => by rw [← hles.out]; exact tgt_leads hx ht hn (by have := HCN.out; omega)
        have HTG := Lib.hid htg
        clear htg hx
        generalize tgt1 x.1 x.2 j = ts at htl HTI HTR HTL HTG
        go_wp2_with fail
        refine HTG.out.mono ?_
        rintro e w1 ⟨T0, td, rfl, oT, hw1⟩
        have HOT := Lib.hid (fun W (h : Below w1.heap.size w1 W) => (oT.all.next h (Nat.le_refl _)).more h.size)
        have HW1 := Lib.hid (bon HW.out hw1)
        clear oT hw1 HTG
        go_wp2_with fail
        refine (r8Has_c R1 rs.length d1 rs (j : Int) w1 (HC1.out _ HW1.out) (by omega)).mono ?_
        obtain ⟨rb, hrb⟩ : ∃ rb : Bool, Hid (decide ((j : Int) ∈ rs) = rb) := ⟨_, rfl⟩
        rw [hrb.out]
        rintro e w2 ⟨rfl, hw2⟩
        have HW2 := Lib.hid (bon HW1.out hw2)
        have HOT2 := Lib.hid (fun W (h : Below w2.heap.size w2 W) => HOT.out W (bon hw2 h))
        have HRQ : Hid (rb = true → RchP cs (fun t => t = 0) j) := fun e => (HREACH.out j hlt).1 (of_decide_eq_true (hrb.out.trans e))
        have HRN : Hid (rb = false → ¬ RchP cs (fun t => t = 0) j) := fun e h => of_decide_eq_false (hrb.out.trans e) ((HREACH.out j hlt).2 h)
        clear hw2 HOT HW1 hrb
        go_upto_region 17 with fail
        go_cut [145] from 118 to 145 (fun s wx => s = .bool false ∧ Below w2.heap.size w2 wx)
        case first =>
          obtain ⟨y, hy⟩ : ∃ y, ct[j]? = some y := ⟨_, List.getElem?_eq_getElem (by omega)⟩
          have hyg : ct.getD j 0 = y := by rw [List.getD_eq_getElem?_getD, hy]; rfl
          have hcq : 0 < y → RchP cs (fun t => t = 0) j := fun h => HCOUNT.out j (by rw [hyg]; exact h)
          obtain ⟨cb, coff, y', hR3, hbb, hy', hc3⟩ := (HC3.out w2 HW2.out).2.int_at (k := j) (by rw [hctl]; exact hlt)
          rw [hy] at hy'
          obtain rfl := Option.some.inj hy'
          subst hR3
          clear hyg hy hy'
          cases ha
          case false =>
            cases rb
            case false =>
              have hy0 : ¬ 0 < y := fun h => HRN.out rfl (hcq h)
              go_wp2_with fail
              go_meet
              exact ⟨rfl, Below.refl _ _⟩
            case true =>
              by_cases hyp : 0 < y
              · go_wp2_with fail
                go_meet
                exact ⟨rfl, Below.refl _ _⟩
              · go_wp2_with fail
                go_meet
                exact ⟨rfl, Below.refl _ _⟩
          case true =>
            obtain ⟨hsl, hlo⟩ := HEV.out rfl
            subst hsl
            obtain ⟨g, hg⟩ : ∃ g, hs[j]? = some g := ⟨_, List.getElem?_eq_getElem (by have := hhn.out; omega)⟩
            obtain ⟨gb, goff, g', hR0, hbg, hg', hg3⟩ := (HC0.out w2 HW2.out).2.int_at (k := j) (by rw [hhn.out]; exact hlt)
            rw [hg] at hg'
            obtain rfl := Option.some.inj hg'
            subst hR0
            have hgq : 0 ≤ g → RchP cs (fun t => t = 0) j := fun h => (HHR.out rfl).reached HCB.out j g hg h
            have hgp : RchP cs (fun t => t = 0) j → 0 ≤ g := fun hrq => by
              obtain ⟨_, h, e, h0⟩ := (HHR.out rfl).good.reach HCB.out _ hrq
              rw [Int.toNat_natCast, hg] at e
              rw [Option.some.inj e]; exact h0
            clear hg hg' 
            cases rb
            case false =>
              have hy0 : ¬ 0 < y := fun h => HRN.out rfl (hcq h)
              have hge : ¬ 0 ≤ g := fun h => HRN.out rfl (hgq h)
              go_wp2_with fail
              go_meet
              exact ⟨rfl, Below.refl _ _⟩
            case true =>
              have hge := hgp (HRQ.out rfl)
              by_cases hyp : 0 < y
              · go_wp2_with fail
                go_meet
                exact ⟨rfl, Below.refl _ _⟩
              · go_wp2_with fail
                go_meet
                exact ⟨rfl, Below.refl _ _⟩
        case rest =>
          obtain ⟨rfl, hbx⟩ := hcut
          have HX0 := Lib.hid hbx
          clear hbx
          go_wp2_with fail
          go_loopw [23, 24] (fun i _ wr2 => ∃ ii : Nat, i = .int .i64 ii ∧ ii ≤ ts.length ∧ Hid (Below w2.heap.size w2 wr2)) (fun i _ _ => (ts.length - intOf i).toNat)
          case atStart => exact ⟨0, rfl, Nat.zero_le _, HX0⟩
          case round =>
            clear HX0
            rename World => wr2
            obtain ⟨ii, rfl, hii, HX2⟩ := hrel
            by_cases hlt2 : ii < ts.length
            · have i4 : (ii : Int) < (ts.length : Int) := by omega
              obtain ⟨tb, toff, t, rfl, htb, ht, htc⟩ := (HOT2.out wr2 HX2.out).2.int_at (k := ii) hlt2
              have htm := List.mem_of_getElem? ht
              obtain ⟨t0, t80⟩ := HTI.out t htm
              have HTM := Lib.hid htm
              clear ht htm htb
              by_cases hin : t < (cn : Int)
              · obtain ⟨tn, rfl⟩ : ∃ tn : Nat, t = (tn : Int) := ⟨t.toNat, by omega⟩
                cases rb
                case false =>
                  by_cases hne : (tn : Int) = (j : Int) + 1
                  · have e0 : ((tn : Int) != (j : Int) + 1) = false := by simp [hne]
                    clear hne
                    go_wp2_with fail
                    have HX3 := HX2
                    have HX4 := HX3
                    go_roundw
                    case rel => exact ⟨ii + 1, by go_num, by omega, HX4⟩
                    case measure => simp [intOf]; omega
                  · have e0 : ((tn : Int) != (j : Int) + 1) = true := bne_iff_ne.2 hne
                    have HLT := Lib.hid (HTL.out _ HTM.out hne hin)
                    clear hne
                    go_wp2_with fail
                    have HX3 := HX2
                    refine (r8Has_c R2 les.length d2 les (tn : Int) _ (HC2.out _ (bon HW2.out HX3.out)) (by omega)).mono ?_
                    rw [decide_eq_true HLT.out]
                    rintro e w4 ⟨rfl, hw4⟩
                    have HX4 := Lib.hid (bon HX3.out hw4)
                    clear hw4
                    go_wp2_with fail
                    go_roundw
                    case rel => exact ⟨ii + 1, by go_num, by omega, HX4⟩
                    case measure => simp [intOf]; omega
                case true =>
                  by_cases hne : (tn : Int) = (j : Int) + 1
                  · have e0 : ((tn : Int) != (j : Int) + 1) = false := by simp [hne]
                    have HRT := Lib.hid ((HREACH.out tn (by omega)).2 (HTR.out _ HTM.out (HRQ.out rfl)))
                    clear hne
                    go_wp2_with fail
                    refine (r8Has_c R1 rs.length d1 rs (tn : Int) _ (HC1.out _ (bon HW2.out HX2.out)) (by omega)).mono ?_
                    rw [decide_eq_true HRT.out]
                    rintro e w3 ⟨rfl, hw3⟩
                    have HX3 := Lib.hid (bon HX2.out hw3)
                    have htc := cell_next htc hw3
                    clear hw3
                    go_wp2_with fail
                    have HX4 := HX3
                    go_roundw
                    case rel => exact ⟨ii + 1, by go_num, by omega, HX4⟩
                    case measure => simp [intOf]; omega
                  · have e0 : ((tn : Int) != (j : Int) + 1) = true := bne_iff_ne.2 hne
                    have HLT := Lib.hid (HTL.out _ HTM.out hne hin)
                    have HRT := Lib.hid ((HREACH.out tn (by omega)).2 (HTR.out _ HTM.out (HRQ.out rfl)))
                    clear hne
                    go_wp2_with fail
                    refine (r8Has_c R1 rs.length d1 rs (tn : Int) _ (HC1.out _ (bon HW2.out HX2.out)) (by omega)).mono ?_
                    rw [decide_eq_true HRT.out]
                    rintro e w3 ⟨rfl, hw3⟩
                    have HX3 := Lib.hid (bon HX2.out hw3)
                    have htc := cell_next htc hw3
                    clear hw3
                    go_wp2_with fail
                    refine (r8Has_c R2 les.length d2 les (tn : Int) _ (HC2.out _ (bon HW2.out HX3.out)) (by omega)).mono ?_
                    rw [decide_eq_true HLT.out]
                    rintro e w4 ⟨rfl, hw4⟩
                    have HX4 := Lib.hid (bon HX3.out hw4)
                    clear hw4
                    go_wp2_with fail
                    go_roundw
                    case rel => exact ⟨ii + 1, by go_num, by omega, HX4⟩
                    case measure => simp [intOf]; omega
              · cases rb
                case false =>
                  go_wp2_with fail
                  go_roundw
                  case rel => exact ⟨ii + 1, by go_num, by omega, HX2⟩
                  case measure => simp [intOf]; omega
                case true =>
                  go_wp2_with fail
                  go_roundw
                  case rel => exact ⟨ii + 1, by go_num, by omega, HX2⟩
                  case measure => simp [intOf]; omega
            · have i4 : ¬ (ii : Int) < (ts.length : Int) := by omega
              go_wp2_with fail
              go_roundw
              case rel => exact ⟨j + 1, by go_num, by omega, bon HW2.out HX2.out⟩
              case measure => simp [intOf]; omega
      · have i3 : ¬ (j : Int) < (cn : Int) := by omega
        go_wp2_with fail
        go_ret
        exact ⟨rfl, HCW.out _ HW.out⟩

/-- The cells of a table. -/
def litCells : DataW Unit → List Value
  | .lit (.int k z) => [Value.int k z]
  | .lit (.bool b) => [Value.bool b]
  | .lit (.string l) => [Value.string ⟨l.toArray⟩]
  | _ => []
def tabCells : DataW Unit → List Value
  | .agg l => l.flatMap fun x => match x with
    | .agg r => r.flatMap litCells
    | x => litCells x
  | _ => []
/-- A world that meets the list. -/
noncomputable def laidWorld (os : Os) : World :=
  let low := (World.holding Tryd.prog default ⟨#[], #[], []⟩).heap.size
  let w0 := World.holding Tryd.prog os ⟨#[.cells #[.string ⟨#[110, 111, 32, 119, 97, 121, 32, 111, 110, 32, 119, 105, 116, 104, 105, 110, 32, 116, 104, 101, 32, 108, 105, 109, 105, 116, 115]⟩] 227], #[], []⟩
  let err (g k : Nat) (h : Array Obj) : Array Obj := h.modify g fun
      | .cells _ t frozen => .cells #[.iface 207 (.pointer (some ⟨low + k, 0, none⟩))] t frozen
      | o => o
  let put (g : Nat) (d : DataW Unit) (h : Array Obj) : Array Obj := h.modify g fun
      | .cells _ t frozen => .cells (tabCells d).toArray t frozen
      | o => o
  { w0 with heap := err 0 0 w0.heap }
theorem laidWorld_met (os : Os) (args : Array Value) : laidMetH Tryd.prog Rows.fnHeightsRow.laid ((laidWorld os).forCall (fun _ _ => 0) ⟨#[], args, []⟩).memory :=
  laidMetH_of_parts (laidMet_of_run' 8 (by kernel_rfl) (by kernel_rfl)) (by kernel_rfl)

set_option maxRecDepth 100000 in
set_option maxHeartbeats 4000000 in
theorem lifted (os : Os) (started : os.Started) (H : Type) (enc : TypeId × Value → H) :
    ReturnsInHanded {} Tryd.checked os 5 .any (fun w args => (Rows.fnHeightsSpec.pre enc Tryd.prog Tryd.f5 [] false w args ∧ laidMetH Tryd.prog Rows.fnHeightsRow.laid w) ∧ sizedMet enc Tryd.prog Tryd.f5 (OpenSpec.ofChange Rows.fnHeightsSpec) false w args) (Rows.fnHeightsSpec.post enc Tryd.prog Tryd.f5 false true false false) := by
  refine returnsInHanded_of_change_and (C := Tryd.checked) (X := fun w _ => laidMetH Tryd.prog Rows.fnHeightsRow.laid w) (fun _ _ _ hh h => h.of_heap hh) own started (by kernel_rfl) Tryd.func5
    (ChangeSpec.witness_at (enc := enc) (C := Tryd.checked) (os := os) (X := fun w _ => laidMetH Tryd.prog Rows.fnHeightsRow.laid w) false (laidWorld os) #[.slice none 0 0, .slice none 0 0] 8 rfl (by kernel_rfl) (by kernel_rfl) (by kernel_rfl) (by kernel_rfl) (by kernel_rfl) (laidWorld_met os _)) ?_
  intro W base args ds gs before hval0 hW _ _ hL _
  have hval : ∀ (j : Nat) t v, Tryd.f5.params[j]? = some t → args[j]? = some v → Value.okWide Tryd.prog W .any base t v := hval0
  have hW' := hW
  obtain ⟨p, q, hA0, hV, rfl, hfz, hnd⟩ := hW
  have hA : DataW.TrodAll enc Tryd.prog W 0 (fun _ => true) true Tryd.f5.params.toList args.toList ds p := hA0
  rw [Tryd.params5] at hA hval
  obtain ⟨v0, vs0, d0, ds0, p0, q0, hargs, rfl, rfl, g0, r0⟩ := trodAll_cons hA
  obtain ⟨v1, vs1, d1, ds1, p1, q1, rfl, rfl, rfl, g1, r1⟩ := trodAll_cons r0
  obtain ⟨rfl, rfl, rfl⟩ := trodAll_nil r1
  obtain rfl : args = #[v0, v1] := by cases args; simp_all
  have hV2 := hV
  obtain ⟨_, _, _, _, dv, _, rfl, _⟩ := trodVars_one hV2
  clear hV2
  have k0 := g0
  have lt0 : ∀ x ∈ p0, x.block < W.heap.size := by obtain ⟨m, hm⟩ := k0; exact DataW.trod_lt m _ _ _ hm
  have k1 := g1
  have lt1 : ∀ x ∈ p1, x.block < W.heap.size := by obtain ⟨m, hm⟩ := k1; exact DataW.trod_lt m _ _ _ hm
  obtain ⟨a0, len0, cap0, rfl⟩ := okWide_slice Tryd.underlying22 (hval 0 22 v0 rfl rfl)
  obtain ⟨z0, w0⟩ : ∃ zs, IsRow .u8 W a0 len0 cap0 zs := by
    obtain ⟨fuel, hf⟩ := g0
    exact isRow_in Tryd.underlying22 Tryd.underlying5 (by kernel_rfl) hf (by simp [Value.cells])
  obtain ⟨a1, len1, cap1, rfl⟩ := okWide_slice Tryd.underlying22 (hval 1 22 v1 rfl rfl)
  obtain ⟨z1, w1⟩ : ∃ zs, IsRow .u8 W a1 len1 cap1 zs := by
    obtain ⟨fuel, hf⟩ := g1
    exact isRow_in Tryd.underlying22 Tryd.underlying5 (by kernel_rfl) hf (by simp [Value.cells])
  clear hA0 hval0
  have hg := stuckX_of_laid (laid := Rows.fnHeightsRow.laid) rfl hL
  refine (walk a0 len0 cap0 z0 a1 len1 cap1 z1 W hg w0 w1).mono fun e W' ⟨he, bel⟩ => ?_
  subst he
  exact ⟨_, rfl, _, _, _, [], _, _, hW', trodAll_mk1 (shut_bool Tryd.underlying4 _), (trodAll_cons_mk (Below.trod laidOut (by kernel_rfl) (of_decide_eq_true (by kernel_rfl)) k0 bel lt0) (trodAll_cons_mk (Below.trod laidOut (by kernel_rfl) (of_decide_eq_true (by kernel_rfl)) k1 bel lt1) trodAll_mk0)), Below.trodVars laidOut bel (by kernel_rfl) hV, bel.frame _, fun h => by cases h⟩

theorem said : Rows.FnHeightsSaid :=
  OpenClaim.holds_of_wide 5 Tryd.f5 rfl rfl rfl rfl rfl rfl rfl ⟨rfl, rfl, rfl, rfl, rfl⟩ rfl rfl rfl rfl rfl (by kernel_rfl) Tryd.func5 (by kernel_rfl)
    (of_decide_eq_true (by kernel_rfl)) (by unfold Func.isWrapper; first | (rw [if_pos (by decide +kernel)]; kernel_rfl) | (rw [if_neg (by decide +kernel)]; exact ⟨rfl, rfl⟩))
    (fun os started H enc _ => lifted os started H enc)

/-- No parameter wants a stand-in; the program's own looks are as told: what the card asks. -/
theorem plain (f : FuncId) (fn : Func) (hf : Tryd.pinned.checked.prog.funcNamed "loop.example/g01105/laws.FnHeights" = some f) (hfn : Tryd.pinned.checked.prog.funcs[f]? = some fn) :
    true = Tryd.pinned.checked.prog.looks [] ∧ ∀ (j : Nat) t, fn.params[j]? = some t → Tryd.pinned.checked.prog.wantsStandIn t = false := by
  obtain rfl : f = 5 := Option.some.inj ((show Tryd.prog.funcNamed "loop.example/g01105/laws.FnHeights" = some 5 by kernel_rfl).symm.trans hf) |>.symm
  obtain rfl : fn = Tryd.f5 := (Option.some.inj (Tryd.func5.symm.trans hfn)).symm
  refine ⟨by kernel_rfl, fun j t ht => ?_⟩
  rw [Tryd.params5] at ht
  have hm : t = 22 := by simpa using Array.mem_of_getElem? ht
  subst hm
  exact (show Tryd.prog.wantsStandIn 22 = false by kernel_rfl)

/-- The card. -/
theorem proved : Rows.FnHeightsCardSaid :=
  Claim7.holds_tied_plain_at .later [] _ _ _ _ said (fun _ h => by cases h) (by kernel_rfl) (fun _ h => by cases h) fnHeights_row_tie rfl ⟨rfl, rfl⟩ (by kernel_rfl) rfl plain (by kernel_rfl)
#print axioms proved
end Go.Proofs.YtffkdidgfeknkaaDoor.fnHeights
