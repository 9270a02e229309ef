/-
  The program's StepCode. Conditions: at most 2^20 instructions and numbers.
-/
import Derived.Test.YtdmcpabpjhinhaaStepS
namespace Go.Proofs.Ytdmcpabpjhinhaa
set_option linter.unusedVariables false
open Go.RowKit

def StepQ2 (r : (List Int × List Int × List Int × Int) × Int × Bool) (w : World) : Ending → World → Prop := fun e w' =>
  ∃ X cx X' cx' X2 cx2 mid mid2, e = .returned (.tuple #[.agg #[.slice X r.1.1.length cx, .slice X' r.1.2.1.length cx', .slice X2 r.1.2.2.1.length cx2, .int .i64 r.1.2.2.2], .int .i64 r.2.1, .bool r.2.2]) ∧
    OwnL w' w.heap.size mid X r.1.1.length cx r.1.1 ∧ OwnL w' mid mid2 X' r.1.2.1.length cx' r.1.2.1 ∧ OwnL w' mid2 w'.heap.size X2 r.1.2.2.1.length cx2 r.1.2.2.1 ∧ (w.heap.size ≤ mid ∧ mid ≤ mid2 ∧ mid2 ≤ w'.heap.size) ∧ Below w.heap.size w w'
theorem aft_rep {cs : List (Int × Int)} {L L' vs zs st : List Int} {p : Int} (r : Rep L vs zs st p) (h1 : outN cs st p ≠ 0 → L' = L) (h2 : outN cs st p = 0 → Rep L' (nextN cs (vs, zs, st, p)).1 (nextN cs (vs, zs, st, p)).2.1 (nextN cs (vs, zs, st, p)).2.2.1 (nextN cs (vs, zs, st, p)).2.2.2) :
    Rep L' (behN cs (vs, zs, st, p)).1 (behN cs (vs, zs, st, p)).2.1 (behN cs (vs, zs, st, p)).2.2.1 (behN cs (vs, zs, st, p)).2.2.2 := by
  by_cases h : outN cs st p = 0
  · rw [behN_go h]; exact h2 h
  · rw [behN_stop h, h1 h]; exact r

set_option maxRecDepth 100000 in
set_option maxHeartbeats 4000000 in
theorem implStep_c (C : Option Addr) (k cc : Nat) (cs : List (Int × Int)) (A : Option Addr) (n c : Nat) (vs : List Int) (A' : Option Addr) (m c' : Nat) (zs : List Int) (A2 : Option Addr) (q c2 : Nat) (st : List Int) (p : Int) (w : World)
    (hc : InC w w.heap.size C k cs) (h0 : InL w w.heap.size A n vs) (h1 : InL w w.heap.size A' m zs) (h2 : InL w w.heap.size A2 q st) (hk : k ≤ 1048576) (hn : n ≤ 1048576) (hm : m ≤ 1048576) (hq : q ≤ 1048576) :
    Calls Try.prog 21 #[.slice C k cc, .agg #[.slice A n c, .slice A' m c', .slice A2 q c2, .int .i64 p]] w (StepQ2 (stepR cs vs zs st p) w) := by
  have hb0 : Below w.heap.size w ((w.alloc (.cells #[.slice A n c, .slice A' m c', .slice A2 q c2, .int .i64 p] 59)).alloc (.cells #[.slice none 0 0, .slice none 0 0, .slice none 0 0, .int .i64 0] 59)) := bon (bnew _ _) (bnew _ _)
  have hP : BlkIs ((w.alloc (.cells #[.slice A n c, .slice A' m c', .slice A2 q c2, .int .i64 p] 59)).alloc (.cells #[.slice none 0 0, .slice none 0 0, .slice none 0 0, .int .i64 0] 59)) w.heap.size 59 #[.slice A n c, .slice A' m c', .slice A2 q c2, .int .i64 p] := (blk_new _ _ _ _ rfl).next (bnew _ _)
  have hR : BlkIs ((w.alloc (.cells #[.slice A n c, .slice A' m c', .slice A2 q c2, .int .i64 p] 59)).alloc (.cells #[.slice none 0 0, .slice none 0 0, .slice none 0 0, .int .i64 0] 59)) (w.heap.size + 1) 59 #[.slice none 0 0, .slice none 0 0, .slice none 0 0, .int .i64 0] := blk_new _ _ _ _ (by simp)
  have hsz : ((w.alloc (.cells #[.slice A n c, .slice A' m c', .slice A2 q c2, .int .i64 p] 59)).alloc (.cells #[.slice none 0 0, .slice none 0 0, .slice none 0 0, .int .i64 0] 59)).heap.size = w.heap.size + 2 := by simp
  have HC0 := Lib.hid (hc.next hb0 (Nat.le_refl _))
  have H0 := Lib.hid (h0.next hb0 (Nat.le_refl _))
  have H1 := Lib.hid (h1.next hb0 (Nat.le_refl _))
  have H2 := Lib.hid (h2.next hb0 (Nat.le_refl _))
  obtain ⟨R, HR⟩ : ∃ R, Hid (stepR cs vs zs st p = R) := ⟨_, rfl⟩
  rw [HR.out]
  have cz : ∀ (x : World), BlkIs x (w.heap.size + 1) 59 #[.slice none 0 0, .slice none 0 0, .slice none 0 0, .int .i64 0] → (x.cell? ⟨w.heap.size + 1, 0, none⟩ = some (.slice none 0 0) ∧ x.cell? ⟨w.heap.size + 1, 1, none⟩ = some (.slice none 0 0) ∧ x.cell? ⟨w.heap.size + 1, 2, none⟩ = some (.slice none 0 0) ∧ x.cell? ⟨w.heap.size + 1, 3, none⟩ = some (.int .i64 0)) := fun x h => ⟨h.cell 0, h.cell 1, h.cell 2, h.cell 3⟩
  have HCZ := Lib.hid cz
  clear cz
  have HVC0 := implConfig_c C k cc cs A n c vs A' m c' zs A2 q c2 st p _ (HC0.out.more hb0.size) (H0.out.more hb0.size) (H1.out.more hb0.size) (H2.out.more hb0.size) hk hn hm hq
  cases hv : vcfB cs vs zs st p with
  | false =>
    have HN := Lib.hid (HR.out.symm.trans (stepR_no hv))
    rw [hv] at HVC0
    have HVC := Lib.hid HVC0
    have p0 : ((w.alloc (.cells #[.slice A n c, .slice A' m c', .slice A2 q c2, .int .i64 p] 59)).alloc (.cells #[.slice none 0 0, .slice none 0 0, .slice none 0 0, .int .i64 0] 59)).cell? ⟨w.heap.size, 0, none⟩ = some (.slice A n c) := hP.cell 0
    have p1 : ((w.alloc (.cells #[.slice A n c, .slice A' m c', .slice A2 q c2, .int .i64 p] 59)).alloc (.cells #[.slice none 0 0, .slice none 0 0, .slice none 0 0, .int .i64 0] 59)).cell? ⟨w.heap.size, 1, none⟩ = some (.slice A' m c') := hP.cell 1
    have p2 : ((w.alloc (.cells #[.slice A n c, .slice A' m c', .slice A2 q c2, .int .i64 p] 59)).alloc (.cells #[.slice none 0 0, .slice none 0 0, .slice none 0 0, .int .i64 0] 59)).cell? ⟨w.heap.size, 2, none⟩ = some (.slice A2 q c2) := hP.cell 2
    have p3 : ((w.alloc (.cells #[.slice A n c, .slice A' m c', .slice A2 q c2, .int .i64 p] 59)).alloc (.cells #[.slice none 0 0, .slice none 0 0, .slice none 0 0, .int .i64 0] 59)).cell? ⟨w.heap.size, 3, none⟩ = some (.int .i64 p) := hP.cell 3
    clear HVC0 hv hc h0 h1 h2 HC0 H0 H1 H2
    go_enter Try.func21, Try.ntmps21
    go_wp2_with fail
    generalize (w.alloc (.cells #[.slice A n c, .slice A' m c', .slice A2 q c2, .int .i64 p] 59)).alloc (.cells #[.slice none 0 0, .slice none 0 0, .slice none 0 0, .int .i64 0] 59) = W at hb0 hP hR hsz HVC p0 p1 p2 p3 ⊢
    refine HVC.out.mono ?_
    rintro e w1 ⟨rfl, hb1⟩
    have hR1 := hR.next hb1
    obtain ⟨z0, z1, z2, z3⟩ := HCZ.out w1 hR1
    have y0 := hR1.frozen 0
    have y1 := hR1.frozen 1
    have y2 := hR1.frozen 2
    have y3 := hR1.frozen 3
    have hbx := bon hb0 hb1
    clear hP hR HVC p0 p1 p2 p3
    go_wp2_with fail
    have hR5 := (((hR1.set 0 (.slice none 0 0)).set 1 (.slice none 0 0)).set 2 (.slice none 0 0)).set 3 (.int .i64 0)
    have s0 : ((((w1.setCell ⟨w.heap.size + 1, 0, none⟩ (.slice none 0 0)).setCell ⟨w.heap.size + 1, 1, none⟩ (.slice none 0 0)).setCell ⟨w.heap.size + 1, 2, none⟩ (.slice none 0 0)).setCell ⟨w.heap.size + 1, 3, none⟩ (.int .i64 0)).cell? ⟨w.heap.size + 1, 0, none⟩ = some (.slice none 0 0) := by rw [hR5.cell 0]; simp
    have s1 : ((((w1.setCell ⟨w.heap.size + 1, 0, none⟩ (.slice none 0 0)).setCell ⟨w.heap.size + 1, 1, none⟩ (.slice none 0 0)).setCell ⟨w.heap.size + 1, 2, none⟩ (.slice none 0 0)).setCell ⟨w.heap.size + 1, 3, none⟩ (.int .i64 0)).cell? ⟨w.heap.size + 1, 1, none⟩ = some (.slice none 0 0) := by rw [hR5.cell 1]; simp
    have s2 : ((((w1.setCell ⟨w.heap.size + 1, 0, none⟩ (.slice none 0 0)).setCell ⟨w.heap.size + 1, 1, none⟩ (.slice none 0 0)).setCell ⟨w.heap.size + 1, 2, none⟩ (.slice none 0 0)).setCell ⟨w.heap.size + 1, 3, none⟩ (.int .i64 0)).cell? ⟨w.heap.size + 1, 2, none⟩ = some (.slice none 0 0) := by rw [hR5.cell 2]; simp
    have s3 : ((((w1.setCell ⟨w.heap.size + 1, 0, none⟩ (.slice none 0 0)).setCell ⟨w.heap.size + 1, 1, none⟩ (.slice none 0 0)).setCell ⟨w.heap.size + 1, 2, none⟩ (.slice none 0 0)).setCell ⟨w.heap.size + 1, 3, none⟩ (.int .i64 0)).cell? ⟨w.heap.size + 1, 3, none⟩ = some (.int .i64 0) := by rw [hR5.cell 3]; simp
    refine bodyPost_ret (v := .tuple #[.agg #[.slice none 0 0, .slice none 0 0, .slice none 0 0, .int .i64 0], .int .i64 0, .bool false]) (by simp [results, Try.results21, go_sem, s0, s1, s2, s3]) rfl ?_
    have ho : Out (w.heap.size + 1) (w.heap.size + 2) w1 ((((w1.setCell ⟨w.heap.size + 1, 0, none⟩ (.slice none 0 0)).setCell ⟨w.heap.size + 1, 1, none⟩ (.slice none 0 0)).setCell ⟨w.heap.size + 1, 2, none⟩ (.slice none 0 0)).setCell ⟨w.heap.size + 1, 3, none⟩ (.int .i64 0)) := out_set (out_set (out_set (out_set (Out.refl _ _ _) (by omega)) (by omega)) (by omega)) (by omega)
    have hbf := hbx.trans (ho.below (by omega) hbx.size)
    rw [HN.out]
    exact ⟨none, 0, none, 0, none, 0, w.heap.size, w.heap.size, rfl, own_none _ _ _ (Nat.le_refl _) hbf.size, own_none _ _ _ (Nat.le_refl _) hbf.size, own_none _ _ _ hbf.size (Nat.le_refl _), ⟨Nat.le_refl _, Nat.le_refl _, hbf.size⟩, hbf⟩
  | true =>
    obtain ⟨hcode, v⟩ := vcfB_parts hv
    have HN := Lib.hid (HR.out.symm.trans (stepR_yes hv))
    obtain rfl : n = 4 := by rw [← h0.1]; exact v.lv
    obtain rfl : m = 8 := by rw [← h1.1]; exact v.lz
    obtain rfl : q = st.length := h2.1.symm
    have bv := behN_valid hcode v
    rw [hv] at HVC0
    have HVC := Lib.hid HVC0
    have HV := Lib.hid v
    have HBV := Lib.hid bv
    have HCODE := Lib.hid hcode
    have p0 : ((w.alloc (.cells #[.slice A 4 c, .slice A' 8 c', .slice A2 st.length c2, .int .i64 p] 59)).alloc (.cells #[.slice none 0 0, .slice none 0 0, .slice none 0 0, .int .i64 0] 59)).cell? ⟨w.heap.size, 0, none⟩ = some (.slice A 4 c) := hP.cell 0
    have p1 : ((w.alloc (.cells #[.slice A 4 c, .slice A' 8 c', .slice A2 st.length c2, .int .i64 p] 59)).alloc (.cells #[.slice none 0 0, .slice none 0 0, .slice none 0 0, .int .i64 0] 59)).cell? ⟨w.heap.size, 1, none⟩ = some (.slice A' 8 c') := hP.cell 1
    have p2 : ((w.alloc (.cells #[.slice A 4 c, .slice A' 8 c', .slice A2 st.length c2, .int .i64 p] 59)).alloc (.cells #[.slice none 0 0, .slice none 0 0, .slice none 0 0, .int .i64 0] 59)).cell? ⟨w.heap.size, 2, none⟩ = some (.slice A2 st.length c2) := hP.cell 2
    have p3 : ((w.alloc (.cells #[.slice A 4 c, .slice A' 8 c', .slice A2 st.length c2, .int .i64 p] 59)).alloc (.cells #[.slice none 0 0, .slice none 0 0, .slice none 0 0, .int .i64 0] 59)).cell? ⟨w.heap.size, 3, none⟩ = some (.int .i64 p) := hP.cell 3
    clear HVC0 hv hc h0 h1 h2 v hcode bv
    go_enter Try.func21, Try.ntmps21
    go_wp2_with fail
    generalize (w.alloc (.cells #[.slice A 4 c, .slice A' 8 c', .slice A2 st.length c2, .int .i64 p] 59)).alloc (.cells #[.slice none 0 0, .slice none 0 0, .slice none 0 0, .int .i64 0] 59) = W at hb0 hP hR hsz HVC HC0 H0 H1 H2 p0 p1 p2 p3 ⊢
    refine HVC.out.mono ?_
    rintro e w1 ⟨rfl, hb1⟩
    have hs1 := hb1.size
    replace p0 := cell_next p0 hb1
    replace p1 := cell_next p1 hb1
    replace p2 := cell_next p2 hb1
    replace p3 := cell_next p3 hb1
    have HMO := Lib.hid (machineOf_c A c vs A' c' zs A2 st.length c2 st p w1 ((H0.out.next hb1 (by omega)).more (by omega)) ((H1.out.next hb1 (by omega)).more (by omega)) ((H2.out.next hb1 (by omega)).more (by omega)) HV.out.ls)
    clear HVC
    go_wp2_with fail
    refine HMO.out.mono ?_
    rintro e w2 ⟨rfl, hb2⟩
    have hs2 := hb2.size
    have HRP := Lib.hid (mofL_rep (p := p) HV.out.lv HV.out.lz HV.out.ls)
    have HAF := Lib.hid (after_c C k cc cs (mofL vs zs st p) vs zs st p w2 ((((HC0.out.next hb1 (by omega)).next hb2 (by omega))).more (by omega)) HCODE.out HRP.out HV.out)
    clear HMO p0 p1 p2 p3
    go_wp2_with fail
    refine HAF.out.mono ?_
    rintro e w3 ⟨L', rfl, hl20, hst, hgo, hb3⟩
    have hs3 := hb3.size
    have hrep := aft_rep HRP.out hst hgo
    have hR3 := ((hR.next hb1).next hb2).next hb3
    have hbw3 := bon (bon (bon hb0 hb1) hb2) hb3
    have hZ : BlkIs (w3.alloc (.cells #[.int .i64 0, .int .i64 0, .int .i64 0, .int .i64 0, .int .i64 0, .int .i64 0, .int .i64 0, .int .i64 0, .int .i64 0, .int .i64 0, .int .i64 0, .int .i64 0, .int .i64 0, .int .i64 0, .int .i64 0, .int .i64 0, .int .i64 0, .int .i64 0, .int .i64 0, .int .i64 0] 94)) w3.heap.size 94 #[.int .i64 0, .int .i64 0, .int .i64 0, .int .i64 0, .int .i64 0, .int .i64 0, .int .i64 0, .int .i64 0, .int .i64 0, .int .i64 0, .int .i64 0, .int .i64 0, .int .i64 0, .int .i64 0, .int .i64 0, .int .i64 0, .int .i64 0, .int .i64 0, .int .i64 0, .int .i64 0] := blk_new _ _ _ _ rfl
    have hbA := bnew w3 (.cells #[.int .i64 0, .int .i64 0, .int .i64 0, .int .i64 0, .int .i64 0, .int .i64 0, .int .i64 0, .int .i64 0, .int .i64 0, .int .i64 0, .int .i64 0, .int .i64 0, .int .i64 0, .int .i64 0, .int .i64 0, .int .i64 0, .int .i64 0, .int .i64 0, .int .i64 0, .int .i64 0] 94)
    have hsA : (w3.alloc (.cells #[.int .i64 0, .int .i64 0, .int .i64 0, .int .i64 0, .int .i64 0, .int .i64 0, .int .i64 0, .int .i64 0, .int .i64 0, .int .i64 0, .int .i64 0, .int .i64 0, .int .i64 0, .int .i64 0, .int .i64 0, .int .i64 0, .int .i64 0, .int .i64 0, .int .i64 0, .int .i64 0] 94)).heap.size = w3.heap.size + 1 := by simp
    have hoA : Out w3.heap.size (w3.heap.size + 1) w3 ((w3.alloc (.cells #[.int .i64 0, .int .i64 0, .int .i64 0, .int .i64 0, .int .i64 0, .int .i64 0, .int .i64 0, .int .i64 0, .int .i64 0, .int .i64 0, .int .i64 0, .int .i64 0, .int .i64 0, .int .i64 0, .int .i64 0, .int .i64 0, .int .i64 0, .int .i64 0, .int .i64 0, .int .i64 0] 94)).setRow w3.heap.size (mc L')) := (Out.of_below hbA).trans (out_setRow (by omega))
    have hbA2 : Below w3.heap.size w3 ((w3.alloc (.cells #[.int .i64 0, .int .i64 0, .int .i64 0, .int .i64 0, .int .i64 0, .int .i64 0, .int .i64 0, .int .i64 0, .int .i64 0, .int .i64 0, .int .i64 0, .int .i64 0, .int .i64 0, .int .i64 0, .int .i64 0, .int .i64 0, .int .i64 0, .int .i64 0, .int .i64 0, .int .i64 0] 94)).setRow w3.heap.size (mc L')) := hoA.below (Nat.le_refl _) (Nat.le_refl _)
    have hM : BlkIs ((w3.alloc (.cells #[.int .i64 0, .int .i64 0, .int .i64 0, .int .i64 0, .int .i64 0, .int .i64 0, .int .i64 0, .int .i64 0, .int .i64 0, .int .i64 0, .int .i64 0, .int .i64 0, .int .i64 0, .int .i64 0, .int .i64 0, .int .i64 0, .int .i64 0, .int .i64 0, .int .i64 0, .int .i64 0] 94)).setRow w3.heap.size (mc L')) w3.heap.size 94 (mc L') := blk_setRow hZ
    have hRA := hR3.next hbA2
    obtain ⟨⟨v4, z8, s6, pp⟩, hbe⟩ : ∃ x, Hid (behN cs (vs, zs, st, p) = x) := ⟨_, rfl⟩
    obtain ⟨oo, hoo⟩ : ∃ x, Hid (outN cs st p = x) := ⟨_, rfl⟩
    have HN2 : Hid (R = ((v4, z8, s6, pp), oo, true)) := HN.out.trans (by rw [hbe.out, hoo.out])
    have hrep2 : Rep L' v4 z8 s6 pp := by rw [hbe.out] at hrep; exact hrep
    have hbv2 : CfV v4 z8 s6 pp := by have := HBV.out; rw [hbe.out] at this; exact this
    have HB1 := Lib.hid hbv2.lv
    have HB2 := Lib.hid hbv2.lz
    have HB3 := Lib.hid hbv2.ls
    have HCO := Lib.hid (config_c L' v4 z8 s6 pp ((w3.alloc (.cells #[.int .i64 0, .int .i64 0, .int .i64 0, .int .i64 0, .int .i64 0, .int .i64 0, .int .i64 0, .int .i64 0, .int .i64 0, .int .i64 0, .int .i64 0, .int .i64 0, .int .i64 0, .int .i64 0, .int .i64 0, .int .i64 0, .int .i64 0, .int .i64 0, .int .i64 0, .int .i64 0] 94)).setRow w3.heap.size (mc L')) hrep2 hbv2.lv hbv2.lz hbv2.ls)
    rw [hoo.out]
    have hi := mach_info hl20
    have hs : (#[.int .i64 0, .int .i64 0, .int .i64 0, .int .i64 0, .int .i64 0, .int .i64 0, .int .i64 0, .int .i64 0, .int .i64 0, .int .i64 0, .int .i64 0, .int .i64 0, .int .i64 0, .int .i64 0, .int .i64 0, .int .i64 0, .int .i64 0, .int .i64 0, .int .i64 0, .int .i64 0] : Array Value).size = (mc L').size := by rw [mc_size, hl20]; rfl
    have h1c := mc_one L'
    clear hst hgo hrep hrep2 hbv2 hbe hoo HAF HRP HN HR HBV hP hR
    go_wp2_with (first
      | (refine wpList_store_rowTo rfl 94 _ _ rfl rfl w3.heap.size (mc L') rfl rfl 94 #[.int .i64 0, .int .i64 0, .int .i64 0, .int .i64 0, .int .i64 0, .int .i64 0, .int .i64 0, .int .i64 0, .int .i64 0, .int .i64 0, .int .i64 0, .int .i64 0, .int .i64 0, .int .i64 0, .int .i64 0, .int .i64 0, .int .i64 0, .int .i64 0, .int .i64 0, .int .i64 0] hZ hi hs h1c ?_)
      | (refine wpList_load_row rfl 94 _ rfl w3.heap.size rfl 94 (mc L') (0, 0) _ hM Try.underlying94 rfl hi ?_)
      | fail)
    generalize (w3.alloc (.cells #[.int .i64 0, .int .i64 0, .int .i64 0, .int .i64 0, .int .i64 0, .int .i64 0, .int .i64 0, .int .i64 0, .int .i64 0, .int .i64 0, .int .i64 0, .int .i64 0, .int .i64 0, .int .i64 0, .int .i64 0, .int .i64 0, .int .i64 0, .int .i64 0, .int .i64 0, .int .i64 0] 94)).setRow w3.heap.size (mc L') = W4 at hoA hbA2 hM hRA HCO ⊢
    have hsW4 := hbA2.size
    refine HCO.out.mono ?_
    rintro e w5 ⟨X, cx, X', cx', X2, cx2, mid, mid2, rfl, o1, o2, o3, hmd, hb5⟩
    have hR4 := hRA.next hb5
    have HO1 := Lib.hid o1
    have HO2 := Lib.hid o2
    have HO3 := Lib.hid o3
    have hs5 := hb5.size
    have hbw := bon (bon hbw3 hbA2) hb5
    clear HCO o1 o2 o3 hM hRA hb1 hb2 hb3 hZ hbA hbA2 hoA
    obtain ⟨z0, z1, z2, z3⟩ := HCZ.out _ hR4
    have y0 := hR4.frozen 0
    have y1 := hR4.frozen 1
    have y2 := hR4.frozen 2
    have y3 := hR4.frozen 3
    go_wp2_with fail
    have hR5 := (((hR4.set 0 (.slice X 4 cx)).set 1 (.slice X' 8 cx')).set 2 (.slice X2 s6.length cx2)).set 3 (.int .i64 pp)
    have ho5 : Out (w.heap.size + 1) (w.heap.size + 2) w5 ((((w5.setCell ⟨w.heap.size + 1, 0, none⟩ (.slice X 4 cx)).setCell ⟨w.heap.size + 1, 1, none⟩ (.slice X' 8 cx')).setCell ⟨w.heap.size + 1, 2, none⟩ (.slice X2 s6.length cx2)).setCell ⟨w.heap.size + 1, 3, none⟩ (.int .i64 pp)) := out_set (out_set (out_set (out_set (Out.refl _ _ _) (by omega)) (by omega)) (by omega)) (by omega)
    have s0 : ((((w5.setCell ⟨w.heap.size + 1, 0, none⟩ (.slice X 4 cx)).setCell ⟨w.heap.size + 1, 1, none⟩ (.slice X' 8 cx')).setCell ⟨w.heap.size + 1, 2, none⟩ (.slice X2 s6.length cx2)).setCell ⟨w.heap.size + 1, 3, none⟩ (.int .i64 pp)).cell? ⟨w.heap.size + 1, 0, none⟩ = some (.slice X 4 cx) := by rw [hR5.cell 0]; simp
    have s1 : ((((w5.setCell ⟨w.heap.size + 1, 0, none⟩ (.slice X 4 cx)).setCell ⟨w.heap.size + 1, 1, none⟩ (.slice X' 8 cx')).setCell ⟨w.heap.size + 1, 2, none⟩ (.slice X2 s6.length cx2)).setCell ⟨w.heap.size + 1, 3, none⟩ (.int .i64 pp)).cell? ⟨w.heap.size + 1, 1, none⟩ = some (.slice X' 8 cx') := by rw [hR5.cell 1]; simp
    have s2 : ((((w5.setCell ⟨w.heap.size + 1, 0, none⟩ (.slice X 4 cx)).setCell ⟨w.heap.size + 1, 1, none⟩ (.slice X' 8 cx')).setCell ⟨w.heap.size + 1, 2, none⟩ (.slice X2 s6.length cx2)).setCell ⟨w.heap.size + 1, 3, none⟩ (.int .i64 pp)).cell? ⟨w.heap.size + 1, 2, none⟩ = some (.slice X2 s6.length cx2) := by rw [hR5.cell 2]; simp
    have s3 : ((((w5.setCell ⟨w.heap.size + 1, 0, none⟩ (.slice X 4 cx)).setCell ⟨w.heap.size + 1, 1, none⟩ (.slice X' 8 cx')).setCell ⟨w.heap.size + 1, 2, none⟩ (.slice X2 s6.length cx2)).setCell ⟨w.heap.size + 1, 3, none⟩ (.int .i64 pp)).cell? ⟨w.heap.size + 1, 3, none⟩ = some (.int .i64 pp) := by rw [hR5.cell 3]; simp
    have hb6 := hbw.trans (ho5.below (by omega) hbw.size)
    generalize ((((w5.setCell ⟨w.heap.size + 1, 0, none⟩ (.slice X 4 cx)).setCell ⟨w.heap.size + 1, 1, none⟩ (.slice X' 8 cx')).setCell ⟨w.heap.size + 1, 2, none⟩ (.slice X2 s6.length cx2)).setCell ⟨w.heap.size + 1, 3, none⟩ (.int .i64 pp)) = W5 at s0 s1 s2 s3 ho5 hb6 ⊢
    refine bodyPost_ret (v := .tuple #[.agg #[.slice X 4 cx, .slice X' 8 cx', .slice X2 s6.length cx2, .int .i64 pp], .int .i64 oo, .bool true]) (by simp [results, Try.results21, go_sem, s0, s1, s2, s3]) rfl ?_
    have HOF1 := HO1.out.out ho5 (by left; omega)
    have HOF2 := HO2.out.out ho5 (by left; omega)
    have HOF3 := HO3.out.out ho5 (by left; omega)
    have e1 := HB1.out
    have e2 := HB2.out
    have hsF := ho5.size
    rw [HN2.out]
    refine ⟨X, cx, X', cx', X2, cx2, mid, mid2, by show _ = Ending.returned (.tuple #[.agg #[.slice X v4.length cx, .slice X' z8.length cx', .slice X2 s6.length cx2, .int .i64 pp], .int .i64 oo, .bool true]); rw [e1, e2], ?_, ?_, ?_, ⟨by omega, by omega, by omega⟩, hb6⟩
    · show OwnL _ _ _ X v4.length cx v4
      rw [e1]; exact HOF1.less (by omega)
    · show OwnL _ _ _ X' z8.length cx' z8
      rw [e2]; exact HOF2
    · exact HOF3.wide (by omega) (Nat.le_refl _)
end Go.Proofs.Ytdmcpabpjhinhaa
