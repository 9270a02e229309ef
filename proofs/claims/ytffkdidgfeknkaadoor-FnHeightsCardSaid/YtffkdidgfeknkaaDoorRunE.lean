/-
  The program's RunCode. Conditions: at most 2^20 instructions and numbers.
-/
import Derived.Test.YtffkdidgfeknkaaDoorRunI
namespace Go.Proofs.YtffkdidgfeknkaaDoor
set_option linter.unusedVariables false
open Go.RowKit

set_option maxRecDepth 100000 in
set_option maxHeartbeats 8000000 in
theorem implRun_c (C : Option Addr) (k cc : Nat) (cs : List (Int × Int)) (A : Option Addr) (n c : Nat) (vs : List Int) (A' : Option Addr) (m c' : Nat) (zs : List Int) (f : Int) (w : World)
    (hc : InC w w.heap.size C k cs) (h0 : InL w w.heap.size A n vs) (h1 : InL w w.heap.size A' m zs) (hk : k ≤ 1048576) (hn : n ≤ 1048576) (hm : m ≤ 1048576) :
    Calls Tryd.prog 27 #[.slice C k cc, .agg #[.slice A n c, .slice A' m c'], .int .i64 f] w fun e w' => ∃ R00 d00 R01 d01 R10 d10 md0 md1, e = .returned (.tuple #[.agg #[.slice R00 (runR cs vs zs f).1.1.length d00, .slice R01 (runR cs vs zs f).1.2.length d01], .slice R10 (runR cs vs zs f).2.1.length d10, .int .i64 (runR cs vs zs f).2.2.1, .bool (runR cs vs zs f).2.2.2]) ∧ OwnL w' md0 md1 R00 (runR cs vs zs f).1.1.length d00 (runR cs vs zs f).1.1 ∧ OwnL w' md1 w'.heap.size R01 (runR cs vs zs f).1.2.length d01 (runR cs vs zs f).1.2 ∧ OwnL w' w.heap.size md0 R10 (runR cs vs zs f).2.1.length d10 (runR cs vs zs f).2.1 ∧ (w.heap.size ≤ md0 ∧ md0 ≤ md1 ∧ md1 ≤ w'.heap.size) ∧ Below w.heap.size w w' := by
  obtain ⟨i0, hif, hz0, hz1, hz2⟩ := info_parts info64
  have hb0 : Below w.heap.size w ((w.alloc (.cells #[.slice A n c, .slice A' m c'] 46)).alloc (.cells #[.slice none 0 0, .slice none 0 0] 46)) := bon (bnew _ _) (bnew _ _)
  have hP : BlkIs ((w.alloc (.cells #[.slice A n c, .slice A' m c'] 46)).alloc (.cells #[.slice none 0 0, .slice none 0 0] 46)) w.heap.size 46 #[.slice A n c, .slice A' m c'] := (blk_new _ _ _ _ rfl).next (bnew _ _)
  have hR : BlkIs ((w.alloc (.cells #[.slice A n c, .slice A' m c'] 46)).alloc (.cells #[.slice none 0 0, .slice none 0 0] 46)) (w.heap.size + 1) 46 #[.slice none 0 0, .slice none 0 0] := blk_new _ _ _ _ (by simp)
  have hsz : ((w.alloc (.cells #[.slice A n c, .slice A' m c'] 46)).alloc (.cells #[.slice none 0 0, .slice none 0 0] 46)).heap.size = w.heap.size + 2 := by simp
  have p0 : ((w.alloc (.cells #[.slice A n c, .slice A' m c'] 46)).alloc (.cells #[.slice none 0 0, .slice none 0 0] 46)).cell? ⟨w.heap.size, 0, none⟩ = some (.slice A n c) := hP.cell 0
  have p1 : ((w.alloc (.cells #[.slice A n c, .slice A' m c'] 46)).alloc (.cells #[.slice none 0 0, .slice none 0 0] 46)).cell? ⟨w.heap.size, 1, none⟩ = some (.slice A' m c') := hP.cell 1
  have HRI := Lib.hid (codeRunOf_c C k cc cs A n c vs A' m c' zs f ((w.alloc (.cells #[.slice A n c, .slice A' m c'] 46)).alloc (.cells #[.slice none 0 0, .slice none 0 0] 46)) ((hc.next hb0 (Nat.le_refl _)).more hb0.size) ((h0.next hb0 (Nat.le_refl _)).more hb0.size) ((h1.next hb0 (Nat.le_refl _)).more hb0.size) hk hn hm)
  have HC := Lib.hid (hc.next hb0 (Nat.le_refl _))
  obtain ⟨R, HR⟩ : ∃ R, Hid (runR cs vs zs f = R) := ⟨_, rfl⟩
  rw [HR.out]
  have hkk := hc.1
  clear hc h0 h1 hP
  cases hv : runB cs vs zs f with
  | false =>
    have HN := Lib.hid (HR.out.symm.trans (runR_no hv))
    have HV := Lib.hid hv
    clear hv
    go_enter Tryd.func27, Tryd.ntmps27
    go_wp2_with fail
    generalize ((w.alloc (.cells #[.slice A n c, .slice A' m c'] 46)).alloc (.cells #[.slice none 0 0, .slice none 0 0] 46)) = W at hb0 hR hsz HRI HC p0 p1 ⊢
    refine HRI.out.mono ?_
    rintro e w1 ⟨L, E, ne, ce, o, rfl, hl20, hb1, -⟩
    rw [HV.out]
    have hZ : BlkIs (w1.alloc (.cells #[.int .i64 0, .int .i64 0, .int .i64 0, .int .i64 0, .int .i64 0, .int .i64 0, .int .i64 0, .int .i64 0, .int .i64 0, .int .i64 0, .int .i64 0, .int .i64 0, .int .i64 0, .int .i64 0, .int .i64 0, .int .i64 0, .int .i64 0, .int .i64 0, .int .i64 0, .int .i64 0, .slice none 0 0, .int .i64 0] 96)) w1.heap.size 96 #[.int .i64 0, .int .i64 0, .int .i64 0, .int .i64 0, .int .i64 0, .int .i64 0, .int .i64 0, .int .i64 0, .int .i64 0, .int .i64 0, .int .i64 0, .int .i64 0, .int .i64 0, .int .i64 0, .int .i64 0, .int .i64 0, .int .i64 0, .int .i64 0, .int .i64 0, .int .i64 0, .slice none 0 0, .int .i64 0] := blk_new _ _ _ _ rfl
    have hi1 : (Tryd.prog.info? 96).map (·.size) = some (rc L (.slice E ne ce) o).size := rc_info hl20
    have hs1z : (#[.int .i64 0, .int .i64 0, .int .i64 0, .int .i64 0, .int .i64 0, .int .i64 0, .int .i64 0, .int .i64 0, .int .i64 0, .int .i64 0, .int .i64 0, .int .i64 0, .int .i64 0, .int .i64 0, .int .i64 0, .int .i64 0, .int .i64 0, .int .i64 0, .int .i64 0, .int .i64 0, .slice none 0 0, .int .i64 0] : Array Value).size = (rc L (.slice E ne ce) o).size := by rw [rc_size hl20]; rfl
    have h11 : (rc L (.slice E ne ce) o).all (·.oneCell') = true := rc_one rfl
    have hbN : Below w1.heap.size w1 ((w1.alloc (.cells #[.int .i64 0, .int .i64 0, .int .i64 0, .int .i64 0, .int .i64 0, .int .i64 0, .int .i64 0, .int .i64 0, .int .i64 0, .int .i64 0, .int .i64 0, .int .i64 0, .int .i64 0, .int .i64 0, .int .i64 0, .int .i64 0, .int .i64 0, .int .i64 0, .int .i64 0, .int .i64 0, .slice none 0 0, .int .i64 0] 96)).setRow w1.heap.size (rc L (.slice E ne ce) o)) := ((Out.of_below (bnew _ _)).trans (out_setRow (by omega)) : Out w1.heap.size (w1.heap.size + 1) w1 ((w1.alloc (.cells #[.int .i64 0, .int .i64 0, .int .i64 0, .int .i64 0, .int .i64 0, .int .i64 0, .int .i64 0, .int .i64 0, .int .i64 0, .int .i64 0, .int .i64 0, .int .i64 0, .int .i64 0, .int .i64 0, .int .i64 0, .int .i64 0, .int .i64 0, .int .i64 0, .int .i64 0, .int .i64 0, .slice none 0 0, .int .i64 0] 96)).setRow w1.heap.size (rc L (.slice E ne ce) o))).below (Nat.le_refl _) (Nat.le_refl _)
    have hbf := bon (bon hb0 hb1) hbN
    have hRN := (hR.next hb1).next hbN
    have z0 : ((w1.alloc (.cells #[.int .i64 0, .int .i64 0, .int .i64 0, .int .i64 0, .int .i64 0, .int .i64 0, .int .i64 0, .int .i64 0, .int .i64 0, .int .i64 0, .int .i64 0, .int .i64 0, .int .i64 0, .int .i64 0, .int .i64 0, .int .i64 0, .int .i64 0, .int .i64 0, .int .i64 0, .int .i64 0, .slice none 0 0, .int .i64 0] 96)).setRow w1.heap.size (rc L (.slice E ne ce) o)).cell? ⟨w.heap.size + 1, 0, none⟩ = some (.slice none 0 0) := hRN.cell 0
    have z1 : ((w1.alloc (.cells #[.int .i64 0, .int .i64 0, .int .i64 0, .int .i64 0, .int .i64 0, .int .i64 0, .int .i64 0, .int .i64 0, .int .i64 0, .int .i64 0, .int .i64 0, .int .i64 0, .int .i64 0, .int .i64 0, .int .i64 0, .int .i64 0, .int .i64 0, .int .i64 0, .int .i64 0, .int .i64 0, .slice none 0 0, .int .i64 0] 96)).setRow w1.heap.size (rc L (.slice E ne ce) o)).cell? ⟨w.heap.size + 1, 1, none⟩ = some (.slice none 0 0) := hRN.cell 1
    have y0 := hRN.frozen 0
    have y1 := hRN.frozen 1
    have hR5 := (hRN.set 0 (.slice none 0 0)).set 1 (.slice none 0 0)
    have ho5 : Out (w.heap.size + 1) (w.heap.size + 2) ((w1.alloc (.cells #[.int .i64 0, .int .i64 0, .int .i64 0, .int .i64 0, .int .i64 0, .int .i64 0, .int .i64 0, .int .i64 0, .int .i64 0, .int .i64 0, .int .i64 0, .int .i64 0, .int .i64 0, .int .i64 0, .int .i64 0, .int .i64 0, .int .i64 0, .int .i64 0, .int .i64 0, .int .i64 0, .slice none 0 0, .int .i64 0] 96)).setRow w1.heap.size (rc L (.slice E ne ce) o)) ((((w1.alloc (.cells #[.int .i64 0, .int .i64 0, .int .i64 0, .int .i64 0, .int .i64 0, .int .i64 0, .int .i64 0, .int .i64 0, .int .i64 0, .int .i64 0, .int .i64 0, .int .i64 0, .int .i64 0, .int .i64 0, .int .i64 0, .int .i64 0, .int .i64 0, .int .i64 0, .int .i64 0, .int .i64 0, .slice none 0 0, .int .i64 0] 96)).setRow w1.heap.size (rc L (.slice E ne ce) o)).setCell ⟨w.heap.size + 1, 0, none⟩ (.slice none 0 0)).setCell ⟨w.heap.size + 1, 1, none⟩ (.slice none 0 0)) := out_set (out_set (Out.refl _ _ _) (by omega)) (by omega)
    have s0 : ((((w1.alloc (.cells #[.int .i64 0, .int .i64 0, .int .i64 0, .int .i64 0, .int .i64 0, .int .i64 0, .int .i64 0, .int .i64 0, .int .i64 0, .int .i64 0, .int .i64 0, .int .i64 0, .int .i64 0, .int .i64 0, .int .i64 0, .int .i64 0, .int .i64 0, .int .i64 0, .int .i64 0, .int .i64 0, .slice none 0 0, .int .i64 0] 96)).setRow w1.heap.size (rc L (.slice E ne ce) o)).setCell ⟨w.heap.size + 1, 0, none⟩ (.slice none 0 0)).setCell ⟨w.heap.size + 1, 1, none⟩ (.slice none 0 0)).cell? ⟨w.heap.size + 1, 0, none⟩ = some (.slice none 0 0) := by rw [hR5.cell 0]; simp
    have s1 : ((((w1.alloc (.cells #[.int .i64 0, .int .i64 0, .int .i64 0, .int .i64 0, .int .i64 0, .int .i64 0, .int .i64 0, .int .i64 0, .int .i64 0, .int .i64 0, .int .i64 0, .int .i64 0, .int .i64 0, .int .i64 0, .int .i64 0, .int .i64 0, .int .i64 0, .int .i64 0, .int .i64 0, .int .i64 0, .slice none 0 0, .int .i64 0] 96)).setRow w1.heap.size (rc L (.slice E ne ce) o)).setCell ⟨w.heap.size + 1, 0, none⟩ (.slice none 0 0)).setCell ⟨w.heap.size + 1, 1, none⟩ (.slice none 0 0)).cell? ⟨w.heap.size + 1, 1, none⟩ = some (.slice none 0 0) := by rw [hR5.cell 1]; simp
    have hb5 := hbf.trans (ho5.below (by omega) hbf.size)
    clear hR5 hRN ho5
    go_wp2_with (first
      | (refine wpList_store_rowTo rfl 96 _ _ rfl rfl w1.heap.size (rc L (.slice E ne ce) o) rfl rfl 96 #[.int .i64 0, .int .i64 0, .int .i64 0, .int .i64 0, .int .i64 0, .int .i64 0, .int .i64 0, .int .i64 0, .int .i64 0, .int .i64 0, .int .i64 0, .int .i64 0, .int .i64 0, .int .i64 0, .int .i64 0, .int .i64 0, .int .i64 0, .int .i64 0, .int .i64 0, .int .i64 0, .slice none 0 0, .int .i64 0] hZ hi1 hs1z h11 ?_)
      | fail)
    refine bodyPost_ret (v := .tuple #[.agg #[.slice none 0 0, .slice none 0 0], .slice none 0 0, .int .i64 0, .bool false]) (by simp [results, Tryd.results27, go_sem, s0, s1]) rfl ?_
    rw [HN.out]
    exact ⟨none, 0, none, 0, none, 0, w.heap.size, w.heap.size, rfl, own_none _ _ _ (Nat.le_refl _) hb5.size, own_none _ _ _ hb5.size (Nat.le_refl _), own_none _ _ _ (Nat.le_refl _) hb5.size, ⟨Nat.le_refl _, Nat.le_refl _, hb5.size⟩, hb5⟩
  | true =>
    have HN := Lib.hid (HR.out.symm.trans (runR_yes hv))
    have HV := Lib.hid hv
    have HLEN := Lib.hid (runN_len hv)
    obtain ⟨hcode, hst, hfu, v, hf0, hf1⟩ := runB_parts hv
    have hk8 : k ≤ 80 := by have := (codeB_parts hcode).2.1; omega
    obtain ⟨⟨⟨dv, dz, ds, dp⟩, ks, oo⟩, HRN⟩ : ∃ x, Hid (runN cs f.toNat (c0R vs zs) = x) := ⟨_, rfl⟩
    have hpl := runN_places hcode f.toNat (c0R vs zs) v
    rw [HRN.out] at hpl
    obtain ⟨hkl, hkb⟩ := hpl
    have hkl2 : ks.length ≤ 2000 := by have : ks.length ≤ f.toNat := hkl; omega
    have HKB : Hid (∀ x ∈ ks, 0 ≤ x ∧ x < (cs.length : Int)) := hkb
    clear hv hcode hst hfu v hkb hkl
    go_enter Tryd.func27, Tryd.ntmps27
    go_wp2_with fail
    generalize ((w.alloc (.cells #[.slice A n c, .slice A' m c'] 46)).alloc (.cells #[.slice none 0 0, .slice none 0 0] 46)) = W at hb0 hR hsz HRI HC p0 p1 ⊢
    refine HRI.out.mono ?_
    rintro e w1 ⟨L, E, ne, ce, o, rfl, hl20, hb1, hyes⟩
    rw [HV.out]
    obtain ⟨ho, hrep, hown⟩ := hyes HV.out
    rw [HRN.out] at hown hrep ho
    have HO : Hid (o = oo) := ho
    have HRP : Hid (Rep L dv dz ds dp) := hrep
    have hnk : ks.length = ne := hown.1
    have hZ : BlkIs (w1.alloc (.cells #[.int .i64 0, .int .i64 0, .int .i64 0, .int .i64 0, .int .i64 0, .int .i64 0, .int .i64 0, .int .i64 0, .int .i64 0, .int .i64 0, .int .i64 0, .int .i64 0, .int .i64 0, .int .i64 0, .int .i64 0, .int .i64 0, .int .i64 0, .int .i64 0, .int .i64 0, .int .i64 0, .slice none 0 0, .int .i64 0] 96)) w1.heap.size 96 #[.int .i64 0, .int .i64 0, .int .i64 0, .int .i64 0, .int .i64 0, .int .i64 0, .int .i64 0, .int .i64 0, .int .i64 0, .int .i64 0, .int .i64 0, .int .i64 0, .int .i64 0, .int .i64 0, .int .i64 0, .int .i64 0, .int .i64 0, .int .i64 0, .int .i64 0, .int .i64 0, .slice none 0 0, .int .i64 0] := blk_new _ _ _ _ rfl
    have hi1 : (Tryd.prog.info? 96).map (·.size) = some (rc L (.slice E ne ce) o).size := rc_info hl20
    have hs1z : (#[.int .i64 0, .int .i64 0, .int .i64 0, .int .i64 0, .int .i64 0, .int .i64 0, .int .i64 0, .int .i64 0, .int .i64 0, .int .i64 0, .int .i64 0, .int .i64 0, .int .i64 0, .int .i64 0, .int .i64 0, .int .i64 0, .int .i64 0, .int .i64 0, .int .i64 0, .int .i64 0, .slice none 0 0, .int .i64 0] : Array Value).size = (rc L (.slice E ne ce) o).size := by rw [rc_size hl20]; rfl
    have h11 : (rc L (.slice E ne ce) o).all (·.oneCell') = true := rc_one rfl
    have hbN : Below w1.heap.size w1 ((w1.alloc (.cells #[.int .i64 0, .int .i64 0, .int .i64 0, .int .i64 0, .int .i64 0, .int .i64 0, .int .i64 0, .int .i64 0, .int .i64 0, .int .i64 0, .int .i64 0, .int .i64 0, .int .i64 0, .int .i64 0, .int .i64 0, .int .i64 0, .int .i64 0, .int .i64 0, .int .i64 0, .int .i64 0, .slice none 0 0, .int .i64 0] 96)).setRow w1.heap.size (rc L (.slice E ne ce) o)) := ((Out.of_below (bnew _ _)).trans (out_setRow (by omega)) : Out w1.heap.size (w1.heap.size + 1) w1 ((w1.alloc (.cells #[.int .i64 0, .int .i64 0, .int .i64 0, .int .i64 0, .int .i64 0, .int .i64 0, .int .i64 0, .int .i64 0, .int .i64 0, .int .i64 0, .int .i64 0, .int .i64 0, .int .i64 0, .int .i64 0, .int .i64 0, .int .i64 0, .int .i64 0, .int .i64 0, .int .i64 0, .int .i64 0, .slice none 0 0, .int .i64 0] 96)).setRow w1.heap.size (rc L (.slice E ne ce) o))).below (Nat.le_refl _) (Nat.le_refl _)
    have hsN : ((w1.alloc (.cells #[.int .i64 0, .int .i64 0, .int .i64 0, .int .i64 0, .int .i64 0, .int .i64 0, .int .i64 0, .int .i64 0, .int .i64 0, .int .i64 0, .int .i64 0, .int .i64 0, .int .i64 0, .int .i64 0, .int .i64 0, .int .i64 0, .int .i64 0, .int .i64 0, .int .i64 0, .int .i64 0, .slice none 0 0, .int .i64 0] 96)).setRow w1.heap.size (rc L (.slice E ne ce) o)).heap.size = w1.heap.size + 1 := by simp
    have hB1 : BlkIs ((w1.alloc (.cells #[.int .i64 0, .int .i64 0, .int .i64 0, .int .i64 0, .int .i64 0, .int .i64 0, .int .i64 0, .int .i64 0, .int .i64 0, .int .i64 0, .int .i64 0, .int .i64 0, .int .i64 0, .int .i64 0, .int .i64 0, .int .i64 0, .int .i64 0, .int .i64 0, .int .i64 0, .int .i64 0, .slice none 0 0, .int .i64 0] 96)).setRow w1.heap.size (rc L (.slice E ne ce) o)) w1.heap.size 96 (rc L (.slice E ne ce) o) := blk_setRow hZ
    have c20 : ((w1.alloc (.cells #[.int .i64 0, .int .i64 0, .int .i64 0, .int .i64 0, .int .i64 0, .int .i64 0, .int .i64 0, .int .i64 0, .int .i64 0, .int .i64 0, .int .i64 0, .int .i64 0, .int .i64 0, .int .i64 0, .int .i64 0, .int .i64 0, .int .i64 0, .int .i64 0, .int .i64 0, .int .i64 0, .slice none 0 0, .int .i64 0] 96)).setRow w1.heap.size (rc L (.slice E ne ce) o)).cell? ⟨w1.heap.size, 20, none⟩ = some (.slice E ne ce) := (hB1.cell 20).trans (rc_exec hl20)
    have hbf := bon (bon hb0 hb1) hbN
    have hs1 := hb1.size
    have hOn : OwnL ((w1.alloc (.cells #[.int .i64 0, .int .i64 0, .int .i64 0, .int .i64 0, .int .i64 0, .int .i64 0, .int .i64 0, .int .i64 0, .int .i64 0, .int .i64 0, .int .i64 0, .int .i64 0, .int .i64 0, .int .i64 0, .int .i64 0, .int .i64 0, .int .i64 0, .int .i64 0, .int .i64 0, .int .i64 0, .slice none 0 0, .int .i64 0] 96)).setRow w1.heap.size (rc L (.slice E ne ce) o)) W.heap.size w1.heap.size E ne ce ks := hown.next hbN
    have HON := Lib.hid hOn
    have HCN := Lib.hid (HC.out.next (bon hb1 hbN) (by omega))
    have hRN := (hR.next hb1).next hbN
    have hOW0 : Hid (OwnL ((w1.alloc (.cells #[.int .i64 0, .int .i64 0, .int .i64 0, .int .i64 0, .int .i64 0, .int .i64 0, .int .i64 0, .int .i64 0, .int .i64 0, .int .i64 0, .int .i64 0, .int .i64 0, .int .i64 0, .int .i64 0, .int .i64 0, .int .i64 0, .int .i64 0, .int .i64 0, .int .i64 0, .int .i64 0, .slice none 0 0, .int .i64 0] 96)).setRow w1.heap.size (rc L (.slice E ne ce) o)) (w1.heap.size + 1) ((w1.alloc (.cells #[.int .i64 0, .int .i64 0, .int .i64 0, .int .i64 0, .int .i64 0, .int .i64 0, .int .i64 0, .int .i64 0, .int .i64 0, .int .i64 0, .int .i64 0, .int .i64 0, .int .i64 0, .int .i64 0, .int .i64 0, .int .i64 0, .int .i64 0, .int .i64 0, .int .i64 0, .int .i64 0, .slice none 0 0, .int .i64 0] 96)).setRow w1.heap.size (rc L (.slice E ne ce) o)).heap.size none 0 0 (evR cs (ks.take 0))) := own_none _ _ _ (by omega) (Nat.le_refl _)
    clear hown hyes hOn ho hrep hR
    go_wp2_with (first
      | (refine wpList_store_rowTo rfl 96 _ _ rfl rfl w1.heap.size (rc L (.slice E ne ce) o) rfl rfl 96 #[.int .i64 0, .int .i64 0, .int .i64 0, .int .i64 0, .int .i64 0, .int .i64 0, .int .i64 0, .int .i64 0, .int .i64 0, .int .i64 0, .int .i64 0, .int .i64 0, .int .i64 0, .int .i64 0, .int .i64 0, .int .i64 0, .int .i64 0, .int .i64 0, .int .i64 0, .int .i64 0, .slice none 0 0, .int .i64 0] hZ hi1 hs1z h11 ?_)
      | fail)
    clear hZ hi1 hs1z h11 c20 p0 p1 HRI
    go_loopw [12, 14, 28] (fun ev _ iv wr => ∃ (i : Nat) (X : Option Addr) (m2 cx : Nat), iv = .int .i64 (i : Int) ∧ i ≤ ne ∧ ev = .slice X m2 cx ∧ Hid (OwnL wr (w1.heap.size + 1) wr.heap.size X m2 cx (evR cs (ks.take i))) ∧ Below (w1.heap.size + 1) ((w1.alloc (.cells #[.int .i64 0, .int .i64 0, .int .i64 0, .int .i64 0, .int .i64 0, .int .i64 0, .int .i64 0, .int .i64 0, .int .i64 0, .int .i64 0, .int .i64 0, .int .i64 0, .int .i64 0, .int .i64 0, .int .i64 0, .int .i64 0, .int .i64 0, .int .i64 0, .int .i64 0, .int .i64 0, .slice none 0 0, .int .i64 0] 96)).setRow w1.heap.size (rc L (.slice E ne ce) o)) wr) (fun _ _ iv _ => ne - (intOf iv).toNat)
    case atStart => exact ⟨0, none, 0, 0, rfl, Nat.zero_le _, rfl, hOW0, by rw [← hsN]; exact Below.refl _ _⟩
    case round =>
      clear hOW0
      obtain ⟨i, X, m2, cx, rfl, hile, rfl, HOW, hbl⟩ := hrel
      have hbl' : Below ((w1.alloc (.cells #[.int .i64 0, .int .i64 0, .int .i64 0, .int .i64 0, .int .i64 0, .int .i64 0, .int .i64 0, .int .i64 0, .int .i64 0, .int .i64 0, .int .i64 0, .int .i64 0, .int .i64 0, .int .i64 0, .int .i64 0, .int .i64 0, .int .i64 0, .int .i64 0, .int .i64 0, .int .i64 0, .slice none 0 0, .int .i64 0] 96)).setRow w1.heap.size (rc L (.slice E ne ce) o)).heap.size ((w1.alloc (.cells #[.int .i64 0, .int .i64 0, .int .i64 0, .int .i64 0, .int .i64 0, .int .i64 0, .int .i64 0, .int .i64 0, .int .i64 0, .int .i64 0, .int .i64 0, .int .i64 0, .int .i64 0, .int .i64 0, .int .i64 0, .int .i64 0, .int .i64 0, .int .i64 0, .int .i64 0, .int .i64 0, .slice none 0 0, .int .i64 0] 96)).setRow w1.heap.size (rc L (.slice E ne ce) o)) wr := by rw [hsN]; exact hbl
      have hEw := HON.out.next hbl'
      have hsl := hbl.size
      by_cases hie : i = ne
      · have eqT : decide (i < ne) = false := by simp; omega
        have hBw := hB1.next hbl'
        have hRw := hRN.next hbl'
        have hbe := hbf.trans (hbl.mono (by omega))
        go_wp2_with fail
        have l1 : dv.length = 4 := by have h := HLEN.out; rw [HRN.out] at h; exact h.1
        have l2 : dz.length = 8 := by have h := HLEN.out; rw [HRN.out] at h; exact h.2.1
        have hOW := HOW.out
        rw [List.take_of_length_le (by omega)] at hOW
        have hm2 : (evR cs ks).length = m2 := hOW.1
        have HST := Lib.hid (state_c L dv dz ds dp wr.drew HRP.out l1 l2)
        refine wp_region_held_drew (S := fun W' => BlkIs W' w1.heap.size 96 (rc L (.slice E ne ce) o)) (by kernel_rfl) hBw ?_
        intro hHeld
        refine wpAnyH_take (i := 0) (v := ?_) rfl (by kernel_rfl) (by kernel_rfl) (by kernel_rfl) (fun _ _ _ h => h) (Or.inl ⟨by kernel_rfl, ?_⟩) (by assumption) ?_
        rotate_left
        · intro w9 hS9; (try dsimp only at hS9); go_simp; (try with_reducible rfl)
        set_option linter.unusedSimpArgs false in try simp only [Act.put, List.getElem_toArray, List.getElem_cons_succ, List.getElem_cons_zero, List.setIfInBounds_toArray, List.set_cons_zero, List.set_cons_succ]
        refine wpAnyH_take (i := 1) (v := .agg (mc L)) rfl (by kernel_rfl) (by kernel_rfl) (by kernel_rfl) (fun _ _ _ h => h) (Or.inl ⟨by kernel_rfl, ?_⟩) (by assumption) ?_
        · intro w9 hS9
          exact exec_load 94 _ rfl (.pointer (some ⟨w1.heap.size, 0, none⟩)) _ rfl (run_loadAt_mid w9 w1.heap.size 0 94 (L.map ic) _ (rc_range hS9) Tryd.underlying94 rfl (by rw [List.length_map, hl20]; kernel_rfl))
        set_option linter.unusedSimpArgs false in try simp only [Act.put, List.getElem_toArray, List.getElem_cons_succ, List.getElem_cons_zero, List.setIfInBounds_toArray, List.set_cons_zero, List.set_cons_succ]
        refine wpAnyH_take (i := 3) (v := ?_) rfl (by kernel_rfl) (by kernel_rfl) (by kernel_rfl) (fun _ _ _ h => h) (Or.inl ⟨by kernel_rfl, ?_⟩) (by assumption) ?_
        rotate_left
        · intro w9 hS9; (try dsimp only at hS9); go_simp; (try with_reducible rfl)
        set_option linter.unusedSimpArgs false in try simp only [Act.put, List.getElem_toArray, List.getElem_cons_succ, List.getElem_cons_zero, List.setIfInBounds_toArray, List.set_cons_zero, List.set_cons_succ]
        refine wpAnyH_take (i := 4) (v := ?_) rfl (by kernel_rfl) (by kernel_rfl) (by kernel_rfl) (fun _ _ _ h => h) (Or.inl ⟨by kernel_rfl, ?_⟩) (by assumption) ?_
        rotate_left
        · intro w9 hS9; (try dsimp only at hS9); go_simp; (try with_reducible rfl)
        set_option linter.unusedSimpArgs false in try simp only [Act.put, List.getElem_toArray, List.getElem_cons_succ, List.getElem_cons_zero, List.setIfInBounds_toArray, List.set_cons_zero, List.set_cons_succ]
        refine wpAnyH_take (i := 5) (v := .int .i64 o) rfl (by kernel_rfl) (by kernel_rfl) (by kernel_rfl) (fun _ _ _ h => h) (Or.inl ⟨by kernel_rfl, ?_⟩) (by assumption) ?_
        · intro w9 hS9
          have c21 : w9.cell? ⟨w1.heap.size, 21, none⟩ = some (.int .i64 o) := (BlkIs.cell hS9 21).trans (rc_out hl20)
          exact exec_load 2 _ rfl (.pointer (some ⟨w1.heap.size, 21, none⟩)) _ rfl (load64 c21)
        set_option linter.unusedSimpArgs false in try simp only [Act.put, List.getElem_toArray, List.getElem_cons_succ, List.getElem_cons_zero, List.setIfInBounds_toArray, List.set_cons_zero, List.set_cons_succ]
        refine wpAnyH_ready (rs := [2]) (by kernel_rfl) (by simp) ?_
        refine AllReadyH.cons rfl (fun K hK => ?_) AllReadyH.nil
        go_simp
        go_wp2_with (go_at_call 61; refine HST.out.mono ?_; rintro e w2 ⟨X1, d1, X2, d2, mid, rfl, ow1, ow2, hmid, hb2⟩)
        have hb2' := bstep hb2
        have hB2 := hBw.next hb2'
        have hR2 := hRw.next hb2'
        have ow3 := hOW.next hb2'
        have z0 : w2.cell? ⟨w.heap.size + 1, 0, none⟩ = some (.slice none 0 0) := hR2.cell 0
        have z1 : w2.cell? ⟨w.heap.size + 1, 1, none⟩ = some (.slice none 0 0) := hR2.cell 1
        have f0 := hR2.frozen 0
        have f1 := hR2.frozen 1
        have hs2 := hb2'.size
        have hmid1 : wr.heap.size ≤ mid := hmid.1
        refine hK.out _ _ hB2 (fun hHeld2 => ?_)
        clear hK K hHeld
        set_option linter.unusedSimpArgs false in try simp only [Act.put, List.getElem_toArray, List.getElem_cons_succ, List.getElem_cons_zero, List.setIfInBounds_toArray, List.set_cons_zero, List.set_cons_succ]
        have hR4 := (hR2.set 0 (.slice X1 4 d1)).set 1 (.slice X2 8 d2)
        have ho4 : Out (w.heap.size + 1) (w.heap.size + 2) w2 ((w2.setCell ⟨w.heap.size + 1, 0, none⟩ (.slice X1 4 d1)).setCell ⟨w.heap.size + 1, 1, none⟩ (.slice X2 8 d2)) := out_set (out_set (Out.refl _ _ _) (by omega)) (by omega)
        have hB4 := hB2.out ho4 (by omega)
        have k0 : ((w2.setCell ⟨w.heap.size + 1, 0, none⟩ (.slice X1 4 d1)).setCell ⟨w.heap.size + 1, 1, none⟩ (.slice X2 8 d2)).cell? ⟨w.heap.size + 1, 0, none⟩ = some (.slice X1 4 d1) := by rw [hR4.cell 0]; simp
        have k1 : ((w2.setCell ⟨w.heap.size + 1, 0, none⟩ (.slice X1 4 d1)).setCell ⟨w.heap.size + 1, 1, none⟩ (.slice X2 8 d2)).cell? ⟨w.heap.size + 1, 1, none⟩ = some (.slice X2 8 d2) := by rw [hR4.cell 1]; simp
        have hs4 := ho4.size
        have HO1 := Lib.hid ((ow1.out ho4 (by left; show _ ≤ wr.heap.size; omega)).less (Nat.le_refl _))
        have HO2 := Lib.hid ((ow2.out ho4 (by left; omega)).wide hs4 (Nat.le_refl _))
        have HO3 := Lib.hid ((ow3.out ho4 (by left; omega)).less (lo' := w.heap.size) (by omega))
        have hbF := (hbe.trans (hb2'.mono (by omega))).trans (ho4.below (by omega) (by omega))
        refine wpAnyH_ready (rs := [6]) (by kernel_rfl) (by simp) ?_
        refine AllReadyH.cons rfl (fun K hK => ?_) AllReadyH.nil
        go_simp
        refine hK.out _ _ hB4 (fun hHeld4 => ?_)
        clear hK K hHeld2
        set_option linter.unusedSimpArgs false in try simp only [Act.put, List.getElem_toArray, List.getElem_cons_succ, List.getElem_cons_zero, List.setIfInBounds_toArray, List.set_cons_zero, List.set_cons_succ]
        refine wpAnyH_take (i := 7) (v := ?_) rfl (by kernel_rfl) (by kernel_rfl) (by kernel_rfl) (fun _ _ _ h => h) (Or.inl ⟨by kernel_rfl, ?_⟩) (by assumption) ?_
        rotate_left
        · intro w9 hS9; (try dsimp only at hS9); go_simp; (try with_reducible rfl)
        set_option linter.unusedSimpArgs false in try simp only [Act.put, List.getElem_toArray, List.getElem_cons_succ, List.getElem_cons_zero, List.setIfInBounds_toArray, List.set_cons_zero, List.set_cons_succ]
        refine wpAnyH_take (i := 8) (v := ?_) rfl (by kernel_rfl) (by kernel_rfl) (by kernel_rfl) (fun _ _ _ h => h) (Or.inl ⟨by kernel_rfl, ?_⟩) (by assumption) ?_
        rotate_left
        · intro w9 hS9; (try dsimp only at hS9); go_simp; (try with_reducible rfl)
        set_option linter.unusedSimpArgs false in try simp only [Act.put, List.getElem_toArray, List.getElem_cons_succ, List.getElem_cons_zero, List.setIfInBounds_toArray, List.set_cons_zero, List.set_cons_succ]
        refine wpAnyH_take (i := 9) (v := ?_) rfl (by kernel_rfl) (by kernel_rfl) (by kernel_rfl) (fun _ _ _ h => h) (Or.inl ⟨by kernel_rfl, ?_⟩) (by assumption) ?_
        rotate_left
        · intro w9 hS9; (try dsimp only at hS9); go_simp; (try with_reducible rfl)
        set_option linter.unusedSimpArgs false in try simp only [Act.put, List.getElem_toArray, List.getElem_cons_succ, List.getElem_cons_zero, List.setIfInBounds_toArray, List.set_cons_zero, List.set_cons_succ]
        refine wpAnyH_done (by kernel_rfl) ?_ _
        generalize ((w2.setCell ⟨w.heap.size + 1, 0, none⟩ (.slice X1 4 d1)).setCell ⟨w.heap.size + 1, 1, none⟩ (.slice X2 8 d2)) = W4 at k0 k1 HO1 HO2 HO3 hbF hs4 ⊢
        clear ow1 ow2 ow3 hR4 hR2 ho4 hHeld4 HST
        set_option linter.unusedSimpArgs false in try simp only [Act.put, List.getElem_toArray, List.getElem_cons_succ, List.getElem_cons_zero, List.setIfInBounds_toArray, List.set_cons_zero, List.set_cons_succ]
        go_wp2_with fail
        refine bodyPost_ret (v := .tuple #[.agg #[.slice X1 4 d1, .slice X2 8 d2], .slice X m2 cx, .int .i64 o, .bool true]) (by simp [results, Tryd.results27, go_sem, k0, k1]) rfl ?_
        rw [HN.out, HRN.out]
        exact ⟨X1, d1, X2, d2, X, cx, wr.heap.size, mid, by show Ending.returned _ = Ending.returned (.tuple #[.agg #[.slice X1 dv.length d1, .slice X2 dz.length d2], .slice X (evR cs ks).length cx, .int .i64 oo, .bool true]); rw [l1, l2, hm2, HO.out], by show OwnL _ _ _ X1 dv.length d1 dv; rw [l1]; exact HO1.out, by show OwnL _ _ _ X2 dz.length d2 dz; rw [l2]; exact HO2.out, by show OwnL _ _ _ X (evR cs ks).length cx (evR cs ks); rw [hm2]; exact HO3.out, ⟨by omega, hmid1, by have := hmid.2; omega⟩, hbF⟩
      · have eqT : decide (i < ne) = true := by simp; omega
        have hlt : i < ne := by omega
        have hlt1 : (i : Int) < (ne : Int) := by omega
        obtain ⟨b, rfl, hcb, hfb⟩ := hEw.at0 (by omega)
        have ci := hcb i hlt
        have hks : ks[i]? = some (ks.getD i 0) := some_getD (by omega)
        have hqb := HKB.out (ks.getD i 0) (mem_getD (by omega))
        obtain ⟨q, hq⟩ : ∃ q : Nat, ks.getD i 0 = (q : Int) := ⟨(ks.getD i 0).toNat, by omega⟩
        rw [hq] at ci hks hqb
        have hqk : q < k := by omega
        have hqk1 : (q : Int) < (k : Int) := by omega
        have hqk0 : (0 : Int) ≤ (q : Int) := by omega
        have wri : IntKind.i64.wrap ((i : Int) + 1) = (i : Int) + 1 := IntWalk.i64_in _ (by omega)
        have htk : ks.take (i + 1) = ks.take i ++ [(q : Int)] := by rw [List.take_add_one, hks]; rfl
        have hCW := (HCN.out.next hbl (by omega)).at_ hqk
        obtain ⟨bb, off, tt, rfl, hcl, ht, x0, x1⟩ := hCW
        obtain ⟨op, a⟩ := tt
        have hx' : cs[((q : Nat) : Int).toNat]? = some (op, a) := by simpa using ht
        have hev := evR_len cs (ks.take i)
        rw [List.length_take] at hev
        have hm2 : (evR cs (ks.take i)).length = m2 := HOW.out.1
        by_cases h9 : op = 9
        · have e9 : (op == 9) = true := by simp [h9]
          have hevr : evR cs (ks.take (i + 1)) = evR cs (ks.take i) ++ [a] := by rw [htk]; exact evR_yes hx' h9
          have hbal := bnew wr (.cells #[.int .i64 a] 2)
          have hsal : (wr.alloc (.cells #[.int .i64 a] 2)).heap.size = wr.heap.size + 1 := by simp
          have s4 := (HOW.out.next hbal).2.1
          have hhi := HOW.out.2.2.1
          have HARM : Hid (∀ g2 c2 w6, w6.ownsRow (w1.heap.size + 1) 2 1 (.slice (some ⟨g2, 0, none⟩) (m2 + 1) c2) (m2 + 1) ((evR cs (ks.take i)).map ic ++ [.int .i64 a]) → (wr.alloc (.cells #[.int .i64 a] 2)).grownBy w6 (Value.slice X m2 cx).ownBlock → OwnL w6 (w1.heap.size + 1) w6.heap.size (some ⟨g2, 0, none⟩) (m2 + 1) c2 (evR cs (ks.take (i + 1))) ∧ Below (w1.heap.size + 1) ((w1.alloc (.cells #[.int .i64 0, .int .i64 0, .int .i64 0, .int .i64 0, .int .i64 0, .int .i64 0, .int .i64 0, .int .i64 0, .int .i64 0, .int .i64 0, .int .i64 0, .int .i64 0, .int .i64 0, .int .i64 0, .int .i64 0, .int .i64 0, .int .i64 0, .int .i64 0, .int .i64 0, .int .i64 0, .slice none 0 0, .int .i64 0] 96)).setRow w1.heap.size (rc L (.slice (some ⟨b, 0, none⟩) ne ce) o)) w6) := by
            intro g2 c2 w6 hown hgrow
            have hr := own_cons hown
            rw [← hevr] at hr
            have hog : Out (w1.heap.size + 1) wr.heap.size (wr.alloc (.cells #[.int .i64 a] 2)) w6 := Out.of_grown hgrow (fun k hk => ⟨(s4.lt k hk).1, hhi k hk⟩)
            exact ⟨hr, (hbl.trans (hbal.mono (by omega))).trans (hog.below (Nat.le_refl _) (by omega))⟩
          clear hEw hcb hfb hks htk hhi hbl'
          go_wp2_with (first
            | (at_builtin; refine wpList_append_sep rfl _ _ 24 rfl (w1.heap.size + 1) 2 i0 (.int .i64 0) 1 8 Tryd.underlying24 hif hz0 hz1 hz2 rfl (by decide) _ m2 ((evR cs (ks.take i)).map ic) rfl s4 ⟨wr.heap.size, 0, none⟩ 1 1 [.int .i64 a] rfl rfl (cell_one_at _ _ _ _ rfl) (fun u hu => by simp at hu; subst hu; rfl) (by unfold maxLen; omega) (by omega) (by omega) (by decide) ?_; intro g2 c2 w6 hown hgrow hsep; obtain ⟨d1, d2⟩ := HARM.out g2 c2 w6 hown hgrow; have HD1 := Lib.hid d1; clear hown hgrow hsep d1)
            | fail)
          go_roundw
          case rel => exact ⟨i + 1, some ⟨g2, 0, none⟩, m2 + 1, c2, by go_num, by omega, rfl, HD1, d2⟩
          case measure => simp [intOf]; omega
        · have e9 : (op == 9) = false := by simp [h9]
          have hevr : evR cs (ks.take (i + 1)) = evR cs (ks.take i) := by rw [htk]; exact evR_no hx' h9
          have HD1 : Hid (OwnL wr (w1.heap.size + 1) wr.heap.size X m2 cx (evR cs (ks.take (i + 1)))) := by have h := HOW.out; rw [← hevr] at h; exact h
          clear hEw hcb hfb hks htk hbl'
          go_wp2_with fail
          go_roundw
          case rel => exact ⟨i + 1, X, m2, cx, by go_num, by omega, rfl, HD1, hbl⟩
          case measure => simp [intOf]; omega
end Go.Proofs.YtffkdidgfeknkaaDoor
