/-
  For all bytes, of the policies and the word that are drawn from them: the difference is a word that one of both allows alone, there is none if both allow as much, and both together allow as much as the one that allows less.
  Conditions: none but those that the statement itself bears.
-/
import Derived.Test.YtpdgnmdjneakgaaRows
import Derived.WalkKit
import Derived.ProofKit
import Derived.OpenShut
import Derived.ShutString
import Derived.ChangeOld
import Derived.Below
import Derived.Test.YtpdgnmdjneakgaaBase
import Derived.Test.YtpdgnmdjneakgaaDrwA
import Derived.Test.YtpdgnmdjneakgaaDifA
import Derived.Test.YtpdgnmdjneakgaaDiffA
namespace Go.Proofs.Ytpdgnmdjneakgaa.fnDifference
open Go.ChangeShapes Go.WideShapes Go.ChangeAt Go.RowKit
open Go.ChangeMaps (open_string shut_string)
set_option linter.unusedVariables false

theorem own : ownKnob Try.prog.godebug = none := by kernel_rfl
theorem laidOut : laidOutB Try.prog = true := by kernel_rfl

/-- WHAT THE WALK IS TOLD OF A SLICE OF INTEGERS THAT CAME IN: it is nil; or it leads to a row of 'cap' cells, the numbers 'zs' (the first 'len' are its elements, the rest its spare room), each fitting its kind. -/
def IsRow (k : IntKind) (w : World) (a : Option Addr) (len cap : Nat) (zs : List Int) : Prop :=
  (a = none ∧ len = 0 ∧ cap = 0 ∧ zs = []) ∨
  ∃ x, a = some x ∧ len ≤ cap ∧ cap ≤ maxLen ∧ zs.length = cap ∧ (∀ i, i < zs.length → w.cell? (x.add i) = some (.int k (zs.getD i 0))) ∧ ∀ n ∈ zs, (Lit.int k n).wf = true

theorem IsRow.row {k : IntKind} {w : World} {a : Option Addr} {len cap : Nat} {zs : List Int} (h : IsRow k w a len cap zs) :
    Row w w.heap.size a ((zs.take len).map (Value.int k)) ∧ (zs.take len).length = len ∧ ∀ n ∈ zs.take len, (Lit.int k n).wf = true := by
  rcases h with ⟨rfl, rfl, rfl, rfl⟩ | ⟨x, rfl, hl, _, hz, hcell, hwz⟩
  · exact ⟨Row.nil, rfl, fun n hn => by simp at hn⟩
  · have hlen : (zs.take len).length = len := by rw [List.length_take]; omega
    refine ⟨fun j hj => ?_, hlen, fun n hn => hwz n (List.mem_of_mem_take hn)⟩
    rw [List.length_map, hlen] at hj
    have hc := hcell j (by omega)
    obtain ⟨b, off, spot⟩ := x
    have hspot : spot = none := by simpa [Addr.add] using World.cell?_spot (hcell 0 (by omega))
    subst hspot
    have ha : (⟨b, off, none⟩ : Addr).add j = ⟨b, off + j, none⟩ := by unfold Addr.add; split <;> simp_all
    rw [ha] at hc
    refine ⟨b, off, rfl, cell_lt hc, ?_⟩
    rw [hc, List.getElem?_map, List.getElem?_take, if_pos (by omega), List.getElem?_eq_getElem (by omega)]
    simp [List.getD, List.getElem?_eq_getElem (show j < zs.length by omega)]

set_option maxRecDepth 100000 in
set_option maxHeartbeats 4000000 in
theorem walk (a0 : Option Addr) (len0 cap0 : Nat) (z0 : List Int) (a1 : Option Addr) (len1 cap1 : Nat) (z1 : List Int) (w : World) (w0 : IsRow .u8 w a0 len0 cap0 z0) (w1 : IsRow .u8 w a1 len1 cap1 z1) :
    Calls Try.prog 3 #[.slice a0 len0 cap0, .slice a1 len1 cap1] w fun e w' => e = .returned (.bool true) ∧ Below w.heap.size w w' := by
  obtain ⟨hrow0, hlen0, hwf0⟩ := w0.row
  obtain ⟨hrow1, hlen1, hwf1⟩ := w1.row
  obtain ⟨bs0, hbs0, hb0⟩ := bytes_of hwf0
  obtain ⟨bs1, hbs1, hb1⟩ := bytes_of hwf1
  rw [hbs0] at hrow0 hlen0
  rw [hbs1] at hrow1 hlen1
  rw [List.map_map] at hrow0 hrow1
  rw [List.length_map] at hlen0 hlen1
  change Row w w.heap.size a0 (bs0.map bc) at hrow0
  change Row w w.heap.size a1 (bs1.map bc) at hrow1
  clear hbs0 hbs1 w0 w1 hwf0 hwf1
  by_cases hl0 : (1048576 : Int) < len0
  · go_enter Try.func3, Try.ntmps3
    go_wp2
    go_ret
    exact ⟨rfl, Below.refl _ _⟩
  by_cases hl1 : (1048576 : Int) < len1
  · go_enter Try.func3, Try.ntmps3
    go_wp2
    go_ret
    exact ⟨rfl, Below.refl _ _⟩
  have HR0 := Lib.hid hrow0
  have HR1 := Lib.hid hrow1
  have HB0 := Lib.hid hb0
  have HB1 := Lib.hid hb1
  clear hrow0 hrow1 hb0 hb1
  go_enter Try.func3, Try.ntmps3
  go_wp2_with (first | (go_at_call 4; go_in))
  refine (B10Policies_c a0 len0 cap0 bs0 w HR0.out hlen0 HB0.out (by omega)).mono ?_
  rintro e v1 ⟨A1, n1, c1, xs, A2, n2, c2, ys, rfl, hp, hvx, hq, hvy, hb1⟩
  have okx := polOk_of hvx
  have oky := polOk_of hvy
  have hn1 : n1 ≤ 12 := by rw [← hp.1]; exact okx.hi
  have hn2 : n2 ≤ 12 := by rw [← hq.1]; exact oky.hi
  have hba := bnew v1 (.cells #[.slice A1 n1 c1] 26)
  have hbc := bnew (v1.alloc (.cells #[.slice A1 n1 c1] 26)) (.cells #[.slice A2 n2 c2] 26)
  have hbac := bon hba hbc
  have d5 : ((v1.alloc (.cells #[.slice A1 n1 c1] 26)).alloc (.cells #[.slice A2 n2 c2] 26)).cell? ⟨v1.heap.size, 0, none⟩ = some (.slice A1 n1 c1) := cell_next (by simp) hbc
  have d6 : ((v1.alloc (.cells #[.slice A1 n1 c1] 26)).alloc (.cells #[.slice A2 n2 c2] 26)).cell? ⟨v1.heap.size + 1, 0, none⟩ = some (.slice A2 n2 c2) := by have := (blk_new (v1.alloc (.cells #[.slice A1 n1 c1] 26)) 26 #[.slice A2 n2 c2] (v1.heap.size + 1) (by simp)).cell 0; exact this
  have HP := Lib.hid (hp.next hbac (Nat.le_refl _))
  have HQ := Lib.hid (hq.next hbac (Nat.le_refl _))
  have hB := hbac.size
  have hb2 := bon hb1 hbac
  have HVX := Lib.hid hvx
  have HVY := Lib.hid hvy
  have HEX : Hid (∀ x ∈ xs, x.length ≤ 1048576) := fun x hx => by have := okx.len x hx; omega
  have HEY : Hid (∀ x ∈ ys, x.length ≤ 1048576) := fun x hx => by have := oky.len x hx; omega
  have HR2 := Lib.hid ((HR1.out.below hb2 (Nat.le_refl _)).more hb2.size)
  clear hp hq hvx hvy okx oky hba hbc hbac HR1 HR0
  go_wp2_with fail
  obtain ⟨b5, hb5⟩ : ∃ b5, v1.heap.size = b5 := ⟨_, rfl⟩
  generalize (v1.alloc (.cells #[.slice A1 n1 c1] 26)).alloc (.cells #[.slice A2 n2 c2] 26) = V1 at d5 d6 HP HQ hB hb2 HR2 ⊢
  rw [hb5] at d5 d6 HP HQ hB ⊢
  clear hb5 hb1
  refine (B10Word_c a1 len1 cap1 bs1 V1 HR2.out hlen1 HB1.out (by omega)).mono ?_
  rintro e v2 ⟨E, ce, zs, rfl, hw, hz8, hE, hb3⟩
  have HW := Lib.hid hw
  have hn3 : zs.length ≤ 1048576 := by omega
  have hB2 := hb3.size
  have e5 := cell_next d5 hb3
  have e6 := cell_next d6 hb3
  have HBX := Lib.hid (fun W (h : Below V1.heap.size V1 W) => And.intro (HP.out.next h hB) (And.intro (HQ.out.next h hB) (Nat.le_trans hB h.size)))
  obtain ⟨zn, hzn⟩ : ∃ zn, zs.length = zn := ⟨_, rfl⟩
  rw [hzn] at hE hn3 hz8 ⊢
  have HEE := Lib.hid hE
  have hbw2 := bon hb2 hb3
  clear hw hE HR2 d5 d6 hzn
  have HC2 := Lib.hid (implDiff_c A1 n1 c1 A2 n2 c2 b5 xs ys v2 (HBX.out v2 hb3).1 (HBX.out v2 hb3).2.1 (HBX.out v2 hb3).2.2 (by omega) (by omega) HEX.out HEY.out)
  go_wp2_with fail
  refine HC2.out.mono ?_
  rintro e v3 ⟨Ad, cd, rfl, hod, hb4⟩
  have hdl := diffR_len xs ys
  have HYES := Lib.hid (fun h => diff_yes HVX.out HVY.out (xs := xs) (ys := ys) h)
  have HNO := Lib.hid (fun h => diff_no HVX.out HVY.out (xs := xs) (ys := ys) h HW.out)
  have HBY := Lib.hid (fun h => both_yes HVX.out HVY.out (xs := xs) (ys := ys) h)
  have hbs := bothR_small xs ys
  have HOD := Lib.hid hod
  generalize diffR xs ys = D at hdl HYES HNO HOD ⊢
  obtain ⟨dz, one⟩ := D
  dsimp only at hdl HYES HNO HOD ⊢
  obtain ⟨dn, hdn⟩ : ∃ dn, dz.length = dn := ⟨_, rfl⟩
  rw [hdn] at hdl HYES HOD ⊢
  have HDN := Lib.hid hdn
  have hb34 := bon hb3 hb4
  have f5 := cell_next e5 hb4
  have f6 := cell_next e6 hb4
  have HE3 := Lib.hid (HEE.out.next hb4 (Nat.le_refl _))
  have hbw3 := bon hbw2 hb4
  clear hod hdn e5 e6 HC2
  have hr1 := fun W (h : Below v3.heap.size v3 W) => implRunP_c A1 n1 c1 v3.heap.size xs E zn ce zs W (((HBX.out v3 hb34).1.more (HBX.out v3 hb34).2.2).next h (Nat.le_refl _)) ((HE3.out.more hb4.size).next h (Nat.le_refl _)) h.size (by omega) HEX.out hn3
  have hr2 := fun W (h : Below v3.heap.size v3 W) => implRunP_c A2 n2 c2 v3.heap.size ys E zn ce zs W (((HBX.out v3 hb34).2.1.more (HBX.out v3 hb34).2.2).next h (Nat.le_refl _)) ((HE3.out.more hb4.size).next h (Nat.le_refl _)) h.size (by omega) HEY.out hn3
  rw [runPR_is HVX.out HW.out] at hr1
  rw [runPR_is HVY.out HW.out] at hr2
  have HR1 := Lib.hid hr1
  have HR2 := Lib.hid hr2
  clear hr1 hr2
  obtain ⟨nx, hnx⟩ : ∃ nx, (runL xs 0 zs).1 = nx := ⟨_, rfl⟩
  obtain ⟨ny, hny⟩ : ∃ ny, (runL ys 0 zs).1 = ny := ⟨_, rfl⟩
  rw [hnx] at HR1 HNO
  rw [hny] at HR2 HNO
  generalize (runL xs 0 zs).2 = sx at HR1
  generalize (runL ys 0 zs).2 = sy at HR2
  have HNX := Lib.hid hnx
  have HNY := Lib.hid hny
  clear hnx hny
  have hB3 := hb34.size
  go_wp2_with fail
  refine (HR1.out v3 (Below.refl _ _)).mono ?_
  rintro e v4 ⟨rfl, hb5⟩
  have f5 := cell_next f5 hb5
  have f6 := cell_next f6 hb5
  go_wp2_with fail
  refine (HR2.out v4 hb5).mono ?_
  rintro e v5 ⟨rfl, hb6⟩
  have hb56 := bon hb5 hb6
  have f5 := cell_next f5 hb6
  have f6 := cell_next f6 hb6
  have hb36 := bon hb34 hb56
  have hbo := implBoth_c A1 n1 c1 A2 n2 c2 b5 xs ys v5 (HBX.out v5 hb36).1 (HBX.out v5 hb36).2.1 (HBX.out v5 hb36).2.2 (by omega) (by omega) HEX.out HEY.out
  have HBO := Lib.hid hbo
  clear hbo HR1 HR2
  go_wp2_with fail
  refine HBO.out.mono ?_
  rintro e v6 ⟨Ab, cb, rfl, ⟨rsb, hpb⟩, hb7⟩
  have hSP0 := fun W (h : Below V1.heap.size V1 W) (q5 : W.cell? ⟨b5, 0, none⟩ = some (.slice A1 n1 c1)) => specBoth_c A1 n1 c1 A2 n2 c2 b5 xs ys W (HBX.out W h).1 (HBX.out W h).2.1 (HBX.out W h).2.2 (by omega) (by omega)
  have HSP := Lib.hid hSP0
  have HPB := Lib.hid hpb
  clear hSP0 hpb HBO
  generalize bothR xs ys = Bo at HBY hbs HSP HPB ⊢
  obtain ⟨bz, four⟩ := Bo
  dsimp only at HBY hbs HSP HPB ⊢
  obtain ⟨bn, hbn⟩ : ∃ bn, bz.length = bn := ⟨_, rfl⟩
  rw [hbn] at hbs HSP ⊢
  have HBN := Lib.hid hbn
  have f5 := cell_next f5 hb7
  have f6 := cell_next f6 hb7
  have hb37 := bon hb36 hb7
  have hal := bnew v6 (.cells #[.slice Ab bn cb] 26)
  have f5 := cell_next f5 hal
  have f6 := cell_next f6 hal
  have f7 : (v6.alloc (.cells #[.slice Ab bn cb] 26)).cell? ⟨v6.heap.size, 0, none⟩ = some (.slice Ab bn cb) := (blk_new v6 26 #[.slice Ab bn cb] v6.heap.size rfl).cell 0
  have hb38 := bon hb37 hal
  have HPB2 : Hid (InLL (v6.alloc (.cells #[.slice Ab bn cb] 26)) v6.heap.size Ab bn bz) := by
    have := HPB.out.inn
    rw [HBN.out] at this
    exact this.next hal (Nat.le_refl _)
  have HOD2 := Lib.hid ((HOD.out.inn).next (bon (bon hb56 hb7) hal) (Nat.le_refl _))
  have HE8 := Lib.hid (HE3.out.next (bon (bon hb56 hb7) hal) hb4.size)
  have hbw8 := bon (bon (bon hbw3 hb56) hb7) hal
  clear hbn HPB
  have hsp8 := HSP.out _ hb38 f5
  have HBX8 := HBX.out _ hb38
  have hBv8 := hal.size
  have hv23 := hb4.size
  have hv38 : v3.heap.size ≤ v6.heap.size := (bon hb56 hb7).size
  go_upto_region 9 with fail
  obtain ⟨b7, hb7e⟩ : ∃ b7, v6.heap.size = b7 := ⟨_, rfl⟩
  generalize v6.alloc (.cells #[.slice Ab bn cb] 26) = V8 at f5 f6 f7 hb38 HPB2 HOD2 HE8 hbw8 hsp8 HBX8 hBv8 ⊢
  rw [hb7e] at f7 HPB2 hBv8 hv38 ⊢
  have HX8 := Lib.hid HBX8
  have hz2 : zn ≤ 1048576 := by omega
  have HRD1 := Lib.hid (fun W (h : Below V8.heap.size V8 W) => implRunP_c A1 n1 c1 V8.heap.size xs Ad dn cd dz W ((HX8.out.1.more HX8.out.2.2).next h (Nat.le_refl _)) ((HOD2.out.more (by omega)).next h (Nat.le_refl _)) h.size (by omega) HEX.out (by omega))
  have HRD2 := Lib.hid (fun W (h : Below V8.heap.size V8 W) => implRunP_c A2 n2 c2 V8.heap.size ys Ad dn cd dz W ((HX8.out.2.1.more HX8.out.2.2).next h (Nat.le_refl _)) ((HOD2.out.more (by omega)).next h (Nat.le_refl _)) h.size (by omega) HEY.out (by omega))
  have HS12 := Lib.hid (fun W (h : Below V8.heap.size V8 W) => implStr_c A1 n1 c1 A2 n2 c2 V8.heap.size xs ys W ((HX8.out.1.more HX8.out.2.2).next h (Nat.le_refl _)) ((HX8.out.2.1.more HX8.out.2.2).next h (Nat.le_refl _)) h.size (by omega) (by omega) HEX.out HEY.out)
  have HS21 := Lib.hid (fun W (h : Below V8.heap.size V8 W) => implStr_c A2 n2 c2 A1 n1 c1 V8.heap.size ys xs W ((HX8.out.2.1.more HX8.out.2.2).next h (Nat.le_refl _)) ((HX8.out.1.more HX8.out.2.2).next h (Nat.le_refl _)) h.size (by omega) (by omega) HEY.out HEX.out)
  have HSPW := Lib.hid (fun W (h : Below V8.heap.size V8 W) (q5 : W.cell? ⟨b5, 0, none⟩ = some (.slice A1 n1 c1)) => HSP.out W (bon hb38 h) q5)
  clear hsp8 HBX8 HOD2 HBX
  cases one with
  | false =>
    have hnn := HNO.out rfl
    subst hnn
    have r0 : ((nx : Int) == (nx : Int)) = true := beq_iff_eq.2 rfl
    clear HNO HYES HRD1 HRD2 HS12 HS21
    cases four with
    | false =>
      have q5 := cell_next f5 (Below.refl V8.heap.size V8)
      have q6 := cell_next f6 (Below.refl V8.heap.size V8)
      have HSQ := Lib.hid (HSPW.out V8 (Below.refl V8.heap.size V8) q5)
      go_wp2_with fail
      refine HSQ.out.mono ?_
      rintro e w9 ⟨As, cs, rfl, _, hb9⟩
      go_wp2_with fail
      go_ret
      exact ⟨rfl, (bon (bon hbw8 (Below.refl V8.heap.size V8)) hb9).trans (bnew _ _ |>.mono (by have := (bon (bon hbw8 (Below.refl V8.heap.size V8)) hb9).size; omega))⟩
    | true =>
      obtain ⟨hpbz, hmin, hsa, hsb⟩ := HBY.out rfl
      have hm := hmin zs HW.out
      rw [HNX.out, HNY.out] at hm
      have q5 := cell_next f5 (Below.refl V8.heap.size V8)
      have q6 := cell_next f6 (Below.refl V8.heap.size V8)
      have q7 := cell_next f7 (Below.refl V8.heap.size V8)
      have HEB : Hid (∀ x ∈ bz, x.length ≤ 1048576) := fun x hx => by have := (polOk_of hpbz).len x hx; omega
      have hrb := implRunP_c Ab bn cb V8.heap.size bz E zn ce zs V8 ((HPB2.out.more (by omega)).next (Below.refl V8.heap.size V8) (Nat.le_refl _)) ((HE8.out.more (by omega)).next (Below.refl V8.heap.size V8) (Nat.le_refl _)) (Below.refl V8.heap.size V8).size (by omega) HEB.out hz2
      rw [runPR_is hpbz HW.out] at hrb
      generalize (runL bz 0 zs).1 = kb at hrb hm
      generalize (runL bz 0 zs).2 = sb at hrb
      have HRB := Lib.hid hrb
      have hs3 := fun W9 (h : Below V8.heap.size V8 W9) => implStr_c Ab bn cb A1 n1 c1 V8.heap.size bz xs W9 ((HPB2.out.more (by omega)).next (bon (Below.refl V8.heap.size V8) h) (Nat.le_refl _)) ((HX8.out.1.more HX8.out.2.2).next (bon (Below.refl V8.heap.size V8) h) (Nat.le_refl _)) (bon (Below.refl V8.heap.size V8) h).size (by omega) (by omega) HEB.out HEX.out
      have hs4 := fun W9 (h : Below V8.heap.size V8 W9) => implStr_c Ab bn cb A2 n2 c2 V8.heap.size bz ys W9 ((HPB2.out.more (by omega)).next (bon (Below.refl V8.heap.size V8) h) (Nat.le_refl _)) ((HX8.out.2.1.more HX8.out.2.2).next (bon (Below.refl V8.heap.size V8) h) (Nat.le_refl _)) (bon (Below.refl V8.heap.size V8) h).size (by omega) (by omega) HEB.out HEY.out
      rw [hsa] at hs3
      rw [hsb] at hs4
      have HS3 := Lib.hid hs3
      have HS4 := Lib.hid hs4
      clear hrb hs3 hs4 hmin hsa hsb hpbz
      obtain rfl : kb = nx := by omega
      have i9 : ¬ (kb : Int) < (kb : Int) := by omega
      have r9 : ((kb : Int) == (kb : Int)) = true := beq_iff_eq.2 rfl
      clear hm
      go_wp2_with fail
      refine HRB.out.mono ?_
      rintro e w11 ⟨rfl, hb11⟩
      have q5 := cell_next q5 hb11
      have q6 := cell_next q6 hb11
      have q7 := cell_next q7 hb11
      go_wp2_with fail
      refine (HS3.out w11 hb11).mono ?_
      rintro e w12 ⟨rfl, hb12⟩
      have q6 := cell_next q6 hb12
      have q7 := cell_next q7 hb12
      go_wp2_with fail
      refine (HS4.out w12 (bon hb11 hb12)).mono ?_
      rintro e w13 ⟨rfl, hb13⟩
      go_wp2_with fail
      go_ret
      exact ⟨rfl, bon (bon (bon (bon hbw8 (Below.refl V8.heap.size V8)) hb11) hb12) hb13⟩
  | true =>
    obtain ⟨hwd, hiff, hns⟩ := HYES.out rfl
    have hd1 := HRD1.out
    have hd2 := HRD2.out
    rw [runPR_is HVX.out hwd] at hd1
    rw [runPR_is HVY.out hwd] at hd2
    generalize (runL xs 0 dz).1 = px at hd1 hiff
    generalize (runL ys 0 dz).1 = py at hd2 hiff
    generalize (runL xs 0 dz).2 = tx at hd1
    generalize (runL ys 0 dz).2 = ty at hd2
    have HD1 := Lib.hid hd1
    have HD2 := Lib.hid hd2
    have HNS := Lib.hid hns
    clear hd1 hd2 HRD1 HRD2 HYES HNO hwd hns
    by_cases hpx : px = dn
    · have hpy : ¬ py = dn := hiff.1 hpx
      subst hpx
      have r1 : ((px : Int) == (px : Int)) = true := beq_iff_eq.2 rfl
      have r2 : ((py : Int) == (px : Int)) = false := by rw [beq_eq_false_iff_ne]; omega
      clear hiff
      cases hs : strR xs ys with
      | false =>
        have h12 := HS12.out
        rw [hs] at h12
        have H12 := Lib.hid h12
        clear h12 hs HS12 HS21 HNS
        go_wp2_with fail
        refine (HD1.out V8 (Below.refl _ _)).mono ?_
        rintro e w9 ⟨rfl, hb9⟩
        have g5 := cell_next f5 hb9
        have g6 := cell_next f6 hb9
        go_wp2_with fail
        refine (HD2.out w9 hb9).mono ?_
        rintro e w10 ⟨rfl, hb10⟩
        have g5 := cell_next g5 hb10
        have g6 := cell_next g6 hb10
        have hbA := bon hb9 hb10
        go_wp2_with fail
        refine (H12.out w10 hbA).mono ?_
        rintro e w14 ⟨rfl, hb14⟩
        have g5 := cell_next g5 hb14
        have g6 := cell_next g6 hb14
        have hbB := bon hbA hb14
        cases four with
        | false =>
          have q5 := cell_next f5 hbB
          have q6 := cell_next f6 hbB
          have HSQ := Lib.hid (HSPW.out w14 hbB q5)
          go_wp2_with fail
          refine HSQ.out.mono ?_
          rintro e w9 ⟨As, cs, rfl, _, hb9⟩
          go_wp2_with fail
          go_ret
          exact ⟨rfl, (bon (bon hbw8 hbB) hb9).trans (bnew _ _ |>.mono (by have := (bon (bon hbw8 hbB) hb9).size; omega))⟩
        | true =>
          obtain ⟨hpbz, hmin, hsa, hsb⟩ := HBY.out rfl
          have hm := hmin zs HW.out
          rw [HNX.out, HNY.out] at hm
          have q5 := cell_next f5 hbB
          have q6 := cell_next f6 hbB
          have q7 := cell_next f7 hbB
          have HEB : Hid (∀ x ∈ bz, x.length ≤ 1048576) := fun x hx => by have := (polOk_of hpbz).len x hx; omega
          have hrb := implRunP_c Ab bn cb V8.heap.size bz E zn ce zs w14 ((HPB2.out.more (by omega)).next hbB (Nat.le_refl _)) ((HE8.out.more (by omega)).next hbB (Nat.le_refl _)) hbB.size (by omega) HEB.out hz2
          rw [runPR_is hpbz HW.out] at hrb
          generalize (runL bz 0 zs).1 = kb at hrb hm
          generalize (runL bz 0 zs).2 = sb at hrb
          have HRB := Lib.hid hrb
          have hs3 := fun W9 (h : Below w14.heap.size w14 W9) => implStr_c Ab bn cb A1 n1 c1 V8.heap.size bz xs W9 ((HPB2.out.more (by omega)).next (bon hbB h) (Nat.le_refl _)) ((HX8.out.1.more HX8.out.2.2).next (bon hbB h) (Nat.le_refl _)) (bon hbB h).size (by omega) (by omega) HEB.out HEX.out
          have hs4 := fun W9 (h : Below w14.heap.size w14 W9) => implStr_c Ab bn cb A2 n2 c2 V8.heap.size bz ys W9 ((HPB2.out.more (by omega)).next (bon hbB h) (Nat.le_refl _)) ((HX8.out.2.1.more HX8.out.2.2).next (bon hbB h) (Nat.le_refl _)) (bon hbB h).size (by omega) (by omega) HEB.out HEY.out
          rw [hsa] at hs3
          rw [hsb] at hs4
          have HS3 := Lib.hid hs3
          have HS4 := Lib.hid hs4
          clear hrb hs3 hs4 hmin hsa hsb hpbz
          by_cases hyx : ny < nx
          · obtain rfl : kb = ny := by omega
            have i9 : (kb : Int) < (nx : Int) := by omega
            have r9 : ((kb : Int) == (kb : Int)) = true := beq_iff_eq.2 rfl
            clear hm
            go_wp2_with fail
            refine HRB.out.mono ?_
            rintro e w11 ⟨rfl, hb11⟩
            have q5 := cell_next q5 hb11
            have q6 := cell_next q6 hb11
            have q7 := cell_next q7 hb11
            go_wp2_with fail
            refine (HS3.out w11 hb11).mono ?_
            rintro e w12 ⟨rfl, hb12⟩
            have q6 := cell_next q6 hb12
            have q7 := cell_next q7 hb12
            go_wp2_with fail
            refine (HS4.out w12 (bon hb11 hb12)).mono ?_
            rintro e w13 ⟨rfl, hb13⟩
            go_wp2_with fail
            go_ret
            exact ⟨rfl, bon (bon (bon (bon hbw8 hbB) hb11) hb12) hb13⟩
          · obtain rfl : kb = nx := by omega
            have i9 : ¬ (ny : Int) < (kb : Int) := by omega
            have r9 : ((kb : Int) == (kb : Int)) = true := beq_iff_eq.2 rfl
            clear hm
            go_wp2_with fail
            refine HRB.out.mono ?_
            rintro e w11 ⟨rfl, hb11⟩
            have q5 := cell_next q5 hb11
            have q6 := cell_next q6 hb11
            have q7 := cell_next q7 hb11
            go_wp2_with fail
            refine (HS3.out w11 hb11).mono ?_
            rintro e w12 ⟨rfl, hb12⟩
            have q6 := cell_next q6 hb12
            have q7 := cell_next q7 hb12
            go_wp2_with fail
            refine (HS4.out w12 (bon hb11 hb12)).mono ?_
            rintro e w13 ⟨rfl, hb13⟩
            go_wp2_with fail
            go_ret
            exact ⟨rfl, bon (bon (bon (bon hbw8 hbB) hb11) hb12) hb13⟩
      | true =>
        have h12 := HS12.out
        rw [hs] at h12
        have H12 := Lib.hid h12
        have hs2 : strR ys xs = false := by cases h : strR ys xs with | false => rfl | true => exact absurd ⟨hs, h⟩ HNS.out
        have h21 := HS21.out
        rw [hs2] at h21
        have H21 := Lib.hid h21
        clear h21 hs2
        clear h12 hs HS12 HS21 HNS
        go_wp2_with fail
        refine (HD1.out V8 (Below.refl _ _)).mono ?_
        rintro e w9 ⟨rfl, hb9⟩
        have g5 := cell_next f5 hb9
        have g6 := cell_next f6 hb9
        go_wp2_with fail
        refine (HD2.out w9 hb9).mono ?_
        rintro e w10 ⟨rfl, hb10⟩
        have g5 := cell_next g5 hb10
        have g6 := cell_next g6 hb10
        have hbA := bon hb9 hb10
        go_wp2_with fail
        refine (H12.out w10 hbA).mono ?_
        rintro e w14 ⟨rfl, hb14⟩
        have g5 := cell_next g5 hb14
        have g6 := cell_next g6 hb14
        have hbB := bon hbA hb14
        go_wp2_with fail
        refine (H21.out w14 hbB).mono ?_
        rintro e w15 ⟨rfl, hb15⟩
        have hbC := bon hbB hb15
        cases four with
        | false =>
          have q5 := cell_next f5 hbC
          have q6 := cell_next f6 hbC
          have HSQ := Lib.hid (HSPW.out w15 hbC q5)
          go_wp2_with fail
          refine HSQ.out.mono ?_
          rintro e w9 ⟨As, cs, rfl, _, hb9⟩
          go_wp2_with fail
          go_ret
          exact ⟨rfl, (bon (bon hbw8 hbC) hb9).trans (bnew _ _ |>.mono (by have := (bon (bon hbw8 hbC) hb9).size; omega))⟩
        | true =>
          obtain ⟨hpbz, hmin, hsa, hsb⟩ := HBY.out rfl
          have hm := hmin zs HW.out
          rw [HNX.out, HNY.out] at hm
          have q5 := cell_next f5 hbC
          have q6 := cell_next f6 hbC
          have q7 := cell_next f7 hbC
          have HEB : Hid (∀ x ∈ bz, x.length ≤ 1048576) := fun x hx => by have := (polOk_of hpbz).len x hx; omega
          have hrb := implRunP_c Ab bn cb V8.heap.size bz E zn ce zs w15 ((HPB2.out.more (by omega)).next hbC (Nat.le_refl _)) ((HE8.out.more (by omega)).next hbC (Nat.le_refl _)) hbC.size (by omega) HEB.out hz2
          rw [runPR_is hpbz HW.out] at hrb
          generalize (runL bz 0 zs).1 = kb at hrb hm
          generalize (runL bz 0 zs).2 = sb at hrb
          have HRB := Lib.hid hrb
          have hs3 := fun W9 (h : Below w15.heap.size w15 W9) => implStr_c Ab bn cb A1 n1 c1 V8.heap.size bz xs W9 ((HPB2.out.more (by omega)).next (bon hbC h) (Nat.le_refl _)) ((HX8.out.1.more HX8.out.2.2).next (bon hbC h) (Nat.le_refl _)) (bon hbC h).size (by omega) (by omega) HEB.out HEX.out
          have hs4 := fun W9 (h : Below w15.heap.size w15 W9) => implStr_c Ab bn cb A2 n2 c2 V8.heap.size bz ys W9 ((HPB2.out.more (by omega)).next (bon hbC h) (Nat.le_refl _)) ((HX8.out.2.1.more HX8.out.2.2).next (bon hbC h) (Nat.le_refl _)) (bon hbC h).size (by omega) (by omega) HEB.out HEY.out
          rw [hsa] at hs3
          rw [hsb] at hs4
          have HS3 := Lib.hid hs3
          have HS4 := Lib.hid hs4
          clear hrb hs3 hs4 hmin hsa hsb hpbz
          by_cases hyx : ny < nx
          · obtain rfl : kb = ny := by omega
            have i9 : (kb : Int) < (nx : Int) := by omega
            have r9 : ((kb : Int) == (kb : Int)) = true := beq_iff_eq.2 rfl
            clear hm
            go_wp2_with fail
            refine HRB.out.mono ?_
            rintro e w11 ⟨rfl, hb11⟩
            have q5 := cell_next q5 hb11
            have q6 := cell_next q6 hb11
            have q7 := cell_next q7 hb11
            go_wp2_with fail
            refine (HS3.out w11 hb11).mono ?_
            rintro e w12 ⟨rfl, hb12⟩
            have q6 := cell_next q6 hb12
            have q7 := cell_next q7 hb12
            go_wp2_with fail
            refine (HS4.out w12 (bon hb11 hb12)).mono ?_
            rintro e w13 ⟨rfl, hb13⟩
            go_wp2_with fail
            go_ret
            exact ⟨rfl, bon (bon (bon (bon hbw8 hbC) hb11) hb12) hb13⟩
          · obtain rfl : kb = nx := by omega
            have i9 : ¬ (ny : Int) < (kb : Int) := by omega
            have r9 : ((kb : Int) == (kb : Int)) = true := beq_iff_eq.2 rfl
            clear hm
            go_wp2_with fail
            refine HRB.out.mono ?_
            rintro e w11 ⟨rfl, hb11⟩
            have q5 := cell_next q5 hb11
            have q6 := cell_next q6 hb11
            have q7 := cell_next q7 hb11
            go_wp2_with fail
            refine (HS3.out w11 hb11).mono ?_
            rintro e w12 ⟨rfl, hb12⟩
            have q6 := cell_next q6 hb12
            have q7 := cell_next q7 hb12
            go_wp2_with fail
            refine (HS4.out w12 (bon hb11 hb12)).mono ?_
            rintro e w13 ⟨rfl, hb13⟩
            go_wp2_with fail
            go_ret
            exact ⟨rfl, bon (bon (bon (bon hbw8 hbC) hb11) hb12) hb13⟩
    · have hpy : py = dn := Classical.byContradiction fun h => hpx (hiff.2 h)
      subst hpy
      have r1 : ((py : Int) == (py : Int)) = true := beq_iff_eq.2 rfl
      have r2 : ((px : Int) == (py : Int)) = false := by rw [beq_eq_false_iff_ne]; omega
      clear hiff
      cases hs : strR xs ys with
      | false =>
        have h12 := HS12.out
        rw [hs] at h12
        have H12 := Lib.hid h12
        clear h12 hs HS12 HS21 HNS
        go_wp2_with fail
        refine (HD1.out V8 (Below.refl _ _)).mono ?_
        rintro e w9 ⟨rfl, hb9⟩
        have g5 := cell_next f5 hb9
        have g6 := cell_next f6 hb9
        go_wp2_with fail
        refine (HD2.out w9 hb9).mono ?_
        rintro e w10 ⟨rfl, hb10⟩
        have g5 := cell_next g5 hb10
        have g6 := cell_next g6 hb10
        have hbA := bon hb9 hb10
        go_wp2_with fail
        refine (H12.out w10 hbA).mono ?_
        rintro e w14 ⟨rfl, hb14⟩
        have g5 := cell_next g5 hb14
        have g6 := cell_next g6 hb14
        have hbB := bon hbA hb14
        cases four with
        | false =>
          have q5 := cell_next f5 hbB
          have q6 := cell_next f6 hbB
          have HSQ := Lib.hid (HSPW.out w14 hbB q5)
          go_wp2_with fail
          refine HSQ.out.mono ?_
          rintro e w9 ⟨As, cs, rfl, _, hb9⟩
          go_wp2_with fail
          go_ret
          exact ⟨rfl, (bon (bon hbw8 hbB) hb9).trans (bnew _ _ |>.mono (by have := (bon (bon hbw8 hbB) hb9).size; omega))⟩
        | true =>
          obtain ⟨hpbz, hmin, hsa, hsb⟩ := HBY.out rfl
          have hm := hmin zs HW.out
          rw [HNX.out, HNY.out] at hm
          have q5 := cell_next f5 hbB
          have q6 := cell_next f6 hbB
          have q7 := cell_next f7 hbB
          have HEB : Hid (∀ x ∈ bz, x.length ≤ 1048576) := fun x hx => by have := (polOk_of hpbz).len x hx; omega
          have hrb := implRunP_c Ab bn cb V8.heap.size bz E zn ce zs w14 ((HPB2.out.more (by omega)).next hbB (Nat.le_refl _)) ((HE8.out.more (by omega)).next hbB (Nat.le_refl _)) hbB.size (by omega) HEB.out hz2
          rw [runPR_is hpbz HW.out] at hrb
          generalize (runL bz 0 zs).1 = kb at hrb hm
          generalize (runL bz 0 zs).2 = sb at hrb
          have HRB := Lib.hid hrb
          have hs3 := fun W9 (h : Below w14.heap.size w14 W9) => implStr_c Ab bn cb A1 n1 c1 V8.heap.size bz xs W9 ((HPB2.out.more (by omega)).next (bon hbB h) (Nat.le_refl _)) ((HX8.out.1.more HX8.out.2.2).next (bon hbB h) (Nat.le_refl _)) (bon hbB h).size (by omega) (by omega) HEB.out HEX.out
          have hs4 := fun W9 (h : Below w14.heap.size w14 W9) => implStr_c Ab bn cb A2 n2 c2 V8.heap.size bz ys W9 ((HPB2.out.more (by omega)).next (bon hbB h) (Nat.le_refl _)) ((HX8.out.2.1.more HX8.out.2.2).next (bon hbB h) (Nat.le_refl _)) (bon hbB h).size (by omega) (by omega) HEB.out HEY.out
          rw [hsa] at hs3
          rw [hsb] at hs4
          have HS3 := Lib.hid hs3
          have HS4 := Lib.hid hs4
          clear hrb hs3 hs4 hmin hsa hsb hpbz
          by_cases hyx : ny < nx
          · obtain rfl : kb = ny := by omega
            have i9 : (kb : Int) < (nx : Int) := by omega
            have r9 : ((kb : Int) == (kb : Int)) = true := beq_iff_eq.2 rfl
            clear hm
            go_wp2_with fail
            refine HRB.out.mono ?_
            rintro e w11 ⟨rfl, hb11⟩
            have q5 := cell_next q5 hb11
            have q6 := cell_next q6 hb11
            have q7 := cell_next q7 hb11
            go_wp2_with fail
            refine (HS3.out w11 hb11).mono ?_
            rintro e w12 ⟨rfl, hb12⟩
            have q6 := cell_next q6 hb12
            have q7 := cell_next q7 hb12
            go_wp2_with fail
            refine (HS4.out w12 (bon hb11 hb12)).mono ?_
            rintro e w13 ⟨rfl, hb13⟩
            go_wp2_with fail
            go_ret
            exact ⟨rfl, bon (bon (bon (bon hbw8 hbB) hb11) hb12) hb13⟩
          · obtain rfl : kb = nx := by omega
            have i9 : ¬ (ny : Int) < (kb : Int) := by omega
            have r9 : ((kb : Int) == (kb : Int)) = true := beq_iff_eq.2 rfl
            clear hm
            go_wp2_with fail
            refine HRB.out.mono ?_
            rintro e w11 ⟨rfl, hb11⟩
            have q5 := cell_next q5 hb11
            have q6 := cell_next q6 hb11
            have q7 := cell_next q7 hb11
            go_wp2_with fail
            refine (HS3.out w11 hb11).mono ?_
            rintro e w12 ⟨rfl, hb12⟩
            have q6 := cell_next q6 hb12
            have q7 := cell_next q7 hb12
            go_wp2_with fail
            refine (HS4.out w12 (bon hb11 hb12)).mono ?_
            rintro e w13 ⟨rfl, hb13⟩
            go_wp2_with fail
            go_ret
            exact ⟨rfl, bon (bon (bon (bon hbw8 hbB) hb11) hb12) hb13⟩
      | true =>
        have h12 := HS12.out
        rw [hs] at h12
        have H12 := Lib.hid h12
        have hs2 : strR ys xs = false := by cases h : strR ys xs with | false => rfl | true => exact absurd ⟨hs, h⟩ HNS.out
        have h21 := HS21.out
        rw [hs2] at h21
        have H21 := Lib.hid h21
        clear h21 hs2
        clear h12 hs HS12 HS21 HNS
        go_wp2_with fail
        refine (HD1.out V8 (Below.refl _ _)).mono ?_
        rintro e w9 ⟨rfl, hb9⟩
        have g5 := cell_next f5 hb9
        have g6 := cell_next f6 hb9
        go_wp2_with fail
        refine (HD2.out w9 hb9).mono ?_
        rintro e w10 ⟨rfl, hb10⟩
        have g5 := cell_next g5 hb10
        have g6 := cell_next g6 hb10
        have hbA := bon hb9 hb10
        go_wp2_with fail
        refine (H12.out w10 hbA).mono ?_
        rintro e w14 ⟨rfl, hb14⟩
        have g5 := cell_next g5 hb14
        have g6 := cell_next g6 hb14
        have hbB := bon hbA hb14
        go_wp2_with fail
        refine (H21.out w14 hbB).mono ?_
        rintro e w15 ⟨rfl, hb15⟩
        have hbC := bon hbB hb15
        cases four with
        | false =>
          have q5 := cell_next f5 hbC
          have q6 := cell_next f6 hbC
          have HSQ := Lib.hid (HSPW.out w15 hbC q5)
          go_wp2_with fail
          refine HSQ.out.mono ?_
          rintro e w9 ⟨As, cs, rfl, _, hb9⟩
          go_wp2_with fail
          go_ret
          exact ⟨rfl, (bon (bon hbw8 hbC) hb9).trans (bnew _ _ |>.mono (by have := (bon (bon hbw8 hbC) hb9).size; omega))⟩
        | true =>
          obtain ⟨hpbz, hmin, hsa, hsb⟩ := HBY.out rfl
          have hm := hmin zs HW.out
          rw [HNX.out, HNY.out] at hm
          have q5 := cell_next f5 hbC
          have q6 := cell_next f6 hbC
          have q7 := cell_next f7 hbC
          have HEB : Hid (∀ x ∈ bz, x.length ≤ 1048576) := fun x hx => by have := (polOk_of hpbz).len x hx; omega
          have hrb := implRunP_c Ab bn cb V8.heap.size bz E zn ce zs w15 ((HPB2.out.more (by omega)).next hbC (Nat.le_refl _)) ((HE8.out.more (by omega)).next hbC (Nat.le_refl _)) hbC.size (by omega) HEB.out hz2
          rw [runPR_is hpbz HW.out] at hrb
          generalize (runL bz 0 zs).1 = kb at hrb hm
          generalize (runL bz 0 zs).2 = sb at hrb
          have HRB := Lib.hid hrb
          have hs3 := fun W9 (h : Below w15.heap.size w15 W9) => implStr_c Ab bn cb A1 n1 c1 V8.heap.size bz xs W9 ((HPB2.out.more (by omega)).next (bon hbC h) (Nat.le_refl _)) ((HX8.out.1.more HX8.out.2.2).next (bon hbC h) (Nat.le_refl _)) (bon hbC h).size (by omega) (by omega) HEB.out HEX.out
          have hs4 := fun W9 (h : Below w15.heap.size w15 W9) => implStr_c Ab bn cb A2 n2 c2 V8.heap.size bz ys W9 ((HPB2.out.more (by omega)).next (bon hbC h) (Nat.le_refl _)) ((HX8.out.2.1.more HX8.out.2.2).next (bon hbC h) (Nat.le_refl _)) (bon hbC h).size (by omega) (by omega) HEB.out HEY.out
          rw [hsa] at hs3
          rw [hsb] at hs4
          have HS3 := Lib.hid hs3
          have HS4 := Lib.hid hs4
          clear hrb hs3 hs4 hmin hsa hsb hpbz
          by_cases hyx : ny < nx
          · obtain rfl : kb = ny := by omega
            have i9 : (kb : Int) < (nx : Int) := by omega
            have r9 : ((kb : Int) == (kb : Int)) = true := beq_iff_eq.2 rfl
            clear hm
            go_wp2_with fail
            refine HRB.out.mono ?_
            rintro e w11 ⟨rfl, hb11⟩
            have q5 := cell_next q5 hb11
            have q6 := cell_next q6 hb11
            have q7 := cell_next q7 hb11
            go_wp2_with fail
            refine (HS3.out w11 hb11).mono ?_
            rintro e w12 ⟨rfl, hb12⟩
            have q6 := cell_next q6 hb12
            have q7 := cell_next q7 hb12
            go_wp2_with fail
            refine (HS4.out w12 (bon hb11 hb12)).mono ?_
            rintro e w13 ⟨rfl, hb13⟩
            go_wp2_with fail
            go_ret
            exact ⟨rfl, bon (bon (bon (bon hbw8 hbC) hb11) hb12) hb13⟩
          · obtain rfl : kb = nx := by omega
            have i9 : ¬ (ny : Int) < (kb : Int) := by omega
            have r9 : ((kb : Int) == (kb : Int)) = true := beq_iff_eq.2 rfl
            clear hm
            go_wp2_with fail
            refine HRB.out.mono ?_
            rintro e w11 ⟨rfl, hb11⟩
            have q5 := cell_next q5 hb11
            have q6 := cell_next q6 hb11
            have q7 := cell_next q7 hb11
            go_wp2_with fail
            refine (HS3.out w11 hb11).mono ?_
            rintro e w12 ⟨rfl, hb12⟩
            have q6 := cell_next q6 hb12
            have q7 := cell_next q7 hb12
            go_wp2_with fail
            refine (HS4.out w12 (bon hb11 hb12)).mono ?_
            rintro e w13 ⟨rfl, hb13⟩
            go_wp2_with fail
            go_ret
            exact ⟨rfl, bon (bon (bon (bon hbw8 hbC) hb11) hb12) hb13⟩

set_option maxRecDepth 100000 in
theorem lifted (os : Os) (started : os.Started) (H : Type) (enc : TypeId × Value → H) :
    ReturnsInHanded {} Try.checked os 3 .any (Rows.fnDifferenceSpec.pre6 enc Try.prog Try.f3 Rows.fnDifferenceRow.domain false) (Rows.fnDifferenceSpec.post enc Try.prog Try.f3 false true false false) := by
  refine returnsInHanded_of_change (C := Try.checked) own started (by kernel_rfl) Try.func3
    (ChangeSpec.witness6 (enc := enc) (C := Try.checked) false ⟨#[], #[.slice none 0 0, .slice none 0 0], []⟩ 8 (by kernel_rfl) (by kernel_rfl) (by kernel_rfl) (by kernel_rfl)) ?_
  intro W base args ds gs before hval0 hW hcnd _
  have hval : ∀ (j : Nat) t v, Try.f3.params[j]? = some t → args[j]? = some v → Value.okWide Try.prog W .any base t v := hval0
  have hW' := hW
  obtain ⟨p, q, hA0, hV, rfl, hfz, hnd⟩ := hW
  have hA : DataW.TrodAll enc Try.prog W 0 (fun _ => true) true Try.f3.params.toList args.toList ds p := hA0
  rw [Try.params3] at hA hval
  obtain ⟨v0, vs0, d0, ds0, p0, q0, hargs, rfl, rfl, h0, r0⟩ := trodAll_cons hA
  obtain ⟨v1, vs1, d1, ds1, p1, q1, rfl, rfl, rfl, h1, r1⟩ := trodAll_cons r0
  obtain ⟨rfl, rfl, rfl⟩ := trodAll_nil r1
  obtain rfl : args = #[v0, v1] := by cases args; simp_all
  obtain ⟨rfl, rfl⟩ := trodVars_none hV
  obtain ⟨a0, len0, cap0, rfl⟩ := okWide_slice Try.underlying22 (hval 0 22 v0 rfl rfl)
  have k0 := h0
  have lt0 : ∀ x ∈ p0, x.block < W.heap.size := by obtain ⟨m, hm⟩ := k0; exact DataW.trod_lt m _ _ _ hm
  obtain ⟨z0, w0⟩ : ∃ zs, IsRow .u8 W a0 len0 cap0 zs := by
    obtain ⟨fuel, hf⟩ := h0
    rcases open_ints Try.underlying22 Try.underlying5 (by kernel_rfl) hf with ⟨hcs, _⟩ | ⟨x, l, c, zs, hcs, _, hl, hm, hz, _, hcell, hwz⟩
    · simp [Value.cells] at hcs
      obtain ⟨rfl, rfl, rfl⟩ := hcs
      exact ⟨[], .inl ⟨rfl, rfl, rfl, rfl⟩⟩
    · simp [Value.cells] at hcs
      obtain ⟨rfl, rfl, rfl⟩ := hcs
      exact ⟨zs, .inr ⟨_, rfl, hl, hm, by simpa using hz, hcell, hwz⟩⟩
  obtain ⟨a1, len1, cap1, rfl⟩ := okWide_slice Try.underlying22 (hval 1 22 v1 rfl rfl)
  have k1 := h1
  have lt1 : ∀ x ∈ p1, x.block < W.heap.size := by obtain ⟨m, hm⟩ := k1; exact DataW.trod_lt m _ _ _ hm
  obtain ⟨z1, w1⟩ : ∃ zs, IsRow .u8 W a1 len1 cap1 zs := by
    obtain ⟨fuel, hf⟩ := h1
    rcases open_ints Try.underlying22 Try.underlying5 (by kernel_rfl) hf with ⟨hcs, _⟩ | ⟨x, l, c, zs, hcs, _, hl, hm, hz, _, hcell, hwz⟩
    · simp [Value.cells] at hcs
      obtain ⟨rfl, rfl, rfl⟩ := hcs
      exact ⟨[], .inl ⟨rfl, rfl, rfl, rfl⟩⟩
    · simp [Value.cells] at hcs
      obtain ⟨rfl, rfl, rfl⟩ := hcs
      exact ⟨zs, .inr ⟨_, rfl, hl, hm, by simpa using hz, hcell, hwz⟩⟩
  clear hA0 hval0
  refine (walk a0 len0 cap0 z0 a1 len1 cap1 z1 W w0 w1).mono fun e W' ⟨he, bel⟩ => ?_
  subst he
  exact ⟨_, rfl, _, _, _, [], _, [], hW', trodAll_mk1 (shut_bool Try.underlying4 _), (trodAll_cons_mk (Below.trod laidOut (by kernel_rfl) (of_decide_eq_true (by kernel_rfl)) k0 bel lt0) (trodAll_cons_mk (Below.trod laidOut (by kernel_rfl) (of_decide_eq_true (by kernel_rfl)) k1 bel lt1) trodAll_mk0)), rfl, bel.frame _, fun h => by cases h⟩

theorem over : Rows.fnDifferenceRow.holds Try.pinned (OpenSpec.ofChange Rows.fnDifferenceSpec) :=
  OpenClaim.holds_of_wide 3 Try.f3 rfl rfl rfl rfl rfl rfl rfl ⟨rfl, rfl, rfl, rfl, rfl⟩ rfl rfl rfl rfl rfl (by kernel_rfl) Try.func3 (by kernel_rfl)
    (of_decide_eq_true (by kernel_rfl)) (by unfold Func.isWrapper; first | (rw [if_pos (by decide +kernel)]; kernel_rfl) | (rw [if_neg (by decide +kernel)]; exact ⟨rfl, rfl⟩))
    (fun os started H enc _ => lifted os started H enc)

/-- The statement. -/
theorem proved : Rows.FnDifferenceSaid := over
#print axioms proved
end Go.Proofs.Ytpdgnmdjneakgaa.fnDifference
