/-
  Several texts in one: HgoI, ReachC. Conditions: as each says.
-/
import Derived.Test.YtffkdidgfeknkaaGreatDoorHgoM
import Derived.Test.YtffkdidgfeknkaaGreatDoorBunM
import Derived.Test.YtffkdidgfeknkaaGreatDoorAnnI
import Derived.Test.YtffkdidgfeknkaaGreatDoorReachM
import Derived.Test.YtffkdidgfeknkaaGreatDoorBunD
import Derived.LaidLaws
import Derived.LaidHandle

/-! HeightsOf: the model's and the program's. Conditions: at most 2^20 elements and numbers; the program's own error lies in its variable. -/
namespace Go.Proofs.YtffkdidgfeknkaaGreatDoor
set_option linter.unusedVariables false
open Go.RowKit

theorem hgoR_len (t0 t1 : List (Int × List Int)) (xs : List (Int × Int)) (ps : List P2) : (hgoR t0 t1 xs ps).1.length ≤ 80 := by
  unfold hgoR
  split
  · rename_i h
    have := (hgtR_is h.2.1).good.len
    have := (codeB_parts (annB_parts h.1).1).2.1
    show (hgtR xs).1.length ≤ 80
    omega
  · simp

set_option maxRecDepth 100000 in
set_option maxHeartbeats 4000000 in
theorem specHgo_c (A0 : Option Addr) (n0 c0 : Nat) (t0 : List (Int × List Int)) (A1 : Option Addr) (n1 c1 : Nat) (t1 : List (Int × List Int)) (A2 : Option Addr) (n2 c2 : Nat) (t2 : List (Int × Int)) (A3 : Option Addr) (n3 c3 : Nat) (t3 : List P2) (w : World) (h0 : InTS w w.heap.size A0 n0 t0) (h1 : InTS w w.heap.size A1 n1 t1) (h2 : InC w w.heap.size A2 n2 t2) (h3 : InP2 w w.heap.size A3 n3 t3) (hn0 : n0 ≤ 1048576) (he0 : totT t0 ≤ 1048576) (hn1 : n1 ≤ 1048576) (he1 : totT t1 ≤ 1048576) (hn2 : n2 ≤ 1048576) (hn3 : n3 ≤ 1048576) (he3 : totP2 t3 ≤ 1048576) :
    Calls Tryz.prog 7 #[.agg #[.slice A0 n0 c0, .slice A1 n1 c1, .slice A2 n2 c2, .slice A3 n3 c3]] w fun e w' => ∃ A' c', e = .returned (.tuple #[.slice A' (hgoR t0 t1 t2 t3).1.length c', .bool (hgoR t0 t1 t2 t3).2]) ∧ OwnL w' w.heap.size w'.heap.size A' (hgoR t0 t1 t2 t3).1.length c' (hgoR t0 t1 t2 t3).1 ∧ Below w.heap.size w w' := by
  have hb0 := bnew w (.cells #[.slice A0 n0 c0, .slice A1 n1 c1, .slice A2 n2 c2, .slice A3 n3 c3] 35)
  have hP : BlkIs (w.alloc (.cells #[.slice A0 n0 c0, .slice A1 n1 c1, .slice A2 n2 c2, .slice A3 n3 c3] 35)) w.heap.size 35 #[.slice A0 n0 c0, .slice A1 n1 c1, .slice A2 n2 c2, .slice A3 n3 c3] := blk_new _ _ _ _ rfl
  have hc0 := l08Is_c w.heap.size A0 n0 c0 t0 A1 n1 c1 t1 A2 n2 c2 t2 A3 n3 c3 t3 w.heap.size _ hP (h0.next hb0 (Nat.le_refl _)) (h1.next hb0 (Nat.le_refl _)) (h2.next hb0 (Nat.le_refl _)) (h3.next hb0 (Nat.le_refl _)) hb0.size hn0 he0 hn1 he1 hn2 hn3 he3
  obtain ⟨R, HR⟩ : ∃ R, Hid (hgoR t0 t1 t2 t3 = R) := ⟨_, rfl⟩
  rw [HR.out]
  cases hv : annB t0 t1 t2 t3 with
  | false =>
    have HE : Hid (R = ([], false)) := by show R = _; rw [← HR.out]; exact hgoR_bad hv
    rw [hv] at hc0
    have H := Lib.hid hc0
    clear hP h0 h1 h2 h3 hc0 hv
    go_enter Tryz.func7, Tryz.ntmps7
    go_wp2_with fail
    generalize w.alloc (.cells #[.slice A0 n0 c0, .slice A1 n1 c1, .slice A2 n2 c2, .slice A3 n3 c3] 35) = W at hb0 H ⊢
    refine H.out.mono ?_
    rintro e w1 ⟨rfl, hb1⟩
    go_wp2_with fail
    go_ret2
    rw [HE.out]
    exact ⟨none, 0, rfl, (ownL_nil _).less (bon hb0 hb1).size, bon hb0 hb1⟩
  | true =>
    rw [hv] at hc0
    have H := Lib.hid hc0
    have HV := Lib.hid hv
    have HI := Lib.hid (And.intro h2 h3)
    clear h0 h1 h2 h3 hc0 hv
    go_enter Tryz.func7, Tryz.ntmps7
    go_wp2_with fail
    generalize w.alloc (.cells #[.slice A0 n0 c0, .slice A1 n1 c1, .slice A2 n2 c2, .slice A3 n3 c3] 35) = W at hb0 hP H ⊢
    refine H.out.mono ?_
    rintro e w1 ⟨rfl, hb1⟩
    have hb01 := bon hb0 hb1
    have HH := Lib.hid (l08Heights_c w.heap.size (.slice A0 n0 c0) (.slice A1 n1 c1) A2 n2 c2 w.heap.size t2 A3 n3 c3 t3 w1 (hP.next hb1) (HI.out.1.next hb01 (Nat.le_refl _)) (HI.out.2.next hb01 (Nat.le_refl _)) hb01.size (annB_parts HV.out).1 hn3)
    clear hP
    go_wp2_with fail
    refine HH.out.mono ?_
    rintro e w2 ⟨A', L, c', ok, rfl, hy, hno, ho, hb2⟩
    have hRR : R = (L, ok) := by
      rw [← HR.out]
      cases ok with
      | true => obtain ⟨q1, q2⟩ := hy rfl; exact hgoR_yes HV.out q1 q2
      | false => obtain ⟨q1, q2⟩ := hno rfl; rw [q2]; exact hgoR_no q1
    have HRR := Lib.hid hRR
    have HO := Lib.hid (And.intro ho (bon hb01 hb2))
    clear hy hno hRR ho
    go_wp2_with fail
    go_ret2
    rw [HRR.out]
    exact ⟨A', c', rfl, HO.out.1.less hb01.size, HO.out.2⟩

set_option maxRecDepth 100000 in
set_option maxHeartbeats 4000000 in
theorem implHgo_c (tp : TypeId) (pv : Value) (A0 : Option Addr) (n0 c0 : Nat) (t0 : List (Int × List Int)) (A1 : Option Addr) (n1 c1 : Nat) (t1 : List (Int × List Int)) (A2 : Option Addr) (n2 c2 : Nat) (t2 : List (Int × Int)) (A3 : Option Addr) (n3 c3 : Nat) (t3 : List P2) (w : World) (h0 : InTS w w.heap.size A0 n0 t0) (h1 : InTS w w.heap.size A1 n1 t1) (h2 : InC w w.heap.size A2 n2 t2) (h3 : InP2 w w.heap.size A3 n3 t3) (hn0 : n0 ≤ 1048576) (he0 : totT t0 ≤ 1048576) (hn1 : n1 ≤ 1048576) (he1 : totT t1 ≤ 1048576) (hn2 : n2 ≤ 1048576) (hn3 : n3 ≤ 1048576) (he3 : totP2 t3 ≤ 1048576) (hs : Stuck tp pv w) :
    Calls Tryz.prog 9 #[.agg #[.slice A0 n0 c0, .slice A1 n1 c1, .slice A2 n2 c2, .slice A3 n3 c3]] w fun e w' => ∃ A' c', e = .returned (.tuple #[.slice A' (hgoR t0 t1 t2 t3).1.length c', .bool (hgoR t0 t1 t2 t3).2]) ∧ OwnL w' w.heap.size w'.heap.size A' (hgoR t0 t1 t2 t3).1.length c' (hgoR t0 t1 t2 t3).1 ∧ Below w.heap.size w w' := by
  have hb0 := bnew w (.cells #[.slice A0 n0 c0, .slice A1 n1 c1, .slice A2 n2 c2, .slice A3 n3 c3] 35)
  have hP : BlkIs (w.alloc (.cells #[.slice A0 n0 c0, .slice A1 n1 c1, .slice A2 n2 c2, .slice A3 n3 c3] 35)) w.heap.size 35 #[.slice A0 n0 c0, .slice A1 n1 c1, .slice A2 n2 c2, .slice A3 n3 c3] := blk_new _ _ _ _ rfl
  have H := Lib.hid (implHgt_c tp pv A2 n2 c2 w.heap.size t2 _ (h2.next hb0 (Nat.le_refl _)) hb0.size hn2 (hs.next hb0))
  have HI := Lib.hid (And.intro h0 (And.intro h1 (And.intro h2 h3)))
  have HX := Lib.hid hP
  have p0 : (w.alloc (.cells #[.slice A0 n0 c0, .slice A1 n1 c1, .slice A2 n2 c2, .slice A3 n3 c3] 35)).cell? ⟨w.heap.size, 2, none⟩ = some (.slice A2 n2 c2) := hP.cell 2
  obtain ⟨R, HR⟩ : ∃ R, Hid (hgoR t0 t1 t2 t3 = R) := ⟨_, rfl⟩
  rw [HR.out]
  have hsteep := fun h => hgoR_steep (t0 := t0) (t1 := t1) (xs := t2) (ps := t3) h
  have hup := fun h => hgoR_up (t0 := t0) (t1 := t1) (xs := t2) (ps := t3) h
  have hall := fun h h1 h2 => hgoR_all (t0 := t0) (t1 := t1) (xs := t2) (ps := t3) h h1 h2
  have hbad := fun h => hgoR_bad (t0 := t0) (t1 := t1) (xs := t2) (ps := t3) h
  have hlen := fun (h : (hgtR t2).2 = true) => (hgtR_is h).good.len
  rw [HR.out] at hsteep hup hall hbad
  obtain ⟨⟨L, ok⟩, HT⟩ : ∃ T, Hid (hgtR t2 = T) := ⟨_, rfl⟩
  rw [HT.out] at H hsteep hup hall hlen
  dsimp only at H hsteep hup hall hlen
  obtain ⟨ln, hln⟩ : ∃ ln, Hid (L.length = ln) := ⟨_, rfl⟩
  rw [hln.out] at H
  have HS := Lib.hid hsteep
  have HU := Lib.hid hup
  have HA := Lib.hid hall
  have HB := Lib.hid hbad
  have HLN := Lib.hid hlen
  clear hP h0 h1 h2 h3 hs hsteep hup hall hbad hlen
  go_enter Tryz.func9, Tryz.ntmps9
  go_wp2_with fail
  generalize w.alloc (.cells #[.slice A0 n0 c0, .slice A1 n1 c1, .slice A2 n2 c2, .slice A3 n3 c3] 35) = W at hb0 HX H p0 ⊢
  refine H.out.mono ?_
  rintro e w1 ⟨A', c', rfl, ho, hb1⟩
  have hb01 := bon hb0 hb1
  cases ok with
  | false =>
    have HE := Lib.hid (HS.out rfl)
    clear ho
    go_wp2_with fail
    go_ret2
    rw [HE.out]
    exact ⟨none, 0, rfl, (ownL_nil _).less hb01.size, hb01⟩
  | true =>
    have hX1 := HX.out.next hb1
    have p0 : w1.cell? ⟨w.heap.size, 0, none⟩ = some (.slice A0 n0 c0) := hX1.cell 0
    have p1 : w1.cell? ⟨w.heap.size, 1, none⟩ = some (.slice A1 n1 c1) := hX1.cell 1
    have p2 : w1.cell? ⟨w.heap.size, 2, none⟩ = some (.slice A2 n2 c2) := hX1.cell 2
    have p3 : w1.cell? ⟨w.heap.size, 3, none⟩ = some (.slice A3 n3 c3) := hX1.cell 3
    obtain ⟨i0, i1, i2, i3⟩ := HI.out
    have hca := implAnn_c A0 n0 c0 t0 A1 n1 c1 t1 A2 n2 c2 t2 A3 n3 c3 t3 w1 ((i0.next hb01 (Nat.le_refl _)).more hb01.size) ((i1.next hb01 (Nat.le_refl _)).more hb01.size) ((i2.next hb01 (Nat.le_refl _)).more hb01.size) ((i3.next hb01 (Nat.le_refl _)).more hb01.size) hn0 he0 hn1 he1 hn2 hn3 he3
    have HO := Lib.hid ho
    have HX1 := Lib.hid hX1
    clear i0 i1 i2 i3 ho hX1 HX H
    cases hv : annB t0 t1 t2 t3 with
    | false =>
      rw [hv] at hca
      have HE := Lib.hid (HB.out hv)
      have HC := Lib.hid hca
      clear hca hv
      go_wp2_with fail
      refine HC.out.mono ?_
      rintro e w2 ⟨rfl, hb2⟩
      go_wp2_with fail
      go_ret2
      rw [HE.out]
      exact ⟨none, 0, rfl, (ownL_nil _).less (bon hb01 hb2).size, bon hb01 hb2⟩
    | true =>
      rw [hv] at hca
      have HC := Lib.hid hca
      have hpts := annB_pts hv
      have HV := Lib.hid hv
      have HCL : Hid (ln = t2.length) := by show _ = _; rw [← hln.out]; exact HLN.out (by first | rfl | trivial)
      have hc80 := (codeB_parts (annB_parts hv).1).2.1
      have HPT := Lib.hid hpts.2
      have h3l : t3.length = n3 := HI.out.2.2.2.1
      clear hca hv hpts
      go_wp2_with fail
      refine HC.out.mono ?_
      rintro e w2 ⟨rfl, hb2⟩
      have hX2 := HX1.out.next hb2
      have p3 : w2.cell? ⟨w.heap.size, 3, none⟩ = some (.slice A3 n3 c3) := hX2.cell 3
      have HO2 := Lib.hid (fun W2 (h : Below w2.heap.size w2 W2) => (HO.out.all.next (bon hb2 h) (Nat.le_refl _)).more (bon hb2 h).size)
      have HOO := Lib.hid (fun W2 (h : Below w2.heap.size w2 W2) => (OwnL.of_own (own_below HO.out.2.1 (bon hb2 h))).less hb0.size)
      have HBW := Lib.hid (bon hb01 hb2)
      clear hX2 HC HX1
      go_wp2_with fail
      go_loopw [7, 24] (fun _ i wr => ∃ j : Nat, i = .int .i64 j ∧ j ≤ n3 ∧ Hid (flatB L (t3.take j) = true) ∧ Hid (Below w2.heap.size w2 wr)) (fun _ i _ => (n3 - intOf i).toNat)
      case atStart => exact ⟨0, rfl, Nat.zero_le _, Lib.hid rfl, Below.refl _ _⟩
      case round =>
        rename World => wr
        obtain ⟨j, rfl, hj, HF, HW⟩ := hrel
        have hbl := bon HBW.out HW.out
        by_cases hlt : j < n3
        · have i3 : (j : Int) < (n3 : Int) := by omega
          obtain ⟨b, off, x, rfl, hb, hx, Af, nf, cf, q0, q1, kf⟩ := (HI.out.2.2.2.next hbl (Nat.le_refl _)).at_ hlt
          obtain ⟨x0, x1⟩ := HPT.out x (List.mem_of_getElem? hx)
          obtain ⟨xn, hxn⟩ : ∃ xn : Nat, x.a = (xn : Int) := ⟨x.a.toNat, by omega⟩
          have hxl : xn < ln := by have := HCL.out; omega
          obtain ⟨g, hg⟩ : ∃ g, L[xn]? = some g := ⟨_, List.getElem?_eq_getElem (by rw [hln.out]; exact hxl)⟩
          have hgd : L.getD x.a.toNat 0 = g := by rw [hxn, Int.toNat_natCast, List.getD_eq_getElem?_getD, hg]; rfl
          have hba := bnew wr (.cells #[.int .i64 xn, .slice Af nf cf] 56)
          obtain ⟨gb, goff, g', rfl, hgb, hg', hgc⟩ := (HO2.out _ (bon HW.out hba)).2.int_at (k := xn) (by rw [hln.out]; exact hxl)
          rw [hg] at hg'
          obtain rfl := Option.some.inj hg'
          have z0 : (wr.alloc (.cells #[.int .i64 xn, .slice Af nf cf] 56)).cell? ⟨wr.heap.size, 0, none⟩ = some (.int .i64 xn) := by simp
          have i4 : (xn : Int) < (ln : Int) := by omega
          have HX := Lib.hid hx
          have HG := Lib.hid hgd
          rw [hxn] at q0
          have HB2 := Lib.hid (bon HW.out hba)
          clear hg hg' hgb hx hgd kf hba hb
          by_cases hgp : 0 < g
          · have HE := Lib.hid (HU.out (flatB_no HX.out (by rw [HG.out]; exact hgp)))
            go_wp2_with fail
            go_ret2
            rw [HE.out]
            exact ⟨none, 0, rfl, (ownL_nil _).less (bon HBW.out HB2.out).size, bon HBW.out HB2.out⟩
          · have HF2 := Lib.hid (flatB_take HF.out HX.out (by rw [HG.out]; omega))
            go_wp2_with fail
            go_roundw
            case rel => exact ⟨j + 1, by go_num, by omega, HF2, HB2⟩
            case measure => simp [intOf]; omega
        · obtain rfl : j = n3 := by omega
          have i3 : ¬ (j : Int) < (j : Int) := by omega
          have HE := Lib.hid (HA.out HV.out (by first | rfl | trivial) (flatB_all HF.out (by omega)))
          go_wp2_with fail
          go_ret2
          rw [HE.out]
          refine ⟨A', c', congrArg (fun q => Ending.returned (.tuple #[.slice A' q c', .bool true])) hln.out.symm, ?_, hbl⟩
          have := HOO.out wr HW.out
          rw [← hln.out] at this
          exact this
end Go.Proofs.YtffkdidgfeknkaaGreatDoor

/-! ReachableCode: the model's and the program's list. Conditions: at most 2^20 instructions. -/
namespace Go.Proofs.YtffkdidgfeknkaaGreatDoor
set_option linter.unusedVariables false
open Go.RowKit

/-- A card whose variables a walk does not look at. -/
def NoFact (_ : World) : Prop := True
theorem noFact_of {laid : List (String × DataW Unit)} {W : World} (_ : True) (_ : laidMetH Tryz.prog laid W) : NoFact W := trivial
theorem infoIR : (Tryz.prog.info? 2).map (fun i => (i.zero, i.size, i.bytes)) = some (some (.int .i64 0), 1, 8) := by kernel_rfl
/-- What ReachableCode answers, marks being what is reached. -/
def rchR (xs : List (Int × Int)) (ms : List Bool) : List Int × Bool := if codeB xs = true then (lstM ms xs.length, true) else ([], false)
theorem rchR_len (xs : List (Int × Int)) (ms : List Bool) : (rchR xs ms).1.length ≤ 80 := by
  unfold rchR
  split
  · rename_i h
    have := lstM_len ms xs.length
    have := (codeB_parts h).2.1
    show (lstM ms xs.length).length ≤ 80
    omega
  · simp

set_option maxRecDepth 100000 in
set_option maxHeartbeats 2000000 in
theorem implReach_c (A : Option Addr) (n c B : Nat) (xs : List (Int × Int)) (ms : List Bool) (w : World) (h : InC w B A n xs) (hB : B ≤ w.heap.size) (hn : n ≤ 1048576) (hms : MarksOf xs (fun t => t = 0) ms) :
    Calls Tryz.prog 43 #[.slice A n c] w fun e w' => ∃ A' c', e = .returned (.tuple #[.slice A' (rchR xs ms).1.length c', .bool (rchR xs ms).2]) ∧ OwnL w' w.heap.size w'.heap.size A' (rchR xs ms).1.length c' (rchR xs ms).1 ∧ Below w.heap.size w w' := by
  obtain ⟨i0, hi, hz0, hz1, hz2⟩ := info_parts infoIR
  have hlen := Lib.hid h.1
  have HC0 := implCode_c A n c B xs w h hB hn
  cases hv : codeB xs with
  | false =>
    have HE : Hid (rchR xs ms = ([], false)) := by show rchR xs ms = _; unfold rchR; rw [hv]; rfl
    rw [hv] at HC0
    rw [HE.out]
    have HC := Lib.hid HC0
    clear HC0 hv h
    go_enter Tryz.func43, Tryz.ntmps43
    go_wp2_with fail
    refine HC.out.mono ?_
    rintro e w1 ⟨rfl, hb1⟩
    go_wp2_with fail
    go_ret2
    exact ⟨none, 0, rfl, (ownL_nil _).less hb1.size, hb1⟩
  | true =>
    have hp := codeB_parts hv
    have hn80 : n ≤ 80 ∧ 1 ≤ n := by have := hlen.out; omega
    have HE : Hid (rchR xs ms = (lstM ms n, true)) := by show rchR xs ms = _; unfold rchR; rw [hv, hlen.out]; rfl
    have HML : Hid (ms.length = n) := by show ms.length = n; rw [hms.1]; exact hlen.out
    rw [hv] at HC0
    rw [HE.out]
    have HC := Lib.hid HC0
    have HI := Lib.hid h
    have HV := Lib.hid hv
    have HMS := Lib.hid hms
    have HX80 : Hid (xs.length ≤ 80) := hp.2.1
    clear HC0 hv hp h hms
    go_enter Tryz.func43, Tryz.ntmps43
    go_wp2_with fail
    refine HC.out.mono ?_
    rintro e w1 ⟨rfl, hb1⟩
    go_wp2_with fail
    refine (spread_c A n c B xs w1 (HI.out.next hb1 hB) (Nat.le_trans hB hb1.size) HV.out (Emp xs) (emp_on HX80.out (tgt_in HV.out)) (Emp.init xs)).mono ?_
    rintro e w2 ⟨K, rfl, hK, hb2⟩
    have hEM : ms = marksH xs.length K := HMS.out.uniq (marksH_of HX80.out (tgt_in HV.out) hK)
    have hKl := hK.len
    have hmk : ∀ k : Nat, k < n → ms[k]? = some (K.getD k 0 != -1) := fun k hk => by
      rw [hEM]
      unfold marksH
      rw [List.getElem?_map, List.getElem?_range (by rw [hlen.out]; exact hk)]
      rfl
    have HMK := Lib.hid hmk
    clear hmk hK hEM
    have hZ : ArrIs (w2.alloc (.cells Tryz.zeroCells100 100)) w2.heap.size (List.replicate 81 0) := by rw [zero42]; exact ArrIs.new w2 (by simp)
    have hb3 := bnew w2 (.cells Tryz.zeroCells100 100)
    have hR3 := hZ.store hKl
    have hg3 := grown_setCells w2.heap.size (K.map ic) 0 (w2.alloc (.cells Tryz.zeroCells100 100))
    have hb4 : Below w2.heap.size w2 ((w2.alloc (.cells Tryz.zeroCells100 100)).setCells w2.heap.size 0 (K.map ic)) := hb3.grown hg3 hb3.size (fun k hk => by have := Option.some.inj hk; omega)
    go_upto_region 6 with (refine store_hc rfl _ _ rfl w2.heap.size rfl rfl hZ hKl ?_)
    generalize (w2.alloc (.cells Tryz.zeroCells100 100)).setCells w2.heap.size 0 (K.map ic) = W at hR3 hb4 ⊢
    clear hZ hb3 hg3
    have hO0 : W.ownsRow w2.heap.size 2 1 (.slice none 0 0) (lstM ms 0).length ((lstM ms 0).map ic) := World.ownsRow_nil _ _ _ _
    have hlt0 := hR3.lt
    go_loopw [5, 14] (fun v i wr => ∃ k : Nat, k ≤ n ∧ i = .int .i64 k ∧ wr.ownsRow W.heap.size 2 1 v (lstM ms k).length ((lstM ms k).map ic) ∧ Below W.heap.size W wr) (fun _ i _ => n - (intOf i).toNat)
    case atStart => exact ⟨0, Nat.zero_le _, rfl, World.ownsRow_nil _ _ _ _, Below.refl _ _⟩
    case round =>
      clear hO0
      obtain ⟨k, hk, rfl, hown, hbel⟩ := hrel
      have hsz := hbel.size
      obtain ⟨VA, Vc, rfl, _⟩ := own_slice hown
      by_cases hlt : k < n
      · have hkn : (k : Int) < (n : Int) := by omega
        have hk81 : (k : Int) < 81 := by omega
        have hbk := HMK.out k hlt
        have c1 := (hR3.next hbel).at_ (i := k) (by omega)
        obtain ⟨hk0, ehk⟩ : ∃ hk0, Hid (K.getD k 0 = hk0) := ⟨_, Lib.hid rfl⟩
        rw [ehk.out] at c1 hbk
        have hlk := lstM_len ms k
        by_cases e : hk0 = -1
        · subst e
          have hS := lstM_no hbk
          have HS := Lib.hid hS
          clear hbk hS
          generalize lstM ms k = O at hown HS hlk ⊢
          go_wp2_with fail
          go_roundw
          case rel => exact ⟨k + 1, by omega, by go_num, by rw [HS.out]; exact hown, hbel⟩
          case measure => simp [intOf]; omega
        · have e' : (hk0 == -1) = false := by simp; exact e
          have hS := lstM_yes (ms := ms) (k := k) (by rw [hbk]; simp; exact e)
          have HS := Lib.hid hS
          clear hbk hS
          generalize lstM ms k = O at hown HS hlk ⊢
          go_wp2_with (at_builtin; refine wpList_append_own _ rfl _ _ 28 rfl W.heap.size 2 i0 (.int .i64 0) 1 8 Tryz.underlying28 hi hz0 hz1 hz2 rfl (by decide) _ _ _ rfl ((hown : World.ownsRow _ _ _ _ _ _ _).alloc _) ⟨wr.heap.size, 0, none⟩ 1 1 [.int .i64 (k : Int)] rfl rfl (cell_one_new _ _ _) (by simp [Value.oneCell']) (by unfold maxLen; omega) (by omega) (by simp; omega) ?_; intro v1 w4 hown4 hgrow4 _)
          have hb5 : Below W.heap.size W w4 := (bon hbel (bnew _ _)).grown hgrow4 (by simp; omega) (fun j hj => ((own_below hown (bnew wr (.cells #[.int .i64 (k : Int)] 2))).lt j hj).1)
          go_roundw
          case rel =>
            refine ⟨k + 1, by omega, by go_num, ?_, hb5⟩
            rw [HS.out, List.length_append, List.map_append]
            exact hown4
          case measure => simp [intOf]; omega
      · obtain rfl : k = n := by omega
        have hb := bon (bon hb1 hb2) (bon hb4 hbel)
        have hO := (OwnL.of_own (zs := lstM ms k) hown).less (Nat.le_trans hb1.size (Nat.le_trans hb2.size hb4.size))
        go_wp2_with fail
        go_ret2
        exact ⟨_, _, rfl, hO, hb⟩
end Go.Proofs.YtffkdidgfeknkaaGreatDoor
