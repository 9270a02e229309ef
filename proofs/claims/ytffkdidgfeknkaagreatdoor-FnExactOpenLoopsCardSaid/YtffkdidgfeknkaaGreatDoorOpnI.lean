/-
  OpenLoops: the model's and the program's. Conditions: at most 2^20 elements and numbers; the library's table of the lowest bits as its initialiser lays it.
-/
import Derived.Test.YtffkdidgfeknkaaGreatDoorOpnM
import Derived.Test.YtffkdidgfeknkaaGreatDoorCirc
import Derived.Test.YtffkdidgfeknkaaGreatDoorBunI
import Derived.Test.YtffkdidgfeknkaaGreatDoorAnnI
namespace Go.Proofs.YtffkdidgfeknkaaGreatDoor
set_option linter.unusedVariables false
open Go.RowKit

noncomputable def opnR (t0 t1 : List (Int × List Int)) (xs : List (Int × Int)) (ps : List P2) : List Int × Bool := if annB t0 t1 xs ps = true then (opnL xs ps xs.length, true) else ([], false)
theorem opnR_yes {t0 t1 : List (Int × List Int)} {xs : List (Int × Int)} {ps : List P2} (h : annB t0 t1 xs ps = true) : opnR t0 t1 xs ps = (opnL xs ps xs.length, true) := if_pos h
theorem opnR_no {t0 t1 : List (Int × List Int)} {xs : List (Int × Int)} {ps : List P2} (h : annB t0 t1 xs ps = false) : opnR t0 t1 xs ps = ([], false) := if_neg (by rw [h]; simp)
theorem opnR_len (t0 t1 : List (Int × List Int)) (xs : List (Int × Int)) (ps : List P2) : (opnR t0 t1 xs ps).1.length ≤ 80 := by
  unfold opnR
  split
  · rename_i h
    have := opnL_len xs ps xs.length
    have := (codeB_parts (annB_parts h).1).2.1
    show (opnL xs ps xs.length).length ≤ 80
    omega
  · simp

set_option maxRecDepth 100000 in
set_option maxHeartbeats 4000000 in
theorem specOpn_c (A0 : Option Addr) (n0 c0 : Nat) (t0 : List (Int × List Int)) (A1 : Option Addr) (n1 c1 : Nat) (t1 : List (Int × List Int)) (A2 : Option Addr) (n2 c2 : Nat) (t2 : List (Int × Int)) (A3 : Option Addr) (n3 c3 : Nat) (t3 : List P2) (w : World) (h0 : InTS w w.heap.size A0 n0 t0) (h1 : InTS w w.heap.size A1 n1 t1) (h2 : InC w w.heap.size A2 n2 t2) (h3 : InP2 w w.heap.size A3 n3 t3) (hn0 : n0 ≤ 1048576) (he0 : totT t0 ≤ 1048576) (hn1 : n1 ≤ 1048576) (he1 : totT t1 ≤ 1048576) (hn2 : n2 ≤ 1048576) (hn3 : n3 ≤ 1048576) (he3 : totP2 t3 ≤ 1048576) :
    Calls Tryz.prog 15 #[.agg #[.slice A0 n0 c0, .slice A1 n1 c1, .slice A2 n2 c2, .slice A3 n3 c3]] w fun e w' => ∃ A' c', e = .returned (.tuple #[.slice A' (opnR t0 t1 t2 t3).1.length c', .bool (opnR t0 t1 t2 t3).2]) ∧ OwnL w' w.heap.size w'.heap.size A' (opnR t0 t1 t2 t3).1.length c' (opnR t0 t1 t2 t3).1 ∧ Below w.heap.size w w' := by
  have hb0 := bnew w (.cells #[.slice A0 n0 c0, .slice A1 n1 c1, .slice A2 n2 c2, .slice A3 n3 c3] 35)
  have hP : BlkIs (w.alloc (.cells #[.slice A0 n0 c0, .slice A1 n1 c1, .slice A2 n2 c2, .slice A3 n3 c3] 35)) w.heap.size 35 #[.slice A0 n0 c0, .slice A1 n1 c1, .slice A2 n2 c2, .slice A3 n3 c3] := blk_new _ _ _ _ rfl
  have hc0 := l08Is_c w.heap.size A0 n0 c0 t0 A1 n1 c1 t1 A2 n2 c2 t2 A3 n3 c3 t3 w.heap.size _ hP (h0.next hb0 (Nat.le_refl _)) (h1.next hb0 (Nat.le_refl _)) (h2.next hb0 (Nat.le_refl _)) (h3.next hb0 (Nat.le_refl _)) hb0.size hn0 he0 hn1 he1 hn2 hn3 he3
  obtain ⟨R, HR⟩ : ∃ R, Hid (opnR t0 t1 t2 t3 = R) := ⟨_, rfl⟩
  rw [HR.out]
  cases hv : annB t0 t1 t2 t3 with
  | false =>
    have HE : Hid (R = ([], false)) := by show R = _; rw [← HR.out]; exact opnR_no hv
    rw [hv] at hc0
    have H := Lib.hid hc0
    clear hP h0 h1 h2 h3 hc0 hv
    go_enter Tryz.func15, Tryz.ntmps15
    go_wp2_with fail
    generalize w.alloc (.cells #[.slice A0 n0 c0, .slice A1 n1 c1, .slice A2 n2 c2, .slice A3 n3 c3] 35) = W at hb0 H ⊢
    refine H.out.mono ?_
    rintro e w1 ⟨rfl, hb1⟩
    go_wp2_with fail
    go_ret2
    rw [HE.out]
    exact ⟨none, 0, rfl, (ownL_nil _).less (bon hb0 hb1).size, bon hb0 hb1⟩
  | true =>
    have HE : Hid (R = (opnL t2 t3 n2, true)) := by show R = _; rw [← HR.out, opnR_yes hv, h2.1]
    rw [hv] at hc0
    have H := Lib.hid hc0
    have HV := Lib.hid hv
    have HI := Lib.hid (And.intro h2 h3)
    clear h0 h1 h2 h3 hc0 hv
    go_enter Tryz.func15, Tryz.ntmps15
    go_wp2_with fail
    generalize w.alloc (.cells #[.slice A0 n0 c0, .slice A1 n1 c1, .slice A2 n2 c2, .slice A3 n3 c3] 35) = W at hb0 hP H ⊢
    refine H.out.mono ?_
    rintro e w1 ⟨rfl, hb1⟩
    have hb01 := bon hb0 hb1
    have HH := Lib.hid (l08Open_c w.heap.size (.slice A0 n0 c0) (.slice A1 n1 c1) A2 n2 c2 w.heap.size t2 A3 n3 c3 t3 w1 (hP.next hb1) (HI.out.1.next hb01 (Nat.le_refl _)) (HI.out.2.next hb01 (Nat.le_refl _)) hb01.size (annB_parts HV.out).1 hn3)
    clear hP
    go_wp2_with fail
    refine HH.out.mono ?_
    rintro e w2 ⟨A', c', rfl, ho, hb2⟩
    have HO := Lib.hid (And.intro ho (bon hb01 hb2))
    clear ho
    go_wp2_with fail
    go_ret2
    rw [HE.out]
    exact ⟨A', c', rfl, HO.out.1.less hb01.size, HO.out.2⟩

set_option maxRecDepth 100000 in
set_option maxHeartbeats 4000000 in
theorem implOpn_c (A0 : Option Addr) (n0 c0 : Nat) (t0 : List (Int × List Int)) (A1 : Option Addr) (n1 c1 : Nat) (t1 : List (Int × List Int)) (A2 : Option Addr) (n2 c2 : Nat) (t2 : List (Int × Int)) (A3 : Option Addr) (n3 c3 : Nat) (t3 : List P2) (w : World) (h0 : InTS w w.heap.size A0 n0 t0) (h1 : InTS w w.heap.size A1 n1 t1) (h2 : InC w w.heap.size A2 n2 t2) (h3 : InP2 w w.heap.size A3 n3 t3) (hn0 : n0 ≤ 1048576) (he0 : totT t0 ≤ 1048576) (hn1 : n1 ≤ 1048576) (he1 : totT t1 ≤ 1048576) (hn2 : n2 ≤ 1048576) (hn3 : n3 ≤ 1048576) (he3 : totP2 t3 ≤ 1048576) (hT : TabZ w) :
    Calls Tryz.prog 16 #[.agg #[.slice A0 n0 c0, .slice A1 n1 c1, .slice A2 n2 c2, .slice A3 n3 c3]] w fun e w' => ∃ A' c', e = .returned (.tuple #[.slice A' (opnR t0 t1 t2 t3).1.length c', .bool (opnR t0 t1 t2 t3).2]) ∧ OwnL w' w.heap.size w'.heap.size A' (opnR t0 t1 t2 t3).1.length c' (opnR t0 t1 t2 t3).1 ∧ Below w.heap.size w w' := by
  have hmf : ∀ (fn : Fn) (first cap : Array Value) (w : World), (Instr.makeFunc fn first cap).run Tryz.prog w = .ok (.func fn first cap) w := fun _ _ _ _ => rfl
  have hb0 := bnew w (.cells #[.slice A0 n0 c0, .slice A1 n1 c1, .slice A2 n2 c2, .slice A3 n3 c3] 35)
  have hP : BlkIs (w.alloc (.cells #[.slice A0 n0 c0, .slice A1 n1 c1, .slice A2 n2 c2, .slice A3 n3 c3] 35)) w.heap.size 35 #[.slice A0 n0 c0, .slice A1 n1 c1, .slice A2 n2 c2, .slice A3 n3 c3] := blk_new _ _ _ _ rfl
  have hca := implAnn_c A0 n0 c0 t0 A1 n1 c1 t1 A2 n2 c2 t2 A3 n3 c3 t3 _ ((h0.next hb0 (Nat.le_refl _)).more hb0.size) ((h1.next hb0 (Nat.le_refl _)).more hb0.size) ((h2.next hb0 (Nat.le_refl _)).more hb0.size) ((h3.next hb0 (Nat.le_refl _)).more hb0.size) hn0 he0 hn1 he1 hn2 hn3 he3
  have p0 : (w.alloc (.cells #[.slice A0 n0 c0, .slice A1 n1 c1, .slice A2 n2 c2, .slice A3 n3 c3] 35)).cell? ⟨w.heap.size, 0, none⟩ = some (.slice A0 n0 c0) := hP.cell 0
  have p1 : (w.alloc (.cells #[.slice A0 n0 c0, .slice A1 n1 c1, .slice A2 n2 c2, .slice A3 n3 c3] 35)).cell? ⟨w.heap.size, 1, none⟩ = some (.slice A1 n1 c1) := hP.cell 1
  have p2 : (w.alloc (.cells #[.slice A0 n0 c0, .slice A1 n1 c1, .slice A2 n2 c2, .slice A3 n3 c3] 35)).cell? ⟨w.heap.size, 2, none⟩ = some (.slice A2 n2 c2) := hP.cell 2
  have p3 : (w.alloc (.cells #[.slice A0 n0 c0, .slice A1 n1 c1, .slice A2 n2 c2, .slice A3 n3 c3] 35)).cell? ⟨w.heap.size, 3, none⟩ = some (.slice A3 n3 c3) := hP.cell 3
  obtain ⟨R, HR⟩ : ∃ R, Hid (opnR t0 t1 t2 t3 = R) := ⟨_, rfl⟩
  rw [HR.out]
  cases hv : annB t0 t1 t2 t3 with
  | false =>
    have HE : Hid (R = ([], false)) := by show R = _; rw [← HR.out]; exact opnR_no hv
    rw [hv] at hca
    have H := Lib.hid hca
    clear hP h0 h1 h2 h3 hca hv
    go_enter Tryz.func16, Tryz.ntmps16
    go_wp2_with fail
    generalize w.alloc (.cells #[.slice A0 n0 c0, .slice A1 n1 c1, .slice A2 n2 c2, .slice A3 n3 c3] 35) = W at hb0 H p0 p1 p2 p3 ⊢
    refine H.out.mono ?_
    rintro e w1 ⟨rfl, hb1⟩
    go_wp2_with fail
    go_ret2
    rw [HE.out]
    exact ⟨none, 0, rfl, (ownL_nil _).less (bon hb0 hb1).size, bon hb0 hb1⟩
  | true =>
    have hlen : t2.length = n2 := h2.1
    have HE : Hid (R = (opnL t2 t3 n2, true)) := by show R = _; rw [← HR.out, opnR_yes hv, hlen]
    rw [hv] at hca
    have H := Lib.hid hca
    have HV := Lib.hid hv
    have HI := Lib.hid (And.intro h2 h3)
    have hn80 : 1 ≤ n2 ∧ n2 ≤ 80 := by have := codeB_parts (annB_parts hv).1; omega
    have HLEN := Lib.hid hlen
    have HCL : Hid ((bitsL (cirN (wmN (gN t2 (atsP t3)) n2 n2) n2)).map (fun (i : Nat) => (i : Int)) = opnL t2 t3 n2) := by
      have := cir_list (xs := t2) (ps := t3) (annB_parts hv).1
      rw [hlen] at this; exact this
    have HGL := Lib.hid (gN_lt (xs := t2) (by omega) (atsP t3))
    have HX := Lib.hid hP
    clear h0 h1 h2 h3 hca hv hlen hP
    go_enter Tryz.func16, Tryz.ntmps16
    go_wp2_with fail
    generalize w.alloc (.cells #[.slice A0 n0 c0, .slice A1 n1 c1, .slice A2 n2 c2, .slice A3 n3 c3] 35) = W at hb0 HX H p0 p1 p2 p3 ⊢
    refine H.out.mono ?_
    rintro e w1 ⟨rfl, hb1⟩
    have hb01 := bon hb0 hb1
    have hX1 := HX.out.next hb1
    have p0 : w1.cell? ⟨w.heap.size, 0, none⟩ = some (.slice A0 n0 c0) := hX1.cell 0
    have p1 : w1.cell? ⟨w.heap.size, 1, none⟩ = some (.slice A1 n1 c1) := hX1.cell 1
    have p2 : w1.cell? ⟨w.heap.size, 2, none⟩ = some (.slice A2 n2 c2) := hX1.cell 2
    have p3 : w1.cell? ⟨w.heap.size, 3, none⟩ = some (.slice A3 n3 c3) := hX1.cell 3
    have HGR := Lib.hid (graphOf_c A0 n0 c0 t0 A1 n1 c1 t1 A2 n2 c2 w.heap.size t2 A3 n3 c3 t3 w1 (HI.out.1.next hb01 (Nat.le_refl _)) (HI.out.2.next hb01 (Nat.le_refl _)) hb01.size HV.out)
    clear hX1 HX H
    go_wp2_with fail
    refine HGR.out.mono ?_
    rintro e w2 ⟨gb, rfl, hgb, hG, hb2⟩
    have HCI := Lib.hid (circles_c gb n2 n2 (gN t2 (atsP t3)) w2 hG HGL.out hn80)
    obtain ⟨S, hS⟩ : ∃ S, Hid (cirN (wmN (gN t2 (atsP t3)) n2 n2) n2 = S) := ⟨_, rfl⟩
    have hS128 : S < 2 ^ 128 := by rw [← hS.out]; exact cirN_lt _ _ (by omega)
    have HS128 := Lib.hid hS128
    rw [hS.out] at HCI HCL
    have HB2 := Lib.hid (bon hb01 hb2)
    clear hG hS128 hgb hb2
    go_wp2_with fail
    refine HCI.out.mono ?_
    rintro e w3 ⟨rfl, hb3⟩
    have HB3 := Lib.hid (bon HB2.out hb3)
    have hco := collect_c S w3 HS128.out (hT.next HB3.out)
    rw [HCL.out] at hco
    have HCO := Lib.hid hco
    clear hco hb3
    go_wp2_with fail
    refine HCO.out.mono ?_
    rintro e w4 ⟨A', c', rfl, ho, hb4⟩
    have HO := Lib.hid (And.intro ho (bon HB3.out hb4))
    clear ho hb4
    go_wp2_with fail
    go_ret2
    rw [HE.out]
    exact ⟨A', c', rfl, HO.out.1.less HB3.out.size, HO.out.2⟩
end Go.Proofs.YtffkdidgfeknkaaGreatDoor
