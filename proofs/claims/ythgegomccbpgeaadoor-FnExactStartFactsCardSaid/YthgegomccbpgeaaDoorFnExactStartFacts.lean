/-
  For every program and start the program's StartFacts answers as the model's, leaves the program as it was, and gives memory of its own.
  Conditions: those that the card itself bears (the tables that the program's text lays).
-/
import Derived.Test.YthgegomccbpgeaaDoorRows
import Derived.WalkKit
import Derived.ProofKit
import Derived.OpenShut
import Derived.ShutString
import Derived.ChangeOld
import Derived.Below
import Derived.WalkSmall
import Derived.Test.YthgegomccbpgeaaDoorTms
import Derived.Test.YthgegomccbpgeaaDoorCards
import Derived.Test.YthgegomccbpgeaaDoorTie
import Derived.ChangeSame
import Derived.ChangeVars
import Derived.OpenVars
import Derived.JoinedOf
import Derived.RowKit
import Derived.RowKitTokens
import Derived.LaidLaws
import Derived.LaidHandle
import Derived.Stop.LaidErr
import Derived.Stop.Joined
import Derived.SevenTiedAt
import Derived.Test.YthgegomccbpgeaaDoorTabE
import Derived.Test.YthgegomccbpgeaaDoorPgmM
import Derived.Test.YthgegomccbpgeaaDoorFactO
namespace Go.Proofs.YthgegomccbpgeaaDoor.fnExactStartFacts
open Go.ChangeShapes Go.WideShapes Go.ChangeAt Go.RowKit
open Go.ChangeMaps (open_string shut_string)
set_option linter.unusedVariables false

theorem own : ownKnob Tryd.prog.godebug = none := by kernel_rfl
theorem laidOut : laidOutB Tryd.prog = true := by kernel_rfl


set_option maxRecDepth 100000 in
set_option maxHeartbeats 4000000 in
theorem walk (A0 : Option Addr) (n0 cap0 : Nat) (t0 : List (Int × List Int)) (D0 : Option Addr) (m0 dap0 : Nat) (x0 : List S8) (E0 : Option Addr) (q0 eap0 : Nat) (u0 : List (Int × List Int)) (i1 : Int) (w : World) (hT : TabE w) (h0max : n0 ≤ maxLen) (h0t : InTS w w.heap.size A0 n0 t0) (h0each : ∀ t ∈ t0, t.2.length ≤ maxLen) (h0bmax : m0 ≤ maxLen) (h0b : InST w w.heap.size D0 m0 x0) (h0beach : ∀ y ∈ x0, y.fits) (h0qmax : q0 ≤ maxLen) (h0q : InTS w w.heap.size E0 q0 u0) (h0qeach : ∀ t ∈ u0, t.2.length ≤ maxLen) (h1wf : (Lit.int .i64 i1).wf = true) :
    Calls Tryd.prog 3 #[.agg #[.slice A0 n0 cap0, .slice D0 m0 dap0, .slice E0 q0 eap0], .int .i64 i1] w fun e w' => e = .returned (.bool true) ∧ Below w.heap.size w w' := by
  have hin : PIn w w.heap.size A0 n0 t0 D0 m0 x0 E0 q0 u0 := ⟨h0t, h0b, h0q⟩
  have hb1 := bnew w (.cells #[.slice A0 n0 cap0, .slice D0 m0 dap0, .slice E0 q0 eap0] 25)
  have hP : BlkIs (w.alloc (.cells #[.slice A0 n0 cap0, .slice D0 m0 dap0, .slice E0 q0 eap0] 25)) w.heap.size 25 #[.slice A0 n0 cap0, .slice D0 m0 dap0, .slice E0 q0 eap0] := blk_new _ _ _ _ rfl
  have HSZ0 := szProgram_k A0 n0 cap0 t0 D0 m0 dap0 x0 E0 q0 eap0 w.heap.size u0 1048576 _ (h0t.next hb1 (Nat.le_refl _)) (h0b.next hb1 (Nat.le_refl _)) (h0q.next hb1 (Nat.le_refl _)) hb1.size (by omega) (by omega) h0max h0each h0bmax h0beach h0qmax h0qeach
  clear h0t h0b h0q h0each h0beach h0qeach
  by_cases hn : progN n0 t0 m0 x0 q0 u0 ≤ 1048576
  · rw [szv_yes (by omega)] at HSZ0
    obtain ⟨L, hL⟩ : ∃ L : Int, (1048576 : Int) - ((progN n0 t0 m0 x0 q0 u0 : Nat) : Int) = L := ⟨_, rfl⟩
    rw [hL] at HSZ0
    have hL0 : 0 ≤ L := by omega
    have HSZ := Lib.hid HSZ0
    have HIN := Lib.hid hin
    have HN := Lib.hid hn
    have HTT := Lib.hid hT
    obtain ⟨zs, HZ⟩ : ∃ z, Hid ((startR t0 x0 u0 i1).1 = z) := ⟨_, rfl⟩
    obtain ⟨ok, HK⟩ : ∃ z, Hid ((startR t0 x0 u0 i1).2 = z) := ⟨_, rfl⟩
    have hsm : zs.length ≤ 6 ∧ totT zs ≤ 24 := by
      rw [← HZ.out]
      cases hok : (startR t0 x0 u0 i1).2 with
      | true =>
        have h := start_small hok
        have h2 := totT_small (fun t ht => (h.2 t ht).2)
        exact ⟨h.1, by omega⟩
      | false =>
        unfold startR at hok ⊢
        split at hok
        · cases hok
        · rename_i hc
          rw [if_neg hc]
          exact ⟨by simp, by simp [totT]⟩
    obtain ⟨hzl, hzt⟩ := hsm
    have HSP : Hid (∀ (W : World) (a b d : Nat), PIn W W.heap.size (some ⟨a, 0, none⟩) n0 t0 (some ⟨b, 0, none⟩) m0 x0 (some ⟨d, 0, none⟩) q0 u0 → Calls Tryd.prog 5 #[.agg #[.slice (some ⟨a, 0, none⟩) n0 n0, .slice (some ⟨b, 0, none⟩) m0 m0, .slice (some ⟨d, 0, none⟩) q0 q0], .int .i64 i1] W fun e w' => ∃ A1 c1, e = .returned (.tuple #[.slice A1 zs.length c1, .bool ok]) ∧ InTS w' w'.heap.size A1 zs.length zs ∧ Below W.heap.size W w') := fun W a b d h => by
      have h1 := specStart_c (some ⟨a, 0, none⟩) n0 n0 t0 (some ⟨b, 0, none⟩) m0 m0 x0 (some ⟨d, 0, none⟩) q0 q0 W.heap.size u0 i1 W h (Nat.le_refl _) hn
      rw [HZ.out, HK.out] at h1
      exact h1
    have HIP : Hid (∀ (W : World) (a b d : Nat), TabE W → PIn W W.heap.size (some ⟨a, 0, none⟩) n0 t0 (some ⟨b, 0, none⟩) m0 x0 (some ⟨d, 0, none⟩) q0 u0 → Calls Tryd.prog 7 #[.agg #[.slice (some ⟨a, 0, none⟩) n0 n0, .slice (some ⟨b, 0, none⟩) m0 m0, .slice (some ⟨d, 0, none⟩) q0 q0], .int .i64 i1] W fun e w' => ∃ A1 c1, e = .returned (.tuple #[.slice A1 zs.length c1, .bool ok]) ∧ OwnTS w' W.heap.size w'.heap.size A1 zs.length c1 zs ∧ Below W.heap.size W w') := fun W a b d hT' h => by
      have h1 := startFacts_o (some ⟨a, 0, none⟩) n0 n0 t0 (some ⟨b, 0, none⟩) m0 m0 x0 (some ⟨d, 0, none⟩) q0 q0 W.heap.size u0 i1 W hT' h (Nat.le_refl _) hn
      rw [HZ.out, HK.out] at h1
      exact h1
    have HTW := Lib.hid (hT.next hb1)
    have HINW := Lib.hid (hin.next hb1 (Nat.le_refl _))
    clear hL HSZ0 hin hn hT h0max h0bmax h0qmax HTT HIN HZ HK
    go_enter Tryd.func3, Tryd.ntmps3
    go_wp2_with fail
    generalize w.alloc (.cells #[.slice A0 n0 cap0, .slice D0 m0 dap0, .slice E0 q0 eap0] 25) = W at hb1 hP HSZ HTW HINW ⊢
    have hs1 := hb1.size
    have hPl := hP.lt
    have HP := Lib.hid hP
    refine HSZ.out.mono ?_
    rintro e w1 ⟨rfl, hB1⟩
    have hz1 := hB1.size
    have a0 : w1.cell? ⟨w.heap.size, 0, none⟩ = some (.slice A0 n0 cap0) := (HP.out.next hB1).cell 0
    have a1 : w1.cell? ⟨w.heap.size, 1, none⟩ = some (.slice D0 m0 dap0) := (HP.out.next hB1).cell 1
    have a2 : w1.cell? ⟨w.heap.size, 2, none⟩ = some (.slice E0 q0 eap0) := (HP.out.next hB1).cell 2
    clear HSZ hP
    go_wp2_with fail
    refine (toProgram_m A0 n0 cap0 t0 D0 m0 dap0 x0 E0 q0 eap0 w.heap.size u0 w1 (HINW.out.next hB1 hs1) (by omega) HN.out).mono ?_
    rintro e w2 ⟨g1, g2, g3, k1, k2, rfl, o1, o2, o3, ⟨i1, i2, i3⟩, hb3⟩
    have hB2 := bon hB1 hb3
    have hz2 := hb3.size
    have HS := Lib.hid (HSP.out w2 g1 g2 g3 ⟨o1.all, o2.own.all, o3.all⟩)
    clear o1 o2 o3 i1 i2 i3 a0 a1 a2 HSP
    go_wp2_with fail
    refine HS.out.mono ?_
    rintro e w3 ⟨A1, c1, rfl, ow, hb4⟩
    have hB3 := bon hB2 hb4
    have hz3 := hb4.size
    have IW := Lib.hid (show InTS w3 w3.heap.size A1 zs.length zs from ow)
    have a0 : w3.cell? ⟨w.heap.size, 0, none⟩ = some (.slice A0 n0 cap0) := (HP.out.next hB3).cell 0
    have a1 : w3.cell? ⟨w.heap.size, 1, none⟩ = some (.slice D0 m0 dap0) := (HP.out.next hB3).cell 1
    have a2 : w3.cell? ⟨w.heap.size, 2, none⟩ = some (.slice E0 q0 eap0) := (HP.out.next hB3).cell 2
    clear HS ow
    go_wp2_with fail
    refine (toProgram_m A0 n0 cap0 t0 D0 m0 dap0 x0 E0 q0 eap0 w.heap.size u0 w3 (HINW.out.next hB3 hs1) (by omega) HN.out).mono ?_
    rintro e w4 ⟨g1, g2, g3, k1, k2, rfl, o1, o2, o3, hkk, hb5⟩
    have hB4 := bon hB3 hb5
    have hz4 := hb5.size
    have hb6 := bnew w4 (.cells #[.slice (some ⟨g1, 0, none⟩) n0 n0, .slice (some ⟨g2, 0, none⟩) m0 m0, .slice (some ⟨g3, 0, none⟩) q0 q0] 32)
    have hX : BlkIs (w4.alloc (.cells #[.slice (some ⟨g1, 0, none⟩) n0 n0, .slice (some ⟨g2, 0, none⟩) m0 m0, .slice (some ⟨g3, 0, none⟩) q0 q0] 32)) w4.heap.size 32 #[.slice (some ⟨g1, 0, none⟩) n0 n0, .slice (some ⟨g2, 0, none⟩) m0 m0, .slice (some ⟨g3, 0, none⟩) q0 q0] := blk_new _ _ _ _ rfl
    have HI := Lib.hid (HIP.out (w4.alloc (.cells #[.slice (some ⟨g1, 0, none⟩) n0 n0, .slice (some ⟨g2, 0, none⟩) m0 m0, .slice (some ⟨g3, 0, none⟩) q0 q0] 32)) g1 g2 g3 (HTW.out.next (bon hB4 hb6)) ((show PIn w4 w4.heap.size (some ⟨g1, 0, none⟩) n0 t0 (some ⟨g2, 0, none⟩) m0 x0 (some ⟨g3, 0, none⟩) q0 u0 from ⟨o1.all, o2.own.all, o3.all⟩).next hb6 (Nat.le_refl _) |>.more hb6.size))
    have O1 := Lib.hid o1
    have O2 := Lib.hid o2
    have O3 := Lib.hid o3
    have HX := Lib.hid hX
    clear o1 o2 o3 a0 a1 a2 hX
    go_wp2_with fail
    generalize w4.alloc (.cells #[.slice (some ⟨g1, 0, none⟩) n0 n0, .slice (some ⟨g2, 0, none⟩) m0 m0, .slice (some ⟨g3, 0, none⟩) q0 q0] 32) = w5 at hb6 HX HI ⊢
    have hB5 := bon hB4 hb6
    have hz5 := hb6.size
    have hxl := HX.out.lt
    refine HI.out.mono ?_
    rintro e w6 ⟨A2, c2, rfl, og, hb7⟩
    have hB6 := bon hB5 hb7
    have hz6 := hb7.size
    have OG := Lib.hid og
    have IW6 := Lib.hid (IW.out.next (bon hb5 (bon hb6 hb7)) (Nat.le_refl _))
    clear HI og
    go_wp2_with fail
    refine (eqTermS_k A2 A1 zs.length c2 c1 w6.heap.size w3.heap.size zs w6 OG.out.inn IW6.out (Nat.le_refl _) (by omega) (by omega) (by omega)).mono ?_
    rintro e w7 ⟨rfl, hb8⟩
    have hB7 := bon hB6 hb8
    have hz7 := hb8.size
    have hb57 := bon hb7 hb8
    have a0 : w7.cell? ⟨w.heap.size, 0, none⟩ = some (.slice A0 n0 cap0) := (HP.out.next hB7).cell 0
    have a1 : w7.cell? ⟨w.heap.size, 1, none⟩ = some (.slice D0 m0 dap0) := (HP.out.next hB7).cell 1
    have a2 : w7.cell? ⟨w.heap.size, 2, none⟩ = some (.slice E0 q0 eap0) := (HP.out.next hB7).cell 2
    have y0 : w7.cell? ⟨w4.heap.size, 0, none⟩ = some (.slice (some ⟨g1, 0, none⟩) n0 n0) := (HX.out.next hb57).cell 0
    have y1 : w7.cell? ⟨w4.heap.size, 1, none⟩ = some (.slice (some ⟨g2, 0, none⟩) m0 m0) := (HX.out.next hb57).cell 1
    have y2 : w7.cell? ⟨w4.heap.size, 2, none⟩ = some (.slice (some ⟨g3, 0, none⟩) q0 q0) := (HX.out.next hb57).cell 2
    clear IW6
    go_wp2_with fail
    have hb47 := bon hb6 hb57
    have HX7 := Lib.hid ((show PIn w4 w4.heap.size (some ⟨g1, 0, none⟩) n0 t0 (some ⟨g2, 0, none⟩) m0 x0 (some ⟨g3, 0, none⟩) q0 u0 from ⟨O1.out.all, O2.out.own.all, O3.out.all⟩).next hb47 (Nat.le_refl _))
    have HT := Lib.hid (toProgram_m A0 n0 cap0 t0 D0 m0 dap0 x0 E0 q0 eap0 w.heap.size u0 w7.drew (show PIn w7.drew w.heap.size A0 n0 t0 D0 m0 x0 E0 q0 u0 from HINW.out.next ((Below.refl W.heap.size W).drew.trans ⟨hB7.os, hB7.tape, hB7.output, hB7.size, hB7.block⟩) hs1) (show _ ≤ w7.heap.size by omega) HN.out)
    have HE : Hid (∀ w8 h1 h2 h3 j1 j2, Below w7.drew.heap.size w7.drew w8 → OwnTS w8 w7.drew.heap.size j1 (some ⟨h1, 0, none⟩) n0 n0 t0 → OwnSM w8 j1 j2 (some ⟨h2, 0, none⟩) m0 m0 x0 → OwnTS w8 j2 w8.heap.size (some ⟨h3, 0, none⟩) q0 q0 u0 → Calls Tryd.prog 9 #[.agg #[.slice (some ⟨g1, 0, none⟩) n0 n0, .slice (some ⟨g2, 0, none⟩) m0 m0, .slice (some ⟨g3, 0, none⟩) q0 q0], .agg #[.slice (some ⟨h1, 0, none⟩) n0 n0, .slice (some ⟨h2, 0, none⟩) m0 m0, .slice (some ⟨h3, 0, none⟩) q0 q0]] w8 fun e w' => e = .returned (.bool true) ∧ Below w8.heap.size w8 w') :=
      fun w8 h1 h2 h3 j1 j2 hb o1 o2 o3 => eqProgram_k (some ⟨g1, 0, none⟩) (some ⟨h1, 0, none⟩) n0 n0 n0 t0 (some ⟨g2, 0, none⟩) (some ⟨h2, 0, none⟩) m0 m0 m0 x0 (some ⟨g3, 0, none⟩) (some ⟨h3, 0, none⟩) q0 q0 q0 u0 w4.heap.size w8.heap.size w8 (HX7.out.next (bstep hb) (by omega)) ⟨o1.all, o2.own.all, o3.all⟩ (Nat.le_trans (by omega) (bstep hb).size) (Nat.le_refl _) HN.out
    go_region_held3 (fun w' => w'.cell? ⟨w.heap.size, 0, none⟩ = some (.slice A0 n0 cap0) ∧ w'.cell? ⟨w.heap.size, 1, none⟩ = some (.slice D0 m0 dap0) ∧ w'.cell? ⟨w.heap.size, 2, none⟩ = some (.slice E0 q0 eap0) ∧ w'.cell? ⟨w4.heap.size, 0, none⟩ = some (.slice (some ⟨g1, 0, none⟩) n0 n0) ∧ w'.cell? ⟨w4.heap.size, 1, none⟩ = some (.slice (some ⟨g2, 0, none⟩) m0 m0) ∧ w'.cell? ⟨w4.heap.size, 2, none⟩ = some (.slice (some ⟨g3, 0, none⟩) q0 q0))
      (first | go_keep | exact ⟨cell_on a0 hb9, cell_on a1 hb9, cell_on a2 hb9, cell_on y0 hb9, cell_on y1 hb9, cell_on y2 hb9⟩ | exact ⟨cell_on2 a0 hb9 hb10, cell_on2 a1 hb9 hb10, cell_on2 a2 hb9 hb10, cell_on2 y0 hb9 hb10, cell_on2 y1 hb9 hb10, cell_on2 y2 hb9 hb10⟩ | fail)
      (first | (go_at_call 6; refine HT.out.mono ?_; rintro e w8 ⟨h1, h2, h3, j1, j2, rfl, o1, o2, o3, _, hb9⟩) | (go_at_call 9; refine (HE.out _ _ _ _ _ _ hb9 o1 o2 o3).mono ?_; rintro e w9 ⟨rfl, hb10⟩) | fail)
    have hb79 := bon (bstep hb9) hb10
    have hB9 := bon hB7 hb79
    have hz9 := hb79.size
    have hb49 := bon hb47 hb79
    have hb59 := bon hb57 hb79
    have y0 : w9.cell? ⟨w4.heap.size, 0, none⟩ = some (.slice (some ⟨g1, 0, none⟩) n0 n0) := (HX.out.next hb59).cell 0
    have y1 : w9.cell? ⟨w4.heap.size, 1, none⟩ = some (.slice (some ⟨g2, 0, none⟩) m0 m0) := (HX.out.next hb59).cell 1
    have y2 : w9.cell? ⟨w4.heap.size, 2, none⟩ = some (.slice (some ⟨g3, 0, none⟩) q0 q0) := (HX.out.next hb59).cell 2
    have HM := Lib.hid (markProgram_w w3.heap.size k1 k2 w4.heap.size (some ⟨g1, 0, none⟩) n0 n0 t0 (some ⟨g2, 0, none⟩) m0 m0 x0 (some ⟨g3, 0, none⟩) q0 q0 u0 1 w9 (O1.out.next hb49) (O2.out.next hb49) (O3.out.next hb49) hkk HN.out (by omega) (by omega))
    have hb69 := bon hb8 hb79
    have OG9 := Lib.hid (OG.out.next hb69)
    have IW9 := Lib.hid (IW.out.next (bon hb5 hb49) (Nat.le_refl _))
    clear HT HE HX7 o1 o2 o3 a0 a1 a2 hb9 hb10 O1 O2 O3 HX
    go_wp2_with fail
    refine HM.out.mono ?_
    rintro e w10 ⟨⟨r, rfl, hr0⟩, ho⟩
    have hz10 := ho.size
    have hB10 : Below W.heap.size W w10 := hB9.trans (ho.below (by omega) (by omega))
    have OG10 := Lib.hid (OG9.out.out ho (by omega))
    have IW10 := Lib.hid (IW9.out.next (ho.below (Nat.le_refl _) (by omega)) (Nat.le_refl _))
    have r1 : ¬ r < 0 := by omega
    clear HM y0 y1 y2 OG9 IW9
    go_wp2_with fail
    refine (eqTermS_k A2 A1 zs.length c2 c1 w6.heap.size w3.heap.size zs w10 OG10.out.inn IW10.out (by omega) (by omega) (by omega) (by omega)).mono ?_
    rintro e w11 ⟨rfl, hb11⟩
    have hz11 := hb11.size
    have hB11 := bon hB10 hb11
    have HMK := Lib.hid (markTermS_o w5.heap.size w6.heap.size A2 zs.length c2 zs 1 w11 (OG10.out.next hb11) (by omega) (by omega) (by omega) (by omega))
    have IW11 := Lib.hid (IW10.out.next hb11 (by omega))
    clear OG10 IW10
    go_wp2_with fail
    refine HMK.out.mono ?_
    rintro e w12 ⟨rfl, og2, ho2⟩
    have hz12 := ho2.size
    have hB12 : Below W.heap.size W w12 := hB11.trans (ho2.below (by omega) (by omega))
    have IW12 := Lib.hid (IW11.out.next (ho2.below (B := w3.heap.size) (by omega) (by omega)) (Nat.le_refl _))
    have HH := Lib.hid (heldTermS_k A2 zs.length c2 w6.heap.size zs 1 w12 og2.inn (by omega) (by omega) (by omega) (by omega) (by omega))
    have OG12 := Lib.hid og2
    clear HMK og2 IW11
    go_wp2_with fail
    refine HH.out.mono ?_
    rintro e w13 ⟨rfl, hb13⟩
    have hz13 := hb13.size
    have hB13 := bon hB12 hb13
    have r2 : ¬ (1 : Int) + ((zs.length + totT zs : Nat) : Int) < 0 := by omega
    have r3 : ¬ (1 : Int) + ((zs.length : Int) + (totT zs : Int)) < 0 := by omega
    have a0 : w13.cell? ⟨w.heap.size, 0, none⟩ = some (.slice A0 n0 cap0) := (HP.out.next hB13).cell 0
    have a1 : w13.cell? ⟨w.heap.size, 1, none⟩ = some (.slice D0 m0 dap0) := (HP.out.next hB13).cell 1
    have a2 : w13.cell? ⟨w.heap.size, 2, none⟩ = some (.slice E0 q0 eap0) := (HP.out.next hB13).cell 2
    clear HH
    go_wp2_with fail
    refine (toProgram_m A0 n0 cap0 t0 D0 m0 dap0 x0 E0 q0 eap0 w.heap.size u0 w13 (HINW.out.next hB13 hs1) (by omega) HN.out).mono ?_
    rintro e w14 ⟨f1, f2, f3, k1, k2, rfl, o1, o2, o3, hkk, hb14⟩
    have hz14 := hb14.size
    have hB14 := bon hB13 hb14
    have HI := Lib.hid (HIP.out w14 f1 f2 f3 (HTW.out.next hB14) ⟨o1.all, o2.own.all, o3.all⟩)
    clear o1 o2 o3 a0 a1 a2
    go_wp2_with fail
    refine HI.out.mono ?_
    rintro e w15 ⟨A3, c3, rfl, oh, hb15⟩
    have hz15 := hb15.size
    have hB15 := bon hB14 hb15
    have hb1215 := bon hb13 (bon hb14 hb15)
    have IW15 := Lib.hid (IW12.out.next hb1215 (by omega))
    have HEQ := Lib.hid (eqTermS_k A3 A1 zs.length c3 c1 w15.heap.size w3.heap.size zs w15 oh.inn IW15.out (Nat.le_refl _) (by omega) (by omega) (by omega))
    clear HI oh
    go_wp2_with fail
    refine HEQ.out.mono ?_
    rintro e w16 ⟨rfl, hb16⟩
    have hz16 := hb16.size
    have HH2 := Lib.hid (heldTermS_k A2 zs.length c2 w6.heap.size zs 1 w16 ((OG12.out.next hb1215).next hb16).inn (by omega) (by omega) (by omega) (by omega) (by omega))
    clear HEQ IW15 OG12
    go_wp2_with fail
    refine HH2.out.mono ?_
    rintro e w17 ⟨rfl, hb17⟩
    go_wp2_with fail
    go_ret
    exact ⟨rfl, bon hb1 (hB15.trans ((bon hb16 hb17).mono (by omega)))⟩
  · rw [szv_no (by omega)] at HSZ0
    have HSZ := Lib.hid HSZ0
    clear HSZ0 hin hT
    go_enter Tryd.func3, Tryd.ntmps3
    go_wp2_with fail
    generalize w.alloc (.cells #[.slice A0 n0 cap0, .slice D0 m0 dap0, .slice E0 q0 eap0] 25) = W at hb1 hP HSZ ⊢
    refine HSZ.out.mono ?_
    rintro e w1 ⟨rfl, hb2⟩
    go_wp2_with fail
    go_ret
    exact ⟨rfl, bon hb1 hb2⟩

/-- The cells of a table. -/
def litCells : DataW Unit → List Value
  | .lit (.int k z) => [Value.int k z]
  | .lit (.bool b) => [Value.bool b]
  | _ => []
def tabCells : DataW Unit → List Value
  | .agg l => l.flatMap fun x => match x with
    | .agg r => r.flatMap litCells
    | x => litCells x
  | _ => []
/-- A world that meets the list. -/
noncomputable def laidWorld (os : Os) : World :=
  let w0 := World.holding Tryd.prog os ⟨#[], #[], []⟩
  let put (g : Nat) (d : DataW Unit) (h : Array Obj) : Array Obj := h.modify g fun
      | .cells _ t frozen => .cells (tabCells d).toArray t frozen
      | o => o
  { w0 with heap := put 0 (Rows.laid_loop_example_g01105_impl_elementForms) w0.heap }
theorem laidWorld_met (os : Os) (args : Array Value) : laidMetH Tryd.prog Rows.fnExactStartFactsRow.laid ((laidWorld os).forCall (fun _ _ => 0) ⟨#[], args, []⟩).memory :=
  laidMetH_of_parts (laidMet_of_run' 8 (by kernel_rfl) (by kernel_rfl)) (by kernel_rfl)

set_option maxRecDepth 100000 in
set_option maxHeartbeats 4000000 in
theorem lifted (os : Os) (started : os.Started) (H : Type) (enc : TypeId × Value → H) :
    ReturnsInHanded {} Tryd.checked os 3 .any (fun w args => (Rows.fnExactStartFactsSpec.pre enc Tryd.prog Tryd.f3 [] false w args ∧ laidMetH Tryd.prog Rows.fnExactStartFactsRow.laid w) ∧ sizedMet enc Tryd.prog Tryd.f3 (OpenSpec.ofChange Rows.fnExactStartFactsSpec) false w args) (Rows.fnExactStartFactsSpec.post enc Tryd.prog Tryd.f3 false true false false) := by
  refine returnsInHanded_of_change_and (C := Tryd.checked) (X := fun w _ => laidMetH Tryd.prog Rows.fnExactStartFactsRow.laid w) (fun _ _ _ hh h => h.of_heap hh) own started (by kernel_rfl) Tryd.func3
    (ChangeSpec.witness_at (enc := enc) (C := Tryd.checked) (os := os) (X := fun w _ => laidMetH Tryd.prog Rows.fnExactStartFactsRow.laid w) false (laidWorld os) #[.agg #[.slice none 0 0, .slice none 0 0, .slice none 0 0], .int .i64 0] 8 rfl (by kernel_rfl) (by kernel_rfl) (by kernel_rfl) (by kernel_rfl) (by kernel_rfl) (laidWorld_met os _)) ?_
  intro W base args ds gs before hval0 hW _ _ hL _
  have hval : ∀ (j : Nat) t v, Tryd.f3.params[j]? = some t → args[j]? = some v → Value.okWide Tryd.prog W .any base t v := hval0
  have hW' := hW
  obtain ⟨p, q, hA0, hV, rfl, hfz, hnd⟩ := hW
  have hA : DataW.TrodAll enc Tryd.prog W 0 (fun _ => true) true Tryd.f3.params.toList args.toList ds p := hA0
  rw [Tryd.params3] at hA hval
  obtain ⟨v0, vs0, d0, ds0, p0, q0, hargs, rfl, rfl, g0, r0⟩ := trodAll_cons hA
  obtain ⟨v1, vs1, d1, ds1, p1, q1, rfl, rfl, rfl, g1, r1⟩ := trodAll_cons r0
  obtain ⟨rfl, rfl, rfl⟩ := trodAll_nil r1
  obtain rfl : args = #[v0, v1] := by cases args; simp_all
  have hV2 := hV
  obtain ⟨_, _, _, _, dv, _, rfl, _⟩ := trodVars_one hV2
  clear hV2
  have k0 := g0
  have lt0 : ∀ x ∈ p0, x.block < W.heap.size := by obtain ⟨m, hm⟩ := k0; exact DataW.trod_lt m _ _ _ hm
  obtain ⟨A0, n0, cap0, t0, D0, m0, dap0, x0, E0, q0, eap0, u0, rfl, h0max, h0t, h0each, h0bmax, h0b, h0beach, h0qmax, h0q, h0qeach⟩ := program_in (hval 0 25 v0 rfl rfl) g0
  obtain ⟨i1, rfl, rfl, rfl, h1wf⟩ := open_int Tryd.underlying2 (hval 1 2 v1 rfl rfl) g1
  clear hA0 hval0
  have hg := tabE_of_laid (laid := Rows.fnExactStartFactsRow.laid) (List.mem_singleton.2 rfl) hL
  refine (walk A0 n0 cap0 t0 D0 m0 dap0 x0 E0 q0 eap0 u0 i1 W hg h0max h0t h0each h0bmax h0b h0beach h0qmax h0q h0qeach h1wf).mono fun e W' ⟨he, bel⟩ => ?_
  subst he
  exact ⟨_, rfl, _, _, _, [], _, _, hW', trodAll_mk1 (shut_bool Tryd.underlying4 _), (trodAll_cons_mk (Below.trod laidOut (by kernel_rfl) (of_decide_eq_true (by kernel_rfl)) k0 bel lt0) (trodAll_cons_mk (shut_int Tryd.underlying2 h1wf) trodAll_mk0)), Below.trodVars laidOut bel (by kernel_rfl) hV, bel.frame _, fun h => by cases h⟩

theorem said : Rows.FnExactStartFactsSaid :=
  OpenClaim.holds_of_wide 3 Tryd.f3 rfl rfl rfl rfl rfl rfl rfl ⟨rfl, rfl, rfl, rfl, rfl⟩ rfl rfl rfl rfl rfl (by kernel_rfl) Tryd.func3 (by kernel_rfl)
    (of_decide_eq_true (by kernel_rfl)) (by unfold Func.isWrapper; first | (rw [if_pos (by decide +kernel)]; kernel_rfl) | (rw [if_neg (by decide +kernel)]; exact ⟨rfl, rfl⟩))
    (fun os started H enc _ => lifted os started H enc)

/-- No parameter wants a stand-in; the program's own looks are as told: what the card asks. -/
theorem plain (f : FuncId) (fn : Func) (hf : Tryd.pinned.checked.prog.funcNamed "loop.example/g01105/laws.FnExactStartFacts" = some f) (hfn : Tryd.pinned.checked.prog.funcs[f]? = some fn) :
    false = Tryd.pinned.checked.prog.looks [] ∧ ∀ (j : Nat) t, fn.params[j]? = some t → Tryd.pinned.checked.prog.wantsStandIn t = false := by
  obtain rfl : f = 3 := Option.some.inj ((show Tryd.prog.funcNamed "loop.example/g01105/laws.FnExactStartFacts" = some 3 by kernel_rfl).symm.trans hf) |>.symm
  obtain rfl : fn = Tryd.f3 := (Option.some.inj (Tryd.func3.symm.trans hfn)).symm
  refine ⟨by kernel_rfl, fun j t ht => ?_⟩
  rw [Tryd.params3] at ht
  have hm : t = 25 ∨ t = 2 := by simpa using Array.mem_of_getElem? ht
  rcases hm with rfl | rfl
  · exact (show Tryd.prog.wantsStandIn 25 = false by kernel_rfl)
  · exact (show Tryd.prog.wantsStandIn 2 = false by kernel_rfl)

/-- The card. -/
theorem proved : Rows.FnExactStartFactsCardSaid :=
  Claim7.holds_tied_plain_at .later [] _ _ _ _ said (fun _ h => by cases h) (by kernel_rfl) (fun _ h => by cases h) fnExactStartFacts_row_tie rfl ⟨rfl, rfl⟩ (by kernel_rfl) rfl plain (by kernel_rfl)
#print axioms proved
end Go.Proofs.YthgegomccbpgeaaDoor.fnExactStartFacts
