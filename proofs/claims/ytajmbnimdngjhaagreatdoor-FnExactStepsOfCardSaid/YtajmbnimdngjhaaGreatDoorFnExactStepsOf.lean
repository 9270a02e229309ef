/-
  For every program, state and fuel the program's StepsOf answers as the model's, and leaves them as they were.
  Conditions: those that the card itself bears (the tables that the program's text lays).
-/
import Derived.Test.YtajmbnimdngjhaaGreatDoorRows
import Derived.WalkKit
import Derived.ProofKit
import Derived.OpenShut
import Derived.ShutString
import Derived.ChangeOld
import Derived.Below
import Derived.WalkSmall
import Derived.Test.YtajmbnimdngjhaaGreatDoorTms
import Derived.Test.YtajmbnimdngjhaaGreatDoorCards
import Derived.Test.YtajmbnimdngjhaaGreatDoorTie
import Derived.ChangeSame
import Derived.ChangeVars
import Derived.OpenVars
import Derived.JoinedOf
import Derived.RowKit
import Derived.RowKitTokens
import Derived.LaidLaws
import Derived.LaidHandle
import Derived.Stop.LaidErr
import Derived.Stop.Joined
import Derived.SevenTiedAt
import Derived.Test.YtajmbnimdngjhaaGreatDoorTabE
import Derived.Test.YtajmbnimdngjhaaGreatDoorBunX
import Derived.Deep.DeepCutAuto
import Derived.Deep.RegionHeld3
namespace Go.Proofs.YtajmbnimdngjhaaGreatDoor.fnExactStepsOf
open Go.ChangeShapes Go.WideShapes Go.ChangeAt Go.RowKit
open Go.ChangeMaps (open_string shut_string)
set_option linter.unusedVariables false

theorem own : ownKnob Tryz.prog.godebug = none := by kernel_rfl
theorem laidOut : laidOutB Tryz.prog = true := by kernel_rfl


set_option maxRecDepth 100000 in
set_option maxHeartbeats 4000000 in
theorem walk (A0 : Option Addr) (n0 cap0 : Nat) (t0 : List (Int × List Int)) (D0 : Option Addr) (m0 dap0 : Nat) (x0 : List S8) (E0 : Option Addr) (q0 eap0 : Nat) (u0 : List (Int × List Int)) (A1 : Option Addr) (n1 cap1 : Nat) (z1 : List Int) (B1 : Option Addr) (m1 cbp1 : Nat) (y1 : List Int) (i2 : Int) (w : World) (hT : TabE w) (h0max : n0 ≤ maxLen) (h0t : InTS w w.heap.size A0 n0 t0) (h0each : ∀ t ∈ t0, t.2.length ≤ maxLen) (h0bmax : m0 ≤ maxLen) (h0b : InST w w.heap.size D0 m0 x0) (h0beach : ∀ y ∈ x0, y.fits) (h0qmax : q0 ≤ maxLen) (h0q : InTS w w.heap.size E0 q0 u0) (h0qeach : ∀ t ∈ u0, t.2.length ≤ maxLen) (h1row : Row w w.heap.size A1 (z1.map ic)) (h1len : z1.length = n1) (h1max : n1 ≤ maxLen) (h1glen : y1.length = m1) (h1gmax : m1 ≤ maxLen) (h1grow : Row w w.heap.size B1 (y1.map ic)) (h2wf : (Lit.int .i64 i2).wf = true) :
    Calls Tryz.prog 4 #[.agg #[.slice A0 n0 cap0, .slice D0 m0 dap0, .slice E0 q0 eap0], .agg #[.slice A1 n1 cap1, .slice B1 m1 cbp1], .int .i64 i2] w fun e w' => e = .returned (.bool true) ∧ Below w.heap.size w w' := by
  have hb1 : Below w.heap.size w ((w.alloc (.cells #[.slice A0 n0 cap0, .slice D0 m0 dap0, .slice E0 q0 eap0] 25)).alloc (.cells #[.slice A1 n1 cap1, .slice B1 m1 cbp1] 28)) := bon (bnew _ _) (bnew _ _)
  have hP : BlkIs ((w.alloc (.cells #[.slice A0 n0 cap0, .slice D0 m0 dap0, .slice E0 q0 eap0] 25)).alloc (.cells #[.slice A1 n1 cap1, .slice B1 m1 cbp1] 28)) w.heap.size 25 #[.slice A0 n0 cap0, .slice D0 m0 dap0, .slice E0 q0 eap0] := (blk_new w _ _ _ rfl).next (bnew _ _)
  have hS : BlkIs ((w.alloc (.cells #[.slice A0 n0 cap0, .slice D0 m0 dap0, .slice E0 q0 eap0] 25)).alloc (.cells #[.slice A1 n1 cap1, .slice B1 m1 cbp1] 28)) (w.heap.size + 1) 28 #[.slice A1 n1 cap1, .slice B1 m1 cbp1] := blk_new _ _ _ _ (by simp)
  have hin : PIn ((w.alloc (.cells #[.slice A0 n0 cap0, .slice D0 m0 dap0, .slice E0 q0 eap0] 25)).alloc (.cells #[.slice A1 n1 cap1, .slice B1 m1 cbp1] 28)) w.heap.size A0 n0 t0 D0 m0 x0 E0 q0 u0 := (show PIn w w.heap.size A0 n0 t0 D0 m0 x0 E0 q0 u0 from ⟨h0t, h0b, h0q⟩).next hb1 (Nat.le_refl _)
  have hz : InL ((w.alloc (.cells #[.slice A0 n0 cap0, .slice D0 m0 dap0, .slice E0 q0 eap0] 25)).alloc (.cells #[.slice A1 n1 cap1, .slice B1 m1 cbp1] 28)) w.heap.size A1 n1 z1 := (show InL w w.heap.size A1 n1 z1 from ⟨h1len, h1row⟩).next hb1 (Nat.le_refl _)
  have hy : InL ((w.alloc (.cells #[.slice A0 n0 cap0, .slice D0 m0 dap0, .slice E0 q0 eap0] 25)).alloc (.cells #[.slice A1 n1 cap1, .slice B1 m1 cbp1] 28)) w.heap.size B1 m1 y1 := (show InL w w.heap.size B1 m1 y1 from ⟨h1glen, h1grow⟩).next hb1 (Nat.le_refl _)
  have HSZ0 := szProgram_k A0 n0 cap0 t0 D0 m0 dap0 x0 E0 q0 eap0 w.heap.size u0 1048576 _ hin.1 hin.2.1 hin.2.2 hb1.size (by omega) (by omega) h0max h0each h0bmax h0beach h0qmax h0qeach
  have hTW := hT.next hb1
  clear h0t h0b h0q h0each h0beach h0qeach h1len h1row h1glen h1grow hT
  by_cases hn : progN n0 t0 m0 x0 q0 u0 ≤ 1048576
  · rw [szv_yes (by omega)] at HSZ0
    obtain ⟨L, hL⟩ : ∃ L : Int, (1048576 : Int) - ((progN n0 t0 m0 x0 q0 u0 : Nat) : Int) = L := ⟨_, rfl⟩
    rw [hL] at HSZ0
    have hL0 : 0 ≤ L := by omega
    have hL1 : L ≤ 1048576 := by omega
    have HSZ := Lib.hid HSZ0
    have HSS := Lib.hid (fun (X : World) => szState_k A1 n1 cap1 B1 m1 cbp1 L X hL0 hL1 h1max h1gmax)
    have HP := Lib.hid hP
    have HSB := Lib.hid hS
    by_cases hm2 : ((n1 + m1 : Nat) : Int) ≤ L
    · obtain ⟨L2, hL2⟩ : ∃ L2 : Int, szv L (n1 + m1) = L2 := ⟨_, rfl⟩
      have hL20 : 0 ≤ L2 := by rw [← hL2, szv_yes hm2]; omega
      rw [hL2] at HSS
      have hq1 : n1 ≤ 1048576 := by omega
      have hq2 : m1 ≤ 1048576 := by omega
      have HN := Lib.hid hn
      have HTW := Lib.hid hTW
      have HINW := Lib.hid hin
      have HZW := Lib.hid hz
      have HYW := Lib.hid hy
      obtain ⟨o9, s9, r1, HRX⟩ := run_exists t0 x0 u0 z1 y1 i2
      obtain ⟨r0, HR0⟩ : ∃ r, Hid ((s9.n : Int) = r) := ⟨_, rfl⟩
      have HSP : Hid (∀ (X : World) (a b d f g : Nat), InTS X X.heap.size (some ⟨a, 0, none⟩) n0 t0 → InST X X.heap.size (some ⟨b, 0, none⟩) m0 x0 → InTS X X.heap.size (some ⟨d, 0, none⟩) q0 u0 → InL X X.heap.size (some ⟨f, 0, none⟩) n1 z1 → InL X X.heap.size (some ⟨g, 0, none⟩) m1 y1 →
          Calls Tryz.prog 21 #[.agg #[.slice (some ⟨a, 0, none⟩) n0 n0, .slice (some ⟨b, 0, none⟩) m0 m0, .slice (some ⟨d, 0, none⟩) q0 q0], .agg #[.slice (some ⟨f, 0, none⟩) n1 n1, .slice (some ⟨g, 0, none⟩) m1 m1], .int .i64 i2] X fun e w' => e = .returned (.tuple #[.int .i64 r0, .bool r1]) ∧ Below X.heap.size X w') := fun X a b d f g k1 k2 k3 k4 k5 => by
        have h1 := specSteps_c HRX (some ⟨a, 0, none⟩) n0 n0 (some ⟨b, 0, none⟩) m0 m0 (some ⟨d, 0, none⟩) q0 q0 (some ⟨f, 0, none⟩) n1 n1 (some ⟨g, 0, none⟩) m1 m1 X ⟨k1, k2, k3⟩ k4 k5 hn hq1 hq2 (Nat.le_refl _)
        rw [HR0.out] at h1
        exact h1
      have HIP : Hid (∀ (X : World) (a b d f g : Nat), TabE X → PIn X X.heap.size (some ⟨a, 0, none⟩) n0 t0 (some ⟨b, 0, none⟩) m0 x0 (some ⟨d, 0, none⟩) q0 u0 → InL X X.heap.size (some ⟨f, 0, none⟩) n1 z1 → InL X X.heap.size (some ⟨g, 0, none⟩) m1 y1 →
          Calls Tryz.prog 22 #[.agg #[.slice (some ⟨a, 0, none⟩) n0 n0, .slice (some ⟨b, 0, none⟩) m0 m0, .slice (some ⟨d, 0, none⟩) q0 q0], .agg #[.slice (some ⟨f, 0, none⟩) n1 n1, .slice (some ⟨g, 0, none⟩) m1 m1], .int .i64 i2] X fun e w' => e = .returned (.tuple #[.int .i64 r0, .bool r1]) ∧ Below X.heap.size X w') := fun X a b d f g kT k1 k4 k5 => by
        have h1 := implSteps_c HRX (some ⟨a, 0, none⟩) n0 n0 (some ⟨b, 0, none⟩) m0 m0 (some ⟨d, 0, none⟩) q0 q0 (some ⟨f, 0, none⟩) n1 n1 (some ⟨g, 0, none⟩) m1 m1 X k1 k4 k5 hn hq1 hq2 (Nat.le_refl _) kT
        rw [HR0.out] at h1
        exact h1
      clear hL HSZ0 hin hz hy hn hTW hP hS h0max h0bmax h0qmax h1max h1gmax hL2 hm2 HR0 HRX
      go_enter Tryz.func4, Tryz.ntmps4
      go_wp2_with fail
      generalize ((w.alloc (.cells #[.slice A0 n0 cap0, .slice D0 m0 dap0, .slice E0 q0 eap0] 25)).alloc (.cells #[.slice A1 n1 cap1, .slice B1 m1 cbp1] 28)) = W at hb1 HP HSB HSZ HTW HINW HZW HYW ⊢
      have hs1 := hb1.size
      refine HSZ.out.mono ?_
      rintro e w1 ⟨rfl, hB1⟩
      have hz1 := hB1.size
      have c0 : w1.cell? ⟨w.heap.size + 1, 0, none⟩ = some (.slice A1 n1 cap1) := (HSB.out.next hB1).cell 0
      have c1 : w1.cell? ⟨w.heap.size + 1, 1, none⟩ = some (.slice B1 m1 cbp1) := (HSB.out.next hB1).cell 1
      clear HSZ
      go_wp2_with fail
      refine (HSS.out w1).mono ?_
      rintro e w2 ⟨rfl, hb2⟩
      have hB2 := bon hB1 hb2
      have hz2' := hb2.size
      have a0 : w2.cell? ⟨w.heap.size, 0, none⟩ = some (.slice A0 n0 cap0) := (HP.out.next hB2).cell 0
      have a1 : w2.cell? ⟨w.heap.size, 1, none⟩ = some (.slice D0 m0 dap0) := (HP.out.next hB2).cell 1
      have a2 : w2.cell? ⟨w.heap.size, 2, none⟩ = some (.slice E0 q0 eap0) := (HP.out.next hB2).cell 2
      have c0 : w2.cell? ⟨w.heap.size + 1, 0, none⟩ = some (.slice A1 n1 cap1) := (HSB.out.next hB2).cell 0
      have c1 : w2.cell? ⟨w.heap.size + 1, 1, none⟩ = some (.slice B1 m1 cbp1) := (HSB.out.next hB2).cell 1
      clear HSS
      go_wp2_with fail
      go_cut [8, 9] (fun s8 s9 wx => s8 = .int .i64 r0 ∧ s9 = .bool r1 ∧ Below w2.heap.size w2 wx)
      case first =>
        have HTP := Lib.hid (fun (x : World) (h : Below w2.drew.heap.size w2.drew x) => toProgram_k A0 n0 cap0 t0 D0 m0 dap0 x0 E0 q0 eap0 w.heap.size u0 x (HINW.out.next (hB2.trans ((bstep h).mono hB2.size)) hs1) (Nat.le_trans (show w.heap.size ≤ w2.heap.size by omega) (bstep h).size) HN.out)
        have HTS := Lib.hid (fun (x : World) (h : Below w2.drew.heap.size w2.drew x) => toState_k A1 n1 cap1 w.heap.size z1 B1 m1 cbp1 y1 x (HZW.out.next (hB2.trans ((bstep h).mono hB2.size)) hs1) (HYW.out.next (hB2.trans ((bstep h).mono hB2.size)) hs1) (Nat.le_trans (show w.heap.size ≤ w2.heap.size by omega) (bstep h).size) hq1 hq2)
        go_region_held3 (fun w' => w'.cell? ⟨w.heap.size, 0, none⟩ = some (.slice A0 n0 cap0) ∧ w'.cell? ⟨w.heap.size, 1, none⟩ = some (.slice D0 m0 dap0) ∧ w'.cell? ⟨w.heap.size, 2, none⟩ = some (.slice E0 q0 eap0) ∧ w'.cell? ⟨w.heap.size + 1, 0, none⟩ = some (.slice A1 n1 cap1) ∧ w'.cell? ⟨w.heap.size + 1, 1, none⟩ = some (.slice B1 m1 cbp1))
          (first | go_keep | exact ⟨cell_on a0 (by with_reducible repeat' (first | exact Below.refl _ _ | refine bon ?_ hbp | refine bon ?_ hbs | refine bon ?_ hbh | fail)), cell_on a1 (by with_reducible repeat' (first | exact Below.refl _ _ | refine bon ?_ hbp | refine bon ?_ hbs | refine bon ?_ hbh | fail)), cell_on a2 (by with_reducible repeat' (first | exact Below.refl _ _ | refine bon ?_ hbp | refine bon ?_ hbs | refine bon ?_ hbh | fail)), cell_on c0 (by with_reducible repeat' (first | exact Below.refl _ _ | refine bon ?_ hbp | refine bon ?_ hbs | refine bon ?_ hbh | fail)), cell_on c1 (by with_reducible repeat' (first | exact Below.refl _ _ | refine bon ?_ hbp | refine bon ?_ hbs | refine bon ?_ hbh | fail))⟩ | fail)
          (first | (go_at_call 10; with_reducible refine (HTP.out _ (by with_reducible repeat' (first | exact Below.refl _ _ | refine bon ?_ hbp | refine bon ?_ hbs | refine bon ?_ hbh | fail))).mono ?_; rintro e vp ⟨g1, g2, g3, k1, k2, rfl, o1, o2, o3, hkk, hbp⟩) | (go_at_call 11; with_reducible refine (HTS.out _ (by with_reducible repeat' (first | exact Below.refl _ _ | refine bon ?_ hbp | refine bon ?_ hbs | refine bon ?_ hbh | fail))).mono ?_; rintro e vs ⟨f1, f2, mid, rfl, s1, s2, hmm, hbs⟩) | (go_at_call 21; with_reducible refine (HSP.out _ _ _ _ _ _ (by with_reducible refine OwnTS.all (lo := ?_) (hi := ?_) (c := ?_) ?_; with_reducible repeat' (first | exact o1 | refine OwnTS.next ?_ hbs | refine OwnTS.next ?_ hbp | fail)) (by with_reducible refine OwnST.all (lo := ?_) (hi := ?_) (c := ?_) ?_; with_reducible repeat' (first | exact o2 | refine OwnST.next ?_ hbs | refine OwnST.next ?_ hbp | fail)) (by with_reducible refine OwnTS.all (lo := ?_) (hi := ?_) (c := ?_) ?_; with_reducible repeat' (first | exact o3 | refine OwnTS.next ?_ hbs | refine OwnTS.next ?_ hbp | fail)) (by with_reducible refine OwnL.all (lo := ?_) (hi := ?_) (c := ?_) ?_; with_reducible repeat' (first | exact s1 | refine OwnL.next ?_ hbs | refine OwnL.next ?_ hbp | fail)) (by with_reducible refine OwnL.all (lo := ?_) (hi := ?_) (c := ?_) ?_; with_reducible repeat' (first | exact s2 | refine OwnL.next ?_ hbs | refine OwnL.next ?_ hbp | fail))).mono ?_; rintro e vh ⟨rfl, hbh⟩) | fail)
        all_goals (go_wp2_with fail; go_meet; first | exact ⟨rfl, rfl, bon (bstep (by with_reducible repeat' (first | exact Below.refl _ _ | refine bon ?_ hbp | refine bon ?_ hbs | refine bon ?_ hbh | fail))) hbh⟩ | fail)
      case rest =>
        obtain ⟨rfl, rfl, hb3⟩ := hcut
        obtain ⟨w3, hwx⟩ : ∃ x, x = wc := ⟨_, rfl⟩
        subst hwx
        have hB3 := bon hB2 hb3
        have hz3 := hb3.size
        have a0 : w3.cell? ⟨w.heap.size, 0, none⟩ = some (.slice A0 n0 cap0) := (HP.out.next hB3).cell 0
        have a1 : w3.cell? ⟨w.heap.size, 1, none⟩ = some (.slice D0 m0 dap0) := (HP.out.next hB3).cell 1
        have a2 : w3.cell? ⟨w.heap.size, 2, none⟩ = some (.slice E0 q0 eap0) := (HP.out.next hB3).cell 2
        clear c0 c1 HSP
        go_wp2_with fail
        refine (toProgram_k A0 n0 cap0 t0 D0 m0 dap0 x0 E0 q0 eap0 w.heap.size u0 w3 (HINW.out.next hB3 hs1) (by omega) HN.out).mono ?_
        rintro e w4 ⟨g1, g2, g3, k1, k2, rfl, o1, o2, o3, hkk, hb4⟩
        have hB4 := bon hB3 hb4
        have hz4 := hb4.size
        have HX := Lib.hid (show PIn w4 w4.heap.size (some ⟨g1, 0, none⟩) n0 t0 (some ⟨g2, 0, none⟩) m0 x0 (some ⟨g3, 0, none⟩) q0 u0 from ⟨o1.all, o2.all, o3.all⟩)
        have hb5 := bnew w4 (.cells #[.slice (some ⟨g1, 0, none⟩) n0 n0, .slice (some ⟨g2, 0, none⟩) m0 m0, .slice (some ⟨g3, 0, none⟩) q0 q0] 37)
        have HXB := Lib.hid (show BlkIs (w4.alloc (.cells #[.slice (some ⟨g1, 0, none⟩) n0 n0, .slice (some ⟨g2, 0, none⟩) m0 m0, .slice (some ⟨g3, 0, none⟩) q0 q0] 37)) w4.heap.size 37 #[.slice (some ⟨g1, 0, none⟩) n0 n0, .slice (some ⟨g2, 0, none⟩) m0 m0, .slice (some ⟨g3, 0, none⟩) q0 q0] from blk_new _ _ _ _ rfl)
        have c0 : (w4.alloc (.cells #[.slice (some ⟨g1, 0, none⟩) n0 n0, .slice (some ⟨g2, 0, none⟩) m0 m0, .slice (some ⟨g3, 0, none⟩) q0 q0] 37)).cell? ⟨w.heap.size + 1, 0, none⟩ = some (.slice A1 n1 cap1) := ((HSB.out.next hB4).next hb5).cell 0
        have c1 : (w4.alloc (.cells #[.slice (some ⟨g1, 0, none⟩) n0 n0, .slice (some ⟨g2, 0, none⟩) m0 m0, .slice (some ⟨g3, 0, none⟩) q0 q0] 37)).cell? ⟨w.heap.size + 1, 1, none⟩ = some (.slice B1 m1 cbp1) := ((HSB.out.next hB4).next hb5).cell 1
        clear o1 o2 o3 hkk a0 a1 a2
        go_wp2_with fail
        generalize w4.alloc (.cells #[.slice (some ⟨g1, 0, none⟩) n0 n0, .slice (some ⟨g2, 0, none⟩) m0 m0, .slice (some ⟨g3, 0, none⟩) q0 q0] 37) = w5 at hb5 HXB c0 c1 ⊢
        have hB5 := bon hB4 hb5
        have hz5 := hb5.size
        have hxl := HXB.out.lt
        refine (toState_k A1 n1 cap1 w.heap.size z1 B1 m1 cbp1 y1 w5 (HZW.out.next hB5 hs1) (HYW.out.next hB5 hs1) (by omega) hq1 hq2).mono ?_
        rintro e w6 ⟨f1, f2, mid, rfl, s1, s2, hmm, hb6⟩
        have hB6 := bon hB5 hb6
        have hz6 := hb6.size
        have HS1 := Lib.hid (show InL w6 w6.heap.size (some ⟨f1, 0, none⟩) n1 z1 from s1.all)
        have HS2 := Lib.hid (show InL w6 w6.heap.size (some ⟨f2, 0, none⟩) m1 y1 from s2.all)
        have hb7 := bnew w6 (.cells #[.slice (some ⟨f1, 0, none⟩) n1 n1, .slice (some ⟨f2, 0, none⟩) m1 m1] 31)
        have HSX := Lib.hid (show BlkIs (w6.alloc (.cells #[.slice (some ⟨f1, 0, none⟩) n1 n1, .slice (some ⟨f2, 0, none⟩) m1 m1] 31)) w6.heap.size 31 #[.slice (some ⟨f1, 0, none⟩) n1 n1, .slice (some ⟨f2, 0, none⟩) m1 m1] from blk_new _ _ _ _ rfl)
        have yc0 : (w6.alloc (.cells #[.slice (some ⟨f1, 0, none⟩) n1 n1, .slice (some ⟨f2, 0, none⟩) m1 m1] 31)).cell? ⟨w4.heap.size, 0, none⟩ = some (.slice (some ⟨g1, 0, none⟩) n0 n0) := ((HXB.out.next hb6).next hb7).cell 0
        have yc1 : (w6.alloc (.cells #[.slice (some ⟨f1, 0, none⟩) n1 n1, .slice (some ⟨f2, 0, none⟩) m1 m1] 31)).cell? ⟨w4.heap.size, 1, none⟩ = some (.slice (some ⟨g2, 0, none⟩) m0 m0) := ((HXB.out.next hb6).next hb7).cell 1
        have y2' : (w6.alloc (.cells #[.slice (some ⟨f1, 0, none⟩) n1 n1, .slice (some ⟨f2, 0, none⟩) m1 m1] 31)).cell? ⟨w4.heap.size, 2, none⟩ = some (.slice (some ⟨g3, 0, none⟩) q0 q0) := ((HXB.out.next hb6).next hb7).cell 2
        have HI := Lib.hid (HIP.out (w6.alloc (.cells #[.slice (some ⟨f1, 0, none⟩) n1 n1, .slice (some ⟨f2, 0, none⟩) m1 m1] 31)) g1 g2 g3 f1 f2 (HTW.out.next (bon hB6 hb7)) ((HX.out.next (bon hb5 (bon hb6 hb7)) (Nat.le_refl _)).more (Nat.le_trans (by omega) hb7.size)) ((HS1.out.next hb7 (Nat.le_refl _)).more hb7.size) ((HS2.out.next hb7 (Nat.le_refl _)).more hb7.size))
        clear s1 s2 hmm c0 c1
        go_wp2_with fail
        generalize w6.alloc (.cells #[.slice (some ⟨f1, 0, none⟩) n1 n1, .slice (some ⟨f2, 0, none⟩) m1 m1] 31) = w7 at hb7 HSX yc0 yc1 y2' HI ⊢
        have hB7 := bon hB6 hb7
        have hz7 := hb7.size
        have hsl := HSX.out.lt
        refine HI.out.mono ?_
        rintro e w8 ⟨rfl, hb8⟩
        have hB8 := bon hB7 hb8
        have hz8 := hb8.size
        have hb58 := bon hb6 (bon hb7 hb8)
        have hb48 := bon hb5 hb58
        have a0 : w8.cell? ⟨w.heap.size, 0, none⟩ = some (.slice A0 n0 cap0) := (HP.out.next hB8).cell 0
        have a1 : w8.cell? ⟨w.heap.size, 1, none⟩ = some (.slice D0 m0 dap0) := (HP.out.next hB8).cell 1
        have a2 : w8.cell? ⟨w.heap.size, 2, none⟩ = some (.slice E0 q0 eap0) := (HP.out.next hB8).cell 2
        have yc0 : w8.cell? ⟨w4.heap.size, 0, none⟩ = some (.slice (some ⟨g1, 0, none⟩) n0 n0) := (HXB.out.next hb58).cell 0
        have yc1 : w8.cell? ⟨w4.heap.size, 1, none⟩ = some (.slice (some ⟨g2, 0, none⟩) m0 m0) := (HXB.out.next hb58).cell 1
        have z2x : w8.cell? ⟨w4.heap.size, 2, none⟩ = some (.slice (some ⟨g3, 0, none⟩) q0 q0) := (HXB.out.next hb58).cell 2
        clear HI y2'
        go_wp2_with fail
        have HX8 := Lib.hid (HX.out.next hb48 (Nat.le_refl _))
        have HT := Lib.hid (toProgram_k A0 n0 cap0 t0 D0 m0 dap0 x0 E0 q0 eap0 w.heap.size u0 w8.drew (show PIn w8.drew w.heap.size A0 n0 t0 D0 m0 x0 E0 q0 u0 from HINW.out.next ((Below.refl W.heap.size W).drew.trans ⟨hB8.os, hB8.tape, hB8.output, hB8.size, hB8.block⟩) hs1) (show _ ≤ w8.heap.size by omega) HN.out)
        have HE : Hid (∀ x8 h1 h2 h3 j1 j2, Below w8.drew.heap.size w8.drew x8 → OwnTS x8 w8.drew.heap.size j1 (some ⟨h1, 0, none⟩) n0 n0 t0 → OwnST x8 j1 j2 (some ⟨h2, 0, none⟩) m0 m0 x0 → OwnTS x8 j2 x8.heap.size (some ⟨h3, 0, none⟩) q0 q0 u0 → Calls Tryz.prog 15 #[.agg #[.slice (some ⟨g1, 0, none⟩) n0 n0, .slice (some ⟨g2, 0, none⟩) m0 m0, .slice (some ⟨g3, 0, none⟩) q0 q0], .agg #[.slice (some ⟨h1, 0, none⟩) n0 n0, .slice (some ⟨h2, 0, none⟩) m0 m0, .slice (some ⟨h3, 0, none⟩) q0 q0]] x8 fun e w' => e = .returned (.bool true) ∧ Below x8.heap.size x8 w') :=
          fun x8 h1 h2 h3 j1 j2 hb o1 o2 o3 => eqProgram_k (some ⟨g1, 0, none⟩) (some ⟨h1, 0, none⟩) n0 n0 n0 t0 (some ⟨g2, 0, none⟩) (some ⟨h2, 0, none⟩) m0 m0 m0 x0 (some ⟨g3, 0, none⟩) (some ⟨h3, 0, none⟩) q0 q0 q0 u0 w4.heap.size x8.heap.size x8 (HX8.out.next (bstep hb) (by omega)) ⟨o1.all, o2.all, o3.all⟩ (Nat.le_trans (by omega) (bstep hb).size) (Nat.le_refl _) HN.out
        go_region_held3 (fun w' => w'.cell? ⟨w.heap.size, 0, none⟩ = some (.slice A0 n0 cap0) ∧ w'.cell? ⟨w.heap.size, 1, none⟩ = some (.slice D0 m0 dap0) ∧ w'.cell? ⟨w.heap.size, 2, none⟩ = some (.slice E0 q0 eap0) ∧ w'.cell? ⟨w4.heap.size, 0, none⟩ = some (.slice (some ⟨g1, 0, none⟩) n0 n0) ∧ w'.cell? ⟨w4.heap.size, 1, none⟩ = some (.slice (some ⟨g2, 0, none⟩) m0 m0) ∧ w'.cell? ⟨w4.heap.size, 2, none⟩ = some (.slice (some ⟨g3, 0, none⟩) q0 q0))
          (first | go_keep | exact ⟨cell_on a0 hb9, cell_on a1 hb9, cell_on a2 hb9, cell_on yc0 hb9, cell_on yc1 hb9, cell_on z2x hb9⟩ | exact ⟨cell_on2 a0 hb9 hb10, cell_on2 a1 hb9 hb10, cell_on2 a2 hb9 hb10, cell_on2 yc0 hb9 hb10, cell_on2 yc1 hb9 hb10, cell_on2 z2x hb9 hb10⟩ | fail)
          (first | (go_at_call 10; refine HT.out.mono ?_; rintro e x9 ⟨h1, h2, h3, j1, j2, rfl, o1, o2, o3, _, hb9⟩) | (go_at_call 15; refine (HE.out _ _ _ _ _ _ hb9 o1 o2 o3).mono ?_; rintro e w9 ⟨rfl, hb10⟩) | fail)
        have hb89 := bon (bstep hb9) hb10
        have hB9 := bon hB8 hb89
        have hz9 := hb89.size
        have hb79 := bon hb8 hb89
        have hb69 := bon hb7 hb79
        have c0 : w9.cell? ⟨w.heap.size + 1, 0, none⟩ = some (.slice A1 n1 cap1) := (HSB.out.next hB9).cell 0
        have c1 : w9.cell? ⟨w.heap.size + 1, 1, none⟩ = some (.slice B1 m1 cbp1) := (HSB.out.next hB9).cell 1
        have v0 : w9.cell? ⟨w6.heap.size, 0, none⟩ = some (.slice (some ⟨f1, 0, none⟩) n1 n1) := (HSX.out.next hb79).cell 0
        have v1 : w9.cell? ⟨w6.heap.size, 1, none⟩ = some (.slice (some ⟨f2, 0, none⟩) m1 m1) := (HSX.out.next hb79).cell 1
        clear HT HE HX8 o1 o2 o3 a0 a1 a2 yc0 yc1 z2x hb9 hb10
        go_wp2_with fail
        have hbd : Below W.heap.size W w9.drew := ⟨hB9.os, hB9.tape, hB9.output, hB9.size, hB9.block⟩
        have HT := Lib.hid (toState_k A1 n1 cap1 w.heap.size z1 B1 m1 cbp1 y1 w9.drew (HZW.out.next hbd hs1) (HYW.out.next hbd hs1) (show _ ≤ w9.heap.size by omega) hq1 hq2)
        have HE : Hid (∀ x8 h1 h2 mid, Below w9.drew.heap.size w9.drew x8 → OwnL x8 w9.drew.heap.size mid (some ⟨h1, 0, none⟩) n1 n1 z1 → OwnL x8 mid x8.heap.size (some ⟨h2, 0, none⟩) m1 m1 y1 → Calls Tryz.prog 13 #[.agg #[.slice (some ⟨f1, 0, none⟩) n1 n1, .slice (some ⟨f2, 0, none⟩) m1 m1], .agg #[.slice (some ⟨h1, 0, none⟩) n1 n1, .slice (some ⟨h2, 0, none⟩) m1 m1]] x8 fun e w' => e = .returned (.bool true) ∧ Below x8.heap.size x8 w') :=
          fun x8 h1 h2 mid hb s1 s2 => eqState_k (some ⟨f1, 0, none⟩) (some ⟨h1, 0, none⟩) n1 n1 n1 z1 (some ⟨f2, 0, none⟩) (some ⟨h2, 0, none⟩) m1 m1 m1 y1 w6.heap.size x8.heap.size x8 ((HS1.out.next hb69 (Nat.le_refl _)).next (bstep hb) (by omega)) ((HS2.out.next hb69 (Nat.le_refl _)).next (bstep hb) (by omega)) s1.all s2.all (Nat.le_trans (by omega) (bstep hb).size) (Nat.le_refl _) hq1 hq2
        go_region_held3 (fun w' => w'.cell? ⟨w.heap.size + 1, 0, none⟩ = some (.slice A1 n1 cap1) ∧ w'.cell? ⟨w.heap.size + 1, 1, none⟩ = some (.slice B1 m1 cbp1) ∧ w'.cell? ⟨w6.heap.size, 0, none⟩ = some (.slice (some ⟨f1, 0, none⟩) n1 n1) ∧ w'.cell? ⟨w6.heap.size, 1, none⟩ = some (.slice (some ⟨f2, 0, none⟩) m1 m1))
          (first | go_keep | exact ⟨cell_on c0 hb11, cell_on c1 hb11, cell_on v0 hb11, cell_on v1 hb11⟩ | exact ⟨cell_on2 c0 hb11 hb12, cell_on2 c1 hb11 hb12, cell_on2 v0 hb11 hb12, cell_on2 v1 hb11 hb12⟩ | fail)
          (first | (go_at_call 11; refine HT.out.mono ?_; rintro e x9 ⟨h1, h2, mid, rfl, s1, s2, _, hb11⟩) | (go_at_call 13; refine (HE.out _ _ _ _ hb11 s1 s2).mono ?_; rintro e w12 ⟨rfl, hb12⟩) | fail)
        go_wp2_with fail
        go_ret
        exact ⟨rfl, bon hb1 (bon hB9 (bon (bstep hb11) hb12))⟩
    · rw [szv_no (by omega)] at HSS
      clear hL HSZ0 hin hz hy hn hTW hP hS
      go_enter Tryz.func4, Tryz.ntmps4
      go_wp2_with fail
      generalize ((w.alloc (.cells #[.slice A0 n0 cap0, .slice D0 m0 dap0, .slice E0 q0 eap0] 25)).alloc (.cells #[.slice A1 n1 cap1, .slice B1 m1 cbp1] 28)) = W at hb1 HP HSB HSZ ⊢
      refine HSZ.out.mono ?_
      rintro e w1 ⟨rfl, hB1⟩
      have c0 : w1.cell? ⟨w.heap.size + 1, 0, none⟩ = some (.slice A1 n1 cap1) := (HSB.out.next hB1).cell 0
      have c1 : w1.cell? ⟨w.heap.size + 1, 1, none⟩ = some (.slice B1 m1 cbp1) := (HSB.out.next hB1).cell 1
      clear HSZ
      go_wp2_with fail
      refine (HSS.out w1).mono ?_
      rintro e w2 ⟨rfl, hb2⟩
      go_wp2_with fail
      go_ret
      exact ⟨rfl, bon hb1 (bon hB1 hb2)⟩
  · rw [szv_no (by omega)] at HSZ0
    have HSZ := Lib.hid HSZ0
    clear HSZ0 hin hz hy hTW hP hS
    go_enter Tryz.func4, Tryz.ntmps4
    go_wp2_with fail
    generalize ((w.alloc (.cells #[.slice A0 n0 cap0, .slice D0 m0 dap0, .slice E0 q0 eap0] 25)).alloc (.cells #[.slice A1 n1 cap1, .slice B1 m1 cbp1] 28)) = W at hb1 HSZ ⊢
    refine HSZ.out.mono ?_
    rintro e w1 ⟨rfl, hB1⟩
    go_wp2_with fail
    go_ret
    exact ⟨rfl, bon hb1 hB1⟩

/-- The cells of a table. -/
def litCells : DataW Unit → List Value
  | .lit (.int k z) => [Value.int k z]
  | .lit (.bool b) => [Value.bool b]
  | .lit (.string l) => [Value.string ⟨l.toArray⟩]
  | _ => []
def tabCells : DataW Unit → List Value
  | .agg l => l.flatMap fun x => match x with
    | .agg r => r.flatMap litCells
    | x => litCells x
  | _ => []
/-- A world that meets the list. -/
noncomputable def laidWorld (os : Os) : World :=
  let w0 := World.holding Tryz.prog os ⟨#[], #[], []⟩
  let put (g : Nat) (d : DataW Unit) (h : Array Obj) : Array Obj := h.modify g fun
      | .cells _ t frozen => .cells (tabCells d).toArray t frozen
      | o => o
  { w0 with heap := put 0 (Rows.laid_loop_example_g01105_impl_elementForms) w0.heap }
theorem laidWorld_met (os : Os) (args : Array Value) : laidMetH Tryz.prog Rows.fnExactStepsOfRow.laid ((laidWorld os).forCall (fun _ _ => 0) ⟨#[], args, []⟩).memory :=
  laidMetH_of_parts (laidMet_of_run' 8 (by kernel_rfl) (by kernel_rfl)) (by kernel_rfl)

set_option maxRecDepth 100000 in
set_option maxHeartbeats 4000000 in
theorem lifted (os : Os) (started : os.Started) (H : Type) (enc : TypeId × Value → H) :
    ReturnsInHanded {} Tryz.checked os 4 .any (fun w args => (Rows.fnExactStepsOfSpec.pre enc Tryz.prog Tryz.f4 [] false w args ∧ laidMetH Tryz.prog Rows.fnExactStepsOfRow.laid w) ∧ sizedMet enc Tryz.prog Tryz.f4 (OpenSpec.ofChange Rows.fnExactStepsOfSpec) false w args) (Rows.fnExactStepsOfSpec.post enc Tryz.prog Tryz.f4 false true false false) := by
  refine returnsInHanded_of_change_and (C := Tryz.checked) (X := fun w _ => laidMetH Tryz.prog Rows.fnExactStepsOfRow.laid w) (fun _ _ _ hh h => h.of_heap hh) own started (by kernel_rfl) Tryz.func4
    (ChangeSpec.witness_at (enc := enc) (C := Tryz.checked) (os := os) (X := fun w _ => laidMetH Tryz.prog Rows.fnExactStepsOfRow.laid w) false (laidWorld os) #[.agg #[.slice none 0 0, .slice none 0 0, .slice none 0 0], .agg #[.slice none 0 0, .slice none 0 0], .int .i64 0] 8 rfl (by kernel_rfl) (by kernel_rfl) (by kernel_rfl) (by kernel_rfl) (by kernel_rfl) (laidWorld_met os _)) ?_
  intro W base args ds gs before hval0 hW _ _ hL _
  have hval : ∀ (j : Nat) t v, Tryz.f4.params[j]? = some t → args[j]? = some v → Value.okWide Tryz.prog W .any base t v := hval0
  have hW' := hW
  obtain ⟨p, q, hA0, hV, rfl, hfz, hnd⟩ := hW
  have hA : DataW.TrodAll enc Tryz.prog W 0 (fun _ => true) true Tryz.f4.params.toList args.toList ds p := hA0
  rw [Tryz.params4] at hA hval
  obtain ⟨v0, vs0, d0, ds0, p0, q0, hargs, rfl, rfl, g0, r0⟩ := trodAll_cons hA
  obtain ⟨v1, vs1, d1, ds1, p1, q1, rfl, rfl, rfl, g1, r1⟩ := trodAll_cons r0
  obtain ⟨v2, vs2, d2, ds2, p2, q2, rfl, rfl, rfl, g2, r2⟩ := trodAll_cons r1
  obtain ⟨rfl, rfl, rfl⟩ := trodAll_nil r2
  obtain rfl : args = #[v0, v1, v2] := by cases args; simp_all
  have hV2 := hV
  obtain ⟨_, _, _, _, dv, _, rfl, _⟩ := trodVars_one hV2
  clear hV2
  have k0 := g0
  have lt0 : ∀ x ∈ p0, x.block < W.heap.size := by obtain ⟨m, hm⟩ := k0; exact DataW.trod_lt m _ _ _ hm
  have k1 := g1
  have lt1 : ∀ x ∈ p1, x.block < W.heap.size := by obtain ⟨m, hm⟩ := k1; exact DataW.trod_lt m _ _ _ hm
  obtain ⟨A0, n0, cap0, t0, D0, m0, dap0, x0, E0, q0, eap0, u0, rfl, h0max, h0t, h0each, h0bmax, h0b, h0beach, h0qmax, h0q, h0qeach⟩ := program_in (hval 0 25 v0 rfl rfl) g0
  obtain ⟨A1, n1, cap1, z1, B1, m1, cbp1, y1, rfl, h1len, h1max, h1row, h1glen, h1gmax, h1grow⟩ := state_in (hval 1 28 v1 rfl rfl) g1
  obtain ⟨i2, rfl, rfl, rfl, h2wf⟩ := open_int Tryz.underlying2 (hval 2 2 v2 rfl rfl) g2
  clear hA0 hval0
  have hg := tabE_of_laid (laid := Rows.fnExactStepsOfRow.laid) (List.mem_singleton.2 rfl) hL
  refine (walk A0 n0 cap0 t0 D0 m0 dap0 x0 E0 q0 eap0 u0 A1 n1 cap1 z1 B1 m1 cbp1 y1 i2 W hg h0max h0t h0each h0bmax h0b h0beach h0qmax h0q h0qeach h1row h1len h1max h1glen h1gmax h1grow h2wf).mono fun e W' ⟨he, bel⟩ => ?_
  subst he
  exact ⟨_, rfl, _, _, _, [], _, _, hW', trodAll_mk1 (shut_bool Tryz.underlying4 _), (trodAll_cons_mk (Below.trod laidOut (by kernel_rfl) (of_decide_eq_true (by kernel_rfl)) k0 bel lt0) (trodAll_cons_mk (Below.trod laidOut (by kernel_rfl) (of_decide_eq_true (by kernel_rfl)) k1 bel lt1) (trodAll_cons_mk (shut_int Tryz.underlying2 h2wf) trodAll_mk0))), Below.trodVars laidOut bel (by kernel_rfl) hV, bel.frame _, fun h => by cases h⟩

theorem said : Rows.FnExactStepsOfSaid :=
  OpenClaim.holds_of_wide 4 Tryz.f4 rfl rfl rfl rfl rfl rfl rfl ⟨rfl, rfl, rfl, rfl, rfl⟩ rfl rfl rfl rfl rfl (by kernel_rfl) Tryz.func4 (by kernel_rfl)
    (of_decide_eq_true (by kernel_rfl)) (by unfold Func.isWrapper; first | (rw [if_pos (by decide +kernel)]; kernel_rfl) | (rw [if_neg (by decide +kernel)]; exact ⟨rfl, rfl⟩))
    (fun os started H enc _ => lifted os started H enc)

/-- No parameter wants a stand-in; the program's own looks are as told: what the card asks. -/
theorem plain (f : FuncId) (fn : Func) (hf : Tryz.pinned.checked.prog.funcNamed "loop.example/g01105/laws.FnExactStepsOf" = some f) (hfn : Tryz.pinned.checked.prog.funcs[f]? = some fn) :
    true = Tryz.pinned.checked.prog.looks [] ∧ ∀ (j : Nat) t, fn.params[j]? = some t → Tryz.pinned.checked.prog.wantsStandIn t = false := by
  obtain rfl : f = 4 := Option.some.inj ((show Tryz.prog.funcNamed "loop.example/g01105/laws.FnExactStepsOf" = some 4 by kernel_rfl).symm.trans hf) |>.symm
  obtain rfl : fn = Tryz.f4 := (Option.some.inj (Tryz.func4.symm.trans hfn)).symm
  refine ⟨by kernel_rfl, fun j t ht => ?_⟩
  rw [Tryz.params4] at ht
  have hm : t = 25 ∨ t = 28 ∨ t = 2 := by simpa using Array.mem_of_getElem? ht
  rcases hm with rfl | rfl | rfl
  · exact (show Tryz.prog.wantsStandIn 25 = false by kernel_rfl)
  · exact (show Tryz.prog.wantsStandIn 28 = false by kernel_rfl)
  · exact (show Tryz.prog.wantsStandIn 2 = false by kernel_rfl)

/-- The card. -/
theorem proved : Rows.FnExactStepsOfCardSaid :=
  Claim7.holds_tied_plain_at .later [] _ _ _ _ said (fun _ h => by cases h) (by kernel_rfl) (fun _ h => by cases h) fnExactStepsOf_row_tie rfl ⟨rfl, rfl⟩ (by kernel_rfl) rfl plain (by kernel_rfl)
#print axioms proved
end Go.Proofs.YtajmbnimdngjhaaGreatDoor.fnExactStepsOf
