/-
  For every program, state and fuel the program's RunProgram answers as the model's, leaves both as they were, and its answer owns its memory.
  Conditions: those that the card itself bears (the tables that the program's text lays).
-/
import Derived.Test.YtajmbnimdngjhaaGreatDoorRows
import Derived.WalkKit
import Derived.ProofKit
import Derived.OpenShut
import Derived.ShutString
import Derived.ChangeOld
import Derived.Below
import Derived.WalkSmall
import Derived.Test.YtajmbnimdngjhaaGreatDoorTms
import Derived.Test.YtajmbnimdngjhaaGreatDoorCards
import Derived.Test.YtajmbnimdngjhaaGreatDoorTie
import Derived.ChangeSame
import Derived.ChangeVars
import Derived.OpenVars
import Derived.JoinedOf
import Derived.RowKit
import Derived.RowKitTokens
import Derived.LaidLaws
import Derived.LaidHandle
import Derived.Stop.LaidErr
import Derived.Stop.Joined
import Derived.SevenTiedAt
import Derived.Test.YtajmbnimdngjhaaGreatDoorTabE
import Derived.Test.YtajmbnimdngjhaaGreatDoorBunX
import Derived.Test.YtajmbnimdngjhaaGreatDoorBunM
namespace Go.Proofs.YtajmbnimdngjhaaGreatDoor.fnExactRunProgram
open Go.ChangeShapes Go.WideShapes Go.ChangeAt Go.RowKit
open Go.ChangeMaps (open_string shut_string)
set_option linter.unusedVariables false

theorem own : ownKnob Tryz.prog.godebug = none := by kernel_rfl
theorem laidOut : laidOutB Tryz.prog = true := by kernel_rfl
set_option maxRecDepth 100000 in
set_option maxHeartbeats 8000000 in
theorem early0 (A0 : Option Addr) (n0 cap0 : Nat) (t0 : List (Int × List Int)) (D0 : Option Addr) (m0 dap0 : Nat) (x0 : List S8) (E0 : Option Addr) (q0 eap0 : Nat) (u0 : List (Int × List Int)) (A1 : Option Addr) (n1 cap1 : Nat) (z1 : List Int) (B1 : Option Addr) (m1 cbp1 : Nat) (y1 : List Int) (i2 : Int) (w : World) (in0a : InTS w w.heap.size A0 n0 t0) (in0b : InSM w w.heap.size D0 m0 x0) (in0c : InTS w w.heap.size E0 q0 u0) (in1a : InL w w.heap.size A1 n1 z1) (in1b : InL w w.heap.size B1 m1 y1) (hq0 : 1048576 < (progN n0 t0 m0 x0 q0 u0)) (vn0 : n0 ≤ maxLen) (en0 : ∀ t ∈ t0, t.2.length ≤ maxLen) (vm0 : m0 ≤ maxLen) (em0 : ∀ x ∈ x0, x.fits) (vq0 : q0 ≤ maxLen) (eq0 : ∀ t ∈ u0, t.2.length ≤ maxLen) (vn1 : n1 ≤ maxLen) (vm1 : m1 ≤ maxLen) :
    Calls Tryz.prog 3 #[.agg #[.slice A0 n0 cap0, .slice D0 m0 dap0, .slice E0 q0 eap0], .agg #[.slice A1 n1 cap1, .slice B1 m1 cbp1], .int .i64 i2] w fun e w' => e = .returned (.bool true) ∧ Below w.heap.size w w' := by
  have hB := Below.refl w.heap.size w
  go_enter Tryz.func3, Tryz.ntmps3
  go_wp2_with fail
  have hb_1 : Below w.heap.size w ((w.alloc (.cells #[.slice A0 n0 cap0, .slice D0 m0 dap0, .slice E0 q0 eap0] 25)).alloc (.cells #[.slice A1 n1 cap1, .slice B1 m1 cbp1] 28)) := bon (bnew _ _) (bnew _ _)
  have sz_2 : w.heap.size < ((w.alloc (.cells #[.slice A0 n0 cap0, .slice D0 m0 dap0, .slice E0 q0 eap0] 25)).alloc (.cells #[.slice A1 n1 cap1, .slice B1 m1 cbp1] 28)).heap.size := by simp <;> omega
  have a0_0 : ((w.alloc (.cells #[.slice A0 n0 cap0, .slice D0 m0 dap0, .slice E0 q0 eap0] 25)).alloc (.cells #[.slice A1 n1 cap1, .slice B1 m1 cbp1] 28)).cell? ⟨w.heap.size, 0, none⟩ = some (.slice A0 n0 cap0) := by simp
  have a0_1 : ((w.alloc (.cells #[.slice A0 n0 cap0, .slice D0 m0 dap0, .slice E0 q0 eap0] 25)).alloc (.cells #[.slice A1 n1 cap1, .slice B1 m1 cbp1] 28)).cell? ⟨w.heap.size, 1, none⟩ = some (.slice D0 m0 dap0) := by simp
  have a0_2 : ((w.alloc (.cells #[.slice A0 n0 cap0, .slice D0 m0 dap0, .slice E0 q0 eap0] 25)).alloc (.cells #[.slice A1 n1 cap1, .slice B1 m1 cbp1] 28)).cell? ⟨w.heap.size, 2, none⟩ = some (.slice E0 q0 eap0) := by simp
  have a0_l := sz_2
  have sz_3 : w.heap.size + 1 < ((w.alloc (.cells #[.slice A0 n0 cap0, .slice D0 m0 dap0, .slice E0 q0 eap0] 25)).alloc (.cells #[.slice A1 n1 cap1, .slice B1 m1 cbp1] 28)).heap.size := by simp
  have a1_0 : ((w.alloc (.cells #[.slice A0 n0 cap0, .slice D0 m0 dap0, .slice E0 q0 eap0] 25)).alloc (.cells #[.slice A1 n1 cap1, .slice B1 m1 cbp1] 28)).cell? ⟨w.heap.size + 1, 0, none⟩ = some (.slice A1 n1 cap1) := by simp
  have a1_1 : ((w.alloc (.cells #[.slice A0 n0 cap0, .slice D0 m0 dap0, .slice E0 q0 eap0] 25)).alloc (.cells #[.slice A1 n1 cap1, .slice B1 m1 cbp1] 28)).cell? ⟨w.heap.size + 1, 1, none⟩ = some (.slice B1 m1 cbp1) := by simp
  have a1_l := sz_3
  generalize (w.alloc (.cells #[.slice A0 n0 cap0, .slice D0 m0 dap0, .slice E0 q0 eap0] 25)).alloc (.cells #[.slice A1 n1 cap1, .slice B1 m1 cbp1] 28) = w1 at hb_1 a0_0 a0_1 a0_2 a1_0 a1_1 sz_2 a0_l sz_3 a1_l ⊢
  replace in0a := in0a.next hb_1 (by omega)
  replace in0b := in0b.next hb_1 (by omega)
  replace in0c := in0c.next hb_1 (by omega)
  replace in1a := in1a.next hb_1 (by omega)
  replace in1b := in1b.next hb_1 (by omega)
  replace hB := hB.trans (hb_1.mono hB.size)
  have sz_4 := hb_1.size
  refine (szProgram_k A0 n0 cap0 t0 D0 m0 dap0 x0 E0 q0 eap0 _ u0 _ _ in0a in0b in0c (by omega) (by omega) (by omega) (by assumption) (by assumption) (by assumption) (by assumption) (by assumption) (by assumption)).mono ?_
  rintro e w2 ⟨rfl, hb_5⟩
  rw [szv_no (by omega)]
  replace in0a := in0a.next hb_5 (by omega)
  replace in0b := in0b.next hb_5 (by omega)
  replace in0c := in0c.next hb_5 (by omega)
  replace in1a := in1a.next hb_5 (by omega)
  replace in1b := in1b.next hb_5 (by omega)
  replace a0_0 := cell_next a0_0 hb_5
  replace a0_1 := cell_next a0_1 hb_5
  replace a0_2 := cell_next a0_2 hb_5
  replace a1_0 := cell_next a1_0 hb_5
  replace a1_1 := cell_next a1_1 hb_5
  replace a0_l := Nat.lt_of_lt_of_le a0_l hb_5.size
  replace a1_l := Nat.lt_of_lt_of_le a1_l hb_5.size
  replace hB := hB.trans (hb_5.mono hB.size)
  have sz_6 := hb_5.size
  go_wp2_with fail
  go_ret
  exact ⟨rfl, hB⟩

set_option maxRecDepth 100000 in
set_option maxHeartbeats 8000000 in
theorem early1 (A0 : Option Addr) (n0 cap0 : Nat) (t0 : List (Int × List Int)) (D0 : Option Addr) (m0 dap0 : Nat) (x0 : List S8) (E0 : Option Addr) (q0 eap0 : Nat) (u0 : List (Int × List Int)) (A1 : Option Addr) (n1 cap1 : Nat) (z1 : List Int) (B1 : Option Addr) (m1 cbp1 : Nat) (y1 : List Int) (i2 : Int) (w : World) (in0a : InTS w w.heap.size A0 n0 t0) (in0b : InSM w w.heap.size D0 m0 x0) (in0c : InTS w w.heap.size E0 q0 u0) (in1a : InL w w.heap.size A1 n1 z1) (in1b : InL w w.heap.size B1 m1 y1) (hq0 : (progN n0 t0 m0 x0 q0 u0) ≤ 1048576) (hq1 : 1048576 < (progN n0 t0 m0 x0 q0 u0) + (n1 + m1)) (vn0 : n0 ≤ maxLen) (en0 : ∀ t ∈ t0, t.2.length ≤ maxLen) (vm0 : m0 ≤ maxLen) (em0 : ∀ x ∈ x0, x.fits) (vq0 : q0 ≤ maxLen) (eq0 : ∀ t ∈ u0, t.2.length ≤ maxLen) (vn1 : n1 ≤ maxLen) (vm1 : m1 ≤ maxLen) :
    Calls Tryz.prog 3 #[.agg #[.slice A0 n0 cap0, .slice D0 m0 dap0, .slice E0 q0 eap0], .agg #[.slice A1 n1 cap1, .slice B1 m1 cbp1], .int .i64 i2] w fun e w' => e = .returned (.bool true) ∧ Below w.heap.size w w' := by
  have hB := Below.refl w.heap.size w
  have hl_6 : (0 : Int) ≤ 1048576 - ((progN n0 t0 m0 x0 q0 u0 : Nat) : Int) := by omega
  go_enter Tryz.func3, Tryz.ntmps3
  go_wp2_with fail
  have hb_1 : Below w.heap.size w ((w.alloc (.cells #[.slice A0 n0 cap0, .slice D0 m0 dap0, .slice E0 q0 eap0] 25)).alloc (.cells #[.slice A1 n1 cap1, .slice B1 m1 cbp1] 28)) := bon (bnew _ _) (bnew _ _)
  have sz_2 : w.heap.size < ((w.alloc (.cells #[.slice A0 n0 cap0, .slice D0 m0 dap0, .slice E0 q0 eap0] 25)).alloc (.cells #[.slice A1 n1 cap1, .slice B1 m1 cbp1] 28)).heap.size := by simp <;> omega
  have a0_0 : ((w.alloc (.cells #[.slice A0 n0 cap0, .slice D0 m0 dap0, .slice E0 q0 eap0] 25)).alloc (.cells #[.slice A1 n1 cap1, .slice B1 m1 cbp1] 28)).cell? ⟨w.heap.size, 0, none⟩ = some (.slice A0 n0 cap0) := by simp
  have a0_1 : ((w.alloc (.cells #[.slice A0 n0 cap0, .slice D0 m0 dap0, .slice E0 q0 eap0] 25)).alloc (.cells #[.slice A1 n1 cap1, .slice B1 m1 cbp1] 28)).cell? ⟨w.heap.size, 1, none⟩ = some (.slice D0 m0 dap0) := by simp
  have a0_2 : ((w.alloc (.cells #[.slice A0 n0 cap0, .slice D0 m0 dap0, .slice E0 q0 eap0] 25)).alloc (.cells #[.slice A1 n1 cap1, .slice B1 m1 cbp1] 28)).cell? ⟨w.heap.size, 2, none⟩ = some (.slice E0 q0 eap0) := by simp
  have a0_l := sz_2
  have sz_3 : w.heap.size + 1 < ((w.alloc (.cells #[.slice A0 n0 cap0, .slice D0 m0 dap0, .slice E0 q0 eap0] 25)).alloc (.cells #[.slice A1 n1 cap1, .slice B1 m1 cbp1] 28)).heap.size := by simp
  have a1_0 : ((w.alloc (.cells #[.slice A0 n0 cap0, .slice D0 m0 dap0, .slice E0 q0 eap0] 25)).alloc (.cells #[.slice A1 n1 cap1, .slice B1 m1 cbp1] 28)).cell? ⟨w.heap.size + 1, 0, none⟩ = some (.slice A1 n1 cap1) := by simp
  have a1_1 : ((w.alloc (.cells #[.slice A0 n0 cap0, .slice D0 m0 dap0, .slice E0 q0 eap0] 25)).alloc (.cells #[.slice A1 n1 cap1, .slice B1 m1 cbp1] 28)).cell? ⟨w.heap.size + 1, 1, none⟩ = some (.slice B1 m1 cbp1) := by simp
  have a1_l := sz_3
  generalize (w.alloc (.cells #[.slice A0 n0 cap0, .slice D0 m0 dap0, .slice E0 q0 eap0] 25)).alloc (.cells #[.slice A1 n1 cap1, .slice B1 m1 cbp1] 28) = w1 at hb_1 a0_0 a0_1 a0_2 a1_0 a1_1 sz_2 a0_l sz_3 a1_l ⊢
  replace in0a := in0a.next hb_1 (by omega)
  replace in0b := in0b.next hb_1 (by omega)
  replace in0c := in0c.next hb_1 (by omega)
  replace in1a := in1a.next hb_1 (by omega)
  replace in1b := in1b.next hb_1 (by omega)
  replace hB := hB.trans (hb_1.mono hB.size)
  have sz_4 := hb_1.size
  refine (szProgram_k A0 n0 cap0 t0 D0 m0 dap0 x0 E0 q0 eap0 _ u0 _ _ in0a in0b in0c (by omega) (by omega) (by omega) (by assumption) (by assumption) (by assumption) (by assumption) (by assumption) (by assumption)).mono ?_
  rintro e w2 ⟨rfl, hb_5⟩
  rw [szv_yes (by omega)]
  replace in0a := in0a.next hb_5 (by omega)
  replace in0b := in0b.next hb_5 (by omega)
  replace in0c := in0c.next hb_5 (by omega)
  replace in1a := in1a.next hb_5 (by omega)
  replace in1b := in1b.next hb_5 (by omega)
  replace a0_0 := cell_next a0_0 hb_5
  replace a0_1 := cell_next a0_1 hb_5
  replace a0_2 := cell_next a0_2 hb_5
  replace a1_0 := cell_next a1_0 hb_5
  replace a1_1 := cell_next a1_1 hb_5
  replace a0_l := Nat.lt_of_lt_of_le a0_l hb_5.size
  replace a1_l := Nat.lt_of_lt_of_le a1_l hb_5.size
  replace hB := hB.trans (hb_5.mono hB.size)
  have sz_7 := hb_5.size
  go_wp2_with fail
  refine (szState_k A1 n1 cap1 B1 m1 cbp1 _ _ (by omega) (by omega) (by first | assumption | (unfold maxLen; omega)) (by first | assumption | (unfold maxLen; omega))).mono ?_
  rintro e w3 ⟨rfl, hb_8⟩
  rw [szv_no (by omega)]
  replace in0a := in0a.next hb_8 (by omega)
  replace in0b := in0b.next hb_8 (by omega)
  replace in0c := in0c.next hb_8 (by omega)
  replace in1a := in1a.next hb_8 (by omega)
  replace in1b := in1b.next hb_8 (by omega)
  replace a0_0 := cell_next a0_0 hb_8
  replace a0_1 := cell_next a0_1 hb_8
  replace a0_2 := cell_next a0_2 hb_8
  replace a1_0 := cell_next a1_0 hb_8
  replace a1_1 := cell_next a1_1 hb_8
  replace a0_l := Nat.lt_of_lt_of_le a0_l hb_8.size
  replace a1_l := Nat.lt_of_lt_of_le a1_l hb_8.size
  replace hB := hB.trans (hb_8.mono hB.size)
  have sz_9 := hb_8.size
  go_wp2_with fail
  go_ret
  exact ⟨rfl, hB⟩

set_option maxRecDepth 100000 in
set_option maxHeartbeats 8000000 in
theorem road (A0 : Option Addr) (n0 cap0 : Nat) (t0 : List (Int × List Int)) (D0 : Option Addr) (m0 dap0 : Nat) (x0 : List S8) (E0 : Option Addr) (q0 eap0 : Nat) (u0 : List (Int × List Int)) (A1 : Option Addr) (n1 cap1 : Nat) (z1 : List Int) (B1 : Option Addr) (m1 cbp1 : Nat) (y1 : List Int) (i2 : Int) (w : World) (in0a : InTS w w.heap.size A0 n0 t0) (in0b : InSM w w.heap.size D0 m0 x0) (in0c : InTS w w.heap.size E0 q0 u0) (h0ok : progN n0 t0 m0 x0 q0 u0 ≤ 1048576) (h0parts : n0 + totT t0 ≤ 1048576 ∧ m0 + totS x0 ≤ 1048576 ∧ q0 + totT u0 ≤ 1048576) (vn0 : n0 ≤ maxLen) (en0 : ∀ t ∈ t0, t.2.length ≤ maxLen) (vm0 : m0 ≤ maxLen) (em0 : ∀ x ∈ x0, x.fits) (vq0 : q0 ≤ maxLen) (eq0 : ∀ t ∈ u0, t.2.length ≤ maxLen) (in1a : InL w w.heap.size A1 n1 z1) (in1b : InL w w.heap.size B1 m1 y1) (h1ok : n1 ≤ 1048576) (h1gok : m1 ≤ 1048576) (h1sum : n1 + m1 ≤ 1048576) (hsum : (progN n0 t0 m0 x0 q0 u0) + (n1 + m1) ≤ 1048576) (y00 : List Int) (l00 : Nat) (y01 : List Int) (l01 : Nat) (y10 : List Int) (l10 : Nat) (r2 : Int) (r3 : Bool) (k00 : l00 ≤ 2000) (k01 : l01 ≤ 2000) (k10 : l10 ≤ 2000)
    (HS0 : ∀ (w0 : World) (a00 : Option Addr) (u00 : Nat) (a01 : Option Addr) (u01 : Nat) (a02 : Option Addr) (u02 : Nat) (a10 : Option Addr) (u10 : Nat) (a11 : Option Addr) (u11 : Nat), Below w.heap.size w w0 → InTS w0 w0.heap.size a00 n0 t0 → InSM w0 w0.heap.size a01 m0 x0 → m0 ≤ u01 → InTS w0 w0.heap.size a02 q0 u0 → InL w0 w0.heap.size a10 n1 z1 → InL w0 w0.heap.size a11 m1 y1 → Calls Tryz.prog 9 #[.agg #[.slice a00 n0 u00, .slice a01 m0 u01, .slice a02 q0 u02], .agg #[.slice a10 n1 u10, .slice a11 m1 u11], .int .i64 i2] w0 fun e w1 => ∃ (R00 : Option Addr) (d00 : Nat) (R01 : Option Addr) (d01 : Nat) (R10 : Option Addr) (d10 : Nat), e = .returned (.tuple #[.agg #[.slice R00 l00 d00, .slice R01 l01 d01], .slice R10 l10 d10, .int .i64 r2, .bool r3]) ∧ OwnL w1 w0.heap.size w1.heap.size R00 l00 d00 y00 ∧ OwnL w1 w0.heap.size w1.heap.size R01 l01 d01 y01 ∧ OwnL w1 w0.heap.size w1.heap.size R10 l10 d10 y10 ∧ Below w0.heap.size w0 w1)
    (HI0 : ∀ (w0 : World) (a00 : Option Addr) (u00 : Nat) (a01 : Option Addr) (u01 : Nat) (a02 : Option Addr) (u02 : Nat) (a10 : Option Addr) (u10 : Nat) (a11 : Option Addr) (u11 : Nat), Below w.heap.size w w0 → InTS w0 w0.heap.size a00 n0 t0 → InSM w0 w0.heap.size a01 m0 x0 → m0 ≤ u01 → InTS w0 w0.heap.size a02 q0 u0 → InL w0 w0.heap.size a10 n1 z1 → InL w0 w0.heap.size a11 m1 y1 → Calls Tryz.prog 12 #[.agg #[.slice a00 n0 u00, .slice a01 m0 u01, .slice a02 q0 u02], .agg #[.slice a10 n1 u10, .slice a11 m1 u11], .int .i64 i2] w0 fun e w1 => ∃ (R00 : Option Addr) (d00 : Nat) (R01 : Option Addr) (d01 : Nat) (R10 : Option Addr) (d10 : Nat) (md0 md1 : Nat), e = .returned (.tuple #[.agg #[.slice R00 l00 d00, .slice R01 l01 d01], .slice R10 l10 d10, .int .i64 r2, .bool r3]) ∧ OwnL w1 w0.heap.size md0 R00 l00 d00 y00 ∧ OwnL w1 md0 md1 R01 l01 d01 y01 ∧ OwnL w1 md1 w1.heap.size R10 l10 d10 y10 ∧ (w0.heap.size ≤ md0 ∧ md0 ≤ md1 ∧ md1 ≤ w1.heap.size) ∧ Below w0.heap.size w0 w1) :
    Calls Tryz.prog 3 #[.agg #[.slice A0 n0 cap0, .slice D0 m0 dap0, .slice E0 q0 eap0], .agg #[.slice A1 n1 cap1, .slice B1 m1 cbp1], .int .i64 i2] w fun e w' => e = .returned (.bool true) ∧ Below w.heap.size w w' := by
  have HS := Lib.hid HS0
  have HI := Lib.hid HI0
  clear HS0 HI0
  have hB := Below.refl w.heap.size w
  have hl_6 : (0 : Int) ≤ 1048576 - ((progN n0 t0 m0 x0 q0 u0 : Nat) : Int) := by omega
  have hl_9 : (0 : Int) ≤ 1048576 - ((progN n0 t0 m0 x0 q0 u0 : Nat) : Int) - ((n1 + m1 : Nat) : Int) := by omega
  go_enter Tryz.func3, Tryz.ntmps3
  go_wp2_with fail
  have hb_1 : Below w.heap.size w ((w.alloc (.cells #[.slice A0 n0 cap0, .slice D0 m0 dap0, .slice E0 q0 eap0] 25)).alloc (.cells #[.slice A1 n1 cap1, .slice B1 m1 cbp1] 28)) := bon (bnew _ _) (bnew _ _)
  have sz_2 : w.heap.size < ((w.alloc (.cells #[.slice A0 n0 cap0, .slice D0 m0 dap0, .slice E0 q0 eap0] 25)).alloc (.cells #[.slice A1 n1 cap1, .slice B1 m1 cbp1] 28)).heap.size := by simp <;> omega
  have a0_0 : ((w.alloc (.cells #[.slice A0 n0 cap0, .slice D0 m0 dap0, .slice E0 q0 eap0] 25)).alloc (.cells #[.slice A1 n1 cap1, .slice B1 m1 cbp1] 28)).cell? ⟨w.heap.size, 0, none⟩ = some (.slice A0 n0 cap0) := by simp
  have a0_1 : ((w.alloc (.cells #[.slice A0 n0 cap0, .slice D0 m0 dap0, .slice E0 q0 eap0] 25)).alloc (.cells #[.slice A1 n1 cap1, .slice B1 m1 cbp1] 28)).cell? ⟨w.heap.size, 1, none⟩ = some (.slice D0 m0 dap0) := by simp
  have a0_2 : ((w.alloc (.cells #[.slice A0 n0 cap0, .slice D0 m0 dap0, .slice E0 q0 eap0] 25)).alloc (.cells #[.slice A1 n1 cap1, .slice B1 m1 cbp1] 28)).cell? ⟨w.heap.size, 2, none⟩ = some (.slice E0 q0 eap0) := by simp
  have a0_l := sz_2
  have sz_3 : w.heap.size + 1 < ((w.alloc (.cells #[.slice A0 n0 cap0, .slice D0 m0 dap0, .slice E0 q0 eap0] 25)).alloc (.cells #[.slice A1 n1 cap1, .slice B1 m1 cbp1] 28)).heap.size := by simp
  have a1_0 : ((w.alloc (.cells #[.slice A0 n0 cap0, .slice D0 m0 dap0, .slice E0 q0 eap0] 25)).alloc (.cells #[.slice A1 n1 cap1, .slice B1 m1 cbp1] 28)).cell? ⟨w.heap.size + 1, 0, none⟩ = some (.slice A1 n1 cap1) := by simp
  have a1_1 : ((w.alloc (.cells #[.slice A0 n0 cap0, .slice D0 m0 dap0, .slice E0 q0 eap0] 25)).alloc (.cells #[.slice A1 n1 cap1, .slice B1 m1 cbp1] 28)).cell? ⟨w.heap.size + 1, 1, none⟩ = some (.slice B1 m1 cbp1) := by simp
  have a1_l := sz_3
  generalize (w.alloc (.cells #[.slice A0 n0 cap0, .slice D0 m0 dap0, .slice E0 q0 eap0] 25)).alloc (.cells #[.slice A1 n1 cap1, .slice B1 m1 cbp1] 28) = w1 at hb_1 a0_0 a0_1 a0_2 a1_0 a1_1 sz_2 a0_l sz_3 a1_l ⊢
  replace in0a := in0a.next hb_1 (by omega)
  replace in0b := in0b.next hb_1 (by omega)
  replace in0c := in0c.next hb_1 (by omega)
  replace in1a := in1a.next hb_1 (by omega)
  replace in1b := in1b.next hb_1 (by omega)
  replace hB := hB.trans (hb_1.mono hB.size)
  have sz_4 := hb_1.size
  refine (szProgram_k A0 n0 cap0 t0 D0 m0 dap0 x0 E0 q0 eap0 _ u0 _ _ in0a in0b in0c (by omega) (by omega) (by omega) (by assumption) (by assumption) (by assumption) (by assumption) (by assumption) (by assumption)).mono ?_
  rintro e w2 ⟨rfl, hb_5⟩
  rw [szv_yes (by omega)]
  replace in0a := in0a.next hb_5 (by omega)
  replace in0b := in0b.next hb_5 (by omega)
  replace in0c := in0c.next hb_5 (by omega)
  replace in1a := in1a.next hb_5 (by omega)
  replace in1b := in1b.next hb_5 (by omega)
  replace a0_0 := cell_next a0_0 hb_5
  replace a0_1 := cell_next a0_1 hb_5
  replace a0_2 := cell_next a0_2 hb_5
  replace a1_0 := cell_next a1_0 hb_5
  replace a1_1 := cell_next a1_1 hb_5
  replace a0_l := Nat.lt_of_lt_of_le a0_l hb_5.size
  replace a1_l := Nat.lt_of_lt_of_le a1_l hb_5.size
  replace hB := hB.trans (hb_5.mono hB.size)
  have sz_7 := hb_5.size
  go_wp2_with fail
  refine (szState_k A1 n1 cap1 B1 m1 cbp1 _ _ (by omega) (by omega) (by first | assumption | (unfold maxLen; omega)) (by first | assumption | (unfold maxLen; omega))).mono ?_
  rintro e w3 ⟨rfl, hb_8⟩
  rw [szv_yes (by omega)]
  replace in0a := in0a.next hb_8 (by omega)
  replace in0b := in0b.next hb_8 (by omega)
  replace in0c := in0c.next hb_8 (by omega)
  replace in1a := in1a.next hb_8 (by omega)
  replace in1b := in1b.next hb_8 (by omega)
  replace a0_0 := cell_next a0_0 hb_8
  replace a0_1 := cell_next a0_1 hb_8
  replace a0_2 := cell_next a0_2 hb_8
  replace a1_0 := cell_next a1_0 hb_8
  replace a1_1 := cell_next a1_1 hb_8
  replace a0_l := Nat.lt_of_lt_of_le a0_l hb_8.size
  replace a1_l := Nat.lt_of_lt_of_le a1_l hb_8.size
  replace hB := hB.trans (hb_8.mono hB.size)
  have sz_10 := hb_8.size
  go_wp2_with fail
  go_cut [8, 9, 10, 11] (fun s8 s9 s10 s11 wx => ∃ (R_11 : Option Addr) (d_12 : Nat) (R_13 : Option Addr) (d_14 : Nat) (R_15 : Option Addr) (d_16 : Nat) (bx_19 : Nat) (lo_22 hi_23 : Nat) (lo_26 hi_27 : Nat) (lo_30 hi_31 : Nat), s8 = .pointer (some ⟨bx_19, 0, none⟩) ∧ s9 = .slice R_15 l10 d_16 ∧ s10 = .int .i64 r2 ∧ s11 = .bool r3 ∧ wx.cell? ⟨bx_19, 0, none⟩ = some (.slice R_11 l00 d_12) ∧ wx.cell? ⟨bx_19, 1, none⟩ = some (.slice R_13 l01 d_14) ∧ bx_19 < wx.heap.size ∧ w3.heap.size ≤ bx_19 ∧ OwnL wx lo_22 hi_23 R_11 l00 d_12 y00 ∧ (w3.heap.size ≤ lo_22 ∧ lo_22 ≤ hi_23 ∧ hi_23 ≤ wx.heap.size) ∧ OwnL wx lo_26 hi_27 R_13 l01 d_14 y01 ∧ (w3.heap.size ≤ lo_26 ∧ lo_26 ≤ hi_27 ∧ hi_27 ≤ wx.heap.size) ∧ OwnL wx lo_30 hi_31 R_15 l10 d_16 y10 ∧ (w3.heap.size ≤ lo_30 ∧ lo_30 ≤ hi_31 ∧ hi_31 ≤ wx.heap.size) ∧ Below w3.heap.size w3 wx)
  case first =>
    have HT_34 := Lib.hid (fun (x : World) (h : Below w3.drew.heap.size w3.drew x) => toProgram_r A0 n0 cap0 t0 D0 m0 dap0 x0 E0 q0 eap0 u0 _ x (in0a.call (by omega) h) (in0b.call (by omega) h) (in0c.call (by omega) h) (le_call (by omega) h) h0ok)
    have HT_43 := Lib.hid (fun (x : World) (h : Below w3.drew.heap.size w3.drew x) => toState_k A1 n1 cap1 _ z1 B1 m1 cbp1 y1 x (in1a.call (by omega) h) (in1b.call (by omega) h) (le_call (by omega) h) h1ok h1gok)
    have hD0 : Below w3.drew.heap.size w3.drew w3.drew := Below.refl _ _
    have sc0_0 : w3.drew.cell? ⟨w.heap.size, 0, none⟩ = some (.slice A0 n0 cap0) := a0_0
    have sc1_0 : w3.drew.cell? ⟨w.heap.size, 1, none⟩ = some (.slice D0 m0 dap0) := a0_1
    have sc2_0 : w3.drew.cell? ⟨w.heap.size, 2, none⟩ = some (.slice E0 q0 eap0) := a0_2
    have sc3_0 : w3.drew.cell? ⟨w.heap.size + 1, 0, none⟩ = some (.slice A1 n1 cap1) := a1_0
    have sc4_0 : w3.drew.cell? ⟨w.heap.size + 1, 1, none⟩ = some (.slice B1 m1 cbp1) := a1_1
    refine wp_region_held_drew (S := fun w' => w'.cell? ⟨w.heap.size, 0, none⟩ = some (.slice A0 n0 cap0) ∧ w'.cell? ⟨w.heap.size, 1, none⟩ = some (.slice D0 m0 dap0) ∧ w'.cell? ⟨w.heap.size, 2, none⟩ = some (.slice E0 q0 eap0) ∧ w'.cell? ⟨w.heap.size + 1, 0, none⟩ = some (.slice A1 n1 cap1) ∧ w'.cell? ⟨w.heap.size + 1, 1, none⟩ = some (.slice B1 m1 cbp1)) (by kernel_rfl) ⟨sc0_0, sc1_0, sc2_0, sc3_0, sc4_0⟩ ?_
    intro hHeld0
    refine wpAnyH_take (i := 0) (v := ?_) rfl (by kernel_rfl) (by kernel_rfl) (by kernel_rfl) (fun _ _ _ h => h) (Or.inl ⟨by kernel_rfl, ?_⟩) (by assumption) ?_
    rotate_left
    · intro w9 hS9; (try dsimp only at hS9); go_simp; (try with_reducible rfl)
    set_option linter.unusedSimpArgs false in try simp only [Act.put, List.getElem_toArray, List.getElem_cons_succ, List.getElem_cons_zero, List.setIfInBounds_toArray, List.set_cons_zero, List.set_cons_succ]
    refine wpAnyH_take (i := 2) (v := ?_) rfl (by kernel_rfl) (by kernel_rfl) (by kernel_rfl) (fun _ _ _ h => h) (Or.inl ⟨by kernel_rfl, ?_⟩) (by assumption) ?_
    rotate_left
    · intro w9 hS9; (try dsimp only at hS9); go_simp; (try with_reducible rfl)
    set_option linter.unusedSimpArgs false in try simp only [Act.put, List.getElem_toArray, List.getElem_cons_succ, List.getElem_cons_zero, List.setIfInBounds_toArray, List.set_cons_zero, List.set_cons_succ]
    refine wpAnyH_take (i := 4) (v := ?_) rfl (by kernel_rfl) (by kernel_rfl) (by kernel_rfl) (fun _ _ _ h => h) (Or.inl ⟨by kernel_rfl, ?_⟩) (by assumption) ?_
    rotate_left
    · intro w9 hS9; (try dsimp only at hS9); go_simp; (try with_reducible rfl)
    set_option linter.unusedSimpArgs false in try simp only [Act.put, List.getElem_toArray, List.getElem_cons_succ, List.getElem_cons_zero, List.setIfInBounds_toArray, List.set_cons_zero, List.set_cons_succ]
    refine wpAnyH_ready (rs := [1, 11]) (by kernel_rfl) (by simp) ?_
    refine AllReadyH.cons rfl (fun K hK => ?_) (AllReadyH.cons rfl (fun K hK => ?_) AllReadyH.nil)
    · go_simp
      go_wp2_with (go_at_call 10; refine (HT_34.out _ (hD0)).mono ?_; rintro e v1 ⟨g_37, g_38, g_39, mz0, mz1, rfl, oa2, oa3, oa4, mdz, hb1⟩)
      have hw1 := bon (hD0) hb1
      have sc0_5 := cell_next (show w3.drew.cell? _ = _ from sc0_0) hb1
      have sc1_6 := cell_next (show w3.drew.cell? _ = _ from sc1_0) hb1
      have sc2_7 := cell_next (show w3.drew.cell? _ = _ from sc2_0) hb1
      have sc3_8 := cell_next (show w3.drew.cell? _ = _ from sc3_0) hb1
      have sc4_9 := cell_next (show w3.drew.cell? _ = _ from sc4_0) hb1
      refine hK.out _ _ ⟨sc0_5, sc1_6, sc2_7, sc3_8, sc4_9⟩ (fun hHeld10 => ?_)
      clear hK K hHeld0
      set_option linter.unusedSimpArgs false in try simp only [Act.put, List.getElem_toArray, List.getElem_cons_succ, List.getElem_cons_zero, List.setIfInBounds_toArray, List.set_cons_zero, List.set_cons_succ]
      refine wpAnyH_ready (rs := [3, 11]) (by kernel_rfl) (by simp) ?_
      refine AllReadyH.cons rfl (fun K hK => ?_) (AllReadyH.cons rfl (fun K hK => ?_) AllReadyH.nil)
      · go_simp
        go_wp2_with (go_at_call 11; refine (HT_43.out _ (hw1)).mono ?_; rintro e v11 ⟨g_46, g_47, mz0, rfl, oa12, oa13, mdz, hb11⟩)
        have hw11 := bon (hw1) hb11
        have sc0_14 := cell_next (show v1.cell? _ = _ from sc0_5) hb11
        have sc1_15 := cell_next (show v1.cell? _ = _ from sc1_6) hb11
        have sc2_16 := cell_next (show v1.cell? _ = _ from sc2_7) hb11
        have sc3_17 := cell_next (show v1.cell? _ = _ from sc3_8) hb11
        have sc4_18 := cell_next (show v1.cell? _ = _ from sc4_9) hb11
        have oa2_19 := oa2.next hb11
        have oa3_20 := oa3.next hb11
        have oa4_21 := oa4.next hb11
        refine hK.out _ _ ⟨sc0_14, sc1_15, sc2_16, sc3_17, sc4_18⟩ (fun hHeld22 => ?_)
        clear hK K hHeld10
        set_option linter.unusedSimpArgs false in try simp only [Act.put, List.getElem_toArray, List.getElem_cons_succ, List.getElem_cons_zero, List.setIfInBounds_toArray, List.set_cons_zero, List.set_cons_succ]
        refine wpAnyH_ready (rs := [5, 11]) (by kernel_rfl) (by simp) ?_
        refine AllReadyH.cons rfl (fun K hK => ?_) (AllReadyH.cons rfl (fun K hK => ?_) AllReadyH.nil)
        · go_simp
          go_wp2_with (go_at_call 9; refine (HS.out _ _ _ _ _ _ _ _ _ _ _ (bon hB (bstep (hw11))) oa2_19.all oa3_20.all (Nat.le_refl _) oa4_21.all oa12.all oa13.all).mono ?_; rintro e v23 ⟨R_11, d_12, R_13, d_14, R_15, d_16, rfl, op24, op25, op26, hb23⟩)
          have hw23 := bon (hw11) hb23
          have sc0_27 := cell_next (show v11.cell? _ = _ from sc0_14) hb23
          have sc1_28 := cell_next (show v11.cell? _ = _ from sc1_15) hb23
          have sc2_29 := cell_next (show v11.cell? _ = _ from sc2_16) hb23
          have sc3_30 := cell_next (show v11.cell? _ = _ from sc3_17) hb23
          have sc4_31 := cell_next (show v11.cell? _ = _ from sc4_18) hb23
          have oa2_19_32 := oa2_19.next hb23
          have oa3_20_33 := oa3_20.next hb23
          have oa4_21_34 := oa4_21.next hb23
          have oa12_35 := oa12.next hb23
          have oa13_36 := oa13.next hb23
          refine hK.out _ _ ⟨sc0_27, sc1_28, sc2_29, sc3_30, sc4_31⟩ (fun hHeld37 => ?_)
          clear hK K hHeld22
          set_option linter.unusedSimpArgs false in try simp only [Act.put, List.getElem_toArray, List.getElem_cons_succ, List.getElem_cons_zero, List.setIfInBounds_toArray, List.set_cons_zero, List.set_cons_succ]
          refine wpAnyH_take (i := 6) (v := ?_) rfl (by kernel_rfl) (by kernel_rfl) (by kernel_rfl) (fun _ _ _ h => h) (Or.inl ⟨by kernel_rfl, ?_⟩) (by assumption) ?_
          rotate_left
          · intro w9 hS9; (try dsimp only at hS9); go_simp; (try with_reducible rfl)
          set_option linter.unusedSimpArgs false in try simp only [Act.put, List.getElem_toArray, List.getElem_cons_succ, List.getElem_cons_zero, List.setIfInBounds_toArray, List.set_cons_zero, List.set_cons_succ]
          refine wpAnyH_take (i := 7) (v := ?_) rfl (by kernel_rfl) (by kernel_rfl) (by kernel_rfl) (fun _ _ _ h => h) (Or.inl ⟨by kernel_rfl, ?_⟩) (by assumption) ?_
          rotate_left
          · intro w9 hS9; (try dsimp only at hS9); go_simp; (try with_reducible rfl)
          set_option linter.unusedSimpArgs false in try simp only [Act.put, List.getElem_toArray, List.getElem_cons_succ, List.getElem_cons_zero, List.setIfInBounds_toArray, List.set_cons_zero, List.set_cons_succ]
          refine wpAnyH_take (i := 8) (v := ?_) rfl (by kernel_rfl) (by kernel_rfl) (by kernel_rfl) (fun _ _ _ h => h) (Or.inl ⟨by kernel_rfl, ?_⟩) (by assumption) ?_
          rotate_left
          · intro w9 hS9; (try dsimp only at hS9); go_simp; (try with_reducible rfl)
          set_option linter.unusedSimpArgs false in try simp only [Act.put, List.getElem_toArray, List.getElem_cons_succ, List.getElem_cons_zero, List.setIfInBounds_toArray, List.set_cons_zero, List.set_cons_succ]
          refine wpAnyH_take (i := 9) (v := ?_) rfl (by kernel_rfl) (by kernel_rfl) (by kernel_rfl) (fun _ _ _ h => h) (Or.inl ⟨by kernel_rfl, ?_⟩) (by assumption) ?_
          rotate_left
          · intro w9 hS9; (try dsimp only at hS9); go_simp; (try with_reducible rfl)
          set_option linter.unusedSimpArgs false in try simp only [Act.put, List.getElem_toArray, List.getElem_cons_succ, List.getElem_cons_zero, List.setIfInBounds_toArray, List.set_cons_zero, List.set_cons_succ]
          refine wpAnyH_take (i := 10) (v := ?_) rfl (by kernel_rfl) (by kernel_rfl) (by kernel_rfl) (fun _ _ _ h => h) (Or.inl ⟨by kernel_rfl, ?_⟩) (by assumption) ?_
          rotate_left
          · intro w9 hS9; (try dsimp only at hS9); go_simp; (try with_reducible rfl)
          set_option linter.unusedSimpArgs false in try simp only [Act.put, List.getElem_toArray, List.getElem_cons_succ, List.getElem_cons_zero, List.setIfInBounds_toArray, List.set_cons_zero, List.set_cons_succ]
          refine wpAnyH_ready (rs := [11]) (by kernel_rfl) (by simp) ?_
          refine AllReadyH.cons rfl (fun K hK => ?_) AllReadyH.nil
          go_simp
          have sc0_38 := cell_next sc0_27 (bnew v23 (.cells #[.slice none 0 0, .slice none 0 0] 31))
          have sc1_39 := cell_next sc1_28 (bnew v23 (.cells #[.slice none 0 0, .slice none 0 0] 31))
          have sc2_40 := cell_next sc2_29 (bnew v23 (.cells #[.slice none 0 0, .slice none 0 0] 31))
          have sc3_41 := cell_next sc3_30 (bnew v23 (.cells #[.slice none 0 0, .slice none 0 0] 31))
          have sc4_42 := cell_next sc4_31 (bnew v23 (.cells #[.slice none 0 0, .slice none 0 0] 31))
          refine hK.out _ _ ⟨sc0_38, sc1_39, sc2_40, sc3_41, sc4_42⟩ (fun hHeld43 => ?_)
          clear hK K hHeld37
          set_option linter.unusedSimpArgs false in try simp only [Act.put, List.getElem_toArray, List.getElem_cons_succ, List.getElem_cons_zero, List.setIfInBounds_toArray, List.set_cons_zero, List.set_cons_succ]
          refine wpAnyH_ready (rs := [12]) (by kernel_rfl) (by simp) ?_
          refine AllReadyH.cons rfl (fun K hK => ?_) AllReadyH.nil
          go_simp
          have sc0_44 := cell_next sc0_27 (bnew v23 (.cells #[.slice R_11 l00 d_12, .slice R_13 l01 d_14] 31))
          have sc1_45 := cell_next sc1_28 (bnew v23 (.cells #[.slice R_11 l00 d_12, .slice R_13 l01 d_14] 31))
          have sc2_46 := cell_next sc2_29 (bnew v23 (.cells #[.slice R_11 l00 d_12, .slice R_13 l01 d_14] 31))
          have sc3_47 := cell_next sc3_30 (bnew v23 (.cells #[.slice R_11 l00 d_12, .slice R_13 l01 d_14] 31))
          have sc4_48 := cell_next sc4_31 (bnew v23 (.cells #[.slice R_11 l00 d_12, .slice R_13 l01 d_14] 31))
          refine hK.out _ _ ⟨sc0_44, sc1_45, sc2_46, sc3_47, sc4_48⟩ (fun hHeld49 => ?_)
          clear hK K hHeld43
          set_option linter.unusedSimpArgs false in try simp only [Act.put, List.getElem_toArray, List.getElem_cons_succ, List.getElem_cons_zero, List.setIfInBounds_toArray, List.set_cons_zero, List.set_cons_succ]
          refine wpAnyH_take (i := 13) (v := ?_) rfl (by kernel_rfl) (by kernel_rfl) (by kernel_rfl) (fun _ _ _ h => h) (Or.inl ⟨by kernel_rfl, ?_⟩) (by assumption) ?_
          rotate_left
          · intro w9 hS9; (try dsimp only at hS9); go_simp; (try with_reducible rfl)
          set_option linter.unusedSimpArgs false in try simp only [Act.put, List.getElem_toArray, List.getElem_cons_succ, List.getElem_cons_zero, List.setIfInBounds_toArray, List.set_cons_zero, List.set_cons_succ]
          refine wpAnyH_take (i := 14) (v := ?_) rfl (by kernel_rfl) (by kernel_rfl) (by kernel_rfl) (fun _ _ _ h => h) (Or.inl ⟨by kernel_rfl, ?_⟩) (by assumption) ?_
          rotate_left
          · intro w9 hS9; (try dsimp only at hS9); go_simp; (try with_reducible rfl)
          set_option linter.unusedSimpArgs false in try simp only [Act.put, List.getElem_toArray, List.getElem_cons_succ, List.getElem_cons_zero, List.setIfInBounds_toArray, List.set_cons_zero, List.set_cons_succ]
          refine wpAnyH_take (i := 15) (v := ?_) rfl (by kernel_rfl) (by kernel_rfl) (by kernel_rfl) (fun _ _ _ h => h) (Or.inl ⟨by kernel_rfl, ?_⟩) (by assumption) ?_
          rotate_left
          · intro w9 hS9; (try dsimp only at hS9); go_simp; (try with_reducible rfl)
          set_option linter.unusedSimpArgs false in try simp only [Act.put, List.getElem_toArray, List.getElem_cons_succ, List.getElem_cons_zero, List.setIfInBounds_toArray, List.set_cons_zero, List.set_cons_succ]
          refine wpAnyH_done (by kernel_rfl) ?_ _
          go_wp2_with fail
          go_meet
          exact ⟨_, _, _, _, _, _, _, _, _, _, _, _, _, rfl, rfl, rfl, rfl, fin_new2 (bstep (hw11)) hb23 op24 (by have := hb23.size; omega) op25 (by have := hb23.size; omega) op26 (by have := hb23.size; omega)⟩
        · go_simp
          have hA50 : Below w3.drew.heap.size w3.drew (v11.alloc (.cells #[.slice none 0 0, .slice none 0 0] 31)) := bon (hw11) (bnew v11 _)
          have hA50b0 : BlkIs (v11.alloc (.cells #[.slice none 0 0, .slice none 0 0] 31)) v11.heap.size 31 #[.slice none 0 0, .slice none 0 0] := blk_new _ _ _ _ rfl
          have hA50b : BlkIs (v11.alloc (.cells #[.slice none 0 0, .slice none 0 0] 31)) v11.heap.size 31 #[.slice none 0 0, .slice none 0 0] := hA50b0
          have hA50g : w3.heap.size ≤ v11.heap.size := (bstep (hw11)).size
          have sc0_51 : (v11.alloc (.cells #[.slice none 0 0, .slice none 0 0] 31)).cell? ⟨w.heap.size, 0, none⟩ = some (.slice A0 n0 cap0) := cell_next (w1 := v11.alloc (.cells #[.slice none 0 0, .slice none 0 0] 31)) (show v11.cell? _ = _ from sc0_14) (bnew v11 _)
          have sc1_52 : (v11.alloc (.cells #[.slice none 0 0, .slice none 0 0] 31)).cell? ⟨w.heap.size, 1, none⟩ = some (.slice D0 m0 dap0) := cell_next (w1 := v11.alloc (.cells #[.slice none 0 0, .slice none 0 0] 31)) (show v11.cell? _ = _ from sc1_15) (bnew v11 _)
          have sc2_53 : (v11.alloc (.cells #[.slice none 0 0, .slice none 0 0] 31)).cell? ⟨w.heap.size, 2, none⟩ = some (.slice E0 q0 eap0) := cell_next (w1 := v11.alloc (.cells #[.slice none 0 0, .slice none 0 0] 31)) (show v11.cell? _ = _ from sc2_16) (bnew v11 _)
          have sc3_54 : (v11.alloc (.cells #[.slice none 0 0, .slice none 0 0] 31)).cell? ⟨w.heap.size + 1, 0, none⟩ = some (.slice A1 n1 cap1) := cell_next (w1 := v11.alloc (.cells #[.slice none 0 0, .slice none 0 0] 31)) (show v11.cell? _ = _ from sc3_17) (bnew v11 _)
          have sc4_55 : (v11.alloc (.cells #[.slice none 0 0, .slice none 0 0] 31)).cell? ⟨w.heap.size + 1, 1, none⟩ = some (.slice B1 m1 cbp1) := cell_next (w1 := v11.alloc (.cells #[.slice none 0 0, .slice none 0 0] 31)) (show v11.cell? _ = _ from sc4_18) (bnew v11 _)
          have oa2_19_56 := oa2_19.next (bnew v11 (.cells #[.slice none 0 0, .slice none 0 0] 31))
          have oa3_20_57 := oa3_20.next (bnew v11 (.cells #[.slice none 0 0, .slice none 0 0] 31))
          have oa4_21_58 := oa4_21.next (bnew v11 (.cells #[.slice none 0 0, .slice none 0 0] 31))
          have oa12_59 := oa12.next (bnew v11 (.cells #[.slice none 0 0, .slice none 0 0] 31))
          have oa13_60 := oa13.next (bnew v11 (.cells #[.slice none 0 0, .slice none 0 0] 31))
          refine hK.out _ _ ⟨sc0_51, sc1_52, sc2_53, sc3_54, sc4_55⟩ (fun hHeld61 => ?_)
          clear hK K hHeld22
          set_option linter.unusedSimpArgs false in try simp only [Act.put, List.getElem_toArray, List.getElem_cons_succ, List.getElem_cons_zero, List.setIfInBounds_toArray, List.set_cons_zero, List.set_cons_succ]
          refine wpAnyH_ready (rs := [5]) (by kernel_rfl) (by simp) ?_
          refine AllReadyH.cons rfl (fun K hK => ?_) AllReadyH.nil
          go_simp
          go_wp2_with (go_at_call 9; refine (HS.out _ _ _ _ _ _ _ _ _ _ _ (bon hB (bstep (hA50))) oa2_19_56.all oa3_20_57.all (Nat.le_refl _) oa4_21_58.all oa12_59.all oa13_60.all).mono ?_; rintro e v62 ⟨R_11, d_12, R_13, d_14, R_15, d_16, rfl, op63, op64, op65, hb62⟩)
          have hw62 := bon (hA50) hb62
          have sc0_66 := cell_next (show (v11.alloc (.cells #[.slice none 0 0, .slice none 0 0] 31)).cell? _ = _ from sc0_51) hb62
          have sc1_67 := cell_next (show (v11.alloc (.cells #[.slice none 0 0, .slice none 0 0] 31)).cell? _ = _ from sc1_52) hb62
          have sc2_68 := cell_next (show (v11.alloc (.cells #[.slice none 0 0, .slice none 0 0] 31)).cell? _ = _ from sc2_53) hb62
          have sc3_69 := cell_next (show (v11.alloc (.cells #[.slice none 0 0, .slice none 0 0] 31)).cell? _ = _ from sc3_54) hb62
          have sc4_70 := cell_next (show (v11.alloc (.cells #[.slice none 0 0, .slice none 0 0] 31)).cell? _ = _ from sc4_55) hb62
          have oa2_19_56_71 := oa2_19_56.next hb62
          have oa3_20_57_72 := oa3_20_57.next hb62
          have oa4_21_58_73 := oa4_21_58.next hb62
          have oa12_59_74 := oa12_59.next hb62
          have oa13_60_75 := oa13_60.next hb62
          have bk76 := hA50b.next hb62
          refine hK.out _ _ ⟨sc0_66, sc1_67, sc2_68, sc3_69, sc4_70⟩ (fun hHeld77 => ?_)
          clear hK K hHeld61
          set_option linter.unusedSimpArgs false in try simp only [Act.put, List.getElem_toArray, List.getElem_cons_succ, List.getElem_cons_zero, List.setIfInBounds_toArray, List.set_cons_zero, List.set_cons_succ]
          refine wpAnyH_take (i := 6) (v := ?_) rfl (by kernel_rfl) (by kernel_rfl) (by kernel_rfl) (fun _ _ _ h => h) (Or.inl ⟨by kernel_rfl, ?_⟩) (by assumption) ?_
          rotate_left
          · intro w9 hS9; (try dsimp only at hS9); go_simp; (try with_reducible rfl)
          set_option linter.unusedSimpArgs false in try simp only [Act.put, List.getElem_toArray, List.getElem_cons_succ, List.getElem_cons_zero, List.setIfInBounds_toArray, List.set_cons_zero, List.set_cons_succ]
          refine wpAnyH_take (i := 7) (v := ?_) rfl (by kernel_rfl) (by kernel_rfl) (by kernel_rfl) (fun _ _ _ h => h) (Or.inl ⟨by kernel_rfl, ?_⟩) (by assumption) ?_
          rotate_left
          · intro w9 hS9; (try dsimp only at hS9); go_simp; (try with_reducible rfl)
          set_option linter.unusedSimpArgs false in try simp only [Act.put, List.getElem_toArray, List.getElem_cons_succ, List.getElem_cons_zero, List.setIfInBounds_toArray, List.set_cons_zero, List.set_cons_succ]
          refine wpAnyH_take (i := 8) (v := ?_) rfl (by kernel_rfl) (by kernel_rfl) (by kernel_rfl) (fun _ _ _ h => h) (Or.inl ⟨by kernel_rfl, ?_⟩) (by assumption) ?_
          rotate_left
          · intro w9 hS9; (try dsimp only at hS9); go_simp; (try with_reducible rfl)
          set_option linter.unusedSimpArgs false in try simp only [Act.put, List.getElem_toArray, List.getElem_cons_succ, List.getElem_cons_zero, List.setIfInBounds_toArray, List.set_cons_zero, List.set_cons_succ]
          refine wpAnyH_take (i := 9) (v := ?_) rfl (by kernel_rfl) (by kernel_rfl) (by kernel_rfl) (fun _ _ _ h => h) (Or.inl ⟨by kernel_rfl, ?_⟩) (by assumption) ?_
          rotate_left
          · intro w9 hS9; (try dsimp only at hS9); go_simp; (try with_reducible rfl)
          set_option linter.unusedSimpArgs false in try simp only [Act.put, List.getElem_toArray, List.getElem_cons_succ, List.getElem_cons_zero, List.setIfInBounds_toArray, List.set_cons_zero, List.set_cons_succ]
          refine wpAnyH_take (i := 10) (v := ?_) rfl (by kernel_rfl) (by kernel_rfl) (by kernel_rfl) (fun _ _ _ h => h) (Or.inl ⟨by kernel_rfl, ?_⟩) (by assumption) ?_
          rotate_left
          · intro w9 hS9; (try dsimp only at hS9); go_simp; (try with_reducible rfl)
          set_option linter.unusedSimpArgs false in try simp only [Act.put, List.getElem_toArray, List.getElem_cons_succ, List.getElem_cons_zero, List.setIfInBounds_toArray, List.set_cons_zero, List.set_cons_succ]
          have z0 := bk76.cell 0
          have f0 := bk76.frozen 0
          have z1 := bk76.cell 1
          have f1 := bk76.frozen 1
          simp at z0 z1
          have ho78 : Out (v11.heap.size) (v11.heap.size + 1) v62 ((v62.setCell ⟨v11.heap.size, 0, none⟩ (.slice R_11 l00 d_12)).setCell ⟨v11.heap.size, 1, none⟩ (.slice R_13 l01 d_14)) := out_set (out_set (Out.refl _ _ _) (by omega)) (by omega)
          have sc0_79 := ho78.cell sc0_66 (by omega)
          have sc1_80 := ho78.cell sc1_67 (by omega)
          have sc2_81 := ho78.cell sc2_68 (by omega)
          have sc3_82 := ho78.cell sc3_69 (by omega)
          have sc4_83 := ho78.cell sc4_70 (by omega)
          refine wpAnyH_ready (rs := [12]) (by kernel_rfl) (by simp) ?_
          refine AllReadyH.cons rfl (fun K hK => ?_) AllReadyH.nil
          go_simp
          refine hK.out _ _ ⟨sc0_79, sc1_80, sc2_81, sc3_82, sc4_83⟩ (fun hHeld84 => ?_)
          clear hK K hHeld77
          set_option linter.unusedSimpArgs false in try simp only [Act.put, List.getElem_toArray, List.getElem_cons_succ, List.getElem_cons_zero, List.setIfInBounds_toArray, List.set_cons_zero, List.set_cons_succ]
          refine wpAnyH_take (i := 13) (v := ?_) rfl (by kernel_rfl) (by kernel_rfl) (by kernel_rfl) (fun _ _ _ h => h) (Or.inl ⟨by kernel_rfl, ?_⟩) (by assumption) ?_
          rotate_left
          · intro w9 hS9; (try dsimp only at hS9); go_simp; (try with_reducible rfl)
          set_option linter.unusedSimpArgs false in try simp only [Act.put, List.getElem_toArray, List.getElem_cons_succ, List.getElem_cons_zero, List.setIfInBounds_toArray, List.set_cons_zero, List.set_cons_succ]
          refine wpAnyH_take (i := 14) (v := ?_) rfl (by kernel_rfl) (by kernel_rfl) (by kernel_rfl) (fun _ _ _ h => h) (Or.inl ⟨by kernel_rfl, ?_⟩) (by assumption) ?_
          rotate_left
          · intro w9 hS9; (try dsimp only at hS9); go_simp; (try with_reducible rfl)
          set_option linter.unusedSimpArgs false in try simp only [Act.put, List.getElem_toArray, List.getElem_cons_succ, List.getElem_cons_zero, List.setIfInBounds_toArray, List.set_cons_zero, List.set_cons_succ]
          refine wpAnyH_take (i := 15) (v := ?_) rfl (by kernel_rfl) (by kernel_rfl) (by kernel_rfl) (fun _ _ _ h => h) (Or.inl ⟨by kernel_rfl, ?_⟩) (by assumption) ?_
          rotate_left
          · intro w9 hS9; (try dsimp only at hS9); go_simp; (try with_reducible rfl)
          set_option linter.unusedSimpArgs false in try simp only [Act.put, List.getElem_toArray, List.getElem_cons_succ, List.getElem_cons_zero, List.setIfInBounds_toArray, List.set_cons_zero, List.set_cons_succ]
          refine wpAnyH_done (by kernel_rfl) ?_ _
          go_wp2_with fail
          go_meet
          exact ⟨_, _, _, _, _, _, _, _, _, _, _, _, _, rfl, rfl, rfl, rfl, fin_box2 (bstep (hA50)) ⟨bk76, hA50b.lt, hA50g⟩ hb62 op63 (by have := hb62.size; omega) op64 (by have := hb62.size; omega) op65 (by have := hb62.size; omega)⟩
      · go_simp
        have hA85 : Below w3.drew.heap.size w3.drew (v1.alloc (.cells #[.slice none 0 0, .slice none 0 0] 31)) := bon (hw1) (bnew v1 _)
        have hA85b0 : BlkIs (v1.alloc (.cells #[.slice none 0 0, .slice none 0 0] 31)) v1.heap.size 31 #[.slice none 0 0, .slice none 0 0] := blk_new _ _ _ _ rfl
        have hA85b : BlkIs (v1.alloc (.cells #[.slice none 0 0, .slice none 0 0] 31)) v1.heap.size 31 #[.slice none 0 0, .slice none 0 0] := hA85b0
        have hA85g : w3.heap.size ≤ v1.heap.size := (bstep (hw1)).size
        have sc0_86 : (v1.alloc (.cells #[.slice none 0 0, .slice none 0 0] 31)).cell? ⟨w.heap.size, 0, none⟩ = some (.slice A0 n0 cap0) := cell_next (w1 := v1.alloc (.cells #[.slice none 0 0, .slice none 0 0] 31)) (show v1.cell? _ = _ from sc0_5) (bnew v1 _)
        have sc1_87 : (v1.alloc (.cells #[.slice none 0 0, .slice none 0 0] 31)).cell? ⟨w.heap.size, 1, none⟩ = some (.slice D0 m0 dap0) := cell_next (w1 := v1.alloc (.cells #[.slice none 0 0, .slice none 0 0] 31)) (show v1.cell? _ = _ from sc1_6) (bnew v1 _)
        have sc2_88 : (v1.alloc (.cells #[.slice none 0 0, .slice none 0 0] 31)).cell? ⟨w.heap.size, 2, none⟩ = some (.slice E0 q0 eap0) := cell_next (w1 := v1.alloc (.cells #[.slice none 0 0, .slice none 0 0] 31)) (show v1.cell? _ = _ from sc2_7) (bnew v1 _)
        have sc3_89 : (v1.alloc (.cells #[.slice none 0 0, .slice none 0 0] 31)).cell? ⟨w.heap.size + 1, 0, none⟩ = some (.slice A1 n1 cap1) := cell_next (w1 := v1.alloc (.cells #[.slice none 0 0, .slice none 0 0] 31)) (show v1.cell? _ = _ from sc3_8) (bnew v1 _)
        have sc4_90 : (v1.alloc (.cells #[.slice none 0 0, .slice none 0 0] 31)).cell? ⟨w.heap.size + 1, 1, none⟩ = some (.slice B1 m1 cbp1) := cell_next (w1 := v1.alloc (.cells #[.slice none 0 0, .slice none 0 0] 31)) (show v1.cell? _ = _ from sc4_9) (bnew v1 _)
        have oa2_91 := oa2.next (bnew v1 (.cells #[.slice none 0 0, .slice none 0 0] 31))
        have oa3_92 := oa3.next (bnew v1 (.cells #[.slice none 0 0, .slice none 0 0] 31))
        have oa4_93 := oa4.next (bnew v1 (.cells #[.slice none 0 0, .slice none 0 0] 31))
        refine hK.out _ _ ⟨sc0_86, sc1_87, sc2_88, sc3_89, sc4_90⟩ (fun hHeld94 => ?_)
        clear hK K hHeld10
        set_option linter.unusedSimpArgs false in try simp only [Act.put, List.getElem_toArray, List.getElem_cons_succ, List.getElem_cons_zero, List.setIfInBounds_toArray, List.set_cons_zero, List.set_cons_succ]
        refine wpAnyH_ready (rs := [3]) (by kernel_rfl) (by simp) ?_
        refine AllReadyH.cons rfl (fun K hK => ?_) AllReadyH.nil
        go_simp
        go_wp2_with (go_at_call 11; refine (HT_43.out _ (hA85)).mono ?_; rintro e v95 ⟨g_46, g_47, mz0, rfl, oa96, oa97, mdz, hb95⟩)
        have hw95 := bon (hA85) hb95
        have sc0_98 := cell_next (show (v1.alloc (.cells #[.slice none 0 0, .slice none 0 0] 31)).cell? _ = _ from sc0_86) hb95
        have sc1_99 := cell_next (show (v1.alloc (.cells #[.slice none 0 0, .slice none 0 0] 31)).cell? _ = _ from sc1_87) hb95
        have sc2_100 := cell_next (show (v1.alloc (.cells #[.slice none 0 0, .slice none 0 0] 31)).cell? _ = _ from sc2_88) hb95
        have sc3_101 := cell_next (show (v1.alloc (.cells #[.slice none 0 0, .slice none 0 0] 31)).cell? _ = _ from sc3_89) hb95
        have sc4_102 := cell_next (show (v1.alloc (.cells #[.slice none 0 0, .slice none 0 0] 31)).cell? _ = _ from sc4_90) hb95
        have oa2_91_103 := oa2_91.next hb95
        have oa3_92_104 := oa3_92.next hb95
        have oa4_93_105 := oa4_93.next hb95
        have bk106 := hA85b.next hb95
        refine hK.out _ _ ⟨sc0_98, sc1_99, sc2_100, sc3_101, sc4_102⟩ (fun hHeld107 => ?_)
        clear hK K hHeld94
        set_option linter.unusedSimpArgs false in try simp only [Act.put, List.getElem_toArray, List.getElem_cons_succ, List.getElem_cons_zero, List.setIfInBounds_toArray, List.set_cons_zero, List.set_cons_succ]
        refine wpAnyH_ready (rs := [5]) (by kernel_rfl) (by simp) ?_
        refine AllReadyH.cons rfl (fun K hK => ?_) AllReadyH.nil
        go_simp
        go_wp2_with (go_at_call 9; refine (HS.out _ _ _ _ _ _ _ _ _ _ _ (bon hB (bstep (hw95))) oa2_91_103.all oa3_92_104.all (Nat.le_refl _) oa4_93_105.all oa96.all oa97.all).mono ?_; rintro e v108 ⟨R_11, d_12, R_13, d_14, R_15, d_16, rfl, op109, op110, op111, hb108⟩)
        have hw108 := bon (hw95) hb108
        have sc0_112 := cell_next (show v95.cell? _ = _ from sc0_98) hb108
        have sc1_113 := cell_next (show v95.cell? _ = _ from sc1_99) hb108
        have sc2_114 := cell_next (show v95.cell? _ = _ from sc2_100) hb108
        have sc3_115 := cell_next (show v95.cell? _ = _ from sc3_101) hb108
        have sc4_116 := cell_next (show v95.cell? _ = _ from sc4_102) hb108
        have oa2_91_103_117 := oa2_91_103.next hb108
        have oa3_92_104_118 := oa3_92_104.next hb108
        have oa4_93_105_119 := oa4_93_105.next hb108
        have oa96_120 := oa96.next hb108
        have oa97_121 := oa97.next hb108
        have bk122 := bk106.next hb108
        refine hK.out _ _ ⟨sc0_112, sc1_113, sc2_114, sc3_115, sc4_116⟩ (fun hHeld123 => ?_)
        clear hK K hHeld107
        set_option linter.unusedSimpArgs false in try simp only [Act.put, List.getElem_toArray, List.getElem_cons_succ, List.getElem_cons_zero, List.setIfInBounds_toArray, List.set_cons_zero, List.set_cons_succ]
        refine wpAnyH_take (i := 6) (v := ?_) rfl (by kernel_rfl) (by kernel_rfl) (by kernel_rfl) (fun _ _ _ h => h) (Or.inl ⟨by kernel_rfl, ?_⟩) (by assumption) ?_
        rotate_left
        · intro w9 hS9; (try dsimp only at hS9); go_simp; (try with_reducible rfl)
        set_option linter.unusedSimpArgs false in try simp only [Act.put, List.getElem_toArray, List.getElem_cons_succ, List.getElem_cons_zero, List.setIfInBounds_toArray, List.set_cons_zero, List.set_cons_succ]
        refine wpAnyH_take (i := 7) (v := ?_) rfl (by kernel_rfl) (by kernel_rfl) (by kernel_rfl) (fun _ _ _ h => h) (Or.inl ⟨by kernel_rfl, ?_⟩) (by assumption) ?_
        rotate_left
        · intro w9 hS9; (try dsimp only at hS9); go_simp; (try with_reducible rfl)
        set_option linter.unusedSimpArgs false in try simp only [Act.put, List.getElem_toArray, List.getElem_cons_succ, List.getElem_cons_zero, List.setIfInBounds_toArray, List.set_cons_zero, List.set_cons_succ]
        refine wpAnyH_take (i := 8) (v := ?_) rfl (by kernel_rfl) (by kernel_rfl) (by kernel_rfl) (fun _ _ _ h => h) (Or.inl ⟨by kernel_rfl, ?_⟩) (by assumption) ?_
        rotate_left
        · intro w9 hS9; (try dsimp only at hS9); go_simp; (try with_reducible rfl)
        set_option linter.unusedSimpArgs false in try simp only [Act.put, List.getElem_toArray, List.getElem_cons_succ, List.getElem_cons_zero, List.setIfInBounds_toArray, List.set_cons_zero, List.set_cons_succ]
        refine wpAnyH_take (i := 9) (v := ?_) rfl (by kernel_rfl) (by kernel_rfl) (by kernel_rfl) (fun _ _ _ h => h) (Or.inl ⟨by kernel_rfl, ?_⟩) (by assumption) ?_
        rotate_left
        · intro w9 hS9; (try dsimp only at hS9); go_simp; (try with_reducible rfl)
        set_option linter.unusedSimpArgs false in try simp only [Act.put, List.getElem_toArray, List.getElem_cons_succ, List.getElem_cons_zero, List.setIfInBounds_toArray, List.set_cons_zero, List.set_cons_succ]
        refine wpAnyH_take (i := 10) (v := ?_) rfl (by kernel_rfl) (by kernel_rfl) (by kernel_rfl) (fun _ _ _ h => h) (Or.inl ⟨by kernel_rfl, ?_⟩) (by assumption) ?_
        rotate_left
        · intro w9 hS9; (try dsimp only at hS9); go_simp; (try with_reducible rfl)
        set_option linter.unusedSimpArgs false in try simp only [Act.put, List.getElem_toArray, List.getElem_cons_succ, List.getElem_cons_zero, List.setIfInBounds_toArray, List.set_cons_zero, List.set_cons_succ]
        have z0 := bk122.cell 0
        have f0 := bk122.frozen 0
        have z1 := bk122.cell 1
        have f1 := bk122.frozen 1
        simp at z0 z1
        have ho124 : Out (v1.heap.size) (v1.heap.size + 1) v108 ((v108.setCell ⟨v1.heap.size, 0, none⟩ (.slice R_11 l00 d_12)).setCell ⟨v1.heap.size, 1, none⟩ (.slice R_13 l01 d_14)) := out_set (out_set (Out.refl _ _ _) (by omega)) (by omega)
        have sc0_125 := ho124.cell sc0_112 (by omega)
        have sc1_126 := ho124.cell sc1_113 (by omega)
        have sc2_127 := ho124.cell sc2_114 (by omega)
        have sc3_128 := ho124.cell sc3_115 (by omega)
        have sc4_129 := ho124.cell sc4_116 (by omega)
        refine wpAnyH_ready (rs := [12]) (by kernel_rfl) (by simp) ?_
        refine AllReadyH.cons rfl (fun K hK => ?_) AllReadyH.nil
        go_simp
        refine hK.out _ _ ⟨sc0_125, sc1_126, sc2_127, sc3_128, sc4_129⟩ (fun hHeld130 => ?_)
        clear hK K hHeld123
        set_option linter.unusedSimpArgs false in try simp only [Act.put, List.getElem_toArray, List.getElem_cons_succ, List.getElem_cons_zero, List.setIfInBounds_toArray, List.set_cons_zero, List.set_cons_succ]
        refine wpAnyH_take (i := 13) (v := ?_) rfl (by kernel_rfl) (by kernel_rfl) (by kernel_rfl) (fun _ _ _ h => h) (Or.inl ⟨by kernel_rfl, ?_⟩) (by assumption) ?_
        rotate_left
        · intro w9 hS9; (try dsimp only at hS9); go_simp; (try with_reducible rfl)
        set_option linter.unusedSimpArgs false in try simp only [Act.put, List.getElem_toArray, List.getElem_cons_succ, List.getElem_cons_zero, List.setIfInBounds_toArray, List.set_cons_zero, List.set_cons_succ]
        refine wpAnyH_take (i := 14) (v := ?_) rfl (by kernel_rfl) (by kernel_rfl) (by kernel_rfl) (fun _ _ _ h => h) (Or.inl ⟨by kernel_rfl, ?_⟩) (by assumption) ?_
        rotate_left
        · intro w9 hS9; (try dsimp only at hS9); go_simp; (try with_reducible rfl)
        set_option linter.unusedSimpArgs false in try simp only [Act.put, List.getElem_toArray, List.getElem_cons_succ, List.getElem_cons_zero, List.setIfInBounds_toArray, List.set_cons_zero, List.set_cons_succ]
        refine wpAnyH_take (i := 15) (v := ?_) rfl (by kernel_rfl) (by kernel_rfl) (by kernel_rfl) (fun _ _ _ h => h) (Or.inl ⟨by kernel_rfl, ?_⟩) (by assumption) ?_
        rotate_left
        · intro w9 hS9; (try dsimp only at hS9); go_simp; (try with_reducible rfl)
        set_option linter.unusedSimpArgs false in try simp only [Act.put, List.getElem_toArray, List.getElem_cons_succ, List.getElem_cons_zero, List.setIfInBounds_toArray, List.set_cons_zero, List.set_cons_succ]
        refine wpAnyH_done (by kernel_rfl) ?_ _
        go_wp2_with fail
        go_meet
        exact ⟨_, _, _, _, _, _, _, _, _, _, _, _, _, rfl, rfl, rfl, rfl, fin_box2 (bstep (hw95)) ⟨bk122, bk106.lt, hA85g⟩ hb108 op109 (by have := hb108.size; omega) op110 (by have := hb108.size; omega) op111 (by have := hb108.size; omega)⟩
    · go_simp
      have hA131 : Below w3.drew.heap.size w3.drew (w3.alloc (.cells #[.slice none 0 0, .slice none 0 0] 31)).drew := bel_ad w3 _
      have hA131b0 : BlkIs (w3.alloc (.cells #[.slice none 0 0, .slice none 0 0] 31)) w3.heap.size 31 #[.slice none 0 0, .slice none 0 0] := blk_new _ _ _ _ rfl
      have hA131b : BlkIs (w3.alloc (.cells #[.slice none 0 0, .slice none 0 0] 31)).drew w3.heap.size 31 #[.slice none 0 0, .slice none 0 0] := hA131b0
      have hA131g : w3.heap.size ≤ w3.heap.size := Nat.le_refl _
      have sc0_132 : (w3.alloc (.cells #[.slice none 0 0, .slice none 0 0] 31)).drew.cell? ⟨w.heap.size, 0, none⟩ = some (.slice A0 n0 cap0) := cell_next (w1 := w3.alloc (.cells #[.slice none 0 0, .slice none 0 0] 31)) (show w3.cell? _ = _ from sc0_0) (bnew w3 _)
      have sc1_133 : (w3.alloc (.cells #[.slice none 0 0, .slice none 0 0] 31)).drew.cell? ⟨w.heap.size, 1, none⟩ = some (.slice D0 m0 dap0) := cell_next (w1 := w3.alloc (.cells #[.slice none 0 0, .slice none 0 0] 31)) (show w3.cell? _ = _ from sc1_0) (bnew w3 _)
      have sc2_134 : (w3.alloc (.cells #[.slice none 0 0, .slice none 0 0] 31)).drew.cell? ⟨w.heap.size, 2, none⟩ = some (.slice E0 q0 eap0) := cell_next (w1 := w3.alloc (.cells #[.slice none 0 0, .slice none 0 0] 31)) (show w3.cell? _ = _ from sc2_0) (bnew w3 _)
      have sc3_135 : (w3.alloc (.cells #[.slice none 0 0, .slice none 0 0] 31)).drew.cell? ⟨w.heap.size + 1, 0, none⟩ = some (.slice A1 n1 cap1) := cell_next (w1 := w3.alloc (.cells #[.slice none 0 0, .slice none 0 0] 31)) (show w3.cell? _ = _ from sc3_0) (bnew w3 _)
      have sc4_136 : (w3.alloc (.cells #[.slice none 0 0, .slice none 0 0] 31)).drew.cell? ⟨w.heap.size + 1, 1, none⟩ = some (.slice B1 m1 cbp1) := cell_next (w1 := w3.alloc (.cells #[.slice none 0 0, .slice none 0 0] 31)) (show w3.cell? _ = _ from sc4_0) (bnew w3 _)
      refine hK.out _ _ ⟨sc0_132, sc1_133, sc2_134, sc3_135, sc4_136⟩ (fun hHeld137 => ?_)
      clear hK K hHeld0
      set_option linter.unusedSimpArgs false in try simp only [Act.put, List.getElem_toArray, List.getElem_cons_succ, List.getElem_cons_zero, List.setIfInBounds_toArray, List.set_cons_zero, List.set_cons_succ]
      refine wpAnyH_ready (rs := [1]) (by kernel_rfl) (by simp) ?_
      refine AllReadyH.cons rfl (fun K hK => ?_) AllReadyH.nil
      go_simp
      go_wp2_with (go_at_call 10; refine (HT_34.out _ (hA131)).mono ?_; rintro e v138 ⟨g_37, g_38, g_39, mz0, mz1, rfl, oa139, oa140, oa141, mdz, hb138⟩)
      have hw138 := bon (hA131) hb138
      have sc0_142 := cell_next (show (w3.alloc (.cells #[.slice none 0 0, .slice none 0 0] 31)).drew.cell? _ = _ from sc0_132) hb138
      have sc1_143 := cell_next (show (w3.alloc (.cells #[.slice none 0 0, .slice none 0 0] 31)).drew.cell? _ = _ from sc1_133) hb138
      have sc2_144 := cell_next (show (w3.alloc (.cells #[.slice none 0 0, .slice none 0 0] 31)).drew.cell? _ = _ from sc2_134) hb138
      have sc3_145 := cell_next (show (w3.alloc (.cells #[.slice none 0 0, .slice none 0 0] 31)).drew.cell? _ = _ from sc3_135) hb138
      have sc4_146 := cell_next (show (w3.alloc (.cells #[.slice none 0 0, .slice none 0 0] 31)).drew.cell? _ = _ from sc4_136) hb138
      have bk147 := hA131b.next hb138
      refine hK.out _ _ ⟨sc0_142, sc1_143, sc2_144, sc3_145, sc4_146⟩ (fun hHeld148 => ?_)
      clear hK K hHeld137
      set_option linter.unusedSimpArgs false in try simp only [Act.put, List.getElem_toArray, List.getElem_cons_succ, List.getElem_cons_zero, List.setIfInBounds_toArray, List.set_cons_zero, List.set_cons_succ]
      refine wpAnyH_ready (rs := [3]) (by kernel_rfl) (by simp) ?_
      refine AllReadyH.cons rfl (fun K hK => ?_) AllReadyH.nil
      go_simp
      go_wp2_with (go_at_call 11; refine (HT_43.out _ (hw138)).mono ?_; rintro e v149 ⟨g_46, g_47, mz0, rfl, oa150, oa151, mdz, hb149⟩)
      have hw149 := bon (hw138) hb149
      have sc0_152 := cell_next (show v138.cell? _ = _ from sc0_142) hb149
      have sc1_153 := cell_next (show v138.cell? _ = _ from sc1_143) hb149
      have sc2_154 := cell_next (show v138.cell? _ = _ from sc2_144) hb149
      have sc3_155 := cell_next (show v138.cell? _ = _ from sc3_145) hb149
      have sc4_156 := cell_next (show v138.cell? _ = _ from sc4_146) hb149
      have oa139_157 := oa139.next hb149
      have oa140_158 := oa140.next hb149
      have oa141_159 := oa141.next hb149
      have bk160 := bk147.next hb149
      refine hK.out _ _ ⟨sc0_152, sc1_153, sc2_154, sc3_155, sc4_156⟩ (fun hHeld161 => ?_)
      clear hK K hHeld148
      set_option linter.unusedSimpArgs false in try simp only [Act.put, List.getElem_toArray, List.getElem_cons_succ, List.getElem_cons_zero, List.setIfInBounds_toArray, List.set_cons_zero, List.set_cons_succ]
      refine wpAnyH_ready (rs := [5]) (by kernel_rfl) (by simp) ?_
      refine AllReadyH.cons rfl (fun K hK => ?_) AllReadyH.nil
      go_simp
      go_wp2_with (go_at_call 9; refine (HS.out _ _ _ _ _ _ _ _ _ _ _ (bon hB (bstep (hw149))) oa139_157.all oa140_158.all (Nat.le_refl _) oa141_159.all oa150.all oa151.all).mono ?_; rintro e v162 ⟨R_11, d_12, R_13, d_14, R_15, d_16, rfl, op163, op164, op165, hb162⟩)
      have hw162 := bon (hw149) hb162
      have sc0_166 := cell_next (show v149.cell? _ = _ from sc0_152) hb162
      have sc1_167 := cell_next (show v149.cell? _ = _ from sc1_153) hb162
      have sc2_168 := cell_next (show v149.cell? _ = _ from sc2_154) hb162
      have sc3_169 := cell_next (show v149.cell? _ = _ from sc3_155) hb162
      have sc4_170 := cell_next (show v149.cell? _ = _ from sc4_156) hb162
      have oa139_157_171 := oa139_157.next hb162
      have oa140_158_172 := oa140_158.next hb162
      have oa141_159_173 := oa141_159.next hb162
      have oa150_174 := oa150.next hb162
      have oa151_175 := oa151.next hb162
      have bk176 := bk160.next hb162
      refine hK.out _ _ ⟨sc0_166, sc1_167, sc2_168, sc3_169, sc4_170⟩ (fun hHeld177 => ?_)
      clear hK K hHeld161
      set_option linter.unusedSimpArgs false in try simp only [Act.put, List.getElem_toArray, List.getElem_cons_succ, List.getElem_cons_zero, List.setIfInBounds_toArray, List.set_cons_zero, List.set_cons_succ]
      refine wpAnyH_take (i := 6) (v := ?_) rfl (by kernel_rfl) (by kernel_rfl) (by kernel_rfl) (fun _ _ _ h => h) (Or.inl ⟨by kernel_rfl, ?_⟩) (by assumption) ?_
      rotate_left
      · intro w9 hS9; (try dsimp only at hS9); go_simp; (try with_reducible rfl)
      set_option linter.unusedSimpArgs false in try simp only [Act.put, List.getElem_toArray, List.getElem_cons_succ, List.getElem_cons_zero, List.setIfInBounds_toArray, List.set_cons_zero, List.set_cons_succ]
      refine wpAnyH_take (i := 7) (v := ?_) rfl (by kernel_rfl) (by kernel_rfl) (by kernel_rfl) (fun _ _ _ h => h) (Or.inl ⟨by kernel_rfl, ?_⟩) (by assumption) ?_
      rotate_left
      · intro w9 hS9; (try dsimp only at hS9); go_simp; (try with_reducible rfl)
      set_option linter.unusedSimpArgs false in try simp only [Act.put, List.getElem_toArray, List.getElem_cons_succ, List.getElem_cons_zero, List.setIfInBounds_toArray, List.set_cons_zero, List.set_cons_succ]
      refine wpAnyH_take (i := 8) (v := ?_) rfl (by kernel_rfl) (by kernel_rfl) (by kernel_rfl) (fun _ _ _ h => h) (Or.inl ⟨by kernel_rfl, ?_⟩) (by assumption) ?_
      rotate_left
      · intro w9 hS9; (try dsimp only at hS9); go_simp; (try with_reducible rfl)
      set_option linter.unusedSimpArgs false in try simp only [Act.put, List.getElem_toArray, List.getElem_cons_succ, List.getElem_cons_zero, List.setIfInBounds_toArray, List.set_cons_zero, List.set_cons_succ]
      refine wpAnyH_take (i := 9) (v := ?_) rfl (by kernel_rfl) (by kernel_rfl) (by kernel_rfl) (fun _ _ _ h => h) (Or.inl ⟨by kernel_rfl, ?_⟩) (by assumption) ?_
      rotate_left
      · intro w9 hS9; (try dsimp only at hS9); go_simp; (try with_reducible rfl)
      set_option linter.unusedSimpArgs false in try simp only [Act.put, List.getElem_toArray, List.getElem_cons_succ, List.getElem_cons_zero, List.setIfInBounds_toArray, List.set_cons_zero, List.set_cons_succ]
      refine wpAnyH_take (i := 10) (v := ?_) rfl (by kernel_rfl) (by kernel_rfl) (by kernel_rfl) (fun _ _ _ h => h) (Or.inl ⟨by kernel_rfl, ?_⟩) (by assumption) ?_
      rotate_left
      · intro w9 hS9; (try dsimp only at hS9); go_simp; (try with_reducible rfl)
      set_option linter.unusedSimpArgs false in try simp only [Act.put, List.getElem_toArray, List.getElem_cons_succ, List.getElem_cons_zero, List.setIfInBounds_toArray, List.set_cons_zero, List.set_cons_succ]
      have z0 := bk176.cell 0
      have f0 := bk176.frozen 0
      have z1 := bk176.cell 1
      have f1 := bk176.frozen 1
      simp at z0 z1
      have ho178 : Out (w3.heap.size) (w3.heap.size + 1) v162 ((v162.setCell ⟨w3.heap.size, 0, none⟩ (.slice R_11 l00 d_12)).setCell ⟨w3.heap.size, 1, none⟩ (.slice R_13 l01 d_14)) := out_set (out_set (Out.refl _ _ _) (by omega)) (by omega)
      have sc0_179 := ho178.cell sc0_166 (by omega)
      have sc1_180 := ho178.cell sc1_167 (by omega)
      have sc2_181 := ho178.cell sc2_168 (by omega)
      have sc3_182 := ho178.cell sc3_169 (by omega)
      have sc4_183 := ho178.cell sc4_170 (by omega)
      refine wpAnyH_ready (rs := [12]) (by kernel_rfl) (by simp) ?_
      refine AllReadyH.cons rfl (fun K hK => ?_) AllReadyH.nil
      go_simp
      refine hK.out _ _ ⟨sc0_179, sc1_180, sc2_181, sc3_182, sc4_183⟩ (fun hHeld184 => ?_)
      clear hK K hHeld177
      set_option linter.unusedSimpArgs false in try simp only [Act.put, List.getElem_toArray, List.getElem_cons_succ, List.getElem_cons_zero, List.setIfInBounds_toArray, List.set_cons_zero, List.set_cons_succ]
      refine wpAnyH_take (i := 13) (v := ?_) rfl (by kernel_rfl) (by kernel_rfl) (by kernel_rfl) (fun _ _ _ h => h) (Or.inl ⟨by kernel_rfl, ?_⟩) (by assumption) ?_
      rotate_left
      · intro w9 hS9; (try dsimp only at hS9); go_simp; (try with_reducible rfl)
      set_option linter.unusedSimpArgs false in try simp only [Act.put, List.getElem_toArray, List.getElem_cons_succ, List.getElem_cons_zero, List.setIfInBounds_toArray, List.set_cons_zero, List.set_cons_succ]
      refine wpAnyH_take (i := 14) (v := ?_) rfl (by kernel_rfl) (by kernel_rfl) (by kernel_rfl) (fun _ _ _ h => h) (Or.inl ⟨by kernel_rfl, ?_⟩) (by assumption) ?_
      rotate_left
      · intro w9 hS9; (try dsimp only at hS9); go_simp; (try with_reducible rfl)
      set_option linter.unusedSimpArgs false in try simp only [Act.put, List.getElem_toArray, List.getElem_cons_succ, List.getElem_cons_zero, List.setIfInBounds_toArray, List.set_cons_zero, List.set_cons_succ]
      refine wpAnyH_take (i := 15) (v := ?_) rfl (by kernel_rfl) (by kernel_rfl) (by kernel_rfl) (fun _ _ _ h => h) (Or.inl ⟨by kernel_rfl, ?_⟩) (by assumption) ?_
      rotate_left
      · intro w9 hS9; (try dsimp only at hS9); go_simp; (try with_reducible rfl)
      set_option linter.unusedSimpArgs false in try simp only [Act.put, List.getElem_toArray, List.getElem_cons_succ, List.getElem_cons_zero, List.setIfInBounds_toArray, List.set_cons_zero, List.set_cons_succ]
      refine wpAnyH_done (by kernel_rfl) ?_ _
      go_wp2_with fail
      go_meet
      exact ⟨_, _, _, _, _, _, _, _, _, _, _, _, _, rfl, rfl, rfl, rfl, fin_box2 (bstep (hw149)) ⟨bk176, bk160.lt, hA131g⟩ hb162 op163 (by have := hb162.size; omega) op164 (by have := hb162.size; omega) op165 (by have := hb162.size; omega)⟩
  case rest =>
    obtain ⟨R_11, d_12, R_13, d_14, R_15, d_16, bx_19, lo_22, hi_23, lo_26, hi_27, lo_30, hi_31, rfl, rfl, rfl, rfl, w0_0, w0_1, w0_l, sz_20, own_21, sz_24, own_25, sz_28, own_29, sz_32, hb_33⟩ := hcut
    obtain ⟨w4, hwx⟩ : ∃ x, x = wc := ⟨_, rfl⟩
    subst hwx
    have sz_62 := w0_l
    replace in0a := in0a.next hb_33 (by omega)
    replace in0b := in0b.next hb_33 (by omega)
    replace in0c := in0c.next hb_33 (by omega)
    replace in1a := in1a.next hb_33 (by omega)
    replace in1b := in1b.next hb_33 (by omega)
    replace a0_0 := cell_next a0_0 hb_33
    replace a0_1 := cell_next a0_1 hb_33
    replace a0_2 := cell_next a0_2 hb_33
    replace a1_0 := cell_next a1_0 hb_33
    replace a1_1 := cell_next a1_1 hb_33
    replace a0_l := Nat.lt_of_lt_of_le a0_l hb_33.size
    replace a1_l := Nat.lt_of_lt_of_le a1_l hb_33.size
    replace hB := hB.trans (hb_33.mono hB.size)
    have sz_63 := hb_33.size
    go_wp2_with fail
    refine (toProgram_r A0 n0 cap0 t0 D0 m0 dap0 x0 E0 q0 eap0 u0 _ _ in0a in0b in0c (by omega) h0ok).mono ?_
    rintro e w5 ⟨g_64, g_65, g_66, mid_71, mid_72, rfl, own_67, own_68, own_69, md_73, hb_70⟩
    replace in0a := in0a.next hb_70 (by omega)
    replace in0b := in0b.next hb_70 (by omega)
    replace in0c := in0c.next hb_70 (by omega)
    replace in1a := in1a.next hb_70 (by omega)
    replace in1b := in1b.next hb_70 (by omega)
    replace a0_0 := cell_next a0_0 hb_70
    replace a0_1 := cell_next a0_1 hb_70
    replace a0_2 := cell_next a0_2 hb_70
    replace a1_0 := cell_next a1_0 hb_70
    replace a1_1 := cell_next a1_1 hb_70
    replace a0_l := Nat.lt_of_lt_of_le a0_l hb_70.size
    replace a1_l := Nat.lt_of_lt_of_le a1_l hb_70.size
    replace w0_0 := cell_next w0_0 hb_70
    replace w0_1 := cell_next w0_1 hb_70
    replace w0_l := Nat.lt_of_lt_of_le w0_l hb_70.size
    replace own_21 := own_21.next hb_70
    replace own_25 := own_25.next hb_70
    replace own_29 := own_29.next hb_70
    replace hB := hB.trans (hb_70.mono hB.size)
    have sz_74 := hb_70.size
    go_wp2_with fail
    have hb_75 : Below w5.heap.size w5 (w5.alloc (.cells #[.slice (some ⟨g_64, 0, none⟩) n0 n0, .slice (some ⟨g_65, 0, none⟩) m0 m0, .slice (some ⟨g_66, 0, none⟩) q0 q0] 37)) := bnew _ _
    have sz_76 : w5.heap.size < (w5.alloc (.cells #[.slice (some ⟨g_64, 0, none⟩) n0 n0, .slice (some ⟨g_65, 0, none⟩) m0 m0, .slice (some ⟨g_66, 0, none⟩) q0 q0] 37)).heap.size := by simp
    have x0_0 : (w5.alloc (.cells #[.slice (some ⟨g_64, 0, none⟩) n0 n0, .slice (some ⟨g_65, 0, none⟩) m0 m0, .slice (some ⟨g_66, 0, none⟩) q0 q0] 37)).cell? ⟨w5.heap.size, 0, none⟩ = some (.slice (some ⟨g_64, 0, none⟩) n0 n0) := by simp
    have x0_1 : (w5.alloc (.cells #[.slice (some ⟨g_64, 0, none⟩) n0 n0, .slice (some ⟨g_65, 0, none⟩) m0 m0, .slice (some ⟨g_66, 0, none⟩) q0 q0] 37)).cell? ⟨w5.heap.size, 1, none⟩ = some (.slice (some ⟨g_65, 0, none⟩) m0 m0) := by simp
    have x0_2 : (w5.alloc (.cells #[.slice (some ⟨g_64, 0, none⟩) n0 n0, .slice (some ⟨g_65, 0, none⟩) m0 m0, .slice (some ⟨g_66, 0, none⟩) q0 q0] 37)).cell? ⟨w5.heap.size, 2, none⟩ = some (.slice (some ⟨g_66, 0, none⟩) q0 q0) := by simp
    have x0_l := sz_76
    generalize w5.alloc (.cells #[.slice (some ⟨g_64, 0, none⟩) n0 n0, .slice (some ⟨g_65, 0, none⟩) m0 m0, .slice (some ⟨g_66, 0, none⟩) q0 q0] 37) = w6 at hb_75 x0_0 x0_1 x0_2 sz_76 x0_l ⊢
    replace in0a := in0a.next hb_75 (by omega)
    replace in0b := in0b.next hb_75 (by omega)
    replace in0c := in0c.next hb_75 (by omega)
    replace in1a := in1a.next hb_75 (by omega)
    replace in1b := in1b.next hb_75 (by omega)
    replace a0_0 := cell_next a0_0 hb_75
    replace a0_1 := cell_next a0_1 hb_75
    replace a0_2 := cell_next a0_2 hb_75
    replace a1_0 := cell_next a1_0 hb_75
    replace a1_1 := cell_next a1_1 hb_75
    replace a0_l := Nat.lt_of_lt_of_le a0_l hb_75.size
    replace a1_l := Nat.lt_of_lt_of_le a1_l hb_75.size
    replace w0_0 := cell_next w0_0 hb_75
    replace w0_1 := cell_next w0_1 hb_75
    replace w0_l := Nat.lt_of_lt_of_le w0_l hb_75.size
    replace own_21 := own_21.next hb_75
    replace own_25 := own_25.next hb_75
    replace own_29 := own_29.next hb_75
    replace own_67 := own_67.next hb_75
    replace own_68 := own_68.next hb_75
    replace own_69 := own_69.next hb_75
    replace hB := hB.trans (hb_75.mono hB.size)
    have sz_77 := hb_75.size
    refine (toState_k A1 n1 cap1 _ z1 B1 m1 cbp1 y1 _ in1a in1b (by omega) h1ok h1gok).mono ?_
    rintro e w7 ⟨g_78, g_79, mid_83, rfl, own_80, own_81, md_84, hb_82⟩
    replace in0a := in0a.next hb_82 (by omega)
    replace in0b := in0b.next hb_82 (by omega)
    replace in0c := in0c.next hb_82 (by omega)
    replace in1a := in1a.next hb_82 (by omega)
    replace in1b := in1b.next hb_82 (by omega)
    replace a0_0 := cell_next a0_0 hb_82
    replace a0_1 := cell_next a0_1 hb_82
    replace a0_2 := cell_next a0_2 hb_82
    replace a1_0 := cell_next a1_0 hb_82
    replace a1_1 := cell_next a1_1 hb_82
    replace a0_l := Nat.lt_of_lt_of_le a0_l hb_82.size
    replace a1_l := Nat.lt_of_lt_of_le a1_l hb_82.size
    replace w0_0 := cell_next w0_0 hb_82
    replace w0_1 := cell_next w0_1 hb_82
    replace w0_l := Nat.lt_of_lt_of_le w0_l hb_82.size
    replace own_21 := own_21.next hb_82
    replace own_25 := own_25.next hb_82
    replace own_29 := own_29.next hb_82
    replace own_67 := own_67.next hb_82
    replace own_68 := own_68.next hb_82
    replace own_69 := own_69.next hb_82
    replace x0_0 := cell_next x0_0 hb_82
    replace x0_1 := cell_next x0_1 hb_82
    replace x0_2 := cell_next x0_2 hb_82
    replace x0_l := Nat.lt_of_lt_of_le x0_l hb_82.size
    replace hB := hB.trans (hb_82.mono hB.size)
    have sz_85 := hb_82.size
    go_wp2_with fail
    have hb_86 : Below w7.heap.size w7 (w7.alloc (.cells #[.slice (some ⟨g_78, 0, none⟩) n1 n1, .slice (some ⟨g_79, 0, none⟩) m1 m1] 31)) := bnew _ _
    have sz_87 : w7.heap.size < (w7.alloc (.cells #[.slice (some ⟨g_78, 0, none⟩) n1 n1, .slice (some ⟨g_79, 0, none⟩) m1 m1] 31)).heap.size := by simp
    have x1_0 : (w7.alloc (.cells #[.slice (some ⟨g_78, 0, none⟩) n1 n1, .slice (some ⟨g_79, 0, none⟩) m1 m1] 31)).cell? ⟨w7.heap.size, 0, none⟩ = some (.slice (some ⟨g_78, 0, none⟩) n1 n1) := by simp
    have x1_1 : (w7.alloc (.cells #[.slice (some ⟨g_78, 0, none⟩) n1 n1, .slice (some ⟨g_79, 0, none⟩) m1 m1] 31)).cell? ⟨w7.heap.size, 1, none⟩ = some (.slice (some ⟨g_79, 0, none⟩) m1 m1) := by simp
    have x1_l := sz_87
    generalize w7.alloc (.cells #[.slice (some ⟨g_78, 0, none⟩) n1 n1, .slice (some ⟨g_79, 0, none⟩) m1 m1] 31) = w8 at hb_86 x1_0 x1_1 sz_87 x1_l ⊢
    replace in0a := in0a.next hb_86 (by omega)
    replace in0b := in0b.next hb_86 (by omega)
    replace in0c := in0c.next hb_86 (by omega)
    replace in1a := in1a.next hb_86 (by omega)
    replace in1b := in1b.next hb_86 (by omega)
    replace a0_0 := cell_next a0_0 hb_86
    replace a0_1 := cell_next a0_1 hb_86
    replace a0_2 := cell_next a0_2 hb_86
    replace a1_0 := cell_next a1_0 hb_86
    replace a1_1 := cell_next a1_1 hb_86
    replace a0_l := Nat.lt_of_lt_of_le a0_l hb_86.size
    replace a1_l := Nat.lt_of_lt_of_le a1_l hb_86.size
    replace w0_0 := cell_next w0_0 hb_86
    replace w0_1 := cell_next w0_1 hb_86
    replace w0_l := Nat.lt_of_lt_of_le w0_l hb_86.size
    replace own_21 := own_21.next hb_86
    replace own_25 := own_25.next hb_86
    replace own_29 := own_29.next hb_86
    replace own_67 := own_67.next hb_86
    replace own_68 := own_68.next hb_86
    replace own_69 := own_69.next hb_86
    replace x0_0 := cell_next x0_0 hb_86
    replace x0_1 := cell_next x0_1 hb_86
    replace x0_2 := cell_next x0_2 hb_86
    replace x0_l := Nat.lt_of_lt_of_le x0_l hb_86.size
    replace own_80 := own_80.next hb_86
    replace own_81 := own_81.next hb_86
    replace hB := hB.trans (hb_86.mono hB.size)
    have sz_88 := hb_86.size
    refine (HI.out w8 _ _ _ _ _ _ _ _ _ _ hB ((own_67.inn).more (by omega)) ((own_68.inn).more (by omega)) (Nat.le_refl _) ((own_69.inn).more (by omega)) ((own_80.inn).more (by omega)) ((own_81.inn).more (by omega))).mono ?_
    rintro e w9 ⟨R_90, d_91, R_92, d_93, R_94, d_95, mid_96, mid_97, rfl, own_99, own_100, own_101, md_98, hb_89⟩
    replace in0a := in0a.next hb_89 (by omega)
    replace in0b := in0b.next hb_89 (by omega)
    replace in0c := in0c.next hb_89 (by omega)
    replace in1a := in1a.next hb_89 (by omega)
    replace in1b := in1b.next hb_89 (by omega)
    replace a0_0 := cell_next a0_0 hb_89
    replace a0_1 := cell_next a0_1 hb_89
    replace a0_2 := cell_next a0_2 hb_89
    replace a1_0 := cell_next a1_0 hb_89
    replace a1_1 := cell_next a1_1 hb_89
    replace a0_l := Nat.lt_of_lt_of_le a0_l hb_89.size
    replace a1_l := Nat.lt_of_lt_of_le a1_l hb_89.size
    replace w0_0 := cell_next w0_0 hb_89
    replace w0_1 := cell_next w0_1 hb_89
    replace w0_l := Nat.lt_of_lt_of_le w0_l hb_89.size
    replace own_21 := own_21.next hb_89
    replace own_25 := own_25.next hb_89
    replace own_29 := own_29.next hb_89
    replace own_67 := own_67.next hb_89
    replace own_68 := own_68.next hb_89
    replace own_69 := own_69.next hb_89
    replace x0_0 := cell_next x0_0 hb_89
    replace x0_1 := cell_next x0_1 hb_89
    replace x0_2 := cell_next x0_2 hb_89
    replace x0_l := Nat.lt_of_lt_of_le x0_l hb_89.size
    replace own_80 := own_80.next hb_89
    replace own_81 := own_81.next hb_89
    replace x1_0 := cell_next x1_0 hb_89
    replace x1_1 := cell_next x1_1 hb_89
    replace x1_l := Nat.lt_of_lt_of_le x1_l hb_89.size
    replace hB := hB.trans (hb_89.mono hB.size)
    have sz_102 := hb_89.size
    go_wp2_with fail
    have hb_103 : Below w9.heap.size w9 (w9.alloc (.cells #[.slice R_90 l00 d_91, .slice R_92 l01 d_93] 31)) := bnew _ _
    have sz_104 : w9.heap.size < (w9.alloc (.cells #[.slice R_90 l00 d_91, .slice R_92 l01 d_93] 31)).heap.size := by simp
    have g0_0 : (w9.alloc (.cells #[.slice R_90 l00 d_91, .slice R_92 l01 d_93] 31)).cell? ⟨w9.heap.size, 0, none⟩ = some (.slice R_90 l00 d_91) := by simp
    have g0_1 : (w9.alloc (.cells #[.slice R_90 l00 d_91, .slice R_92 l01 d_93] 31)).cell? ⟨w9.heap.size, 1, none⟩ = some (.slice R_92 l01 d_93) := by simp
    have g0_l := sz_104
    generalize w9.alloc (.cells #[.slice R_90 l00 d_91, .slice R_92 l01 d_93] 31) = w10 at hb_103 g0_0 g0_1 sz_104 g0_l ⊢
    replace in0a := in0a.next hb_103 (by omega)
    replace in0b := in0b.next hb_103 (by omega)
    replace in0c := in0c.next hb_103 (by omega)
    replace in1a := in1a.next hb_103 (by omega)
    replace in1b := in1b.next hb_103 (by omega)
    replace a0_0 := cell_next a0_0 hb_103
    replace a0_1 := cell_next a0_1 hb_103
    replace a0_2 := cell_next a0_2 hb_103
    replace a1_0 := cell_next a1_0 hb_103
    replace a1_1 := cell_next a1_1 hb_103
    replace a0_l := Nat.lt_of_lt_of_le a0_l hb_103.size
    replace a1_l := Nat.lt_of_lt_of_le a1_l hb_103.size
    replace w0_0 := cell_next w0_0 hb_103
    replace w0_1 := cell_next w0_1 hb_103
    replace w0_l := Nat.lt_of_lt_of_le w0_l hb_103.size
    replace own_21 := own_21.next hb_103
    replace own_25 := own_25.next hb_103
    replace own_29 := own_29.next hb_103
    replace own_67 := own_67.next hb_103
    replace own_68 := own_68.next hb_103
    replace own_69 := own_69.next hb_103
    replace x0_0 := cell_next x0_0 hb_103
    replace x0_1 := cell_next x0_1 hb_103
    replace x0_2 := cell_next x0_2 hb_103
    replace x0_l := Nat.lt_of_lt_of_le x0_l hb_103.size
    replace own_80 := own_80.next hb_103
    replace own_81 := own_81.next hb_103
    replace x1_0 := cell_next x1_0 hb_103
    replace x1_1 := cell_next x1_1 hb_103
    replace x1_l := Nat.lt_of_lt_of_le x1_l hb_103.size
    replace own_99 := own_99.next hb_103
    replace own_100 := own_100.next hb_103
    replace own_101 := own_101.next hb_103
    replace hB := hB.trans (hb_103.mono hB.size)
    have sz_105 := hb_103.size
    -- if !eqState(g0, w0) || !eqInt64S(g1, w1) || g2 != w2 || g3 != w3 {
    refine (eqState_k R_90 R_11 l00 d_91 d_12 y00 R_92 R_13 l01 d_93 d_14 y01 (w10.heap.size) (w10.heap.size) w10 (own_99.inn.more (by omega)) (own_100.inn.more (by omega)) (own_21.inn.more (by omega)) (own_25.inn.more (by omega)) (by omega) (by omega) (by omega) (by omega)).mono ?_
    rintro e w11 ⟨rfl, hb_106⟩
    replace in0a := in0a.next hb_106 (by omega)
    replace in0b := in0b.next hb_106 (by omega)
    replace in0c := in0c.next hb_106 (by omega)
    replace in1a := in1a.next hb_106 (by omega)
    replace in1b := in1b.next hb_106 (by omega)
    replace a0_0 := cell_next a0_0 hb_106
    replace a0_1 := cell_next a0_1 hb_106
    replace a0_2 := cell_next a0_2 hb_106
    replace a1_0 := cell_next a1_0 hb_106
    replace a1_1 := cell_next a1_1 hb_106
    replace a0_l := Nat.lt_of_lt_of_le a0_l hb_106.size
    replace a1_l := Nat.lt_of_lt_of_le a1_l hb_106.size
    replace w0_0 := cell_next w0_0 hb_106
    replace w0_1 := cell_next w0_1 hb_106
    replace w0_l := Nat.lt_of_lt_of_le w0_l hb_106.size
    replace own_21 := own_21.next hb_106
    replace own_25 := own_25.next hb_106
    replace own_29 := own_29.next hb_106
    replace own_67 := own_67.next hb_106
    replace own_68 := own_68.next hb_106
    replace own_69 := own_69.next hb_106
    replace x0_0 := cell_next x0_0 hb_106
    replace x0_1 := cell_next x0_1 hb_106
    replace x0_2 := cell_next x0_2 hb_106
    replace x0_l := Nat.lt_of_lt_of_le x0_l hb_106.size
    replace own_80 := own_80.next hb_106
    replace own_81 := own_81.next hb_106
    replace x1_0 := cell_next x1_0 hb_106
    replace x1_1 := cell_next x1_1 hb_106
    replace x1_l := Nat.lt_of_lt_of_le x1_l hb_106.size
    replace own_99 := own_99.next hb_106
    replace own_100 := own_100.next hb_106
    replace own_101 := own_101.next hb_106
    replace g0_0 := cell_next g0_0 hb_106
    replace g0_1 := cell_next g0_1 hb_106
    replace g0_l := Nat.lt_of_lt_of_le g0_l hb_106.size
    replace hB := hB.trans (hb_106.mono hB.size)
    have sz_107 := hb_106.size
    go_wp2_with fail
    refine (eqInt64S_k R_94 R_15 l10 d_95 d_16 _ _ y10 _ own_101.inn own_29.inn (by omega) (by omega) (by omega)).mono ?_
    rintro e w12 ⟨rfl, hb_108⟩
    replace in0a := in0a.next hb_108 (by omega)
    replace in0b := in0b.next hb_108 (by omega)
    replace in0c := in0c.next hb_108 (by omega)
    replace in1a := in1a.next hb_108 (by omega)
    replace in1b := in1b.next hb_108 (by omega)
    replace a0_0 := cell_next a0_0 hb_108
    replace a0_1 := cell_next a0_1 hb_108
    replace a0_2 := cell_next a0_2 hb_108
    replace a1_0 := cell_next a1_0 hb_108
    replace a1_1 := cell_next a1_1 hb_108
    replace a0_l := Nat.lt_of_lt_of_le a0_l hb_108.size
    replace a1_l := Nat.lt_of_lt_of_le a1_l hb_108.size
    replace w0_0 := cell_next w0_0 hb_108
    replace w0_1 := cell_next w0_1 hb_108
    replace w0_l := Nat.lt_of_lt_of_le w0_l hb_108.size
    replace own_21 := own_21.next hb_108
    replace own_25 := own_25.next hb_108
    replace own_29 := own_29.next hb_108
    replace own_67 := own_67.next hb_108
    replace own_68 := own_68.next hb_108
    replace own_69 := own_69.next hb_108
    replace x0_0 := cell_next x0_0 hb_108
    replace x0_1 := cell_next x0_1 hb_108
    replace x0_2 := cell_next x0_2 hb_108
    replace x0_l := Nat.lt_of_lt_of_le x0_l hb_108.size
    replace own_80 := own_80.next hb_108
    replace own_81 := own_81.next hb_108
    replace x1_0 := cell_next x1_0 hb_108
    replace x1_1 := cell_next x1_1 hb_108
    replace x1_l := Nat.lt_of_lt_of_le x1_l hb_108.size
    replace own_99 := own_99.next hb_108
    replace own_100 := own_100.next hb_108
    replace own_101 := own_101.next hb_108
    replace g0_0 := cell_next g0_0 hb_108
    replace g0_1 := cell_next g0_1 hb_108
    replace g0_l := Nat.lt_of_lt_of_le g0_l hb_108.size
    replace hB := hB.trans (hb_108.mono hB.size)
    have sz_109 := hb_108.size
    go_wp2_with fail
    have HT_110 := Lib.hid (toProgram_r A0 n0 cap0 t0 D0 m0 dap0 x0 E0 q0 eap0 u0 _ w12.drew in0a.drew in0b.drew in0c.drew (by show _ ≤ w12.heap.size; omega) h0ok)
    have HE_111 : Hid (∀ w13 g_112 g_113 g_114 mid_119 mid_120, Below w12.drew.heap.size w12.drew w13 → OwnTS w13 w12.drew.heap.size mid_119 (some ⟨g_112, 0, none⟩) n0 n0 t0 → OwnSM w13 mid_119 mid_120 (some ⟨g_113, 0, none⟩) m0 m0 x0 → OwnTS w13 mid_120 w13.heap.size (some ⟨g_114, 0, none⟩) q0 q0 u0 → w12.drew.heap.size ≤ mid_119 ∧ mid_119 ≤ mid_120 ∧ mid_120 ≤ w13.heap.size → Calls Tryz.prog 15 #[.agg #[.slice (some ⟨g_64, 0, none⟩) n0 n0, .slice (some ⟨g_65, 0, none⟩) m0 m0, .slice (some ⟨g_66, 0, none⟩) q0 q0], .agg #[.slice (some ⟨g_112, 0, none⟩) n0 n0, .slice (some ⟨g_113, 0, none⟩) m0 m0, .slice (some ⟨g_114, 0, none⟩) q0 q0]] w13 fun e w' => e = .returned (.bool true) ∧ Below w13.heap.size w13 w') := fun w13 g_112 g_113 g_114 mid_119 mid_120 hb_118 own_115 own_116 own_117 md_121 => eqProgram_r (some ⟨g_64, 0, none⟩) n0 n0 t0 (some ⟨g_65, 0, none⟩) m0 m0 x0 (some ⟨g_66, 0, none⟩) q0 q0 u0 (some ⟨g_112, 0, none⟩) n0 (some ⟨g_113, 0, none⟩) m0 (some ⟨g_114, 0, none⟩) q0 (w13.heap.size) (w13.heap.size) w13 (((own_67.inn).call (by omega) hb_118).more (le_call (by omega) hb_118)) (((own_68.inn).call (by omega) hb_118).more (le_call (by omega) hb_118)) (((own_69.inn).call (by omega) hb_118).more (le_call (by omega) hb_118)) ((own_115.inn).more (by omega)) ((own_116.inn).more (by omega)) ((own_117.inn).more (by omega)) (Nat.le_refl _) (Nat.le_refl _) h0ok
    go_region_held3 (fun w' => w'.cell? ⟨w.heap.size, 0, none⟩ = some (.slice A0 n0 cap0) ∧ w'.cell? ⟨w.heap.size, 1, none⟩ = some (.slice D0 m0 dap0) ∧ w'.cell? ⟨w.heap.size, 2, none⟩ = some (.slice E0 q0 eap0) ∧ w'.cell? ⟨w5.heap.size, 0, none⟩ = some (.slice (some ⟨g_64, 0, none⟩) n0 n0) ∧ w'.cell? ⟨w5.heap.size, 1, none⟩ = some (.slice (some ⟨g_65, 0, none⟩) m0 m0) ∧ w'.cell? ⟨w5.heap.size, 2, none⟩ = some (.slice (some ⟨g_66, 0, none⟩) q0 q0))
      (first | go_keep | exact ⟨cell_on a0_0 hb_118, cell_on a0_1 hb_118, cell_on a0_2 hb_118, cell_on x0_0 hb_118, cell_on x0_1 hb_118, cell_on x0_2 hb_118⟩ | exact ⟨cell_on2 a0_0 hb_118 hb_123, cell_on2 a0_1 hb_118 hb_123, cell_on2 a0_2 hb_118 hb_123, cell_on2 x0_0 hb_118 hb_123, cell_on2 x0_1 hb_118 hb_123, cell_on2 x0_2 hb_118 hb_123⟩)
      (first | (go_at_call 10; refine HT_110.out.mono ?_; rintro e w13 ⟨g_112, g_113, g_114, mid_119, mid_120, rfl, own_115, own_116, own_117, md_121, hb_118⟩) | (go_at_call 15; refine (HE_111.out _ _ _ _ _ _ hb_118 own_115 own_116 own_117 md_121).mono ?_; rintro e w14 ⟨rfl, hb_123⟩))
    replace hb_118 := (bstep hb_118)
    replace in0a := in0a.next hb_118 (by omega)
    replace in0b := in0b.next hb_118 (by omega)
    replace in0c := in0c.next hb_118 (by omega)
    replace in1a := in1a.next hb_118 (by omega)
    replace in1b := in1b.next hb_118 (by omega)
    replace a0_0 := cell_next a0_0 hb_118
    replace a0_1 := cell_next a0_1 hb_118
    replace a0_2 := cell_next a0_2 hb_118
    replace a1_0 := cell_next a1_0 hb_118
    replace a1_1 := cell_next a1_1 hb_118
    replace a0_l := Nat.lt_of_lt_of_le a0_l hb_118.size
    replace a1_l := Nat.lt_of_lt_of_le a1_l hb_118.size
    replace w0_0 := cell_next w0_0 hb_118
    replace w0_1 := cell_next w0_1 hb_118
    replace w0_l := Nat.lt_of_lt_of_le w0_l hb_118.size
    replace own_21 := own_21.next hb_118
    replace own_25 := own_25.next hb_118
    replace own_29 := own_29.next hb_118
    replace own_67 := own_67.next hb_118
    replace own_68 := own_68.next hb_118
    replace own_69 := own_69.next hb_118
    replace x0_0 := cell_next x0_0 hb_118
    replace x0_1 := cell_next x0_1 hb_118
    replace x0_2 := cell_next x0_2 hb_118
    replace x0_l := Nat.lt_of_lt_of_le x0_l hb_118.size
    replace own_80 := own_80.next hb_118
    replace own_81 := own_81.next hb_118
    replace x1_0 := cell_next x1_0 hb_118
    replace x1_1 := cell_next x1_1 hb_118
    replace x1_l := Nat.lt_of_lt_of_le x1_l hb_118.size
    replace own_99 := own_99.next hb_118
    replace own_100 := own_100.next hb_118
    replace own_101 := own_101.next hb_118
    replace g0_0 := cell_next g0_0 hb_118
    replace g0_1 := cell_next g0_1 hb_118
    replace g0_l := Nat.lt_of_lt_of_le g0_l hb_118.size
    replace hB := hB.trans (hb_118.mono hB.size)
    have sz_124 := hb_118.size
    replace in0a := in0a.next hb_123 (by omega)
    replace in0b := in0b.next hb_123 (by omega)
    replace in0c := in0c.next hb_123 (by omega)
    replace in1a := in1a.next hb_123 (by omega)
    replace in1b := in1b.next hb_123 (by omega)
    replace a0_0 := cell_next a0_0 hb_123
    replace a0_1 := cell_next a0_1 hb_123
    replace a0_2 := cell_next a0_2 hb_123
    replace a1_0 := cell_next a1_0 hb_123
    replace a1_1 := cell_next a1_1 hb_123
    replace a0_l := Nat.lt_of_lt_of_le a0_l hb_123.size
    replace a1_l := Nat.lt_of_lt_of_le a1_l hb_123.size
    replace w0_0 := cell_next w0_0 hb_123
    replace w0_1 := cell_next w0_1 hb_123
    replace w0_l := Nat.lt_of_lt_of_le w0_l hb_123.size
    replace own_21 := own_21.next hb_123
    replace own_25 := own_25.next hb_123
    replace own_29 := own_29.next hb_123
    replace own_67 := own_67.next hb_123
    replace own_68 := own_68.next hb_123
    replace own_69 := own_69.next hb_123
    replace x0_0 := cell_next x0_0 hb_123
    replace x0_1 := cell_next x0_1 hb_123
    replace x0_2 := cell_next x0_2 hb_123
    replace x0_l := Nat.lt_of_lt_of_le x0_l hb_123.size
    replace own_80 := own_80.next hb_123
    replace own_81 := own_81.next hb_123
    replace x1_0 := cell_next x1_0 hb_123
    replace x1_1 := cell_next x1_1 hb_123
    replace x1_l := Nat.lt_of_lt_of_le x1_l hb_123.size
    replace own_99 := own_99.next hb_123
    replace own_100 := own_100.next hb_123
    replace own_101 := own_101.next hb_123
    replace g0_0 := cell_next g0_0 hb_123
    replace g0_1 := cell_next g0_1 hb_123
    replace g0_l := Nat.lt_of_lt_of_le g0_l hb_123.size
    replace hB := hB.trans (hb_123.mono hB.size)
    have sz_125 := hb_123.size
    clear HT_110 HE_111 own_115 own_116 own_117
    go_wp2_with fail
    have HT_126 := Lib.hid (toState_k A1 n1 cap1 _ z1 B1 m1 cbp1 y1 w14.drew in1a.drew in1b.drew (by show _ ≤ w14.heap.size; omega) h1ok h1gok)
    have HE_127 : Hid (∀ w15 g_128 g_129 mid_133, Below w14.drew.heap.size w14.drew w15 → OwnL w15 w14.drew.heap.size mid_133 (some ⟨g_128, 0, none⟩) n1 n1 z1 → OwnL w15 mid_133 w15.heap.size (some ⟨g_129, 0, none⟩) m1 m1 y1 → w14.drew.heap.size ≤ mid_133 ∧ mid_133 ≤ w15.heap.size → Calls Tryz.prog 13 #[.agg #[.slice (some ⟨g_78, 0, none⟩) n1 n1, .slice (some ⟨g_79, 0, none⟩) m1 m1], .agg #[.slice (some ⟨g_128, 0, none⟩) n1 n1, .slice (some ⟨g_129, 0, none⟩) m1 m1]] w15 fun e w' => e = .returned (.bool true) ∧ Below w15.heap.size w15 w') := fun w15 g_128 g_129 mid_133 hb_132 own_130 own_131 md_134 => eqState_k (some ⟨g_78, 0, none⟩) (some ⟨g_128, 0, none⟩) n1 n1 n1 z1 (some ⟨g_79, 0, none⟩) (some ⟨g_129, 0, none⟩) m1 m1 m1 y1 (w15.heap.size) (w15.heap.size) w15 (((own_80.inn).call (by omega) hb_132).more (le_call (by omega) hb_132)) (((own_81.inn).call (by omega) hb_132).more (le_call (by omega) hb_132)) ((own_130.inn).more (by omega)) ((own_131.inn).more (by omega)) (Nat.le_refl _) (Nat.le_refl _) h1ok h1gok
    go_region_held3 (fun w' => w'.cell? ⟨w.heap.size + 1, 0, none⟩ = some (.slice A1 n1 cap1) ∧ w'.cell? ⟨w.heap.size + 1, 1, none⟩ = some (.slice B1 m1 cbp1) ∧ w'.cell? ⟨w7.heap.size, 0, none⟩ = some (.slice (some ⟨g_78, 0, none⟩) n1 n1) ∧ w'.cell? ⟨w7.heap.size, 1, none⟩ = some (.slice (some ⟨g_79, 0, none⟩) m1 m1))
      (first | go_keep | exact ⟨cell_on a1_0 hb_132, cell_on a1_1 hb_132, cell_on x1_0 hb_132, cell_on x1_1 hb_132⟩ | exact ⟨cell_on2 a1_0 hb_132 hb_136, cell_on2 a1_1 hb_132 hb_136, cell_on2 x1_0 hb_132 hb_136, cell_on2 x1_1 hb_132 hb_136⟩)
      (first | (go_at_call 11; refine HT_126.out.mono ?_; rintro e w15 ⟨g_128, g_129, mid_133, rfl, own_130, own_131, md_134, hb_132⟩) | (go_at_call 13; refine (HE_127.out _ _ _ _ hb_132 own_130 own_131 md_134).mono ?_; rintro e w16 ⟨rfl, hb_136⟩))
    replace hb_132 := (bstep hb_132)
    replace in0a := in0a.next hb_132 (by omega)
    replace in0b := in0b.next hb_132 (by omega)
    replace in0c := in0c.next hb_132 (by omega)
    replace in1a := in1a.next hb_132 (by omega)
    replace in1b := in1b.next hb_132 (by omega)
    replace a0_0 := cell_next a0_0 hb_132
    replace a0_1 := cell_next a0_1 hb_132
    replace a0_2 := cell_next a0_2 hb_132
    replace a1_0 := cell_next a1_0 hb_132
    replace a1_1 := cell_next a1_1 hb_132
    replace a0_l := Nat.lt_of_lt_of_le a0_l hb_132.size
    replace a1_l := Nat.lt_of_lt_of_le a1_l hb_132.size
    replace w0_0 := cell_next w0_0 hb_132
    replace w0_1 := cell_next w0_1 hb_132
    replace w0_l := Nat.lt_of_lt_of_le w0_l hb_132.size
    replace own_21 := own_21.next hb_132
    replace own_25 := own_25.next hb_132
    replace own_29 := own_29.next hb_132
    replace own_67 := own_67.next hb_132
    replace own_68 := own_68.next hb_132
    replace own_69 := own_69.next hb_132
    replace x0_0 := cell_next x0_0 hb_132
    replace x0_1 := cell_next x0_1 hb_132
    replace x0_2 := cell_next x0_2 hb_132
    replace x0_l := Nat.lt_of_lt_of_le x0_l hb_132.size
    replace own_80 := own_80.next hb_132
    replace own_81 := own_81.next hb_132
    replace x1_0 := cell_next x1_0 hb_132
    replace x1_1 := cell_next x1_1 hb_132
    replace x1_l := Nat.lt_of_lt_of_le x1_l hb_132.size
    replace own_99 := own_99.next hb_132
    replace own_100 := own_100.next hb_132
    replace own_101 := own_101.next hb_132
    replace g0_0 := cell_next g0_0 hb_132
    replace g0_1 := cell_next g0_1 hb_132
    replace g0_l := Nat.lt_of_lt_of_le g0_l hb_132.size
    replace hB := hB.trans (hb_132.mono hB.size)
    have sz_137 := hb_132.size
    replace in0a := in0a.next hb_136 (by omega)
    replace in0b := in0b.next hb_136 (by omega)
    replace in0c := in0c.next hb_136 (by omega)
    replace in1a := in1a.next hb_136 (by omega)
    replace in1b := in1b.next hb_136 (by omega)
    replace a0_0 := cell_next a0_0 hb_136
    replace a0_1 := cell_next a0_1 hb_136
    replace a0_2 := cell_next a0_2 hb_136
    replace a1_0 := cell_next a1_0 hb_136
    replace a1_1 := cell_next a1_1 hb_136
    replace a0_l := Nat.lt_of_lt_of_le a0_l hb_136.size
    replace a1_l := Nat.lt_of_lt_of_le a1_l hb_136.size
    replace w0_0 := cell_next w0_0 hb_136
    replace w0_1 := cell_next w0_1 hb_136
    replace w0_l := Nat.lt_of_lt_of_le w0_l hb_136.size
    replace own_21 := own_21.next hb_136
    replace own_25 := own_25.next hb_136
    replace own_29 := own_29.next hb_136
    replace own_67 := own_67.next hb_136
    replace own_68 := own_68.next hb_136
    replace own_69 := own_69.next hb_136
    replace x0_0 := cell_next x0_0 hb_136
    replace x0_1 := cell_next x0_1 hb_136
    replace x0_2 := cell_next x0_2 hb_136
    replace x0_l := Nat.lt_of_lt_of_le x0_l hb_136.size
    replace own_80 := own_80.next hb_136
    replace own_81 := own_81.next hb_136
    replace x1_0 := cell_next x1_0 hb_136
    replace x1_1 := cell_next x1_1 hb_136
    replace x1_l := Nat.lt_of_lt_of_le x1_l hb_136.size
    replace own_99 := own_99.next hb_136
    replace own_100 := own_100.next hb_136
    replace own_101 := own_101.next hb_136
    replace g0_0 := cell_next g0_0 hb_136
    replace g0_1 := cell_next g0_1 hb_136
    replace g0_l := Nat.lt_of_lt_of_le g0_l hb_136.size
    replace hB := hB.trans (hb_136.mono hB.size)
    have sz_138 := hb_136.size
    clear HT_126 HE_127 own_130 own_131
    go_wp2_with fail
    refine (markProgram_x w4.heap.size mid_71 mid_72 w5.heap.size (some ⟨g_64, 0, none⟩) n0 n0 t0 (some ⟨g_65, 0, none⟩) m0 m0 x0 (some ⟨g_66, 0, none⟩) q0 q0 u0 1 _ own_67 own_68 own_69 (by omega) h0ok (by omega) (by omega)).mono ?_
    rintro e w17 ⟨rfl, ho_139⟩
    replace in0a := in0a.out ho_139 (by omega) (by omega)
    replace in0b := in0b.out ho_139 (by omega) (by omega)
    replace in0c := in0c.out ho_139 (by omega) (by omega)
    replace in1a := in1a.out ho_139 (by omega) (by omega)
    replace in1b := in1b.out ho_139 (by omega) (by omega)
    replace a0_0 := ho_139.cell a0_0 (by omega)
    replace a0_1 := ho_139.cell a0_1 (by omega)
    replace a0_2 := ho_139.cell a0_2 (by omega)
    replace a1_0 := ho_139.cell a1_0 (by omega)
    replace a1_1 := ho_139.cell a1_1 (by omega)
    replace a0_l := Nat.lt_of_lt_of_le a0_l ho_139.size
    replace a1_l := Nat.lt_of_lt_of_le a1_l ho_139.size
    replace w0_0 := ho_139.cell w0_0 (by omega)
    replace w0_1 := ho_139.cell w0_1 (by omega)
    replace w0_l := Nat.lt_of_lt_of_le w0_l ho_139.size
    replace own_21 := own_21.out ho_139 (by omega)
    replace own_25 := own_25.out ho_139 (by omega)
    replace own_29 := own_29.out ho_139 (by omega)
    replace x0_0 := ho_139.cell x0_0 (by omega)
    replace x0_1 := ho_139.cell x0_1 (by omega)
    replace x0_2 := ho_139.cell x0_2 (by omega)
    replace x0_l := Nat.lt_of_lt_of_le x0_l ho_139.size
    replace own_80 := own_80.out ho_139 (by omega)
    replace own_81 := own_81.out ho_139 (by omega)
    replace x1_0 := ho_139.cell x1_0 (by omega)
    replace x1_1 := ho_139.cell x1_1 (by omega)
    replace x1_l := Nat.lt_of_lt_of_le x1_l ho_139.size
    replace own_99 := own_99.out ho_139 (by omega)
    replace own_100 := own_100.out ho_139 (by omega)
    replace own_101 := own_101.out ho_139 (by omega)
    replace g0_0 := ho_139.cell g0_0 (by omega)
    replace g0_1 := ho_139.cell g0_1 (by omega)
    replace g0_l := Nat.lt_of_lt_of_le g0_l ho_139.size
    replace hB := hB.trans (ho_139.below (by omega) (by omega))
    have sz_140 := ho_139.size
    clear own_67 own_68 own_69
    have mk_141 : (0 : Int) ≤ 1 + ((n0 + totT t0 : Nat) : Int) + ((5 * m0 + totS x0 : Nat) : Int) + ((q0 + totT u0 : Nat) : Int) := by omega
    clear x0_0 x0_1 x0_2 x0_l
    go_wp2_with fail
    refine (markState_k w6.heap.size mid_83 w7.heap.size (some ⟨g_78, 0, none⟩) n1 n1 z1 (some ⟨g_79, 0, none⟩) m1 m1 y1 (1 + ((n0 + totT t0 : Nat) : Int) + ((5 * m0 + totS x0 : Nat) : Int) + ((q0 + totT u0 : Nat) : Int)) _ own_80 own_81 (by omega) (by omega) (by omega) (by omega) (by omega) (by omega)).mono ?_
    rintro e w18 ⟨rfl, own_143, own_144, ho_142⟩
    replace in0a := in0a.out ho_142 (by omega) (by omega)
    replace in0b := in0b.out ho_142 (by omega) (by omega)
    replace in0c := in0c.out ho_142 (by omega) (by omega)
    replace in1a := in1a.out ho_142 (by omega) (by omega)
    replace in1b := in1b.out ho_142 (by omega) (by omega)
    replace a0_0 := ho_142.cell a0_0 (by omega)
    replace a0_1 := ho_142.cell a0_1 (by omega)
    replace a0_2 := ho_142.cell a0_2 (by omega)
    replace a1_0 := ho_142.cell a1_0 (by omega)
    replace a1_1 := ho_142.cell a1_1 (by omega)
    replace a0_l := Nat.lt_of_lt_of_le a0_l ho_142.size
    replace a1_l := Nat.lt_of_lt_of_le a1_l ho_142.size
    replace w0_0 := ho_142.cell w0_0 (by omega)
    replace w0_1 := ho_142.cell w0_1 (by omega)
    replace w0_l := Nat.lt_of_lt_of_le w0_l ho_142.size
    replace own_21 := own_21.out ho_142 (by omega)
    replace own_25 := own_25.out ho_142 (by omega)
    replace own_29 := own_29.out ho_142 (by omega)
    replace x1_0 := ho_142.cell x1_0 (by omega)
    replace x1_1 := ho_142.cell x1_1 (by omega)
    replace x1_l := Nat.lt_of_lt_of_le x1_l ho_142.size
    replace own_99 := own_99.out ho_142 (by omega)
    replace own_100 := own_100.out ho_142 (by omega)
    replace own_101 := own_101.out ho_142 (by omega)
    replace g0_0 := ho_142.cell g0_0 (by omega)
    replace g0_1 := ho_142.cell g0_1 (by omega)
    replace g0_l := Nat.lt_of_lt_of_le g0_l ho_142.size
    replace hB := hB.trans (ho_142.below (by omega) (by omega))
    have sz_145 := ho_142.size
    clear own_80 own_81
    have mk_146 : (0 : Int) ≤ 1 + ((n0 + totT t0 : Nat) : Int) + ((5 * m0 + totS x0 : Nat) : Int) + ((q0 + totT u0 : Nat) : Int) + (n1 : Int) + (m1 : Int) := by omega
    clear x1_0 x1_1 x1_l
    clear own_143 own_144
    go_wp2_with fail
    -- if k < 0 || !eqState(g0, w0) || !eqInt64S(g1, w1) || g2 != w2 || g3 != w3 {
    refine (eqState_k R_90 R_11 l00 d_91 d_12 y00 R_92 R_13 l01 d_93 d_14 y01 (w18.heap.size) (w18.heap.size) w18 (own_99.inn.more (by omega)) (own_100.inn.more (by omega)) (own_21.inn.more (by omega)) (own_25.inn.more (by omega)) (by omega) (by omega) (by omega) (by omega)).mono ?_
    rintro e w19 ⟨rfl, hb_147⟩
    replace in0a := in0a.next hb_147 (by omega)
    replace in0b := in0b.next hb_147 (by omega)
    replace in0c := in0c.next hb_147 (by omega)
    replace in1a := in1a.next hb_147 (by omega)
    replace in1b := in1b.next hb_147 (by omega)
    replace a0_0 := cell_next a0_0 hb_147
    replace a0_1 := cell_next a0_1 hb_147
    replace a0_2 := cell_next a0_2 hb_147
    replace a1_0 := cell_next a1_0 hb_147
    replace a1_1 := cell_next a1_1 hb_147
    replace a0_l := Nat.lt_of_lt_of_le a0_l hb_147.size
    replace a1_l := Nat.lt_of_lt_of_le a1_l hb_147.size
    replace w0_0 := cell_next w0_0 hb_147
    replace w0_1 := cell_next w0_1 hb_147
    replace w0_l := Nat.lt_of_lt_of_le w0_l hb_147.size
    replace own_21 := own_21.next hb_147
    replace own_25 := own_25.next hb_147
    replace own_29 := own_29.next hb_147
    replace own_99 := own_99.next hb_147
    replace own_100 := own_100.next hb_147
    replace own_101 := own_101.next hb_147
    replace g0_0 := cell_next g0_0 hb_147
    replace g0_1 := cell_next g0_1 hb_147
    replace g0_l := Nat.lt_of_lt_of_le g0_l hb_147.size
    replace hB := hB.trans (hb_147.mono hB.size)
    have sz_148 := hb_147.size
    go_wp2_with fail
    refine (eqInt64S_k R_94 R_15 l10 d_95 d_16 _ _ y10 _ own_101.inn own_29.inn (by omega) (by omega) (by omega)).mono ?_
    rintro e w20 ⟨rfl, hb_149⟩
    replace in0a := in0a.next hb_149 (by omega)
    replace in0b := in0b.next hb_149 (by omega)
    replace in0c := in0c.next hb_149 (by omega)
    replace in1a := in1a.next hb_149 (by omega)
    replace in1b := in1b.next hb_149 (by omega)
    replace a0_0 := cell_next a0_0 hb_149
    replace a0_1 := cell_next a0_1 hb_149
    replace a0_2 := cell_next a0_2 hb_149
    replace a1_0 := cell_next a1_0 hb_149
    replace a1_1 := cell_next a1_1 hb_149
    replace a0_l := Nat.lt_of_lt_of_le a0_l hb_149.size
    replace a1_l := Nat.lt_of_lt_of_le a1_l hb_149.size
    replace w0_0 := cell_next w0_0 hb_149
    replace w0_1 := cell_next w0_1 hb_149
    replace w0_l := Nat.lt_of_lt_of_le w0_l hb_149.size
    replace own_21 := own_21.next hb_149
    replace own_25 := own_25.next hb_149
    replace own_29 := own_29.next hb_149
    replace own_99 := own_99.next hb_149
    replace own_100 := own_100.next hb_149
    replace own_101 := own_101.next hb_149
    replace g0_0 := cell_next g0_0 hb_149
    replace g0_1 := cell_next g0_1 hb_149
    replace g0_l := Nat.lt_of_lt_of_le g0_l hb_149.size
    replace hB := hB.trans (hb_149.mono hB.size)
    have sz_150 := hb_149.size
    go_wp2_with fail
    refine (markState_k w8.heap.size mid_96 mid_97 R_90 l00 d_91 y00 R_92 l01 d_93 y01 1 _ own_99 own_100 (by omega) (by omega) (by omega) (by omega) (by omega) (by omega)).mono ?_
    rintro e w21 ⟨rfl, own_152, own_153, ho_151⟩
    replace in0a := in0a.out ho_151 (by omega) (by omega)
    replace in0b := in0b.out ho_151 (by omega) (by omega)
    replace in0c := in0c.out ho_151 (by omega) (by omega)
    replace in1a := in1a.out ho_151 (by omega) (by omega)
    replace in1b := in1b.out ho_151 (by omega) (by omega)
    replace a0_0 := ho_151.cell a0_0 (by omega)
    replace a0_1 := ho_151.cell a0_1 (by omega)
    replace a0_2 := ho_151.cell a0_2 (by omega)
    replace a1_0 := ho_151.cell a1_0 (by omega)
    replace a1_1 := ho_151.cell a1_1 (by omega)
    replace a0_l := Nat.lt_of_lt_of_le a0_l ho_151.size
    replace a1_l := Nat.lt_of_lt_of_le a1_l ho_151.size
    replace w0_0 := ho_151.cell w0_0 (by omega)
    replace w0_1 := ho_151.cell w0_1 (by omega)
    replace w0_l := Nat.lt_of_lt_of_le w0_l ho_151.size
    replace own_21 := own_21.out ho_151 (by omega)
    replace own_25 := own_25.out ho_151 (by omega)
    replace own_29 := own_29.out ho_151 (by omega)
    replace own_101 := own_101.out ho_151 (by omega)
    replace g0_0 := ho_151.cell g0_0 (by omega)
    replace g0_1 := ho_151.cell g0_1 (by omega)
    replace g0_l := Nat.lt_of_lt_of_le g0_l ho_151.size
    replace hB := hB.trans (ho_151.below (by omega) (by omega))
    have sz_154 := ho_151.size
    clear own_99 own_100
    have mk_155 : (0 : Int) ≤ 1 + (l00 : Int) + (l01 : Int) := by omega
    go_wp2_with fail
    refine (markInt64S_k mid_97 w9.heap.size R_94 l10 d_95 y10 (1 + (l00 : Int) + (l01 : Int)) _ own_101 (by omega) (by omega) (by omega)).mono ?_
    rintro e w22 ⟨rfl, own_157, ho_156⟩
    replace in0a := in0a.out ho_156 (by omega) (by omega)
    replace in0b := in0b.out ho_156 (by omega) (by omega)
    replace in0c := in0c.out ho_156 (by omega) (by omega)
    replace in1a := in1a.out ho_156 (by omega) (by omega)
    replace in1b := in1b.out ho_156 (by omega) (by omega)
    replace a0_0 := ho_156.cell a0_0 (by omega)
    replace a0_1 := ho_156.cell a0_1 (by omega)
    replace a0_2 := ho_156.cell a0_2 (by omega)
    replace a1_0 := ho_156.cell a1_0 (by omega)
    replace a1_1 := ho_156.cell a1_1 (by omega)
    replace a0_l := Nat.lt_of_lt_of_le a0_l ho_156.size
    replace a1_l := Nat.lt_of_lt_of_le a1_l ho_156.size
    replace w0_0 := ho_156.cell w0_0 (by omega)
    replace w0_1 := ho_156.cell w0_1 (by omega)
    replace w0_l := Nat.lt_of_lt_of_le w0_l ho_156.size
    replace own_21 := own_21.out ho_156 (by omega)
    replace own_25 := own_25.out ho_156 (by omega)
    replace own_29 := own_29.out ho_156 (by omega)
    replace g0_0 := ho_156.cell g0_0 (by omega)
    replace g0_1 := ho_156.cell g0_1 (by omega)
    replace g0_l := Nat.lt_of_lt_of_le g0_l ho_156.size
    replace own_152 := own_152.out ho_156 (by omega)
    replace own_153 := own_153.out ho_156 (by omega)
    replace hB := hB.trans (ho_156.below (by omega) (by omega))
    have sz_158 := ho_156.size
    clear own_101
    have mk_159 : (0 : Int) ≤ 1 + (l00 : Int) + (l01 : Int) + (l10 : Int) := by omega
    go_wp2_with fail
    refine (heldState_k R_90 l00 d_91 R_92 l01 d_93 _ 1 _ own_152.all own_153.all (Nat.le_refl _) (by omega) (by omega) (by omega) (by omega)).mono ?_
    rintro e w23 ⟨rfl, hb_160⟩
    replace in0a := in0a.next hb_160 (by omega)
    replace in0b := in0b.next hb_160 (by omega)
    replace in0c := in0c.next hb_160 (by omega)
    replace in1a := in1a.next hb_160 (by omega)
    replace in1b := in1b.next hb_160 (by omega)
    replace a0_0 := cell_next a0_0 hb_160
    replace a0_1 := cell_next a0_1 hb_160
    replace a0_2 := cell_next a0_2 hb_160
    replace a1_0 := cell_next a1_0 hb_160
    replace a1_1 := cell_next a1_1 hb_160
    replace a0_l := Nat.lt_of_lt_of_le a0_l hb_160.size
    replace a1_l := Nat.lt_of_lt_of_le a1_l hb_160.size
    replace w0_0 := cell_next w0_0 hb_160
    replace w0_1 := cell_next w0_1 hb_160
    replace w0_l := Nat.lt_of_lt_of_le w0_l hb_160.size
    replace own_21 := own_21.next hb_160
    replace own_25 := own_25.next hb_160
    replace own_29 := own_29.next hb_160
    replace g0_0 := cell_next g0_0 hb_160
    replace g0_1 := cell_next g0_1 hb_160
    replace g0_l := Nat.lt_of_lt_of_le g0_l hb_160.size
    replace own_152 := own_152.next hb_160
    replace own_153 := own_153.next hb_160
    replace own_157 := own_157.next hb_160
    replace hB := hB.trans (hb_160.mono hB.size)
    have sz_161 := hb_160.size
    have mk_162 : (0 : Int) ≤ 1 + (l00 : Int) + (l01 : Int) := by omega
    go_wp2_with fail
    refine (heldInt64S_k R_94 l10 d_95 _ (1 + (l00 : Int) + (l01 : Int)) _ own_157.inn (by omega) (by omega) (by omega)).mono ?_
    rintro e w24 ⟨rfl, hb_163⟩
    replace in0a := in0a.next hb_163 (by omega)
    replace in0b := in0b.next hb_163 (by omega)
    replace in0c := in0c.next hb_163 (by omega)
    replace in1a := in1a.next hb_163 (by omega)
    replace in1b := in1b.next hb_163 (by omega)
    replace a0_0 := cell_next a0_0 hb_163
    replace a0_1 := cell_next a0_1 hb_163
    replace a0_2 := cell_next a0_2 hb_163
    replace a1_0 := cell_next a1_0 hb_163
    replace a1_1 := cell_next a1_1 hb_163
    replace a0_l := Nat.lt_of_lt_of_le a0_l hb_163.size
    replace a1_l := Nat.lt_of_lt_of_le a1_l hb_163.size
    replace w0_0 := cell_next w0_0 hb_163
    replace w0_1 := cell_next w0_1 hb_163
    replace w0_l := Nat.lt_of_lt_of_le w0_l hb_163.size
    replace own_21 := own_21.next hb_163
    replace own_25 := own_25.next hb_163
    replace own_29 := own_29.next hb_163
    replace g0_0 := cell_next g0_0 hb_163
    replace g0_1 := cell_next g0_1 hb_163
    replace g0_l := Nat.lt_of_lt_of_le g0_l hb_163.size
    replace own_152 := own_152.next hb_163
    replace own_153 := own_153.next hb_163
    replace own_157 := own_157.next hb_163
    replace hB := hB.trans (hb_163.mono hB.size)
    have sz_164 := hb_163.size
    have mk_165 : (0 : Int) ≤ 1 + (l00 : Int) + (l01 : Int) + (l10 : Int) := by omega
    go_wp2_with fail
    go_cut [21, 22, 23, 24] (fun s21 s22 s23 s24 wx => ∃ (R_166 : Option Addr) (d_167 : Nat) (R_168 : Option Addr) (d_169 : Nat) (R_170 : Option Addr) (d_171 : Nat) (bx_174 : Nat) (lo_177 hi_178 : Nat) (lo_181 hi_182 : Nat) (lo_185 hi_186 : Nat), s21 = .pointer (some ⟨bx_174, 0, none⟩) ∧ s22 = .slice R_170 l10 d_171 ∧ s23 = .int .i64 r2 ∧ s24 = .bool r3 ∧ wx.cell? ⟨bx_174, 0, none⟩ = some (.slice R_166 l00 d_167) ∧ wx.cell? ⟨bx_174, 1, none⟩ = some (.slice R_168 l01 d_169) ∧ bx_174 < wx.heap.size ∧ w24.heap.size ≤ bx_174 ∧ OwnL wx lo_177 hi_178 R_166 l00 d_167 y00 ∧ (w24.heap.size ≤ lo_177 ∧ lo_177 ≤ hi_178 ∧ hi_178 ≤ wx.heap.size) ∧ OwnL wx lo_181 hi_182 R_168 l01 d_169 y01 ∧ (w24.heap.size ≤ lo_181 ∧ lo_181 ≤ hi_182 ∧ hi_182 ≤ wx.heap.size) ∧ OwnL wx lo_185 hi_186 R_170 l10 d_171 y10 ∧ (w24.heap.size ≤ lo_185 ∧ lo_185 ≤ hi_186 ∧ hi_186 ≤ wx.heap.size) ∧ Below w24.heap.size w24 wx)
    case first =>
      have HT_189 := Lib.hid (fun (x : World) (h : Below w24.drew.heap.size w24.drew x) => toProgram_r A0 n0 cap0 t0 D0 m0 dap0 x0 E0 q0 eap0 u0 _ x (in0a.call (by omega) h) (in0b.call (by omega) h) (in0c.call (by omega) h) (le_call (by omega) h) h0ok)
      have HT_198 := Lib.hid (fun (x : World) (h : Below w24.drew.heap.size w24.drew x) => toState_k A1 n1 cap1 _ z1 B1 m1 cbp1 y1 x (in1a.call (by omega) h) (in1b.call (by omega) h) (le_call (by omega) h) h1ok h1gok)
      have hD0 : Below w24.drew.heap.size w24.drew w24.drew := Below.refl _ _
      have sc0_0 : w24.drew.cell? ⟨w.heap.size, 0, none⟩ = some (.slice A0 n0 cap0) := a0_0
      have sc1_0 : w24.drew.cell? ⟨w.heap.size, 1, none⟩ = some (.slice D0 m0 dap0) := a0_1
      have sc2_0 : w24.drew.cell? ⟨w.heap.size, 2, none⟩ = some (.slice E0 q0 eap0) := a0_2
      have sc3_0 : w24.drew.cell? ⟨w.heap.size + 1, 0, none⟩ = some (.slice A1 n1 cap1) := a1_0
      have sc4_0 : w24.drew.cell? ⟨w.heap.size + 1, 1, none⟩ = some (.slice B1 m1 cbp1) := a1_1
      refine wp_region_held_drew (S := fun w' => w'.cell? ⟨w.heap.size, 0, none⟩ = some (.slice A0 n0 cap0) ∧ w'.cell? ⟨w.heap.size, 1, none⟩ = some (.slice D0 m0 dap0) ∧ w'.cell? ⟨w.heap.size, 2, none⟩ = some (.slice E0 q0 eap0) ∧ w'.cell? ⟨w.heap.size + 1, 0, none⟩ = some (.slice A1 n1 cap1) ∧ w'.cell? ⟨w.heap.size + 1, 1, none⟩ = some (.slice B1 m1 cbp1)) (by kernel_rfl) ⟨sc0_0, sc1_0, sc2_0, sc3_0, sc4_0⟩ ?_
      intro hHeld0
      refine wpAnyH_take (i := 0) (v := ?_) rfl (by kernel_rfl) (by kernel_rfl) (by kernel_rfl) (fun _ _ _ h => h) (Or.inl ⟨by kernel_rfl, ?_⟩) (by assumption) ?_
      rotate_left
      · intro w9 hS9; (try dsimp only at hS9); go_simp; (try with_reducible rfl)
      set_option linter.unusedSimpArgs false in try simp only [Act.put, List.getElem_toArray, List.getElem_cons_succ, List.getElem_cons_zero, List.setIfInBounds_toArray, List.set_cons_zero, List.set_cons_succ]
      refine wpAnyH_take (i := 2) (v := ?_) rfl (by kernel_rfl) (by kernel_rfl) (by kernel_rfl) (fun _ _ _ h => h) (Or.inl ⟨by kernel_rfl, ?_⟩) (by assumption) ?_
      rotate_left
      · intro w9 hS9; (try dsimp only at hS9); go_simp; (try with_reducible rfl)
      set_option linter.unusedSimpArgs false in try simp only [Act.put, List.getElem_toArray, List.getElem_cons_succ, List.getElem_cons_zero, List.setIfInBounds_toArray, List.set_cons_zero, List.set_cons_succ]
      refine wpAnyH_take (i := 4) (v := ?_) rfl (by kernel_rfl) (by kernel_rfl) (by kernel_rfl) (fun _ _ _ h => h) (Or.inl ⟨by kernel_rfl, ?_⟩) (by assumption) ?_
      rotate_left
      · intro w9 hS9; (try dsimp only at hS9); go_simp; (try with_reducible rfl)
      set_option linter.unusedSimpArgs false in try simp only [Act.put, List.getElem_toArray, List.getElem_cons_succ, List.getElem_cons_zero, List.setIfInBounds_toArray, List.set_cons_zero, List.set_cons_succ]
      refine wpAnyH_ready (rs := [1, 11]) (by kernel_rfl) (by simp) ?_
      refine AllReadyH.cons rfl (fun K hK => ?_) (AllReadyH.cons rfl (fun K hK => ?_) AllReadyH.nil)
      · go_simp
        go_wp2_with (go_at_call 10; refine (HT_189.out _ (hD0)).mono ?_; rintro e v1 ⟨g_192, g_193, g_194, mz0, mz1, rfl, oa2, oa3, oa4, mdz, hb1⟩)
        have hw1 := bon (hD0) hb1
        have sc0_5 := cell_next (show w24.drew.cell? _ = _ from sc0_0) hb1
        have sc1_6 := cell_next (show w24.drew.cell? _ = _ from sc1_0) hb1
        have sc2_7 := cell_next (show w24.drew.cell? _ = _ from sc2_0) hb1
        have sc3_8 := cell_next (show w24.drew.cell? _ = _ from sc3_0) hb1
        have sc4_9 := cell_next (show w24.drew.cell? _ = _ from sc4_0) hb1
        refine hK.out _ _ ⟨sc0_5, sc1_6, sc2_7, sc3_8, sc4_9⟩ (fun hHeld10 => ?_)
        clear hK K hHeld0
        set_option linter.unusedSimpArgs false in try simp only [Act.put, List.getElem_toArray, List.getElem_cons_succ, List.getElem_cons_zero, List.setIfInBounds_toArray, List.set_cons_zero, List.set_cons_succ]
        refine wpAnyH_ready (rs := [3, 11]) (by kernel_rfl) (by simp) ?_
        refine AllReadyH.cons rfl (fun K hK => ?_) (AllReadyH.cons rfl (fun K hK => ?_) AllReadyH.nil)
        · go_simp
          go_wp2_with (go_at_call 11; refine (HT_198.out _ (hw1)).mono ?_; rintro e v11 ⟨g_201, g_202, mz0, rfl, oa12, oa13, mdz, hb11⟩)
          have hw11 := bon (hw1) hb11
          have sc0_14 := cell_next (show v1.cell? _ = _ from sc0_5) hb11
          have sc1_15 := cell_next (show v1.cell? _ = _ from sc1_6) hb11
          have sc2_16 := cell_next (show v1.cell? _ = _ from sc2_7) hb11
          have sc3_17 := cell_next (show v1.cell? _ = _ from sc3_8) hb11
          have sc4_18 := cell_next (show v1.cell? _ = _ from sc4_9) hb11
          have oa2_19 := oa2.next hb11
          have oa3_20 := oa3.next hb11
          have oa4_21 := oa4.next hb11
          refine hK.out _ _ ⟨sc0_14, sc1_15, sc2_16, sc3_17, sc4_18⟩ (fun hHeld22 => ?_)
          clear hK K hHeld10
          set_option linter.unusedSimpArgs false in try simp only [Act.put, List.getElem_toArray, List.getElem_cons_succ, List.getElem_cons_zero, List.setIfInBounds_toArray, List.set_cons_zero, List.set_cons_succ]
          refine wpAnyH_ready (rs := [5, 11]) (by kernel_rfl) (by simp) ?_
          refine AllReadyH.cons rfl (fun K hK => ?_) (AllReadyH.cons rfl (fun K hK => ?_) AllReadyH.nil)
          · go_simp
            go_wp2_with (go_at_call 12; refine (HI.out _ _ _ _ _ _ _ _ _ _ _ (bon hB (bstep (hw11))) oa2_19.all oa3_20.all (Nat.le_refl _) oa4_21.all oa12.all oa13.all).mono ?_; rintro e v23 ⟨R_166, d_167, R_168, d_169, R_170, d_171, mx0, mx1, rfl, op24, op25, op26, mdx, hb23⟩)
            have hw23 := bon (hw11) hb23
            have sc0_27 := cell_next (show v11.cell? _ = _ from sc0_14) hb23
            have sc1_28 := cell_next (show v11.cell? _ = _ from sc1_15) hb23
            have sc2_29 := cell_next (show v11.cell? _ = _ from sc2_16) hb23
            have sc3_30 := cell_next (show v11.cell? _ = _ from sc3_17) hb23
            have sc4_31 := cell_next (show v11.cell? _ = _ from sc4_18) hb23
            have oa2_19_32 := oa2_19.next hb23
            have oa3_20_33 := oa3_20.next hb23
            have oa4_21_34 := oa4_21.next hb23
            have oa12_35 := oa12.next hb23
            have oa13_36 := oa13.next hb23
            refine hK.out _ _ ⟨sc0_27, sc1_28, sc2_29, sc3_30, sc4_31⟩ (fun hHeld37 => ?_)
            clear hK K hHeld22
            set_option linter.unusedSimpArgs false in try simp only [Act.put, List.getElem_toArray, List.getElem_cons_succ, List.getElem_cons_zero, List.setIfInBounds_toArray, List.set_cons_zero, List.set_cons_succ]
            refine wpAnyH_take (i := 6) (v := ?_) rfl (by kernel_rfl) (by kernel_rfl) (by kernel_rfl) (fun _ _ _ h => h) (Or.inl ⟨by kernel_rfl, ?_⟩) (by assumption) ?_
            rotate_left
            · intro w9 hS9; (try dsimp only at hS9); go_simp; (try with_reducible rfl)
            set_option linter.unusedSimpArgs false in try simp only [Act.put, List.getElem_toArray, List.getElem_cons_succ, List.getElem_cons_zero, List.setIfInBounds_toArray, List.set_cons_zero, List.set_cons_succ]
            refine wpAnyH_take (i := 7) (v := ?_) rfl (by kernel_rfl) (by kernel_rfl) (by kernel_rfl) (fun _ _ _ h => h) (Or.inl ⟨by kernel_rfl, ?_⟩) (by assumption) ?_
            rotate_left
            · intro w9 hS9; (try dsimp only at hS9); go_simp; (try with_reducible rfl)
            set_option linter.unusedSimpArgs false in try simp only [Act.put, List.getElem_toArray, List.getElem_cons_succ, List.getElem_cons_zero, List.setIfInBounds_toArray, List.set_cons_zero, List.set_cons_succ]
            refine wpAnyH_take (i := 8) (v := ?_) rfl (by kernel_rfl) (by kernel_rfl) (by kernel_rfl) (fun _ _ _ h => h) (Or.inl ⟨by kernel_rfl, ?_⟩) (by assumption) ?_
            rotate_left
            · intro w9 hS9; (try dsimp only at hS9); go_simp; (try with_reducible rfl)
            set_option linter.unusedSimpArgs false in try simp only [Act.put, List.getElem_toArray, List.getElem_cons_succ, List.getElem_cons_zero, List.setIfInBounds_toArray, List.set_cons_zero, List.set_cons_succ]
            refine wpAnyH_take (i := 9) (v := ?_) rfl (by kernel_rfl) (by kernel_rfl) (by kernel_rfl) (fun _ _ _ h => h) (Or.inl ⟨by kernel_rfl, ?_⟩) (by assumption) ?_
            rotate_left
            · intro w9 hS9; (try dsimp only at hS9); go_simp; (try with_reducible rfl)
            set_option linter.unusedSimpArgs false in try simp only [Act.put, List.getElem_toArray, List.getElem_cons_succ, List.getElem_cons_zero, List.setIfInBounds_toArray, List.set_cons_zero, List.set_cons_succ]
            refine wpAnyH_take (i := 10) (v := ?_) rfl (by kernel_rfl) (by kernel_rfl) (by kernel_rfl) (fun _ _ _ h => h) (Or.inl ⟨by kernel_rfl, ?_⟩) (by assumption) ?_
            rotate_left
            · intro w9 hS9; (try dsimp only at hS9); go_simp; (try with_reducible rfl)
            set_option linter.unusedSimpArgs false in try simp only [Act.put, List.getElem_toArray, List.getElem_cons_succ, List.getElem_cons_zero, List.setIfInBounds_toArray, List.set_cons_zero, List.set_cons_succ]
            refine wpAnyH_ready (rs := [11]) (by kernel_rfl) (by simp) ?_
            refine AllReadyH.cons rfl (fun K hK => ?_) AllReadyH.nil
            go_simp
            have sc0_38 := cell_next sc0_27 (bnew v23 (.cells #[.slice none 0 0, .slice none 0 0] 31))
            have sc1_39 := cell_next sc1_28 (bnew v23 (.cells #[.slice none 0 0, .slice none 0 0] 31))
            have sc2_40 := cell_next sc2_29 (bnew v23 (.cells #[.slice none 0 0, .slice none 0 0] 31))
            have sc3_41 := cell_next sc3_30 (bnew v23 (.cells #[.slice none 0 0, .slice none 0 0] 31))
            have sc4_42 := cell_next sc4_31 (bnew v23 (.cells #[.slice none 0 0, .slice none 0 0] 31))
            refine hK.out _ _ ⟨sc0_38, sc1_39, sc2_40, sc3_41, sc4_42⟩ (fun hHeld43 => ?_)
            clear hK K hHeld37
            set_option linter.unusedSimpArgs false in try simp only [Act.put, List.getElem_toArray, List.getElem_cons_succ, List.getElem_cons_zero, List.setIfInBounds_toArray, List.set_cons_zero, List.set_cons_succ]
            refine wpAnyH_ready (rs := [12]) (by kernel_rfl) (by simp) ?_
            refine AllReadyH.cons rfl (fun K hK => ?_) AllReadyH.nil
            go_simp
            have sc0_44 := cell_next sc0_27 (bnew v23 (.cells #[.slice R_166 l00 d_167, .slice R_168 l01 d_169] 31))
            have sc1_45 := cell_next sc1_28 (bnew v23 (.cells #[.slice R_166 l00 d_167, .slice R_168 l01 d_169] 31))
            have sc2_46 := cell_next sc2_29 (bnew v23 (.cells #[.slice R_166 l00 d_167, .slice R_168 l01 d_169] 31))
            have sc3_47 := cell_next sc3_30 (bnew v23 (.cells #[.slice R_166 l00 d_167, .slice R_168 l01 d_169] 31))
            have sc4_48 := cell_next sc4_31 (bnew v23 (.cells #[.slice R_166 l00 d_167, .slice R_168 l01 d_169] 31))
            refine hK.out _ _ ⟨sc0_44, sc1_45, sc2_46, sc3_47, sc4_48⟩ (fun hHeld49 => ?_)
            clear hK K hHeld43
            set_option linter.unusedSimpArgs false in try simp only [Act.put, List.getElem_toArray, List.getElem_cons_succ, List.getElem_cons_zero, List.setIfInBounds_toArray, List.set_cons_zero, List.set_cons_succ]
            refine wpAnyH_take (i := 13) (v := ?_) rfl (by kernel_rfl) (by kernel_rfl) (by kernel_rfl) (fun _ _ _ h => h) (Or.inl ⟨by kernel_rfl, ?_⟩) (by assumption) ?_
            rotate_left
            · intro w9 hS9; (try dsimp only at hS9); go_simp; (try with_reducible rfl)
            set_option linter.unusedSimpArgs false in try simp only [Act.put, List.getElem_toArray, List.getElem_cons_succ, List.getElem_cons_zero, List.setIfInBounds_toArray, List.set_cons_zero, List.set_cons_succ]
            refine wpAnyH_take (i := 14) (v := ?_) rfl (by kernel_rfl) (by kernel_rfl) (by kernel_rfl) (fun _ _ _ h => h) (Or.inl ⟨by kernel_rfl, ?_⟩) (by assumption) ?_
            rotate_left
            · intro w9 hS9; (try dsimp only at hS9); go_simp; (try with_reducible rfl)
            set_option linter.unusedSimpArgs false in try simp only [Act.put, List.getElem_toArray, List.getElem_cons_succ, List.getElem_cons_zero, List.setIfInBounds_toArray, List.set_cons_zero, List.set_cons_succ]
            refine wpAnyH_take (i := 15) (v := ?_) rfl (by kernel_rfl) (by kernel_rfl) (by kernel_rfl) (fun _ _ _ h => h) (Or.inl ⟨by kernel_rfl, ?_⟩) (by assumption) ?_
            rotate_left
            · intro w9 hS9; (try dsimp only at hS9); go_simp; (try with_reducible rfl)
            set_option linter.unusedSimpArgs false in try simp only [Act.put, List.getElem_toArray, List.getElem_cons_succ, List.getElem_cons_zero, List.setIfInBounds_toArray, List.set_cons_zero, List.set_cons_succ]
            refine wpAnyH_done (by kernel_rfl) ?_ _
            go_wp2_with fail
            go_meet
            exact ⟨_, _, _, _, _, _, _, _, _, _, _, _, _, rfl, rfl, rfl, rfl, fin_new2 (bstep (hw11)) hb23 op24 (by have := hb23.size; omega) op25 (by have := hb23.size; omega) op26 (by have := hb23.size; omega)⟩
          · go_simp
            have hA50 : Below w24.drew.heap.size w24.drew (v11.alloc (.cells #[.slice none 0 0, .slice none 0 0] 31)) := bon (hw11) (bnew v11 _)
            have hA50b0 : BlkIs (v11.alloc (.cells #[.slice none 0 0, .slice none 0 0] 31)) v11.heap.size 31 #[.slice none 0 0, .slice none 0 0] := blk_new _ _ _ _ rfl
            have hA50b : BlkIs (v11.alloc (.cells #[.slice none 0 0, .slice none 0 0] 31)) v11.heap.size 31 #[.slice none 0 0, .slice none 0 0] := hA50b0
            have hA50g : w24.heap.size ≤ v11.heap.size := (bstep (hw11)).size
            have sc0_51 : (v11.alloc (.cells #[.slice none 0 0, .slice none 0 0] 31)).cell? ⟨w.heap.size, 0, none⟩ = some (.slice A0 n0 cap0) := cell_next (w1 := v11.alloc (.cells #[.slice none 0 0, .slice none 0 0] 31)) (show v11.cell? _ = _ from sc0_14) (bnew v11 _)
            have sc1_52 : (v11.alloc (.cells #[.slice none 0 0, .slice none 0 0] 31)).cell? ⟨w.heap.size, 1, none⟩ = some (.slice D0 m0 dap0) := cell_next (w1 := v11.alloc (.cells #[.slice none 0 0, .slice none 0 0] 31)) (show v11.cell? _ = _ from sc1_15) (bnew v11 _)
            have sc2_53 : (v11.alloc (.cells #[.slice none 0 0, .slice none 0 0] 31)).cell? ⟨w.heap.size, 2, none⟩ = some (.slice E0 q0 eap0) := cell_next (w1 := v11.alloc (.cells #[.slice none 0 0, .slice none 0 0] 31)) (show v11.cell? _ = _ from sc2_16) (bnew v11 _)
            have sc3_54 : (v11.alloc (.cells #[.slice none 0 0, .slice none 0 0] 31)).cell? ⟨w.heap.size + 1, 0, none⟩ = some (.slice A1 n1 cap1) := cell_next (w1 := v11.alloc (.cells #[.slice none 0 0, .slice none 0 0] 31)) (show v11.cell? _ = _ from sc3_17) (bnew v11 _)
            have sc4_55 : (v11.alloc (.cells #[.slice none 0 0, .slice none 0 0] 31)).cell? ⟨w.heap.size + 1, 1, none⟩ = some (.slice B1 m1 cbp1) := cell_next (w1 := v11.alloc (.cells #[.slice none 0 0, .slice none 0 0] 31)) (show v11.cell? _ = _ from sc4_18) (bnew v11 _)
            have oa2_19_56 := oa2_19.next (bnew v11 (.cells #[.slice none 0 0, .slice none 0 0] 31))
            have oa3_20_57 := oa3_20.next (bnew v11 (.cells #[.slice none 0 0, .slice none 0 0] 31))
            have oa4_21_58 := oa4_21.next (bnew v11 (.cells #[.slice none 0 0, .slice none 0 0] 31))
            have oa12_59 := oa12.next (bnew v11 (.cells #[.slice none 0 0, .slice none 0 0] 31))
            have oa13_60 := oa13.next (bnew v11 (.cells #[.slice none 0 0, .slice none 0 0] 31))
            refine hK.out _ _ ⟨sc0_51, sc1_52, sc2_53, sc3_54, sc4_55⟩ (fun hHeld61 => ?_)
            clear hK K hHeld22
            set_option linter.unusedSimpArgs false in try simp only [Act.put, List.getElem_toArray, List.getElem_cons_succ, List.getElem_cons_zero, List.setIfInBounds_toArray, List.set_cons_zero, List.set_cons_succ]
            refine wpAnyH_ready (rs := [5]) (by kernel_rfl) (by simp) ?_
            refine AllReadyH.cons rfl (fun K hK => ?_) AllReadyH.nil
            go_simp
            go_wp2_with (go_at_call 12; refine (HI.out _ _ _ _ _ _ _ _ _ _ _ (bon hB (bstep (hA50))) oa2_19_56.all oa3_20_57.all (Nat.le_refl _) oa4_21_58.all oa12_59.all oa13_60.all).mono ?_; rintro e v62 ⟨R_166, d_167, R_168, d_169, R_170, d_171, mx0, mx1, rfl, op63, op64, op65, mdx, hb62⟩)
            have hw62 := bon (hA50) hb62
            have sc0_66 := cell_next (show (v11.alloc (.cells #[.slice none 0 0, .slice none 0 0] 31)).cell? _ = _ from sc0_51) hb62
            have sc1_67 := cell_next (show (v11.alloc (.cells #[.slice none 0 0, .slice none 0 0] 31)).cell? _ = _ from sc1_52) hb62
            have sc2_68 := cell_next (show (v11.alloc (.cells #[.slice none 0 0, .slice none 0 0] 31)).cell? _ = _ from sc2_53) hb62
            have sc3_69 := cell_next (show (v11.alloc (.cells #[.slice none 0 0, .slice none 0 0] 31)).cell? _ = _ from sc3_54) hb62
            have sc4_70 := cell_next (show (v11.alloc (.cells #[.slice none 0 0, .slice none 0 0] 31)).cell? _ = _ from sc4_55) hb62
            have oa2_19_56_71 := oa2_19_56.next hb62
            have oa3_20_57_72 := oa3_20_57.next hb62
            have oa4_21_58_73 := oa4_21_58.next hb62
            have oa12_59_74 := oa12_59.next hb62
            have oa13_60_75 := oa13_60.next hb62
            have bk76 := hA50b.next hb62
            refine hK.out _ _ ⟨sc0_66, sc1_67, sc2_68, sc3_69, sc4_70⟩ (fun hHeld77 => ?_)
            clear hK K hHeld61
            set_option linter.unusedSimpArgs false in try simp only [Act.put, List.getElem_toArray, List.getElem_cons_succ, List.getElem_cons_zero, List.setIfInBounds_toArray, List.set_cons_zero, List.set_cons_succ]
            refine wpAnyH_take (i := 6) (v := ?_) rfl (by kernel_rfl) (by kernel_rfl) (by kernel_rfl) (fun _ _ _ h => h) (Or.inl ⟨by kernel_rfl, ?_⟩) (by assumption) ?_
            rotate_left
            · intro w9 hS9; (try dsimp only at hS9); go_simp; (try with_reducible rfl)
            set_option linter.unusedSimpArgs false in try simp only [Act.put, List.getElem_toArray, List.getElem_cons_succ, List.getElem_cons_zero, List.setIfInBounds_toArray, List.set_cons_zero, List.set_cons_succ]
            refine wpAnyH_take (i := 7) (v := ?_) rfl (by kernel_rfl) (by kernel_rfl) (by kernel_rfl) (fun _ _ _ h => h) (Or.inl ⟨by kernel_rfl, ?_⟩) (by assumption) ?_
            rotate_left
            · intro w9 hS9; (try dsimp only at hS9); go_simp; (try with_reducible rfl)
            set_option linter.unusedSimpArgs false in try simp only [Act.put, List.getElem_toArray, List.getElem_cons_succ, List.getElem_cons_zero, List.setIfInBounds_toArray, List.set_cons_zero, List.set_cons_succ]
            refine wpAnyH_take (i := 8) (v := ?_) rfl (by kernel_rfl) (by kernel_rfl) (by kernel_rfl) (fun _ _ _ h => h) (Or.inl ⟨by kernel_rfl, ?_⟩) (by assumption) ?_
            rotate_left
            · intro w9 hS9; (try dsimp only at hS9); go_simp; (try with_reducible rfl)
            set_option linter.unusedSimpArgs false in try simp only [Act.put, List.getElem_toArray, List.getElem_cons_succ, List.getElem_cons_zero, List.setIfInBounds_toArray, List.set_cons_zero, List.set_cons_succ]
            refine wpAnyH_take (i := 9) (v := ?_) rfl (by kernel_rfl) (by kernel_rfl) (by kernel_rfl) (fun _ _ _ h => h) (Or.inl ⟨by kernel_rfl, ?_⟩) (by assumption) ?_
            rotate_left
            · intro w9 hS9; (try dsimp only at hS9); go_simp; (try with_reducible rfl)
            set_option linter.unusedSimpArgs false in try simp only [Act.put, List.getElem_toArray, List.getElem_cons_succ, List.getElem_cons_zero, List.setIfInBounds_toArray, List.set_cons_zero, List.set_cons_succ]
            refine wpAnyH_take (i := 10) (v := ?_) rfl (by kernel_rfl) (by kernel_rfl) (by kernel_rfl) (fun _ _ _ h => h) (Or.inl ⟨by kernel_rfl, ?_⟩) (by assumption) ?_
            rotate_left
            · intro w9 hS9; (try dsimp only at hS9); go_simp; (try with_reducible rfl)
            set_option linter.unusedSimpArgs false in try simp only [Act.put, List.getElem_toArray, List.getElem_cons_succ, List.getElem_cons_zero, List.setIfInBounds_toArray, List.set_cons_zero, List.set_cons_succ]
            have z0 := bk76.cell 0
            have f0 := bk76.frozen 0
            have z1 := bk76.cell 1
            have f1 := bk76.frozen 1
            simp at z0 z1
            have ho78 : Out (v11.heap.size) (v11.heap.size + 1) v62 ((v62.setCell ⟨v11.heap.size, 0, none⟩ (.slice R_166 l00 d_167)).setCell ⟨v11.heap.size, 1, none⟩ (.slice R_168 l01 d_169)) := out_set (out_set (Out.refl _ _ _) (by omega)) (by omega)
            have sc0_79 := ho78.cell sc0_66 (by omega)
            have sc1_80 := ho78.cell sc1_67 (by omega)
            have sc2_81 := ho78.cell sc2_68 (by omega)
            have sc3_82 := ho78.cell sc3_69 (by omega)
            have sc4_83 := ho78.cell sc4_70 (by omega)
            refine wpAnyH_ready (rs := [12]) (by kernel_rfl) (by simp) ?_
            refine AllReadyH.cons rfl (fun K hK => ?_) AllReadyH.nil
            go_simp
            refine hK.out _ _ ⟨sc0_79, sc1_80, sc2_81, sc3_82, sc4_83⟩ (fun hHeld84 => ?_)
            clear hK K hHeld77
            set_option linter.unusedSimpArgs false in try simp only [Act.put, List.getElem_toArray, List.getElem_cons_succ, List.getElem_cons_zero, List.setIfInBounds_toArray, List.set_cons_zero, List.set_cons_succ]
            refine wpAnyH_take (i := 13) (v := ?_) rfl (by kernel_rfl) (by kernel_rfl) (by kernel_rfl) (fun _ _ _ h => h) (Or.inl ⟨by kernel_rfl, ?_⟩) (by assumption) ?_
            rotate_left
            · intro w9 hS9; (try dsimp only at hS9); go_simp; (try with_reducible rfl)
            set_option linter.unusedSimpArgs false in try simp only [Act.put, List.getElem_toArray, List.getElem_cons_succ, List.getElem_cons_zero, List.setIfInBounds_toArray, List.set_cons_zero, List.set_cons_succ]
            refine wpAnyH_take (i := 14) (v := ?_) rfl (by kernel_rfl) (by kernel_rfl) (by kernel_rfl) (fun _ _ _ h => h) (Or.inl ⟨by kernel_rfl, ?_⟩) (by assumption) ?_
            rotate_left
            · intro w9 hS9; (try dsimp only at hS9); go_simp; (try with_reducible rfl)
            set_option linter.unusedSimpArgs false in try simp only [Act.put, List.getElem_toArray, List.getElem_cons_succ, List.getElem_cons_zero, List.setIfInBounds_toArray, List.set_cons_zero, List.set_cons_succ]
            refine wpAnyH_take (i := 15) (v := ?_) rfl (by kernel_rfl) (by kernel_rfl) (by kernel_rfl) (fun _ _ _ h => h) (Or.inl ⟨by kernel_rfl, ?_⟩) (by assumption) ?_
            rotate_left
            · intro w9 hS9; (try dsimp only at hS9); go_simp; (try with_reducible rfl)
            set_option linter.unusedSimpArgs false in try simp only [Act.put, List.getElem_toArray, List.getElem_cons_succ, List.getElem_cons_zero, List.setIfInBounds_toArray, List.set_cons_zero, List.set_cons_succ]
            refine wpAnyH_done (by kernel_rfl) ?_ _
            go_wp2_with fail
            go_meet
            exact ⟨_, _, _, _, _, _, _, _, _, _, _, _, _, rfl, rfl, rfl, rfl, fin_box2 (bstep (hA50)) ⟨bk76, hA50b.lt, hA50g⟩ hb62 op63 (by have := hb62.size; omega) op64 (by have := hb62.size; omega) op65 (by have := hb62.size; omega)⟩
        · go_simp
          have hA85 : Below w24.drew.heap.size w24.drew (v1.alloc (.cells #[.slice none 0 0, .slice none 0 0] 31)) := bon (hw1) (bnew v1 _)
          have hA85b0 : BlkIs (v1.alloc (.cells #[.slice none 0 0, .slice none 0 0] 31)) v1.heap.size 31 #[.slice none 0 0, .slice none 0 0] := blk_new _ _ _ _ rfl
          have hA85b : BlkIs (v1.alloc (.cells #[.slice none 0 0, .slice none 0 0] 31)) v1.heap.size 31 #[.slice none 0 0, .slice none 0 0] := hA85b0
          have hA85g : w24.heap.size ≤ v1.heap.size := (bstep (hw1)).size
          have sc0_86 : (v1.alloc (.cells #[.slice none 0 0, .slice none 0 0] 31)).cell? ⟨w.heap.size, 0, none⟩ = some (.slice A0 n0 cap0) := cell_next (w1 := v1.alloc (.cells #[.slice none 0 0, .slice none 0 0] 31)) (show v1.cell? _ = _ from sc0_5) (bnew v1 _)
          have sc1_87 : (v1.alloc (.cells #[.slice none 0 0, .slice none 0 0] 31)).cell? ⟨w.heap.size, 1, none⟩ = some (.slice D0 m0 dap0) := cell_next (w1 := v1.alloc (.cells #[.slice none 0 0, .slice none 0 0] 31)) (show v1.cell? _ = _ from sc1_6) (bnew v1 _)
          have sc2_88 : (v1.alloc (.cells #[.slice none 0 0, .slice none 0 0] 31)).cell? ⟨w.heap.size, 2, none⟩ = some (.slice E0 q0 eap0) := cell_next (w1 := v1.alloc (.cells #[.slice none 0 0, .slice none 0 0] 31)) (show v1.cell? _ = _ from sc2_7) (bnew v1 _)
          have sc3_89 : (v1.alloc (.cells #[.slice none 0 0, .slice none 0 0] 31)).cell? ⟨w.heap.size + 1, 0, none⟩ = some (.slice A1 n1 cap1) := cell_next (w1 := v1.alloc (.cells #[.slice none 0 0, .slice none 0 0] 31)) (show v1.cell? _ = _ from sc3_8) (bnew v1 _)
          have sc4_90 : (v1.alloc (.cells #[.slice none 0 0, .slice none 0 0] 31)).cell? ⟨w.heap.size + 1, 1, none⟩ = some (.slice B1 m1 cbp1) := cell_next (w1 := v1.alloc (.cells #[.slice none 0 0, .slice none 0 0] 31)) (show v1.cell? _ = _ from sc4_9) (bnew v1 _)
          have oa2_91 := oa2.next (bnew v1 (.cells #[.slice none 0 0, .slice none 0 0] 31))
          have oa3_92 := oa3.next (bnew v1 (.cells #[.slice none 0 0, .slice none 0 0] 31))
          have oa4_93 := oa4.next (bnew v1 (.cells #[.slice none 0 0, .slice none 0 0] 31))
          refine hK.out _ _ ⟨sc0_86, sc1_87, sc2_88, sc3_89, sc4_90⟩ (fun hHeld94 => ?_)
          clear hK K hHeld10
          set_option linter.unusedSimpArgs false in try simp only [Act.put, List.getElem_toArray, List.getElem_cons_succ, List.getElem_cons_zero, List.setIfInBounds_toArray, List.set_cons_zero, List.set_cons_succ]
          refine wpAnyH_ready (rs := [3]) (by kernel_rfl) (by simp) ?_
          refine AllReadyH.cons rfl (fun K hK => ?_) AllReadyH.nil
          go_simp
          go_wp2_with (go_at_call 11; refine (HT_198.out _ (hA85)).mono ?_; rintro e v95 ⟨g_201, g_202, mz0, rfl, oa96, oa97, mdz, hb95⟩)
          have hw95 := bon (hA85) hb95
          have sc0_98 := cell_next (show (v1.alloc (.cells #[.slice none 0 0, .slice none 0 0] 31)).cell? _ = _ from sc0_86) hb95
          have sc1_99 := cell_next (show (v1.alloc (.cells #[.slice none 0 0, .slice none 0 0] 31)).cell? _ = _ from sc1_87) hb95
          have sc2_100 := cell_next (show (v1.alloc (.cells #[.slice none 0 0, .slice none 0 0] 31)).cell? _ = _ from sc2_88) hb95
          have sc3_101 := cell_next (show (v1.alloc (.cells #[.slice none 0 0, .slice none 0 0] 31)).cell? _ = _ from sc3_89) hb95
          have sc4_102 := cell_next (show (v1.alloc (.cells #[.slice none 0 0, .slice none 0 0] 31)).cell? _ = _ from sc4_90) hb95
          have oa2_91_103 := oa2_91.next hb95
          have oa3_92_104 := oa3_92.next hb95
          have oa4_93_105 := oa4_93.next hb95
          have bk106 := hA85b.next hb95
          refine hK.out _ _ ⟨sc0_98, sc1_99, sc2_100, sc3_101, sc4_102⟩ (fun hHeld107 => ?_)
          clear hK K hHeld94
          set_option linter.unusedSimpArgs false in try simp only [Act.put, List.getElem_toArray, List.getElem_cons_succ, List.getElem_cons_zero, List.setIfInBounds_toArray, List.set_cons_zero, List.set_cons_succ]
          refine wpAnyH_ready (rs := [5]) (by kernel_rfl) (by simp) ?_
          refine AllReadyH.cons rfl (fun K hK => ?_) AllReadyH.nil
          go_simp
          go_wp2_with (go_at_call 12; refine (HI.out _ _ _ _ _ _ _ _ _ _ _ (bon hB (bstep (hw95))) oa2_91_103.all oa3_92_104.all (Nat.le_refl _) oa4_93_105.all oa96.all oa97.all).mono ?_; rintro e v108 ⟨R_166, d_167, R_168, d_169, R_170, d_171, mx0, mx1, rfl, op109, op110, op111, mdx, hb108⟩)
          have hw108 := bon (hw95) hb108
          have sc0_112 := cell_next (show v95.cell? _ = _ from sc0_98) hb108
          have sc1_113 := cell_next (show v95.cell? _ = _ from sc1_99) hb108
          have sc2_114 := cell_next (show v95.cell? _ = _ from sc2_100) hb108
          have sc3_115 := cell_next (show v95.cell? _ = _ from sc3_101) hb108
          have sc4_116 := cell_next (show v95.cell? _ = _ from sc4_102) hb108
          have oa2_91_103_117 := oa2_91_103.next hb108
          have oa3_92_104_118 := oa3_92_104.next hb108
          have oa4_93_105_119 := oa4_93_105.next hb108
          have oa96_120 := oa96.next hb108
          have oa97_121 := oa97.next hb108
          have bk122 := bk106.next hb108
          refine hK.out _ _ ⟨sc0_112, sc1_113, sc2_114, sc3_115, sc4_116⟩ (fun hHeld123 => ?_)
          clear hK K hHeld107
          set_option linter.unusedSimpArgs false in try simp only [Act.put, List.getElem_toArray, List.getElem_cons_succ, List.getElem_cons_zero, List.setIfInBounds_toArray, List.set_cons_zero, List.set_cons_succ]
          refine wpAnyH_take (i := 6) (v := ?_) rfl (by kernel_rfl) (by kernel_rfl) (by kernel_rfl) (fun _ _ _ h => h) (Or.inl ⟨by kernel_rfl, ?_⟩) (by assumption) ?_
          rotate_left
          · intro w9 hS9; (try dsimp only at hS9); go_simp; (try with_reducible rfl)
          set_option linter.unusedSimpArgs false in try simp only [Act.put, List.getElem_toArray, List.getElem_cons_succ, List.getElem_cons_zero, List.setIfInBounds_toArray, List.set_cons_zero, List.set_cons_succ]
          refine wpAnyH_take (i := 7) (v := ?_) rfl (by kernel_rfl) (by kernel_rfl) (by kernel_rfl) (fun _ _ _ h => h) (Or.inl ⟨by kernel_rfl, ?_⟩) (by assumption) ?_
          rotate_left
          · intro w9 hS9; (try dsimp only at hS9); go_simp; (try with_reducible rfl)
          set_option linter.unusedSimpArgs false in try simp only [Act.put, List.getElem_toArray, List.getElem_cons_succ, List.getElem_cons_zero, List.setIfInBounds_toArray, List.set_cons_zero, List.set_cons_succ]
          refine wpAnyH_take (i := 8) (v := ?_) rfl (by kernel_rfl) (by kernel_rfl) (by kernel_rfl) (fun _ _ _ h => h) (Or.inl ⟨by kernel_rfl, ?_⟩) (by assumption) ?_
          rotate_left
          · intro w9 hS9; (try dsimp only at hS9); go_simp; (try with_reducible rfl)
          set_option linter.unusedSimpArgs false in try simp only [Act.put, List.getElem_toArray, List.getElem_cons_succ, List.getElem_cons_zero, List.setIfInBounds_toArray, List.set_cons_zero, List.set_cons_succ]
          refine wpAnyH_take (i := 9) (v := ?_) rfl (by kernel_rfl) (by kernel_rfl) (by kernel_rfl) (fun _ _ _ h => h) (Or.inl ⟨by kernel_rfl, ?_⟩) (by assumption) ?_
          rotate_left
          · intro w9 hS9; (try dsimp only at hS9); go_simp; (try with_reducible rfl)
          set_option linter.unusedSimpArgs false in try simp only [Act.put, List.getElem_toArray, List.getElem_cons_succ, List.getElem_cons_zero, List.setIfInBounds_toArray, List.set_cons_zero, List.set_cons_succ]
          refine wpAnyH_take (i := 10) (v := ?_) rfl (by kernel_rfl) (by kernel_rfl) (by kernel_rfl) (fun _ _ _ h => h) (Or.inl ⟨by kernel_rfl, ?_⟩) (by assumption) ?_
          rotate_left
          · intro w9 hS9; (try dsimp only at hS9); go_simp; (try with_reducible rfl)
          set_option linter.unusedSimpArgs false in try simp only [Act.put, List.getElem_toArray, List.getElem_cons_succ, List.getElem_cons_zero, List.setIfInBounds_toArray, List.set_cons_zero, List.set_cons_succ]
          have z0 := bk122.cell 0
          have f0 := bk122.frozen 0
          have z1 := bk122.cell 1
          have f1 := bk122.frozen 1
          simp at z0 z1
          have ho124 : Out (v1.heap.size) (v1.heap.size + 1) v108 ((v108.setCell ⟨v1.heap.size, 0, none⟩ (.slice R_166 l00 d_167)).setCell ⟨v1.heap.size, 1, none⟩ (.slice R_168 l01 d_169)) := out_set (out_set (Out.refl _ _ _) (by omega)) (by omega)
          have sc0_125 := ho124.cell sc0_112 (by omega)
          have sc1_126 := ho124.cell sc1_113 (by omega)
          have sc2_127 := ho124.cell sc2_114 (by omega)
          have sc3_128 := ho124.cell sc3_115 (by omega)
          have sc4_129 := ho124.cell sc4_116 (by omega)
          refine wpAnyH_ready (rs := [12]) (by kernel_rfl) (by simp) ?_
          refine AllReadyH.cons rfl (fun K hK => ?_) AllReadyH.nil
          go_simp
          refine hK.out _ _ ⟨sc0_125, sc1_126, sc2_127, sc3_128, sc4_129⟩ (fun hHeld130 => ?_)
          clear hK K hHeld123
          set_option linter.unusedSimpArgs false in try simp only [Act.put, List.getElem_toArray, List.getElem_cons_succ, List.getElem_cons_zero, List.setIfInBounds_toArray, List.set_cons_zero, List.set_cons_succ]
          refine wpAnyH_take (i := 13) (v := ?_) rfl (by kernel_rfl) (by kernel_rfl) (by kernel_rfl) (fun _ _ _ h => h) (Or.inl ⟨by kernel_rfl, ?_⟩) (by assumption) ?_
          rotate_left
          · intro w9 hS9; (try dsimp only at hS9); go_simp; (try with_reducible rfl)
          set_option linter.unusedSimpArgs false in try simp only [Act.put, List.getElem_toArray, List.getElem_cons_succ, List.getElem_cons_zero, List.setIfInBounds_toArray, List.set_cons_zero, List.set_cons_succ]
          refine wpAnyH_take (i := 14) (v := ?_) rfl (by kernel_rfl) (by kernel_rfl) (by kernel_rfl) (fun _ _ _ h => h) (Or.inl ⟨by kernel_rfl, ?_⟩) (by assumption) ?_
          rotate_left
          · intro w9 hS9; (try dsimp only at hS9); go_simp; (try with_reducible rfl)
          set_option linter.unusedSimpArgs false in try simp only [Act.put, List.getElem_toArray, List.getElem_cons_succ, List.getElem_cons_zero, List.setIfInBounds_toArray, List.set_cons_zero, List.set_cons_succ]
          refine wpAnyH_take (i := 15) (v := ?_) rfl (by kernel_rfl) (by kernel_rfl) (by kernel_rfl) (fun _ _ _ h => h) (Or.inl ⟨by kernel_rfl, ?_⟩) (by assumption) ?_
          rotate_left
          · intro w9 hS9; (try dsimp only at hS9); go_simp; (try with_reducible rfl)
          set_option linter.unusedSimpArgs false in try simp only [Act.put, List.getElem_toArray, List.getElem_cons_succ, List.getElem_cons_zero, List.setIfInBounds_toArray, List.set_cons_zero, List.set_cons_succ]
          refine wpAnyH_done (by kernel_rfl) ?_ _
          go_wp2_with fail
          go_meet
          exact ⟨_, _, _, _, _, _, _, _, _, _, _, _, _, rfl, rfl, rfl, rfl, fin_box2 (bstep (hw95)) ⟨bk122, bk106.lt, hA85g⟩ hb108 op109 (by have := hb108.size; omega) op110 (by have := hb108.size; omega) op111 (by have := hb108.size; omega)⟩
      · go_simp
        have hA131 : Below w24.drew.heap.size w24.drew (w24.alloc (.cells #[.slice none 0 0, .slice none 0 0] 31)).drew := bel_ad w24 _
        have hA131b0 : BlkIs (w24.alloc (.cells #[.slice none 0 0, .slice none 0 0] 31)) w24.heap.size 31 #[.slice none 0 0, .slice none 0 0] := blk_new _ _ _ _ rfl
        have hA131b : BlkIs (w24.alloc (.cells #[.slice none 0 0, .slice none 0 0] 31)).drew w24.heap.size 31 #[.slice none 0 0, .slice none 0 0] := hA131b0
        have hA131g : w24.heap.size ≤ w24.heap.size := Nat.le_refl _
        have sc0_132 : (w24.alloc (.cells #[.slice none 0 0, .slice none 0 0] 31)).drew.cell? ⟨w.heap.size, 0, none⟩ = some (.slice A0 n0 cap0) := cell_next (w1 := w24.alloc (.cells #[.slice none 0 0, .slice none 0 0] 31)) (show w24.cell? _ = _ from sc0_0) (bnew w24 _)
        have sc1_133 : (w24.alloc (.cells #[.slice none 0 0, .slice none 0 0] 31)).drew.cell? ⟨w.heap.size, 1, none⟩ = some (.slice D0 m0 dap0) := cell_next (w1 := w24.alloc (.cells #[.slice none 0 0, .slice none 0 0] 31)) (show w24.cell? _ = _ from sc1_0) (bnew w24 _)
        have sc2_134 : (w24.alloc (.cells #[.slice none 0 0, .slice none 0 0] 31)).drew.cell? ⟨w.heap.size, 2, none⟩ = some (.slice E0 q0 eap0) := cell_next (w1 := w24.alloc (.cells #[.slice none 0 0, .slice none 0 0] 31)) (show w24.cell? _ = _ from sc2_0) (bnew w24 _)
        have sc3_135 : (w24.alloc (.cells #[.slice none 0 0, .slice none 0 0] 31)).drew.cell? ⟨w.heap.size + 1, 0, none⟩ = some (.slice A1 n1 cap1) := cell_next (w1 := w24.alloc (.cells #[.slice none 0 0, .slice none 0 0] 31)) (show w24.cell? _ = _ from sc3_0) (bnew w24 _)
        have sc4_136 : (w24.alloc (.cells #[.slice none 0 0, .slice none 0 0] 31)).drew.cell? ⟨w.heap.size + 1, 1, none⟩ = some (.slice B1 m1 cbp1) := cell_next (w1 := w24.alloc (.cells #[.slice none 0 0, .slice none 0 0] 31)) (show w24.cell? _ = _ from sc4_0) (bnew w24 _)
        refine hK.out _ _ ⟨sc0_132, sc1_133, sc2_134, sc3_135, sc4_136⟩ (fun hHeld137 => ?_)
        clear hK K hHeld0
        set_option linter.unusedSimpArgs false in try simp only [Act.put, List.getElem_toArray, List.getElem_cons_succ, List.getElem_cons_zero, List.setIfInBounds_toArray, List.set_cons_zero, List.set_cons_succ]
        refine wpAnyH_ready (rs := [1]) (by kernel_rfl) (by simp) ?_
        refine AllReadyH.cons rfl (fun K hK => ?_) AllReadyH.nil
        go_simp
        go_wp2_with (go_at_call 10; refine (HT_189.out _ (hA131)).mono ?_; rintro e v138 ⟨g_192, g_193, g_194, mz0, mz1, rfl, oa139, oa140, oa141, mdz, hb138⟩)
        have hw138 := bon (hA131) hb138
        have sc0_142 := cell_next (show (w24.alloc (.cells #[.slice none 0 0, .slice none 0 0] 31)).drew.cell? _ = _ from sc0_132) hb138
        have sc1_143 := cell_next (show (w24.alloc (.cells #[.slice none 0 0, .slice none 0 0] 31)).drew.cell? _ = _ from sc1_133) hb138
        have sc2_144 := cell_next (show (w24.alloc (.cells #[.slice none 0 0, .slice none 0 0] 31)).drew.cell? _ = _ from sc2_134) hb138
        have sc3_145 := cell_next (show (w24.alloc (.cells #[.slice none 0 0, .slice none 0 0] 31)).drew.cell? _ = _ from sc3_135) hb138
        have sc4_146 := cell_next (show (w24.alloc (.cells #[.slice none 0 0, .slice none 0 0] 31)).drew.cell? _ = _ from sc4_136) hb138
        have bk147 := hA131b.next hb138
        refine hK.out _ _ ⟨sc0_142, sc1_143, sc2_144, sc3_145, sc4_146⟩ (fun hHeld148 => ?_)
        clear hK K hHeld137
        set_option linter.unusedSimpArgs false in try simp only [Act.put, List.getElem_toArray, List.getElem_cons_succ, List.getElem_cons_zero, List.setIfInBounds_toArray, List.set_cons_zero, List.set_cons_succ]
        refine wpAnyH_ready (rs := [3]) (by kernel_rfl) (by simp) ?_
        refine AllReadyH.cons rfl (fun K hK => ?_) AllReadyH.nil
        go_simp
        go_wp2_with (go_at_call 11; refine (HT_198.out _ (hw138)).mono ?_; rintro e v149 ⟨g_201, g_202, mz0, rfl, oa150, oa151, mdz, hb149⟩)
        have hw149 := bon (hw138) hb149
        have sc0_152 := cell_next (show v138.cell? _ = _ from sc0_142) hb149
        have sc1_153 := cell_next (show v138.cell? _ = _ from sc1_143) hb149
        have sc2_154 := cell_next (show v138.cell? _ = _ from sc2_144) hb149
        have sc3_155 := cell_next (show v138.cell? _ = _ from sc3_145) hb149
        have sc4_156 := cell_next (show v138.cell? _ = _ from sc4_146) hb149
        have oa139_157 := oa139.next hb149
        have oa140_158 := oa140.next hb149
        have oa141_159 := oa141.next hb149
        have bk160 := bk147.next hb149
        refine hK.out _ _ ⟨sc0_152, sc1_153, sc2_154, sc3_155, sc4_156⟩ (fun hHeld161 => ?_)
        clear hK K hHeld148
        set_option linter.unusedSimpArgs false in try simp only [Act.put, List.getElem_toArray, List.getElem_cons_succ, List.getElem_cons_zero, List.setIfInBounds_toArray, List.set_cons_zero, List.set_cons_succ]
        refine wpAnyH_ready (rs := [5]) (by kernel_rfl) (by simp) ?_
        refine AllReadyH.cons rfl (fun K hK => ?_) AllReadyH.nil
        go_simp
        go_wp2_with (go_at_call 12; refine (HI.out _ _ _ _ _ _ _ _ _ _ _ (bon hB (bstep (hw149))) oa139_157.all oa140_158.all (Nat.le_refl _) oa141_159.all oa150.all oa151.all).mono ?_; rintro e v162 ⟨R_166, d_167, R_168, d_169, R_170, d_171, mx0, mx1, rfl, op163, op164, op165, mdx, hb162⟩)
        have hw162 := bon (hw149) hb162
        have sc0_166 := cell_next (show v149.cell? _ = _ from sc0_152) hb162
        have sc1_167 := cell_next (show v149.cell? _ = _ from sc1_153) hb162
        have sc2_168 := cell_next (show v149.cell? _ = _ from sc2_154) hb162
        have sc3_169 := cell_next (show v149.cell? _ = _ from sc3_155) hb162
        have sc4_170 := cell_next (show v149.cell? _ = _ from sc4_156) hb162
        have oa139_157_171 := oa139_157.next hb162
        have oa140_158_172 := oa140_158.next hb162
        have oa141_159_173 := oa141_159.next hb162
        have oa150_174 := oa150.next hb162
        have oa151_175 := oa151.next hb162
        have bk176 := bk160.next hb162
        refine hK.out _ _ ⟨sc0_166, sc1_167, sc2_168, sc3_169, sc4_170⟩ (fun hHeld177 => ?_)
        clear hK K hHeld161
        set_option linter.unusedSimpArgs false in try simp only [Act.put, List.getElem_toArray, List.getElem_cons_succ, List.getElem_cons_zero, List.setIfInBounds_toArray, List.set_cons_zero, List.set_cons_succ]
        refine wpAnyH_take (i := 6) (v := ?_) rfl (by kernel_rfl) (by kernel_rfl) (by kernel_rfl) (fun _ _ _ h => h) (Or.inl ⟨by kernel_rfl, ?_⟩) (by assumption) ?_
        rotate_left
        · intro w9 hS9; (try dsimp only at hS9); go_simp; (try with_reducible rfl)
        set_option linter.unusedSimpArgs false in try simp only [Act.put, List.getElem_toArray, List.getElem_cons_succ, List.getElem_cons_zero, List.setIfInBounds_toArray, List.set_cons_zero, List.set_cons_succ]
        refine wpAnyH_take (i := 7) (v := ?_) rfl (by kernel_rfl) (by kernel_rfl) (by kernel_rfl) (fun _ _ _ h => h) (Or.inl ⟨by kernel_rfl, ?_⟩) (by assumption) ?_
        rotate_left
        · intro w9 hS9; (try dsimp only at hS9); go_simp; (try with_reducible rfl)
        set_option linter.unusedSimpArgs false in try simp only [Act.put, List.getElem_toArray, List.getElem_cons_succ, List.getElem_cons_zero, List.setIfInBounds_toArray, List.set_cons_zero, List.set_cons_succ]
        refine wpAnyH_take (i := 8) (v := ?_) rfl (by kernel_rfl) (by kernel_rfl) (by kernel_rfl) (fun _ _ _ h => h) (Or.inl ⟨by kernel_rfl, ?_⟩) (by assumption) ?_
        rotate_left
        · intro w9 hS9; (try dsimp only at hS9); go_simp; (try with_reducible rfl)
        set_option linter.unusedSimpArgs false in try simp only [Act.put, List.getElem_toArray, List.getElem_cons_succ, List.getElem_cons_zero, List.setIfInBounds_toArray, List.set_cons_zero, List.set_cons_succ]
        refine wpAnyH_take (i := 9) (v := ?_) rfl (by kernel_rfl) (by kernel_rfl) (by kernel_rfl) (fun _ _ _ h => h) (Or.inl ⟨by kernel_rfl, ?_⟩) (by assumption) ?_
        rotate_left
        · intro w9 hS9; (try dsimp only at hS9); go_simp; (try with_reducible rfl)
        set_option linter.unusedSimpArgs false in try simp only [Act.put, List.getElem_toArray, List.getElem_cons_succ, List.getElem_cons_zero, List.setIfInBounds_toArray, List.set_cons_zero, List.set_cons_succ]
        refine wpAnyH_take (i := 10) (v := ?_) rfl (by kernel_rfl) (by kernel_rfl) (by kernel_rfl) (fun _ _ _ h => h) (Or.inl ⟨by kernel_rfl, ?_⟩) (by assumption) ?_
        rotate_left
        · intro w9 hS9; (try dsimp only at hS9); go_simp; (try with_reducible rfl)
        set_option linter.unusedSimpArgs false in try simp only [Act.put, List.getElem_toArray, List.getElem_cons_succ, List.getElem_cons_zero, List.setIfInBounds_toArray, List.set_cons_zero, List.set_cons_succ]
        have z0 := bk176.cell 0
        have f0 := bk176.frozen 0
        have z1 := bk176.cell 1
        have f1 := bk176.frozen 1
        simp at z0 z1
        have ho178 : Out (w24.heap.size) (w24.heap.size + 1) v162 ((v162.setCell ⟨w24.heap.size, 0, none⟩ (.slice R_166 l00 d_167)).setCell ⟨w24.heap.size, 1, none⟩ (.slice R_168 l01 d_169)) := out_set (out_set (Out.refl _ _ _) (by omega)) (by omega)
        have sc0_179 := ho178.cell sc0_166 (by omega)
        have sc1_180 := ho178.cell sc1_167 (by omega)
        have sc2_181 := ho178.cell sc2_168 (by omega)
        have sc3_182 := ho178.cell sc3_169 (by omega)
        have sc4_183 := ho178.cell sc4_170 (by omega)
        refine wpAnyH_ready (rs := [12]) (by kernel_rfl) (by simp) ?_
        refine AllReadyH.cons rfl (fun K hK => ?_) AllReadyH.nil
        go_simp
        refine hK.out _ _ ⟨sc0_179, sc1_180, sc2_181, sc3_182, sc4_183⟩ (fun hHeld184 => ?_)
        clear hK K hHeld177
        set_option linter.unusedSimpArgs false in try simp only [Act.put, List.getElem_toArray, List.getElem_cons_succ, List.getElem_cons_zero, List.setIfInBounds_toArray, List.set_cons_zero, List.set_cons_succ]
        refine wpAnyH_take (i := 13) (v := ?_) rfl (by kernel_rfl) (by kernel_rfl) (by kernel_rfl) (fun _ _ _ h => h) (Or.inl ⟨by kernel_rfl, ?_⟩) (by assumption) ?_
        rotate_left
        · intro w9 hS9; (try dsimp only at hS9); go_simp; (try with_reducible rfl)
        set_option linter.unusedSimpArgs false in try simp only [Act.put, List.getElem_toArray, List.getElem_cons_succ, List.getElem_cons_zero, List.setIfInBounds_toArray, List.set_cons_zero, List.set_cons_succ]
        refine wpAnyH_take (i := 14) (v := ?_) rfl (by kernel_rfl) (by kernel_rfl) (by kernel_rfl) (fun _ _ _ h => h) (Or.inl ⟨by kernel_rfl, ?_⟩) (by assumption) ?_
        rotate_left
        · intro w9 hS9; (try dsimp only at hS9); go_simp; (try with_reducible rfl)
        set_option linter.unusedSimpArgs false in try simp only [Act.put, List.getElem_toArray, List.getElem_cons_succ, List.getElem_cons_zero, List.setIfInBounds_toArray, List.set_cons_zero, List.set_cons_succ]
        refine wpAnyH_take (i := 15) (v := ?_) rfl (by kernel_rfl) (by kernel_rfl) (by kernel_rfl) (fun _ _ _ h => h) (Or.inl ⟨by kernel_rfl, ?_⟩) (by assumption) ?_
        rotate_left
        · intro w9 hS9; (try dsimp only at hS9); go_simp; (try with_reducible rfl)
        set_option linter.unusedSimpArgs false in try simp only [Act.put, List.getElem_toArray, List.getElem_cons_succ, List.getElem_cons_zero, List.setIfInBounds_toArray, List.set_cons_zero, List.set_cons_succ]
        refine wpAnyH_done (by kernel_rfl) ?_ _
        go_wp2_with fail
        go_meet
        exact ⟨_, _, _, _, _, _, _, _, _, _, _, _, _, rfl, rfl, rfl, rfl, fin_box2 (bstep (hw149)) ⟨bk176, bk160.lt, hA131g⟩ hb162 op163 (by have := hb162.size; omega) op164 (by have := hb162.size; omega) op165 (by have := hb162.size; omega)⟩
    case rest =>
      obtain ⟨R_166, d_167, R_168, d_169, R_170, d_171, bx_174, lo_177, hi_178, lo_181, hi_182, lo_185, hi_186, rfl, rfl, rfl, rfl, h0_0, h0_1, h0_l, sz_175, own_176, sz_179, own_180, sz_183, own_184, sz_187, hb_188⟩ := hcut
      obtain ⟨w25, hwx⟩ : ∃ x, x = wc := ⟨_, rfl⟩
      subst hwx
      have sz_219 := h0_l
      replace in0a := in0a.next hb_188 (by omega)
      replace in0b := in0b.next hb_188 (by omega)
      replace in0c := in0c.next hb_188 (by omega)
      replace in1a := in1a.next hb_188 (by omega)
      replace in1b := in1b.next hb_188 (by omega)
      replace a0_0 := cell_next a0_0 hb_188
      replace a0_1 := cell_next a0_1 hb_188
      replace a0_2 := cell_next a0_2 hb_188
      replace a1_0 := cell_next a1_0 hb_188
      replace a1_1 := cell_next a1_1 hb_188
      replace a0_l := Nat.lt_of_lt_of_le a0_l hb_188.size
      replace a1_l := Nat.lt_of_lt_of_le a1_l hb_188.size
      replace w0_0 := cell_next w0_0 hb_188
      replace w0_1 := cell_next w0_1 hb_188
      replace w0_l := Nat.lt_of_lt_of_le w0_l hb_188.size
      replace own_21 := own_21.next hb_188
      replace own_25 := own_25.next hb_188
      replace own_29 := own_29.next hb_188
      replace g0_0 := cell_next g0_0 hb_188
      replace g0_1 := cell_next g0_1 hb_188
      replace g0_l := Nat.lt_of_lt_of_le g0_l hb_188.size
      replace own_152 := own_152.next hb_188
      replace own_153 := own_153.next hb_188
      replace own_157 := own_157.next hb_188
      replace hB := hB.trans (hb_188.mono hB.size)
      have sz_220 := hb_188.size
      go_wp2_with fail
      -- if !eqState(h0, w0) || !eqInt64S(h1, w1) || h2 != w2 || h3 != w3 {
      refine (eqState_k R_166 R_11 l00 d_167 d_12 y00 R_168 R_13 l01 d_169 d_14 y01 (w25.heap.size) (w25.heap.size) w25 (own_176.inn.more (by omega)) (own_180.inn.more (by omega)) (own_21.inn.more (by omega)) (own_25.inn.more (by omega)) (by omega) (by omega) (by omega) (by omega)).mono ?_
      rintro e w26 ⟨rfl, hb_221⟩
      replace in0a := in0a.next hb_221 (by omega)
      replace in0b := in0b.next hb_221 (by omega)
      replace in0c := in0c.next hb_221 (by omega)
      replace in1a := in1a.next hb_221 (by omega)
      replace in1b := in1b.next hb_221 (by omega)
      replace a0_0 := cell_next a0_0 hb_221
      replace a0_1 := cell_next a0_1 hb_221
      replace a0_2 := cell_next a0_2 hb_221
      replace a1_0 := cell_next a1_0 hb_221
      replace a1_1 := cell_next a1_1 hb_221
      replace a0_l := Nat.lt_of_lt_of_le a0_l hb_221.size
      replace a1_l := Nat.lt_of_lt_of_le a1_l hb_221.size
      replace w0_0 := cell_next w0_0 hb_221
      replace w0_1 := cell_next w0_1 hb_221
      replace w0_l := Nat.lt_of_lt_of_le w0_l hb_221.size
      replace own_21 := own_21.next hb_221
      replace own_25 := own_25.next hb_221
      replace own_29 := own_29.next hb_221
      replace g0_0 := cell_next g0_0 hb_221
      replace g0_1 := cell_next g0_1 hb_221
      replace g0_l := Nat.lt_of_lt_of_le g0_l hb_221.size
      replace own_152 := own_152.next hb_221
      replace own_153 := own_153.next hb_221
      replace own_157 := own_157.next hb_221
      replace h0_0 := cell_next h0_0 hb_221
      replace h0_1 := cell_next h0_1 hb_221
      replace h0_l := Nat.lt_of_lt_of_le h0_l hb_221.size
      replace own_176 := own_176.next hb_221
      replace own_180 := own_180.next hb_221
      replace own_184 := own_184.next hb_221
      replace hB := hB.trans (hb_221.mono hB.size)
      have sz_222 := hb_221.size
      go_wp2_with fail
      refine (eqInt64S_k R_170 R_15 l10 d_171 d_16 _ _ y10 _ own_184.inn own_29.inn (by omega) (by omega) (by omega)).mono ?_
      rintro e w27 ⟨rfl, hb_223⟩
      replace in0a := in0a.next hb_223 (by omega)
      replace in0b := in0b.next hb_223 (by omega)
      replace in0c := in0c.next hb_223 (by omega)
      replace in1a := in1a.next hb_223 (by omega)
      replace in1b := in1b.next hb_223 (by omega)
      replace a0_0 := cell_next a0_0 hb_223
      replace a0_1 := cell_next a0_1 hb_223
      replace a0_2 := cell_next a0_2 hb_223
      replace a1_0 := cell_next a1_0 hb_223
      replace a1_1 := cell_next a1_1 hb_223
      replace a0_l := Nat.lt_of_lt_of_le a0_l hb_223.size
      replace a1_l := Nat.lt_of_lt_of_le a1_l hb_223.size
      replace w0_0 := cell_next w0_0 hb_223
      replace w0_1 := cell_next w0_1 hb_223
      replace w0_l := Nat.lt_of_lt_of_le w0_l hb_223.size
      replace own_21 := own_21.next hb_223
      replace own_25 := own_25.next hb_223
      replace own_29 := own_29.next hb_223
      replace g0_0 := cell_next g0_0 hb_223
      replace g0_1 := cell_next g0_1 hb_223
      replace g0_l := Nat.lt_of_lt_of_le g0_l hb_223.size
      replace own_152 := own_152.next hb_223
      replace own_153 := own_153.next hb_223
      replace own_157 := own_157.next hb_223
      replace h0_0 := cell_next h0_0 hb_223
      replace h0_1 := cell_next h0_1 hb_223
      replace h0_l := Nat.lt_of_lt_of_le h0_l hb_223.size
      replace own_176 := own_176.next hb_223
      replace own_180 := own_180.next hb_223
      replace own_184 := own_184.next hb_223
      replace hB := hB.trans (hb_223.mono hB.size)
      have sz_224 := hb_223.size
      go_wp2_with fail
      clear own_176 own_180
      clear h0_0 h0_1 h0_l
      clear own_184
      refine (heldState_k R_90 l00 d_91 R_92 l01 d_93 _ 1 _ own_152.all own_153.all (Nat.le_refl _) (by omega) (by omega) (by omega) (by omega)).mono ?_
      rintro e w28 ⟨rfl, hb_225⟩
      replace in0a := in0a.next hb_225 (by omega)
      replace in0b := in0b.next hb_225 (by omega)
      replace in0c := in0c.next hb_225 (by omega)
      replace in1a := in1a.next hb_225 (by omega)
      replace in1b := in1b.next hb_225 (by omega)
      replace a0_0 := cell_next a0_0 hb_225
      replace a0_1 := cell_next a0_1 hb_225
      replace a0_2 := cell_next a0_2 hb_225
      replace a1_0 := cell_next a1_0 hb_225
      replace a1_1 := cell_next a1_1 hb_225
      replace a0_l := Nat.lt_of_lt_of_le a0_l hb_225.size
      replace a1_l := Nat.lt_of_lt_of_le a1_l hb_225.size
      replace w0_0 := cell_next w0_0 hb_225
      replace w0_1 := cell_next w0_1 hb_225
      replace w0_l := Nat.lt_of_lt_of_le w0_l hb_225.size
      replace own_21 := own_21.next hb_225
      replace own_25 := own_25.next hb_225
      replace own_29 := own_29.next hb_225
      replace g0_0 := cell_next g0_0 hb_225
      replace g0_1 := cell_next g0_1 hb_225
      replace g0_l := Nat.lt_of_lt_of_le g0_l hb_225.size
      replace own_152 := own_152.next hb_225
      replace own_153 := own_153.next hb_225
      replace own_157 := own_157.next hb_225
      replace hB := hB.trans (hb_225.mono hB.size)
      have sz_226 := hb_225.size
      have mk_227 : (0 : Int) ≤ 1 + (l00 : Int) + (l01 : Int) := by omega
      go_wp2_with fail
      refine (heldInt64S_k R_94 l10 d_95 _ (1 + (l00 : Int) + (l01 : Int)) _ own_157.inn (by omega) (by omega) (by omega)).mono ?_
      rintro e w29 ⟨rfl, hb_228⟩
      replace in0a := in0a.next hb_228 (by omega)
      replace in0b := in0b.next hb_228 (by omega)
      replace in0c := in0c.next hb_228 (by omega)
      replace in1a := in1a.next hb_228 (by omega)
      replace in1b := in1b.next hb_228 (by omega)
      replace a0_0 := cell_next a0_0 hb_228
      replace a0_1 := cell_next a0_1 hb_228
      replace a0_2 := cell_next a0_2 hb_228
      replace a1_0 := cell_next a1_0 hb_228
      replace a1_1 := cell_next a1_1 hb_228
      replace a0_l := Nat.lt_of_lt_of_le a0_l hb_228.size
      replace a1_l := Nat.lt_of_lt_of_le a1_l hb_228.size
      replace w0_0 := cell_next w0_0 hb_228
      replace w0_1 := cell_next w0_1 hb_228
      replace w0_l := Nat.lt_of_lt_of_le w0_l hb_228.size
      replace own_21 := own_21.next hb_228
      replace own_25 := own_25.next hb_228
      replace own_29 := own_29.next hb_228
      replace g0_0 := cell_next g0_0 hb_228
      replace g0_1 := cell_next g0_1 hb_228
      replace g0_l := Nat.lt_of_lt_of_le g0_l hb_228.size
      replace own_152 := own_152.next hb_228
      replace own_153 := own_153.next hb_228
      replace own_157 := own_157.next hb_228
      replace hB := hB.trans (hb_228.mono hB.size)
      have sz_229 := hb_228.size
      have mk_230 : (0 : Int) ≤ 1 + (l00 : Int) + (l01 : Int) + (l10 : Int) := by omega
      go_wp2_with fail
      go_ret
      exact ⟨rfl, hB⟩

set_option maxRecDepth 100000 in
set_option maxHeartbeats 4000000 in
theorem walk (A0 : Option Addr) (n0 cap0 : Nat) (t0 : List (Int × List Int)) (D0 : Option Addr) (m0 dap0 : Nat) (x0 : List S8) (E0 : Option Addr) (q0 eap0 : Nat) (u0 : List (Int × List Int)) (A1 : Option Addr) (n1 cap1 : Nat) (z1 : List Int) (B1 : Option Addr) (m1 cbp1 : Nat) (y1 : List Int) (i2 : Int) (w : World) (hT : TabE w) (h0max : n0 ≤ maxLen) (h0t : InTS w w.heap.size A0 n0 t0) (h0each : ∀ t ∈ t0, t.2.length ≤ maxLen) (h0bmax : m0 ≤ maxLen) (h0b : InST w w.heap.size D0 m0 x0) (h0beach : ∀ y ∈ x0, y.fits) (h0qmax : q0 ≤ maxLen) (h0q : InTS w w.heap.size E0 q0 u0) (h0qeach : ∀ t ∈ u0, t.2.length ≤ maxLen) (h1row : Row w w.heap.size A1 (z1.map ic)) (h1len : z1.length = n1) (h1max : n1 ≤ maxLen) (h1glen : y1.length = m1) (h1gmax : m1 ≤ maxLen) (h1grow : Row w w.heap.size B1 (y1.map ic)) (h2wf : (Lit.int .i64 i2).wf = true) :
    Calls Tryz.prog 3 #[.agg #[.slice A0 n0 cap0, .slice D0 m0 dap0, .slice E0 q0 eap0], .agg #[.slice A1 n1 cap1, .slice B1 m1 cbp1], .int .i64 i2] w fun e w' => e = .returned (.bool true) ∧ Below w.heap.size w w' := by
  by_cases hn : progN n0 t0 m0 x0 q0 u0 ≤ 1048576
  · by_cases hm : progN n0 t0 m0 x0 q0 u0 + (n1 + m1) ≤ 1048576
    · obtain ⟨o9, s9, ok9, HRX⟩ := run_exists t0 x0 u0 z1 y1 i2
      have hl := HRX.small
      exact road A0 n0 cap0 t0 D0 m0 dap0 x0 E0 q0 eap0 u0 A1 n1 cap1 z1 B1 m1 cbp1 y1 i2 w h0t h0b h0q hn (by unfold progN at hn; omega) h0max h0each h0bmax h0beach h0qmax h0qeach ⟨h1len, h1row⟩ ⟨h1glen, h1grow⟩ (by omega) (by omega) (by omega) (by omega)
        s9.v s9.v.length s9.c s9.c.length s9.e s9.e.length o9 ok9 (by omega) (by omega) hl.2.2
        (fun w0 a00 u00 a01 u01 a02 u02 a10 u10 a11 u11 hbb g0 g1 g1c g2 g3 g4 => specRunPrg_c HRX a00 n0 u00 a01 m0 u01 a02 q0 u02 a10 n1 u10 a11 m1 u11 w0 ⟨g0, g1, g2⟩ g3 g4 hn (by omega) (by omega) g1c)
        (fun w0 a00 u00 a01 u01 a02 u02 a10 u10 a11 u11 hbb g0 g1 g1c g2 g3 g4 => implRunPrg_c HRX a00 n0 u00 a01 m0 u01 a02 q0 u02 a10 n1 u10 a11 m1 u11 w0 ⟨g0, g1, g2⟩ g3 g4 hn (by omega) (by omega) g1c (hT.next hbb))
    · exact early1 A0 n0 cap0 t0 D0 m0 dap0 x0 E0 q0 eap0 u0 A1 n1 cap1 z1 B1 m1 cbp1 y1 i2 w h0t h0b h0q ⟨h1len, h1row⟩ ⟨h1glen, h1grow⟩ (by omega) (by omega) h0max h0each h0bmax h0beach h0qmax h0qeach h1max h1gmax
  · exact early0 A0 n0 cap0 t0 D0 m0 dap0 x0 E0 q0 eap0 u0 A1 n1 cap1 z1 B1 m1 cbp1 y1 i2 w h0t h0b h0q ⟨h1len, h1row⟩ ⟨h1glen, h1grow⟩ (by omega) h0max h0each h0bmax h0beach h0qmax h0qeach h1max h1gmax

/-- The cells of a table. -/
def litCells : DataW Unit → List Value
  | .lit (.int k z) => [Value.int k z]
  | .lit (.bool b) => [Value.bool b]
  | .lit (.string l) => [Value.string ⟨l.toArray⟩]
  | _ => []
def tabCells : DataW Unit → List Value
  | .agg l => l.flatMap fun x => match x with
    | .agg r => r.flatMap litCells
    | x => litCells x
  | _ => []
/-- A world that meets the list. -/
noncomputable def laidWorld (os : Os) : World :=
  let w0 := World.holding Tryz.prog os ⟨#[], #[], []⟩
  let put (g : Nat) (d : DataW Unit) (h : Array Obj) : Array Obj := h.modify g fun
      | .cells _ t frozen => .cells (tabCells d).toArray t frozen
      | o => o
  { w0 with heap := put 0 (Rows.laid_loop_example_g01105_impl_elementForms) w0.heap }
theorem laidWorld_met (os : Os) (args : Array Value) : laidMetH Tryz.prog Rows.fnExactRunProgramRow.laid ((laidWorld os).forCall (fun _ _ => 0) ⟨#[], args, []⟩).memory :=
  laidMetH_of_parts (laidMet_of_run' 8 (by kernel_rfl) (by kernel_rfl)) (by kernel_rfl)

set_option maxRecDepth 100000 in
set_option maxHeartbeats 4000000 in
theorem lifted (os : Os) (started : os.Started) (H : Type) (enc : TypeId × Value → H) :
    ReturnsInHanded {} Tryz.checked os 3 .any (fun w args => (Rows.fnExactRunProgramSpec.pre enc Tryz.prog Tryz.f3 [] false w args ∧ laidMetH Tryz.prog Rows.fnExactRunProgramRow.laid w) ∧ sizedMet enc Tryz.prog Tryz.f3 (OpenSpec.ofChange Rows.fnExactRunProgramSpec) false w args) (Rows.fnExactRunProgramSpec.post enc Tryz.prog Tryz.f3 false true false false) := by
  refine returnsInHanded_of_change_and (C := Tryz.checked) (X := fun w _ => laidMetH Tryz.prog Rows.fnExactRunProgramRow.laid w) (fun _ _ _ hh h => h.of_heap hh) own started (by kernel_rfl) Tryz.func3
    (ChangeSpec.witness_at (enc := enc) (C := Tryz.checked) (os := os) (X := fun w _ => laidMetH Tryz.prog Rows.fnExactRunProgramRow.laid w) false (laidWorld os) #[.agg #[.slice none 0 0, .slice none 0 0, .slice none 0 0], .agg #[.slice none 0 0, .slice none 0 0], .int .i64 0] 8 rfl (by kernel_rfl) (by kernel_rfl) (by kernel_rfl) (by kernel_rfl) (by kernel_rfl) (laidWorld_met os _)) ?_
  intro W base args ds gs before hval0 hW _ _ hL _
  have hval : ∀ (j : Nat) t v, Tryz.f3.params[j]? = some t → args[j]? = some v → Value.okWide Tryz.prog W .any base t v := hval0
  have hW' := hW
  obtain ⟨p, q, hA0, hV, rfl, hfz, hnd⟩ := hW
  have hA : DataW.TrodAll enc Tryz.prog W 0 (fun _ => true) true Tryz.f3.params.toList args.toList ds p := hA0
  rw [Tryz.params3] at hA hval
  obtain ⟨v0, vs0, d0, ds0, p0, q0, hargs, rfl, rfl, g0, r0⟩ := trodAll_cons hA
  obtain ⟨v1, vs1, d1, ds1, p1, q1, rfl, rfl, rfl, g1, r1⟩ := trodAll_cons r0
  obtain ⟨v2, vs2, d2, ds2, p2, q2, rfl, rfl, rfl, g2, r2⟩ := trodAll_cons r1
  obtain ⟨rfl, rfl, rfl⟩ := trodAll_nil r2
  obtain rfl : args = #[v0, v1, v2] := by cases args; simp_all
  have hV2 := hV
  obtain ⟨_, _, _, _, dv, _, rfl, _⟩ := trodVars_one hV2
  clear hV2
  have k0 := g0
  have lt0 : ∀ x ∈ p0, x.block < W.heap.size := by obtain ⟨m, hm⟩ := k0; exact DataW.trod_lt m _ _ _ hm
  have k1 := g1
  have lt1 : ∀ x ∈ p1, x.block < W.heap.size := by obtain ⟨m, hm⟩ := k1; exact DataW.trod_lt m _ _ _ hm
  obtain ⟨A0, n0, cap0, t0, D0, m0, dap0, x0, E0, q0, eap0, u0, rfl, h0max, h0t, h0each, h0bmax, h0b, h0beach, h0qmax, h0q, h0qeach⟩ := program_in (hval 0 25 v0 rfl rfl) g0
  obtain ⟨A1, n1, cap1, z1, B1, m1, cbp1, y1, rfl, h1len, h1max, h1row, h1glen, h1gmax, h1grow⟩ := state_in (hval 1 28 v1 rfl rfl) g1
  obtain ⟨i2, rfl, rfl, rfl, h2wf⟩ := open_int Tryz.underlying2 (hval 2 2 v2 rfl rfl) g2
  clear hA0 hval0
  have hg := tabE_of_laid (laid := Rows.fnExactRunProgramRow.laid) (List.mem_singleton.2 rfl) hL
  refine (walk A0 n0 cap0 t0 D0 m0 dap0 x0 E0 q0 eap0 u0 A1 n1 cap1 z1 B1 m1 cbp1 y1 i2 W hg h0max h0t h0each h0bmax h0b h0beach h0qmax h0q h0qeach h1row h1len h1max h1glen h1gmax h1grow h2wf).mono fun e W' ⟨he, bel⟩ => ?_
  subst he
  exact ⟨_, rfl, _, _, _, [], _, _, hW', trodAll_mk1 (shut_bool Tryz.underlying4 _), (trodAll_cons_mk (Below.trod laidOut (by kernel_rfl) (of_decide_eq_true (by kernel_rfl)) k0 bel lt0) (trodAll_cons_mk (Below.trod laidOut (by kernel_rfl) (of_decide_eq_true (by kernel_rfl)) k1 bel lt1) (trodAll_cons_mk (shut_int Tryz.underlying2 h2wf) trodAll_mk0))), Below.trodVars laidOut bel (by kernel_rfl) hV, bel.frame _, fun h => by cases h⟩

theorem said : Rows.FnExactRunProgramSaid :=
  OpenClaim.holds_of_wide 3 Tryz.f3 rfl rfl rfl rfl rfl rfl rfl ⟨rfl, rfl, rfl, rfl, rfl⟩ rfl rfl rfl rfl rfl (by kernel_rfl) Tryz.func3 (by kernel_rfl)
    (of_decide_eq_true (by kernel_rfl)) (by unfold Func.isWrapper; first | (rw [if_pos (by decide +kernel)]; kernel_rfl) | (rw [if_neg (by decide +kernel)]; exact ⟨rfl, rfl⟩))
    (fun os started H enc _ => lifted os started H enc)

/-- No parameter wants a stand-in; the program's own looks are as told: what the card asks. -/
theorem plain (f : FuncId) (fn : Func) (hf : Tryz.pinned.checked.prog.funcNamed "loop.example/g01105/laws.FnExactRunProgram" = some f) (hfn : Tryz.pinned.checked.prog.funcs[f]? = some fn) :
    true = Tryz.pinned.checked.prog.looks [] ∧ ∀ (j : Nat) t, fn.params[j]? = some t → Tryz.pinned.checked.prog.wantsStandIn t = false := by
  obtain rfl : f = 3 := Option.some.inj ((show Tryz.prog.funcNamed "loop.example/g01105/laws.FnExactRunProgram" = some 3 by kernel_rfl).symm.trans hf) |>.symm
  obtain rfl : fn = Tryz.f3 := (Option.some.inj (Tryz.func3.symm.trans hfn)).symm
  refine ⟨by kernel_rfl, fun j t ht => ?_⟩
  rw [Tryz.params3] at ht
  have hm : t = 25 ∨ t = 28 ∨ t = 2 := by simpa using Array.mem_of_getElem? ht
  rcases hm with rfl | rfl | rfl
  · exact (show Tryz.prog.wantsStandIn 25 = false by kernel_rfl)
  · exact (show Tryz.prog.wantsStandIn 28 = false by kernel_rfl)
  · exact (show Tryz.prog.wantsStandIn 2 = false by kernel_rfl)

/-- The card. -/
theorem proved : Rows.FnExactRunProgramCardSaid :=
  Claim7.holds_tied_plain_at .later [] _ _ _ _ said (fun _ h => by cases h) (by kernel_rfl) (fun _ h => by cases h) fnExactRunProgram_row_tie rfl ⟨rfl, rfl⟩ (by kernel_rfl) rfl plain (by kernel_rfl)
#print axioms proved
end Go.Proofs.YtajmbnimdngjhaaGreatDoor.fnExactRunProgram
