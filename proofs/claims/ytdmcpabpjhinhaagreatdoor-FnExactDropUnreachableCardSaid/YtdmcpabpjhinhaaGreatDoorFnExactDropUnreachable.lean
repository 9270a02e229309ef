/-
  For all annotated code the program's DropUnreachable answers as the model's, leaves the code as it was, and its answer owns its memory.
  Conditions: those that the card itself bears (the tables that the program's text lays).
-/
import Derived.Test.YtdmcpabpjhinhaaGreatDoorRows
import Derived.WalkKit
import Derived.ProofKit
import Derived.OpenShut
import Derived.ShutString
import Derived.ChangeOld
import Derived.Below
import Derived.WalkSmall
import Derived.Test.YtdmcpabpjhinhaaGreatDoorTms
import Derived.Test.YtdmcpabpjhinhaaGreatDoorCards
import Derived.Test.YtdmcpabpjhinhaaGreatDoorTie
import Derived.ChangeSame
import Derived.ChangeVars
import Derived.JoinedOf
import Derived.RowKit
import Derived.RowKitTokens
import Derived.LaidLaws
import Derived.LaidHandle
import Derived.Stop.LaidErr
import Derived.Stop.Joined
import Derived.SevenTiedAt
import Derived.Test.YtdmcpabpjhinhaaGreatDoorAnnM
import Derived.Test.YtdmcpabpjhinhaaGreatDoorBoxC
import Derived.Test.YtdmcpabpjhinhaaGreatDoorBunF
import Derived.Test.YtdmcpabpjhinhaaGreatDoorBunD
namespace Go.Proofs.YtdmcpabpjhinhaaGreatDoor.fnExactDropUnreachable
open Go.ChangeShapes Go.WideShapes Go.ChangeAt Go.RowKit
open Go.ChangeMaps (open_string shut_string)
set_option linter.unusedVariables false

theorem own : ownKnob Tryz.prog.godebug = none := by kernel_rfl
theorem laidOut : laidOutB Tryz.prog = true := by kernel_rfl
set_option maxRecDepth 100000 in
set_option maxHeartbeats 8000000 in
theorem early0 (A0 : Option Addr) (n0 cap0 : Nat) (t0 : List (Int × List Int)) (B0 : Option Addr) (m0 cbp0 : Nat) (y0 : List (Int × List Int)) (D0 : Option Addr) (o0 dap0 : Nat) (x0 : List (Int × Int)) (E0 : Option Addr) (f0 eap0 : Nat) (p0 : List P2) (w : World) (in0a : InTS w w.heap.size A0 n0 t0) (in0b : InTS w w.heap.size B0 m0 y0) (in0c : InC w w.heap.size D0 o0 x0) (in0d : InP2 w w.heap.size E0 f0 p0) (q0 : 1048576 < ((n0 + totT t0) + (m0 + totT y0) + o0 + (f0 + totP2 p0))) (vn0 : n0 ≤ maxLen) (en0 : ∀ t ∈ t0, t.2.length ≤ maxLen) (vm0 : m0 ≤ maxLen) (em0 : ∀ t ∈ y0, t.2.length ≤ maxLen) (vo0 : o0 ≤ maxLen) (vf0 : f0 ≤ maxLen) (ef0 : ∀ x ∈ p0, x.fits) :
    Calls Tryz.prog 3 #[.agg #[.slice A0 n0 cap0, .slice B0 m0 cbp0, .slice D0 o0 dap0, .slice E0 f0 eap0]] w fun e w' => e = .returned (.bool true) ∧ Below w.heap.size w w' := by
  have hB := Below.refl w.heap.size w
  go_enter Tryz.func3, Tryz.ntmps3
  go_wp2_with fail
  have hb_1 : Below w.heap.size w (w.alloc (.cells #[.slice A0 n0 cap0, .slice B0 m0 cbp0, .slice D0 o0 dap0, .slice E0 f0 eap0] 26)) := bnew _ _
  have sz_2 : w.heap.size < (w.alloc (.cells #[.slice A0 n0 cap0, .slice B0 m0 cbp0, .slice D0 o0 dap0, .slice E0 f0 eap0] 26)).heap.size := by simp
  have a0_0 : (w.alloc (.cells #[.slice A0 n0 cap0, .slice B0 m0 cbp0, .slice D0 o0 dap0, .slice E0 f0 eap0] 26)).cell? ⟨w.heap.size, 0, none⟩ = some (.slice A0 n0 cap0) := by simp
  have a0_1 : (w.alloc (.cells #[.slice A0 n0 cap0, .slice B0 m0 cbp0, .slice D0 o0 dap0, .slice E0 f0 eap0] 26)).cell? ⟨w.heap.size, 1, none⟩ = some (.slice B0 m0 cbp0) := by simp
  have a0_2 : (w.alloc (.cells #[.slice A0 n0 cap0, .slice B0 m0 cbp0, .slice D0 o0 dap0, .slice E0 f0 eap0] 26)).cell? ⟨w.heap.size, 2, none⟩ = some (.slice D0 o0 dap0) := by simp
  have a0_3 : (w.alloc (.cells #[.slice A0 n0 cap0, .slice B0 m0 cbp0, .slice D0 o0 dap0, .slice E0 f0 eap0] 26)).cell? ⟨w.heap.size, 3, none⟩ = some (.slice E0 f0 eap0) := by simp
  have a0_l := sz_2
  generalize w.alloc (.cells #[.slice A0 n0 cap0, .slice B0 m0 cbp0, .slice D0 o0 dap0, .slice E0 f0 eap0] 26) = w1 at hb_1 a0_0 a0_1 a0_2 a0_3 sz_2 a0_l ⊢
  replace in0a := in0a.next hb_1 (by omega)
  replace in0b := in0b.next hb_1 (by omega)
  replace in0c := in0c.next hb_1 (by omega)
  replace in0d := in0d.next hb_1 (by omega)
  replace hB := hB.trans (hb_1.mono hB.size)
  have sz_3 := hb_1.size
  refine (szAnnotated_k A0 n0 cap0 t0 B0 m0 cbp0 y0 D0 o0 dap0 x0 E0 f0 eap0 p0 _ _ _ in0a in0b in0d (by omega) (by omega) (by omega) (by first | assumption | (unfold maxLen; omega)) (by first | assumption | (unfold maxLen; omega)) (by first | assumption | (unfold maxLen; omega)) (by first | assumption | (unfold maxLen; omega)) (by first | assumption | exact each_of (by omega)) (by first | assumption | exact each_of (by omega)) (by first | assumption | exact fitsP_of (by omega))).mono ?_
  rintro e w2 ⟨rfl, hb_4⟩
  rw [szv_no (by omega)]
  replace in0a := in0a.next hb_4 (by omega)
  replace in0b := in0b.next hb_4 (by omega)
  replace in0c := in0c.next hb_4 (by omega)
  replace in0d := in0d.next hb_4 (by omega)
  replace a0_0 := cell_next a0_0 hb_4
  replace a0_1 := cell_next a0_1 hb_4
  replace a0_2 := cell_next a0_2 hb_4
  replace a0_3 := cell_next a0_3 hb_4
  replace a0_l := Nat.lt_of_lt_of_le a0_l hb_4.size
  replace hB := hB.trans (hb_4.mono hB.size)
  have sz_5 := hb_4.size
  go_wp2_with fail
  go_ret
  exact ⟨rfl, hB⟩

set_option maxRecDepth 100000 in
set_option maxHeartbeats 8000000 in
theorem road (A0 : Option Addr) (n0 cap0 : Nat) (t0 : List (Int × List Int)) (B0 : Option Addr) (m0 cbp0 : Nat) (y0 : List (Int × List Int)) (D0 : Option Addr) (o0 dap0 : Nat) (x0 : List (Int × Int)) (E0 : Option Addr) (f0 eap0 : Nat) (p0 : List P2) (w : World) (in0a : InTS w w.heap.size A0 n0 t0) (in0b : InTS w w.heap.size B0 m0 y0) (in0c : InC w w.heap.size D0 o0 x0) (in0d : InP2 w w.heap.size E0 f0 p0) (h0ok : n0 ≤ 1048576) (h0eok : totT t0 ≤ 1048576) (h0gok : m0 ≤ 1048576) (h0fok : totT y0 ≤ 1048576) (h0sok : o0 ≤ 1048576) (h0uok : f0 ≤ 1048576) (h0vok : totP2 p0 ≤ 1048576) (h0sum : (n0 + totT t0) + (m0 + totT y0) + o0 + (f0 + totP2 p0) ≤ 1048576) (y00 : List (Int × List Int)) (l00 : Nat) (y01 : List (Int × List Int)) (l01 : Nat) (y02 : List (Int × Int)) (l02 : Nat) (y03 : List P2) (l03 : Nat) (r1 : Bool) (k00 : l00 ≤ 1000) (k00e : totT y00 ≤ 100000) (k01 : l01 ≤ 1000) (k01e : totT y01 ≤ 100000) (k02 : l02 ≤ 1000) (k03 : l03 ≤ 1000) (k03e : totP2 y03 ≤ 100000)
    (HS0 : ∀ (w0 : World) (a00 : Option Addr) (u00 : Nat) (a01 : Option Addr) (u01 : Nat) (a02 : Option Addr) (u02 : Nat) (a03 : Option Addr) (u03 : Nat), Below w.heap.size w w0 → InTS w0 w0.heap.size a00 n0 t0 → InTS w0 w0.heap.size a01 m0 y0 → InC w0 w0.heap.size a02 o0 x0 → InP2 w0 w0.heap.size a03 f0 p0 → f0 ≤ u03 → Calls Tryz.prog 6 #[.agg #[.slice a00 n0 u00, .slice a01 m0 u01, .slice a02 o0 u02, .slice a03 f0 u03]] w0 fun e w1 => ∃ (R00 : Option Addr) (d00 : Nat) (R01 : Option Addr) (d01 : Nat) (R02 : Option Addr) (d02 : Nat) (R03 : Option Addr) (d03 : Nat), e = .returned (.tuple #[.agg #[.slice R00 l00 d00, .slice R01 l01 d01, .slice R02 l02 d02, .slice R03 l03 d03], .bool r1]) ∧ InTS w1 w1.heap.size R00 l00 y00 ∧ InTS w1 w1.heap.size R01 l01 y01 ∧ InC w1 w1.heap.size R02 l02 y02 ∧ InP2 w1 w1.heap.size R03 l03 y03 ∧ Below w0.heap.size w0 w1)
    (HI0 : ∀ (w0 : World) (a00 : Option Addr) (u00 : Nat) (a01 : Option Addr) (u01 : Nat) (a02 : Option Addr) (u02 : Nat) (a03 : Option Addr) (u03 : Nat), Below w.heap.size w w0 → InTS w0 w0.heap.size a00 n0 t0 → InTS w0 w0.heap.size a01 m0 y0 → InC w0 w0.heap.size a02 o0 x0 → InP2 w0 w0.heap.size a03 f0 p0 → f0 ≤ u03 → Calls Tryz.prog 8 #[.agg #[.slice a00 n0 u00, .slice a01 m0 u01, .slice a02 o0 u02, .slice a03 f0 u03]] w0 fun e w1 => ∃ (R00 : Option Addr) (d00 : Nat) (R01 : Option Addr) (d01 : Nat) (R02 : Option Addr) (d02 : Nat) (R03 : Option Addr) (d03 : Nat) (md0 md1 md2 : Nat), e = .returned (.tuple #[.agg #[.slice R00 l00 d00, .slice R01 l01 d01, .slice R02 l02 d02, .slice R03 l03 d03], .bool r1]) ∧ OwnTS w1 w0.heap.size md0 R00 l00 d00 y00 ∧ OwnTS w1 md0 md1 R01 l01 d01 y01 ∧ OwnC w1 md1 md2 R02 l02 d02 y02 ∧ OwnP2 w1 md2 w1.heap.size R03 l03 d03 y03 ∧ (w0.heap.size ≤ md0 ∧ md0 ≤ md1 ∧ md1 ≤ md2 ∧ md2 ≤ w1.heap.size) ∧ Below w0.heap.size w0 w1) :
    Calls Tryz.prog 3 #[.agg #[.slice A0 n0 cap0, .slice B0 m0 cbp0, .slice D0 o0 dap0, .slice E0 f0 eap0]] w fun e w' => e = .returned (.bool true) ∧ Below w.heap.size w w' := by
  have HS := Lib.hid HS0
  have HI := Lib.hid HI0
  clear HS0 HI0
  have hB := Below.refl w.heap.size w
  have hl_5 : (0 : Int) ≤ 1048576 - (((n0 + totT t0) + (m0 + totT y0) + o0 + (f0 + totP2 p0) : Nat) : Int) := by omega
  go_enter Tryz.func3, Tryz.ntmps3
  go_wp2_with fail
  have hb_1 : Below w.heap.size w (w.alloc (.cells #[.slice A0 n0 cap0, .slice B0 m0 cbp0, .slice D0 o0 dap0, .slice E0 f0 eap0] 26)) := bnew _ _
  have sz_2 : w.heap.size < (w.alloc (.cells #[.slice A0 n0 cap0, .slice B0 m0 cbp0, .slice D0 o0 dap0, .slice E0 f0 eap0] 26)).heap.size := by simp
  have a0_0 : (w.alloc (.cells #[.slice A0 n0 cap0, .slice B0 m0 cbp0, .slice D0 o0 dap0, .slice E0 f0 eap0] 26)).cell? ⟨w.heap.size, 0, none⟩ = some (.slice A0 n0 cap0) := by simp
  have a0_1 : (w.alloc (.cells #[.slice A0 n0 cap0, .slice B0 m0 cbp0, .slice D0 o0 dap0, .slice E0 f0 eap0] 26)).cell? ⟨w.heap.size, 1, none⟩ = some (.slice B0 m0 cbp0) := by simp
  have a0_2 : (w.alloc (.cells #[.slice A0 n0 cap0, .slice B0 m0 cbp0, .slice D0 o0 dap0, .slice E0 f0 eap0] 26)).cell? ⟨w.heap.size, 2, none⟩ = some (.slice D0 o0 dap0) := by simp
  have a0_3 : (w.alloc (.cells #[.slice A0 n0 cap0, .slice B0 m0 cbp0, .slice D0 o0 dap0, .slice E0 f0 eap0] 26)).cell? ⟨w.heap.size, 3, none⟩ = some (.slice E0 f0 eap0) := by simp
  have a0_l := sz_2
  generalize w.alloc (.cells #[.slice A0 n0 cap0, .slice B0 m0 cbp0, .slice D0 o0 dap0, .slice E0 f0 eap0] 26) = w1 at hb_1 a0_0 a0_1 a0_2 a0_3 sz_2 a0_l ⊢
  replace in0a := in0a.next hb_1 (by omega)
  replace in0b := in0b.next hb_1 (by omega)
  replace in0c := in0c.next hb_1 (by omega)
  replace in0d := in0d.next hb_1 (by omega)
  replace hB := hB.trans (hb_1.mono hB.size)
  have sz_3 := hb_1.size
  refine (szAnnotated_k A0 n0 cap0 t0 B0 m0 cbp0 y0 D0 o0 dap0 x0 E0 f0 eap0 p0 _ _ _ in0a in0b in0d (by omega) (by omega) (by omega) (by first | assumption | (unfold maxLen; omega)) (by first | assumption | (unfold maxLen; omega)) (by first | assumption | (unfold maxLen; omega)) (by first | assumption | (unfold maxLen; omega)) (by first | assumption | exact each_of (by omega)) (by first | assumption | exact each_of (by omega)) (by first | assumption | exact fitsP_of (by omega))).mono ?_
  rintro e w2 ⟨rfl, hb_4⟩
  rw [szv_yes (by omega)]
  replace in0a := in0a.next hb_4 (by omega)
  replace in0b := in0b.next hb_4 (by omega)
  replace in0c := in0c.next hb_4 (by omega)
  replace in0d := in0d.next hb_4 (by omega)
  replace a0_0 := cell_next a0_0 hb_4
  replace a0_1 := cell_next a0_1 hb_4
  replace a0_2 := cell_next a0_2 hb_4
  replace a0_3 := cell_next a0_3 hb_4
  replace a0_l := Nat.lt_of_lt_of_le a0_l hb_4.size
  replace hB := hB.trans (hb_4.mono hB.size)
  have sz_6 := hb_4.size
  go_wp2_with fail
  refine (toAnnotated_k A0 n0 cap0 t0 B0 m0 cbp0 y0 D0 o0 dap0 x0 E0 f0 eap0 p0 _ _ in0a in0b in0c in0d (by omega) h0ok h0eok h0gok h0fok h0sok h0uok h0vok).mono ?_
  rintro e w3 ⟨g_7, g_8, g_9, g_10, mid_16, mid_17, mid_18, rfl, own_11, own_12, own_13, own_14, md_19, hb_15⟩
  replace in0a := in0a.next hb_15 (by omega)
  replace in0b := in0b.next hb_15 (by omega)
  replace in0c := in0c.next hb_15 (by omega)
  replace in0d := in0d.next hb_15 (by omega)
  replace a0_0 := cell_next a0_0 hb_15
  replace a0_1 := cell_next a0_1 hb_15
  replace a0_2 := cell_next a0_2 hb_15
  replace a0_3 := cell_next a0_3 hb_15
  replace a0_l := Nat.lt_of_lt_of_le a0_l hb_15.size
  replace hB := hB.trans (hb_15.mono hB.size)
  have sz_20 := hb_15.size
  go_wp2_with fail
  refine (HS.out w3 _ _ _ _ _ _ _ _ hB ((own_11.inn).more (by omega)) ((own_12.inn).more (by omega)) ((own_13.inn).more (by omega)) ((own_14.inn).more (by omega)) (Nat.le_refl _)).mono ?_
  rintro e w4 ⟨R_22, d_23, R_24, d_25, R_26, d_27, R_28, d_29, rfl, own_30, own_31, own_32, own_33, hb_21⟩
  clear own_11 own_12 own_13 own_14
  replace in0a := in0a.next hb_21 (by omega)
  replace in0b := in0b.next hb_21 (by omega)
  replace in0c := in0c.next hb_21 (by omega)
  replace in0d := in0d.next hb_21 (by omega)
  replace a0_0 := cell_next a0_0 hb_21
  replace a0_1 := cell_next a0_1 hb_21
  replace a0_2 := cell_next a0_2 hb_21
  replace a0_3 := cell_next a0_3 hb_21
  replace a0_l := Nat.lt_of_lt_of_le a0_l hb_21.size
  replace hB := hB.trans (hb_21.mono hB.size)
  have sz_34 := hb_21.size
  go_wp2_with fail
  have hb_35 : Below w4.heap.size w4 (w4.alloc (.cells #[.slice R_22 l00 d_23, .slice R_24 l01 d_25, .slice R_26 l02 d_27, .slice R_28 l03 d_29] 32)) := bnew _ _
  have sz_36 : w4.heap.size < (w4.alloc (.cells #[.slice R_22 l00 d_23, .slice R_24 l01 d_25, .slice R_26 l02 d_27, .slice R_28 l03 d_29] 32)).heap.size := by simp
  have w0_0 : (w4.alloc (.cells #[.slice R_22 l00 d_23, .slice R_24 l01 d_25, .slice R_26 l02 d_27, .slice R_28 l03 d_29] 32)).cell? ⟨w4.heap.size, 0, none⟩ = some (.slice R_22 l00 d_23) := by simp
  have w0_1 : (w4.alloc (.cells #[.slice R_22 l00 d_23, .slice R_24 l01 d_25, .slice R_26 l02 d_27, .slice R_28 l03 d_29] 32)).cell? ⟨w4.heap.size, 1, none⟩ = some (.slice R_24 l01 d_25) := by simp
  have w0_2 : (w4.alloc (.cells #[.slice R_22 l00 d_23, .slice R_24 l01 d_25, .slice R_26 l02 d_27, .slice R_28 l03 d_29] 32)).cell? ⟨w4.heap.size, 2, none⟩ = some (.slice R_26 l02 d_27) := by simp
  have w0_3 : (w4.alloc (.cells #[.slice R_22 l00 d_23, .slice R_24 l01 d_25, .slice R_26 l02 d_27, .slice R_28 l03 d_29] 32)).cell? ⟨w4.heap.size, 3, none⟩ = some (.slice R_28 l03 d_29) := by simp
  have w0_l := sz_36
  generalize w4.alloc (.cells #[.slice R_22 l00 d_23, .slice R_24 l01 d_25, .slice R_26 l02 d_27, .slice R_28 l03 d_29] 32) = w5 at hb_35 w0_0 w0_1 w0_2 w0_3 sz_36 w0_l ⊢
  replace in0a := in0a.next hb_35 (by omega)
  replace in0b := in0b.next hb_35 (by omega)
  replace in0c := in0c.next hb_35 (by omega)
  replace in0d := in0d.next hb_35 (by omega)
  replace a0_0 := cell_next a0_0 hb_35
  replace a0_1 := cell_next a0_1 hb_35
  replace a0_2 := cell_next a0_2 hb_35
  replace a0_3 := cell_next a0_3 hb_35
  replace a0_l := Nat.lt_of_lt_of_le a0_l hb_35.size
  replace own_30 := own_30.next hb_35 (by omega)
  replace own_31 := own_31.next hb_35 (by omega)
  replace own_32 := own_32.next hb_35 (by omega)
  replace own_33 := own_33.next hb_35 (by omega)
  replace hB := hB.trans (hb_35.mono hB.size)
  have sz_37 := hb_35.size
  refine (toAnnotated_k A0 n0 cap0 t0 B0 m0 cbp0 y0 D0 o0 dap0 x0 E0 f0 eap0 p0 _ _ in0a in0b in0c in0d (by omega) h0ok h0eok h0gok h0fok h0sok h0uok h0vok).mono ?_
  rintro e w6 ⟨g_38, g_39, g_40, g_41, mid_47, mid_48, mid_49, rfl, own_42, own_43, own_44, own_45, md_50, hb_46⟩
  replace in0a := in0a.next hb_46 (by omega)
  replace in0b := in0b.next hb_46 (by omega)
  replace in0c := in0c.next hb_46 (by omega)
  replace in0d := in0d.next hb_46 (by omega)
  replace a0_0 := cell_next a0_0 hb_46
  replace a0_1 := cell_next a0_1 hb_46
  replace a0_2 := cell_next a0_2 hb_46
  replace a0_3 := cell_next a0_3 hb_46
  replace a0_l := Nat.lt_of_lt_of_le a0_l hb_46.size
  replace own_30 := own_30.next hb_46 (by omega)
  replace own_31 := own_31.next hb_46 (by omega)
  replace own_32 := own_32.next hb_46 (by omega)
  replace own_33 := own_33.next hb_46 (by omega)
  replace w0_0 := cell_next w0_0 hb_46
  replace w0_1 := cell_next w0_1 hb_46
  replace w0_2 := cell_next w0_2 hb_46
  replace w0_3 := cell_next w0_3 hb_46
  replace w0_l := Nat.lt_of_lt_of_le w0_l hb_46.size
  replace hB := hB.trans (hb_46.mono hB.size)
  have sz_51 := hb_46.size
  go_wp2_with fail
  have hb_52 : Below w6.heap.size w6 (w6.alloc (.cells #[.slice (some ⟨g_38, 0, none⟩) n0 n0, .slice (some ⟨g_39, 0, none⟩) m0 m0, .slice (some ⟨g_40, 0, none⟩) o0 o0, .slice (some ⟨g_41, 0, none⟩) f0 f0] 32)) := bnew _ _
  have sz_53 : w6.heap.size < (w6.alloc (.cells #[.slice (some ⟨g_38, 0, none⟩) n0 n0, .slice (some ⟨g_39, 0, none⟩) m0 m0, .slice (some ⟨g_40, 0, none⟩) o0 o0, .slice (some ⟨g_41, 0, none⟩) f0 f0] 32)).heap.size := by simp
  have x0_0 : (w6.alloc (.cells #[.slice (some ⟨g_38, 0, none⟩) n0 n0, .slice (some ⟨g_39, 0, none⟩) m0 m0, .slice (some ⟨g_40, 0, none⟩) o0 o0, .slice (some ⟨g_41, 0, none⟩) f0 f0] 32)).cell? ⟨w6.heap.size, 0, none⟩ = some (.slice (some ⟨g_38, 0, none⟩) n0 n0) := by simp
  have x0_1 : (w6.alloc (.cells #[.slice (some ⟨g_38, 0, none⟩) n0 n0, .slice (some ⟨g_39, 0, none⟩) m0 m0, .slice (some ⟨g_40, 0, none⟩) o0 o0, .slice (some ⟨g_41, 0, none⟩) f0 f0] 32)).cell? ⟨w6.heap.size, 1, none⟩ = some (.slice (some ⟨g_39, 0, none⟩) m0 m0) := by simp
  have x0_2 : (w6.alloc (.cells #[.slice (some ⟨g_38, 0, none⟩) n0 n0, .slice (some ⟨g_39, 0, none⟩) m0 m0, .slice (some ⟨g_40, 0, none⟩) o0 o0, .slice (some ⟨g_41, 0, none⟩) f0 f0] 32)).cell? ⟨w6.heap.size, 2, none⟩ = some (.slice (some ⟨g_40, 0, none⟩) o0 o0) := by simp
  have x0_3 : (w6.alloc (.cells #[.slice (some ⟨g_38, 0, none⟩) n0 n0, .slice (some ⟨g_39, 0, none⟩) m0 m0, .slice (some ⟨g_40, 0, none⟩) o0 o0, .slice (some ⟨g_41, 0, none⟩) f0 f0] 32)).cell? ⟨w6.heap.size, 3, none⟩ = some (.slice (some ⟨g_41, 0, none⟩) f0 f0) := by simp
  have x0_l := sz_53
  generalize w6.alloc (.cells #[.slice (some ⟨g_38, 0, none⟩) n0 n0, .slice (some ⟨g_39, 0, none⟩) m0 m0, .slice (some ⟨g_40, 0, none⟩) o0 o0, .slice (some ⟨g_41, 0, none⟩) f0 f0] 32) = w7 at hb_52 x0_0 x0_1 x0_2 x0_3 sz_53 x0_l ⊢
  replace in0a := in0a.next hb_52 (by omega)
  replace in0b := in0b.next hb_52 (by omega)
  replace in0c := in0c.next hb_52 (by omega)
  replace in0d := in0d.next hb_52 (by omega)
  replace a0_0 := cell_next a0_0 hb_52
  replace a0_1 := cell_next a0_1 hb_52
  replace a0_2 := cell_next a0_2 hb_52
  replace a0_3 := cell_next a0_3 hb_52
  replace a0_l := Nat.lt_of_lt_of_le a0_l hb_52.size
  replace own_30 := own_30.next hb_52 (by omega)
  replace own_31 := own_31.next hb_52 (by omega)
  replace own_32 := own_32.next hb_52 (by omega)
  replace own_33 := own_33.next hb_52 (by omega)
  replace w0_0 := cell_next w0_0 hb_52
  replace w0_1 := cell_next w0_1 hb_52
  replace w0_2 := cell_next w0_2 hb_52
  replace w0_3 := cell_next w0_3 hb_52
  replace w0_l := Nat.lt_of_lt_of_le w0_l hb_52.size
  replace own_42 := own_42.next hb_52
  replace own_43 := own_43.next hb_52
  replace own_44 := own_44.next hb_52
  replace own_45 := own_45.next hb_52
  replace hB := hB.trans (hb_52.mono hB.size)
  have sz_54 := hb_52.size
  refine (HI.out w7 _ _ _ _ _ _ _ _ hB ((own_42.inn).more (by omega)) ((own_43.inn).more (by omega)) ((own_44.inn).more (by omega)) ((own_45.inn).more (by omega)) (Nat.le_refl _)).mono ?_
  rintro e w8 ⟨R_56, d_57, R_58, d_59, R_60, d_61, R_62, d_63, mid_64, mid_65, mid_66, rfl, own_68, own_69, own_70, own_71, md_67, hb_55⟩
  replace in0a := in0a.next hb_55 (by omega)
  replace in0b := in0b.next hb_55 (by omega)
  replace in0c := in0c.next hb_55 (by omega)
  replace in0d := in0d.next hb_55 (by omega)
  replace a0_0 := cell_next a0_0 hb_55
  replace a0_1 := cell_next a0_1 hb_55
  replace a0_2 := cell_next a0_2 hb_55
  replace a0_3 := cell_next a0_3 hb_55
  replace a0_l := Nat.lt_of_lt_of_le a0_l hb_55.size
  replace own_30 := own_30.next hb_55 (by omega)
  replace own_31 := own_31.next hb_55 (by omega)
  replace own_32 := own_32.next hb_55 (by omega)
  replace own_33 := own_33.next hb_55 (by omega)
  replace w0_0 := cell_next w0_0 hb_55
  replace w0_1 := cell_next w0_1 hb_55
  replace w0_2 := cell_next w0_2 hb_55
  replace w0_3 := cell_next w0_3 hb_55
  replace w0_l := Nat.lt_of_lt_of_le w0_l hb_55.size
  replace own_42 := own_42.next hb_55
  replace own_43 := own_43.next hb_55
  replace own_44 := own_44.next hb_55
  replace own_45 := own_45.next hb_55
  replace x0_0 := cell_next x0_0 hb_55
  replace x0_1 := cell_next x0_1 hb_55
  replace x0_2 := cell_next x0_2 hb_55
  replace x0_3 := cell_next x0_3 hb_55
  replace x0_l := Nat.lt_of_lt_of_le x0_l hb_55.size
  replace hB := hB.trans (hb_55.mono hB.size)
  have sz_72 := hb_55.size
  go_wp2_with fail
  have hb_73 : Below w8.heap.size w8 (w8.alloc (.cells #[.slice R_56 l00 d_57, .slice R_58 l01 d_59, .slice R_60 l02 d_61, .slice R_62 l03 d_63] 32)) := bnew _ _
  have sz_74 : w8.heap.size < (w8.alloc (.cells #[.slice R_56 l00 d_57, .slice R_58 l01 d_59, .slice R_60 l02 d_61, .slice R_62 l03 d_63] 32)).heap.size := by simp
  have g0_0 : (w8.alloc (.cells #[.slice R_56 l00 d_57, .slice R_58 l01 d_59, .slice R_60 l02 d_61, .slice R_62 l03 d_63] 32)).cell? ⟨w8.heap.size, 0, none⟩ = some (.slice R_56 l00 d_57) := by simp
  have g0_1 : (w8.alloc (.cells #[.slice R_56 l00 d_57, .slice R_58 l01 d_59, .slice R_60 l02 d_61, .slice R_62 l03 d_63] 32)).cell? ⟨w8.heap.size, 1, none⟩ = some (.slice R_58 l01 d_59) := by simp
  have g0_2 : (w8.alloc (.cells #[.slice R_56 l00 d_57, .slice R_58 l01 d_59, .slice R_60 l02 d_61, .slice R_62 l03 d_63] 32)).cell? ⟨w8.heap.size, 2, none⟩ = some (.slice R_60 l02 d_61) := by simp
  have g0_3 : (w8.alloc (.cells #[.slice R_56 l00 d_57, .slice R_58 l01 d_59, .slice R_60 l02 d_61, .slice R_62 l03 d_63] 32)).cell? ⟨w8.heap.size, 3, none⟩ = some (.slice R_62 l03 d_63) := by simp
  have g0_l := sz_74
  generalize w8.alloc (.cells #[.slice R_56 l00 d_57, .slice R_58 l01 d_59, .slice R_60 l02 d_61, .slice R_62 l03 d_63] 32) = w9 at hb_73 g0_0 g0_1 g0_2 g0_3 sz_74 g0_l ⊢
  replace in0a := in0a.next hb_73 (by omega)
  replace in0b := in0b.next hb_73 (by omega)
  replace in0c := in0c.next hb_73 (by omega)
  replace in0d := in0d.next hb_73 (by omega)
  replace a0_0 := cell_next a0_0 hb_73
  replace a0_1 := cell_next a0_1 hb_73
  replace a0_2 := cell_next a0_2 hb_73
  replace a0_3 := cell_next a0_3 hb_73
  replace a0_l := Nat.lt_of_lt_of_le a0_l hb_73.size
  replace own_30 := own_30.next hb_73 (by omega)
  replace own_31 := own_31.next hb_73 (by omega)
  replace own_32 := own_32.next hb_73 (by omega)
  replace own_33 := own_33.next hb_73 (by omega)
  replace w0_0 := cell_next w0_0 hb_73
  replace w0_1 := cell_next w0_1 hb_73
  replace w0_2 := cell_next w0_2 hb_73
  replace w0_3 := cell_next w0_3 hb_73
  replace w0_l := Nat.lt_of_lt_of_le w0_l hb_73.size
  replace own_42 := own_42.next hb_73
  replace own_43 := own_43.next hb_73
  replace own_44 := own_44.next hb_73
  replace own_45 := own_45.next hb_73
  replace x0_0 := cell_next x0_0 hb_73
  replace x0_1 := cell_next x0_1 hb_73
  replace x0_2 := cell_next x0_2 hb_73
  replace x0_3 := cell_next x0_3 hb_73
  replace x0_l := Nat.lt_of_lt_of_le x0_l hb_73.size
  replace own_68 := own_68.next hb_73
  replace own_69 := own_69.next hb_73
  replace own_70 := own_70.next hb_73
  replace own_71 := own_71.next hb_73
  replace hB := hB.trans (hb_73.mono hB.size)
  have sz_75 := hb_73.size
  -- if !eqAnnotated(g0, w0) || g1 != w1 {
  refine (eqAnnotated_k R_56 l00 d_57 y00 R_58 l01 d_59 y01 R_60 l02 d_61 y02 R_62 l03 d_63 y03 R_22 d_23 R_24 d_25 R_26 d_27 R_28 d_29 (w9.heap.size) (w9.heap.size) w9 (own_68.inn.more (by omega)) (own_69.inn.more (by omega)) (own_70.inn.more (by omega)) (own_71.inn.more (by omega)) (own_30.more (by omega)) (own_31.more (by omega)) (own_32.more (by omega)) (own_33.more (by omega)) (by omega) (by omega) (by omega) (by omega) (by omega) (by omega) (by omega) (by omega) (by omega)).mono ?_
  rintro e w10 ⟨rfl, hb_76⟩
  replace in0a := in0a.next hb_76 (by omega)
  replace in0b := in0b.next hb_76 (by omega)
  replace in0c := in0c.next hb_76 (by omega)
  replace in0d := in0d.next hb_76 (by omega)
  replace a0_0 := cell_next a0_0 hb_76
  replace a0_1 := cell_next a0_1 hb_76
  replace a0_2 := cell_next a0_2 hb_76
  replace a0_3 := cell_next a0_3 hb_76
  replace a0_l := Nat.lt_of_lt_of_le a0_l hb_76.size
  replace own_30 := own_30.next hb_76 (by omega)
  replace own_31 := own_31.next hb_76 (by omega)
  replace own_32 := own_32.next hb_76 (by omega)
  replace own_33 := own_33.next hb_76 (by omega)
  replace w0_0 := cell_next w0_0 hb_76
  replace w0_1 := cell_next w0_1 hb_76
  replace w0_2 := cell_next w0_2 hb_76
  replace w0_3 := cell_next w0_3 hb_76
  replace w0_l := Nat.lt_of_lt_of_le w0_l hb_76.size
  replace own_42 := own_42.next hb_76
  replace own_43 := own_43.next hb_76
  replace own_44 := own_44.next hb_76
  replace own_45 := own_45.next hb_76
  replace x0_0 := cell_next x0_0 hb_76
  replace x0_1 := cell_next x0_1 hb_76
  replace x0_2 := cell_next x0_2 hb_76
  replace x0_3 := cell_next x0_3 hb_76
  replace x0_l := Nat.lt_of_lt_of_le x0_l hb_76.size
  replace own_68 := own_68.next hb_76
  replace own_69 := own_69.next hb_76
  replace own_70 := own_70.next hb_76
  replace own_71 := own_71.next hb_76
  replace g0_0 := cell_next g0_0 hb_76
  replace g0_1 := cell_next g0_1 hb_76
  replace g0_2 := cell_next g0_2 hb_76
  replace g0_3 := cell_next g0_3 hb_76
  replace g0_l := Nat.lt_of_lt_of_le g0_l hb_76.size
  replace hB := hB.trans (hb_76.mono hB.size)
  have sz_77 := hb_76.size
  go_wp2_with fail
  have HT_78 := Lib.hid (toAnnotated_k A0 n0 cap0 t0 B0 m0 cbp0 y0 D0 o0 dap0 x0 E0 f0 eap0 p0 _ w10.drew in0a.drew in0b.drew in0c.drew in0d.drew (by show _ ≤ w10.heap.size; omega) h0ok h0eok h0gok h0fok h0sok h0uok h0vok)
  have HE_79 : Hid (∀ w11 g_80 g_81 g_82 g_83 mid_89 mid_90 mid_91, Below w10.drew.heap.size w10.drew w11 → OwnTS w11 w10.drew.heap.size mid_89 (some ⟨g_80, 0, none⟩) n0 n0 t0 → OwnTS w11 mid_89 mid_90 (some ⟨g_81, 0, none⟩) m0 m0 y0 → OwnC w11 mid_90 mid_91 (some ⟨g_82, 0, none⟩) o0 o0 x0 → OwnP2 w11 mid_91 w11.heap.size (some ⟨g_83, 0, none⟩) f0 f0 p0 → w10.drew.heap.size ≤ mid_89 ∧ mid_89 ≤ mid_90 ∧ mid_90 ≤ mid_91 ∧ mid_91 ≤ w11.heap.size → Calls Tryz.prog 9 #[.agg #[.slice (some ⟨g_38, 0, none⟩) n0 n0, .slice (some ⟨g_39, 0, none⟩) m0 m0, .slice (some ⟨g_40, 0, none⟩) o0 o0, .slice (some ⟨g_41, 0, none⟩) f0 f0], .agg #[.slice (some ⟨g_80, 0, none⟩) n0 n0, .slice (some ⟨g_81, 0, none⟩) m0 m0, .slice (some ⟨g_82, 0, none⟩) o0 o0, .slice (some ⟨g_83, 0, none⟩) f0 f0]] w11 fun e w' => e = .returned (.bool true) ∧ Below w11.heap.size w11 w') := fun w11 g_80 g_81 g_82 g_83 mid_89 mid_90 mid_91 hb_88 own_84 own_85 own_86 own_87 md_92 => eqAnnotated_k (some ⟨g_38, 0, none⟩) n0 n0 t0 (some ⟨g_39, 0, none⟩) m0 m0 y0 (some ⟨g_40, 0, none⟩) o0 o0 x0 (some ⟨g_41, 0, none⟩) f0 f0 p0 (some ⟨g_80, 0, none⟩) n0 (some ⟨g_81, 0, none⟩) m0 (some ⟨g_82, 0, none⟩) o0 (some ⟨g_83, 0, none⟩) f0 (w11.heap.size) (w11.heap.size) w11 (((own_42.inn).call (by omega) hb_88).more (le_call (by omega) hb_88)) (((own_43.inn).call (by omega) hb_88).more (le_call (by omega) hb_88)) (((own_44.inn).call (by omega) hb_88).more (le_call (by omega) hb_88)) (((own_45.inn).call (by omega) hb_88).more (le_call (by omega) hb_88)) ((own_84.inn).more (by omega)) ((own_85.inn).more (by omega)) ((own_86.inn).more (by omega)) ((own_87.inn).more (by omega)) (Nat.le_refl _) (Nat.le_refl _) h0ok h0eok h0gok h0fok h0sok h0uok h0vok
  go_region_held3 (fun w' => w'.cell? ⟨w.heap.size, 0, none⟩ = some (.slice A0 n0 cap0) ∧ w'.cell? ⟨w.heap.size, 1, none⟩ = some (.slice B0 m0 cbp0) ∧ w'.cell? ⟨w.heap.size, 2, none⟩ = some (.slice D0 o0 dap0) ∧ w'.cell? ⟨w.heap.size, 3, none⟩ = some (.slice E0 f0 eap0) ∧ w'.cell? ⟨w6.heap.size, 0, none⟩ = some (.slice (some ⟨g_38, 0, none⟩) n0 n0) ∧ w'.cell? ⟨w6.heap.size, 1, none⟩ = some (.slice (some ⟨g_39, 0, none⟩) m0 m0) ∧ w'.cell? ⟨w6.heap.size, 2, none⟩ = some (.slice (some ⟨g_40, 0, none⟩) o0 o0) ∧ w'.cell? ⟨w6.heap.size, 3, none⟩ = some (.slice (some ⟨g_41, 0, none⟩) f0 f0))
    (first | go_keep | exact ⟨cell_on a0_0 hb_88, cell_on a0_1 hb_88, cell_on a0_2 hb_88, cell_on a0_3 hb_88, cell_on x0_0 hb_88, cell_on x0_1 hb_88, cell_on x0_2 hb_88, cell_on x0_3 hb_88⟩ | exact ⟨cell_on2 a0_0 hb_88 hb_94, cell_on2 a0_1 hb_88 hb_94, cell_on2 a0_2 hb_88 hb_94, cell_on2 a0_3 hb_88 hb_94, cell_on2 x0_0 hb_88 hb_94, cell_on2 x0_1 hb_88 hb_94, cell_on2 x0_2 hb_88 hb_94, cell_on2 x0_3 hb_88 hb_94⟩)
    (first | (go_at_call 7; refine HT_78.out.mono ?_; rintro e w11 ⟨g_80, g_81, g_82, g_83, mid_89, mid_90, mid_91, rfl, own_84, own_85, own_86, own_87, md_92, hb_88⟩) | (go_at_call 9; refine (HE_79.out _ _ _ _ _ _ _ _ hb_88 own_84 own_85 own_86 own_87 md_92).mono ?_; rintro e w12 ⟨rfl, hb_94⟩))
  replace hb_88 := (bstep hb_88)
  replace in0a := in0a.next hb_88 (by omega)
  replace in0b := in0b.next hb_88 (by omega)
  replace in0c := in0c.next hb_88 (by omega)
  replace in0d := in0d.next hb_88 (by omega)
  replace a0_0 := cell_next a0_0 hb_88
  replace a0_1 := cell_next a0_1 hb_88
  replace a0_2 := cell_next a0_2 hb_88
  replace a0_3 := cell_next a0_3 hb_88
  replace a0_l := Nat.lt_of_lt_of_le a0_l hb_88.size
  replace own_30 := own_30.next hb_88 (by omega)
  replace own_31 := own_31.next hb_88 (by omega)
  replace own_32 := own_32.next hb_88 (by omega)
  replace own_33 := own_33.next hb_88 (by omega)
  replace w0_0 := cell_next w0_0 hb_88
  replace w0_1 := cell_next w0_1 hb_88
  replace w0_2 := cell_next w0_2 hb_88
  replace w0_3 := cell_next w0_3 hb_88
  replace w0_l := Nat.lt_of_lt_of_le w0_l hb_88.size
  replace own_42 := own_42.next hb_88
  replace own_43 := own_43.next hb_88
  replace own_44 := own_44.next hb_88
  replace own_45 := own_45.next hb_88
  replace x0_0 := cell_next x0_0 hb_88
  replace x0_1 := cell_next x0_1 hb_88
  replace x0_2 := cell_next x0_2 hb_88
  replace x0_3 := cell_next x0_3 hb_88
  replace x0_l := Nat.lt_of_lt_of_le x0_l hb_88.size
  replace own_68 := own_68.next hb_88
  replace own_69 := own_69.next hb_88
  replace own_70 := own_70.next hb_88
  replace own_71 := own_71.next hb_88
  replace g0_0 := cell_next g0_0 hb_88
  replace g0_1 := cell_next g0_1 hb_88
  replace g0_2 := cell_next g0_2 hb_88
  replace g0_3 := cell_next g0_3 hb_88
  replace g0_l := Nat.lt_of_lt_of_le g0_l hb_88.size
  replace hB := hB.trans (hb_88.mono hB.size)
  have sz_95 := hb_88.size
  replace in0a := in0a.next hb_94 (by omega)
  replace in0b := in0b.next hb_94 (by omega)
  replace in0c := in0c.next hb_94 (by omega)
  replace in0d := in0d.next hb_94 (by omega)
  replace a0_0 := cell_next a0_0 hb_94
  replace a0_1 := cell_next a0_1 hb_94
  replace a0_2 := cell_next a0_2 hb_94
  replace a0_3 := cell_next a0_3 hb_94
  replace a0_l := Nat.lt_of_lt_of_le a0_l hb_94.size
  replace own_30 := own_30.next hb_94 (by omega)
  replace own_31 := own_31.next hb_94 (by omega)
  replace own_32 := own_32.next hb_94 (by omega)
  replace own_33 := own_33.next hb_94 (by omega)
  replace w0_0 := cell_next w0_0 hb_94
  replace w0_1 := cell_next w0_1 hb_94
  replace w0_2 := cell_next w0_2 hb_94
  replace w0_3 := cell_next w0_3 hb_94
  replace w0_l := Nat.lt_of_lt_of_le w0_l hb_94.size
  replace own_42 := own_42.next hb_94
  replace own_43 := own_43.next hb_94
  replace own_44 := own_44.next hb_94
  replace own_45 := own_45.next hb_94
  replace x0_0 := cell_next x0_0 hb_94
  replace x0_1 := cell_next x0_1 hb_94
  replace x0_2 := cell_next x0_2 hb_94
  replace x0_3 := cell_next x0_3 hb_94
  replace x0_l := Nat.lt_of_lt_of_le x0_l hb_94.size
  replace own_68 := own_68.next hb_94
  replace own_69 := own_69.next hb_94
  replace own_70 := own_70.next hb_94
  replace own_71 := own_71.next hb_94
  replace g0_0 := cell_next g0_0 hb_94
  replace g0_1 := cell_next g0_1 hb_94
  replace g0_2 := cell_next g0_2 hb_94
  replace g0_3 := cell_next g0_3 hb_94
  replace g0_l := Nat.lt_of_lt_of_le g0_l hb_94.size
  replace hB := hB.trans (hb_94.mono hB.size)
  have sz_96 := hb_94.size
  clear HT_78 HE_79 own_84 own_85 own_86 own_87
  go_wp2_with fail
  refine (markAnnotated_k w5.heap.size mid_47 mid_48 mid_49 w6.heap.size (some ⟨g_38, 0, none⟩) n0 n0 t0 (some ⟨g_39, 0, none⟩) m0 m0 y0 (some ⟨g_40, 0, none⟩) o0 o0 x0 (some ⟨g_41, 0, none⟩) f0 f0 p0 1 _ own_42 own_43 own_44 own_45 (by omega) (by omega) (by omega) (by omega) (by omega) (by omega) (by omega) (by omega) (by omega) (by omega) (by omega) (by omega) (by omega) (by omega)).mono ?_
  rintro e w13 ⟨rfl, own_98, own_99, own_100, own_101, ho_97⟩
  replace in0a := in0a.out ho_97 (by omega) (by omega)
  replace in0b := in0b.out ho_97 (by omega) (by omega)
  replace in0c := in0c.out ho_97 (by omega) (by omega)
  replace in0d := in0d.out ho_97 (by omega) (by omega)
  replace a0_0 := ho_97.cell a0_0 (by omega)
  replace a0_1 := ho_97.cell a0_1 (by omega)
  replace a0_2 := ho_97.cell a0_2 (by omega)
  replace a0_3 := ho_97.cell a0_3 (by omega)
  replace a0_l := Nat.lt_of_lt_of_le a0_l ho_97.size
  replace own_30 := own_30.out ho_97 (by omega) (by omega)
  replace own_31 := own_31.out ho_97 (by omega) (by omega)
  replace own_32 := own_32.out ho_97 (by omega) (by omega)
  replace own_33 := own_33.out ho_97 (by omega) (by omega)
  replace w0_0 := ho_97.cell w0_0 (by omega)
  replace w0_1 := ho_97.cell w0_1 (by omega)
  replace w0_2 := ho_97.cell w0_2 (by omega)
  replace w0_3 := ho_97.cell w0_3 (by omega)
  replace w0_l := Nat.lt_of_lt_of_le w0_l ho_97.size
  replace x0_0 := ho_97.cell x0_0 (by omega)
  replace x0_1 := ho_97.cell x0_1 (by omega)
  replace x0_2 := ho_97.cell x0_2 (by omega)
  replace x0_3 := ho_97.cell x0_3 (by omega)
  replace x0_l := Nat.lt_of_lt_of_le x0_l ho_97.size
  replace own_68 := own_68.out ho_97 (by omega)
  replace own_69 := own_69.out ho_97 (by omega)
  replace own_70 := own_70.out ho_97 (by omega)
  replace own_71 := own_71.out ho_97 (by omega)
  replace g0_0 := ho_97.cell g0_0 (by omega)
  replace g0_1 := ho_97.cell g0_1 (by omega)
  replace g0_2 := ho_97.cell g0_2 (by omega)
  replace g0_3 := ho_97.cell g0_3 (by omega)
  replace g0_l := Nat.lt_of_lt_of_le g0_l ho_97.size
  replace hB := hB.trans (ho_97.below (by omega) (by omega))
  have sz_102 := ho_97.size
  clear own_42 own_43 own_44 own_45
  have mk_103 : (0 : Int) ≤ 1 + ((n0 + totT t0 : Nat) : Int) + ((m0 + totT y0 : Nat) : Int) + 2 * (o0 : Int) + ((1 * f0 + totP2 p0 : Nat) : Int) := by omega
  clear x0_0 x0_1 x0_2 x0_3 x0_l
  clear own_98 own_99 own_100 own_101
  go_wp2_with fail
  -- if k < 0 || !eqAnnotated(g0, w0) || g1 != w1 {
  refine (eqAnnotated_k R_56 l00 d_57 y00 R_58 l01 d_59 y01 R_60 l02 d_61 y02 R_62 l03 d_63 y03 R_22 d_23 R_24 d_25 R_26 d_27 R_28 d_29 (w13.heap.size) (w13.heap.size) w13 (own_68.inn.more (by omega)) (own_69.inn.more (by omega)) (own_70.inn.more (by omega)) (own_71.inn.more (by omega)) (own_30.more (by omega)) (own_31.more (by omega)) (own_32.more (by omega)) (own_33.more (by omega)) (by omega) (by omega) (by omega) (by omega) (by omega) (by omega) (by omega) (by omega) (by omega)).mono ?_
  rintro e w14 ⟨rfl, hb_104⟩
  replace in0a := in0a.next hb_104 (by omega)
  replace in0b := in0b.next hb_104 (by omega)
  replace in0c := in0c.next hb_104 (by omega)
  replace in0d := in0d.next hb_104 (by omega)
  replace a0_0 := cell_next a0_0 hb_104
  replace a0_1 := cell_next a0_1 hb_104
  replace a0_2 := cell_next a0_2 hb_104
  replace a0_3 := cell_next a0_3 hb_104
  replace a0_l := Nat.lt_of_lt_of_le a0_l hb_104.size
  replace own_30 := own_30.next hb_104 (by omega)
  replace own_31 := own_31.next hb_104 (by omega)
  replace own_32 := own_32.next hb_104 (by omega)
  replace own_33 := own_33.next hb_104 (by omega)
  replace w0_0 := cell_next w0_0 hb_104
  replace w0_1 := cell_next w0_1 hb_104
  replace w0_2 := cell_next w0_2 hb_104
  replace w0_3 := cell_next w0_3 hb_104
  replace w0_l := Nat.lt_of_lt_of_le w0_l hb_104.size
  replace own_68 := own_68.next hb_104
  replace own_69 := own_69.next hb_104
  replace own_70 := own_70.next hb_104
  replace own_71 := own_71.next hb_104
  replace g0_0 := cell_next g0_0 hb_104
  replace g0_1 := cell_next g0_1 hb_104
  replace g0_2 := cell_next g0_2 hb_104
  replace g0_3 := cell_next g0_3 hb_104
  replace g0_l := Nat.lt_of_lt_of_le g0_l hb_104.size
  replace hB := hB.trans (hb_104.mono hB.size)
  have sz_105 := hb_104.size
  go_wp2_with fail
  refine (markAnnotated_k w7.heap.size mid_64 mid_65 mid_66 w8.heap.size R_56 l00 d_57 y00 R_58 l01 d_59 y01 R_60 l02 d_61 y02 R_62 l03 d_63 y03 1 _ own_68 own_69 own_70 own_71 (by omega) (by omega) (by omega) (by omega) (by omega) (by omega) (by omega) (by omega) (by omega) (by omega) (by omega) (by omega) (by omega) (by omega)).mono ?_
  rintro e w15 ⟨rfl, own_107, own_108, own_109, own_110, ho_106⟩
  replace in0a := in0a.out ho_106 (by omega) (by omega)
  replace in0b := in0b.out ho_106 (by omega) (by omega)
  replace in0c := in0c.out ho_106 (by omega) (by omega)
  replace in0d := in0d.out ho_106 (by omega) (by omega)
  replace a0_0 := ho_106.cell a0_0 (by omega)
  replace a0_1 := ho_106.cell a0_1 (by omega)
  replace a0_2 := ho_106.cell a0_2 (by omega)
  replace a0_3 := ho_106.cell a0_3 (by omega)
  replace a0_l := Nat.lt_of_lt_of_le a0_l ho_106.size
  replace own_30 := own_30.out ho_106 (by omega) (by omega)
  replace own_31 := own_31.out ho_106 (by omega) (by omega)
  replace own_32 := own_32.out ho_106 (by omega) (by omega)
  replace own_33 := own_33.out ho_106 (by omega) (by omega)
  replace w0_0 := ho_106.cell w0_0 (by omega)
  replace w0_1 := ho_106.cell w0_1 (by omega)
  replace w0_2 := ho_106.cell w0_2 (by omega)
  replace w0_3 := ho_106.cell w0_3 (by omega)
  replace w0_l := Nat.lt_of_lt_of_le w0_l ho_106.size
  replace g0_0 := ho_106.cell g0_0 (by omega)
  replace g0_1 := ho_106.cell g0_1 (by omega)
  replace g0_2 := ho_106.cell g0_2 (by omega)
  replace g0_3 := ho_106.cell g0_3 (by omega)
  replace g0_l := Nat.lt_of_lt_of_le g0_l ho_106.size
  replace hB := hB.trans (ho_106.below (by omega) (by omega))
  have sz_111 := ho_106.size
  clear own_68 own_69 own_70 own_71
  have mk_112 : (0 : Int) ≤ 1 + ((l00 + totT y00 : Nat) : Int) + ((l01 + totT y01 : Nat) : Int) + 2 * (l02 : Int) + ((1 * l03 + totP2 y03 : Nat) : Int) := by omega
  go_wp2_with fail
  refine (heldAnnotated_k R_56 l00 d_57 y00 R_58 l01 d_59 y01 R_60 l02 d_61 y02 R_62 l03 d_63 y03 _ 1 _ own_107.all own_108.all own_109.all own_110.all (Nat.le_refl _) (by omega) (by omega) (by omega) (by omega) (by omega) (by omega) (by omega) (by omega) (by omega)).mono ?_
  rintro e w16 ⟨rfl, hb_113⟩
  replace in0a := in0a.next hb_113 (by omega)
  replace in0b := in0b.next hb_113 (by omega)
  replace in0c := in0c.next hb_113 (by omega)
  replace in0d := in0d.next hb_113 (by omega)
  replace a0_0 := cell_next a0_0 hb_113
  replace a0_1 := cell_next a0_1 hb_113
  replace a0_2 := cell_next a0_2 hb_113
  replace a0_3 := cell_next a0_3 hb_113
  replace a0_l := Nat.lt_of_lt_of_le a0_l hb_113.size
  replace own_30 := own_30.next hb_113 (by omega)
  replace own_31 := own_31.next hb_113 (by omega)
  replace own_32 := own_32.next hb_113 (by omega)
  replace own_33 := own_33.next hb_113 (by omega)
  replace w0_0 := cell_next w0_0 hb_113
  replace w0_1 := cell_next w0_1 hb_113
  replace w0_2 := cell_next w0_2 hb_113
  replace w0_3 := cell_next w0_3 hb_113
  replace w0_l := Nat.lt_of_lt_of_le w0_l hb_113.size
  replace g0_0 := cell_next g0_0 hb_113
  replace g0_1 := cell_next g0_1 hb_113
  replace g0_2 := cell_next g0_2 hb_113
  replace g0_3 := cell_next g0_3 hb_113
  replace g0_l := Nat.lt_of_lt_of_le g0_l hb_113.size
  replace own_107 := own_107.next hb_113
  replace own_108 := own_108.next hb_113
  replace own_109 := own_109.next hb_113
  replace own_110 := own_110.next hb_113
  replace hB := hB.trans (hb_113.mono hB.size)
  have sz_114 := hb_113.size
  have mk_115 : (0 : Int) ≤ 1 + ((l00 + totT y00 : Nat) : Int) + ((l01 + totT y01 : Nat) : Int) + 2 * (l02 : Int) + ((1 * l03 + totP2 y03 : Nat) : Int) := by omega
  go_wp2_with fail
  refine (toAnnotated_k A0 n0 cap0 t0 B0 m0 cbp0 y0 D0 o0 dap0 x0 E0 f0 eap0 p0 _ _ in0a in0b in0c in0d (by omega) h0ok h0eok h0gok h0fok h0sok h0uok h0vok).mono ?_
  rintro e w17 ⟨g_116, g_117, g_118, g_119, mid_125, mid_126, mid_127, rfl, own_120, own_121, own_122, own_123, md_128, hb_124⟩
  replace in0a := in0a.next hb_124 (by omega)
  replace in0b := in0b.next hb_124 (by omega)
  replace in0c := in0c.next hb_124 (by omega)
  replace in0d := in0d.next hb_124 (by omega)
  replace a0_0 := cell_next a0_0 hb_124
  replace a0_1 := cell_next a0_1 hb_124
  replace a0_2 := cell_next a0_2 hb_124
  replace a0_3 := cell_next a0_3 hb_124
  replace a0_l := Nat.lt_of_lt_of_le a0_l hb_124.size
  replace own_30 := own_30.next hb_124 (by omega)
  replace own_31 := own_31.next hb_124 (by omega)
  replace own_32 := own_32.next hb_124 (by omega)
  replace own_33 := own_33.next hb_124 (by omega)
  replace w0_0 := cell_next w0_0 hb_124
  replace w0_1 := cell_next w0_1 hb_124
  replace w0_2 := cell_next w0_2 hb_124
  replace w0_3 := cell_next w0_3 hb_124
  replace w0_l := Nat.lt_of_lt_of_le w0_l hb_124.size
  replace g0_0 := cell_next g0_0 hb_124
  replace g0_1 := cell_next g0_1 hb_124
  replace g0_2 := cell_next g0_2 hb_124
  replace g0_3 := cell_next g0_3 hb_124
  replace g0_l := Nat.lt_of_lt_of_le g0_l hb_124.size
  replace own_107 := own_107.next hb_124
  replace own_108 := own_108.next hb_124
  replace own_109 := own_109.next hb_124
  replace own_110 := own_110.next hb_124
  replace hB := hB.trans (hb_124.mono hB.size)
  have sz_129 := hb_124.size
  go_wp2_with fail
  refine (HI.out w17 _ _ _ _ _ _ _ _ hB ((own_120.inn).more (by omega)) ((own_121.inn).more (by omega)) ((own_122.inn).more (by omega)) ((own_123.inn).more (by omega)) (Nat.le_refl _)).mono ?_
  rintro e w18 ⟨R_131, d_132, R_133, d_134, R_135, d_136, R_137, d_138, mid_139, mid_140, mid_141, rfl, own_143, own_144, own_145, own_146, md_142, hb_130⟩
  clear own_120 own_121 own_122 own_123
  replace in0a := in0a.next hb_130 (by omega)
  replace in0b := in0b.next hb_130 (by omega)
  replace in0c := in0c.next hb_130 (by omega)
  replace in0d := in0d.next hb_130 (by omega)
  replace a0_0 := cell_next a0_0 hb_130
  replace a0_1 := cell_next a0_1 hb_130
  replace a0_2 := cell_next a0_2 hb_130
  replace a0_3 := cell_next a0_3 hb_130
  replace a0_l := Nat.lt_of_lt_of_le a0_l hb_130.size
  replace own_30 := own_30.next hb_130 (by omega)
  replace own_31 := own_31.next hb_130 (by omega)
  replace own_32 := own_32.next hb_130 (by omega)
  replace own_33 := own_33.next hb_130 (by omega)
  replace w0_0 := cell_next w0_0 hb_130
  replace w0_1 := cell_next w0_1 hb_130
  replace w0_2 := cell_next w0_2 hb_130
  replace w0_3 := cell_next w0_3 hb_130
  replace w0_l := Nat.lt_of_lt_of_le w0_l hb_130.size
  replace g0_0 := cell_next g0_0 hb_130
  replace g0_1 := cell_next g0_1 hb_130
  replace g0_2 := cell_next g0_2 hb_130
  replace g0_3 := cell_next g0_3 hb_130
  replace g0_l := Nat.lt_of_lt_of_le g0_l hb_130.size
  replace own_107 := own_107.next hb_130
  replace own_108 := own_108.next hb_130
  replace own_109 := own_109.next hb_130
  replace own_110 := own_110.next hb_130
  replace hB := hB.trans (hb_130.mono hB.size)
  have sz_147 := hb_130.size
  go_wp2_with fail
  have hb_148 : Below w18.heap.size w18 (w18.alloc (.cells #[.slice R_131 l00 d_132, .slice R_133 l01 d_134, .slice R_135 l02 d_136, .slice R_137 l03 d_138] 32)) := bnew _ _
  have sz_149 : w18.heap.size < (w18.alloc (.cells #[.slice R_131 l00 d_132, .slice R_133 l01 d_134, .slice R_135 l02 d_136, .slice R_137 l03 d_138] 32)).heap.size := by simp
  have h0_0 : (w18.alloc (.cells #[.slice R_131 l00 d_132, .slice R_133 l01 d_134, .slice R_135 l02 d_136, .slice R_137 l03 d_138] 32)).cell? ⟨w18.heap.size, 0, none⟩ = some (.slice R_131 l00 d_132) := by simp
  have h0_1 : (w18.alloc (.cells #[.slice R_131 l00 d_132, .slice R_133 l01 d_134, .slice R_135 l02 d_136, .slice R_137 l03 d_138] 32)).cell? ⟨w18.heap.size, 1, none⟩ = some (.slice R_133 l01 d_134) := by simp
  have h0_2 : (w18.alloc (.cells #[.slice R_131 l00 d_132, .slice R_133 l01 d_134, .slice R_135 l02 d_136, .slice R_137 l03 d_138] 32)).cell? ⟨w18.heap.size, 2, none⟩ = some (.slice R_135 l02 d_136) := by simp
  have h0_3 : (w18.alloc (.cells #[.slice R_131 l00 d_132, .slice R_133 l01 d_134, .slice R_135 l02 d_136, .slice R_137 l03 d_138] 32)).cell? ⟨w18.heap.size, 3, none⟩ = some (.slice R_137 l03 d_138) := by simp
  have h0_l := sz_149
  generalize w18.alloc (.cells #[.slice R_131 l00 d_132, .slice R_133 l01 d_134, .slice R_135 l02 d_136, .slice R_137 l03 d_138] 32) = w19 at hb_148 h0_0 h0_1 h0_2 h0_3 sz_149 h0_l ⊢
  replace in0a := in0a.next hb_148 (by omega)
  replace in0b := in0b.next hb_148 (by omega)
  replace in0c := in0c.next hb_148 (by omega)
  replace in0d := in0d.next hb_148 (by omega)
  replace a0_0 := cell_next a0_0 hb_148
  replace a0_1 := cell_next a0_1 hb_148
  replace a0_2 := cell_next a0_2 hb_148
  replace a0_3 := cell_next a0_3 hb_148
  replace a0_l := Nat.lt_of_lt_of_le a0_l hb_148.size
  replace own_30 := own_30.next hb_148 (by omega)
  replace own_31 := own_31.next hb_148 (by omega)
  replace own_32 := own_32.next hb_148 (by omega)
  replace own_33 := own_33.next hb_148 (by omega)
  replace w0_0 := cell_next w0_0 hb_148
  replace w0_1 := cell_next w0_1 hb_148
  replace w0_2 := cell_next w0_2 hb_148
  replace w0_3 := cell_next w0_3 hb_148
  replace w0_l := Nat.lt_of_lt_of_le w0_l hb_148.size
  replace g0_0 := cell_next g0_0 hb_148
  replace g0_1 := cell_next g0_1 hb_148
  replace g0_2 := cell_next g0_2 hb_148
  replace g0_3 := cell_next g0_3 hb_148
  replace g0_l := Nat.lt_of_lt_of_le g0_l hb_148.size
  replace own_107 := own_107.next hb_148
  replace own_108 := own_108.next hb_148
  replace own_109 := own_109.next hb_148
  replace own_110 := own_110.next hb_148
  replace own_143 := own_143.next hb_148
  replace own_144 := own_144.next hb_148
  replace own_145 := own_145.next hb_148
  replace own_146 := own_146.next hb_148
  replace hB := hB.trans (hb_148.mono hB.size)
  have sz_150 := hb_148.size
  -- if !eqAnnotated(h0, w0) || h1 != w1 {
  refine (eqAnnotated_k R_131 l00 d_132 y00 R_133 l01 d_134 y01 R_135 l02 d_136 y02 R_137 l03 d_138 y03 R_22 d_23 R_24 d_25 R_26 d_27 R_28 d_29 (w19.heap.size) (w19.heap.size) w19 (own_143.inn.more (by omega)) (own_144.inn.more (by omega)) (own_145.inn.more (by omega)) (own_146.inn.more (by omega)) (own_30.more (by omega)) (own_31.more (by omega)) (own_32.more (by omega)) (own_33.more (by omega)) (by omega) (by omega) (by omega) (by omega) (by omega) (by omega) (by omega) (by omega) (by omega)).mono ?_
  rintro e w20 ⟨rfl, hb_151⟩
  replace in0a := in0a.next hb_151 (by omega)
  replace in0b := in0b.next hb_151 (by omega)
  replace in0c := in0c.next hb_151 (by omega)
  replace in0d := in0d.next hb_151 (by omega)
  replace a0_0 := cell_next a0_0 hb_151
  replace a0_1 := cell_next a0_1 hb_151
  replace a0_2 := cell_next a0_2 hb_151
  replace a0_3 := cell_next a0_3 hb_151
  replace a0_l := Nat.lt_of_lt_of_le a0_l hb_151.size
  replace own_30 := own_30.next hb_151 (by omega)
  replace own_31 := own_31.next hb_151 (by omega)
  replace own_32 := own_32.next hb_151 (by omega)
  replace own_33 := own_33.next hb_151 (by omega)
  replace w0_0 := cell_next w0_0 hb_151
  replace w0_1 := cell_next w0_1 hb_151
  replace w0_2 := cell_next w0_2 hb_151
  replace w0_3 := cell_next w0_3 hb_151
  replace w0_l := Nat.lt_of_lt_of_le w0_l hb_151.size
  replace g0_0 := cell_next g0_0 hb_151
  replace g0_1 := cell_next g0_1 hb_151
  replace g0_2 := cell_next g0_2 hb_151
  replace g0_3 := cell_next g0_3 hb_151
  replace g0_l := Nat.lt_of_lt_of_le g0_l hb_151.size
  replace own_107 := own_107.next hb_151
  replace own_108 := own_108.next hb_151
  replace own_109 := own_109.next hb_151
  replace own_110 := own_110.next hb_151
  replace own_143 := own_143.next hb_151
  replace own_144 := own_144.next hb_151
  replace own_145 := own_145.next hb_151
  replace own_146 := own_146.next hb_151
  replace h0_0 := cell_next h0_0 hb_151
  replace h0_1 := cell_next h0_1 hb_151
  replace h0_2 := cell_next h0_2 hb_151
  replace h0_3 := cell_next h0_3 hb_151
  replace h0_l := Nat.lt_of_lt_of_le h0_l hb_151.size
  replace hB := hB.trans (hb_151.mono hB.size)
  have sz_152 := hb_151.size
  go_wp2_with fail
  clear own_143 own_144 own_145 own_146
  clear h0_0 h0_1 h0_2 h0_3 h0_l
  refine (heldAnnotated_k R_56 l00 d_57 y00 R_58 l01 d_59 y01 R_60 l02 d_61 y02 R_62 l03 d_63 y03 _ 1 _ own_107.all own_108.all own_109.all own_110.all (Nat.le_refl _) (by omega) (by omega) (by omega) (by omega) (by omega) (by omega) (by omega) (by omega) (by omega)).mono ?_
  rintro e w21 ⟨rfl, hb_153⟩
  replace in0a := in0a.next hb_153 (by omega)
  replace in0b := in0b.next hb_153 (by omega)
  replace in0c := in0c.next hb_153 (by omega)
  replace in0d := in0d.next hb_153 (by omega)
  replace a0_0 := cell_next a0_0 hb_153
  replace a0_1 := cell_next a0_1 hb_153
  replace a0_2 := cell_next a0_2 hb_153
  replace a0_3 := cell_next a0_3 hb_153
  replace a0_l := Nat.lt_of_lt_of_le a0_l hb_153.size
  replace own_30 := own_30.next hb_153 (by omega)
  replace own_31 := own_31.next hb_153 (by omega)
  replace own_32 := own_32.next hb_153 (by omega)
  replace own_33 := own_33.next hb_153 (by omega)
  replace w0_0 := cell_next w0_0 hb_153
  replace w0_1 := cell_next w0_1 hb_153
  replace w0_2 := cell_next w0_2 hb_153
  replace w0_3 := cell_next w0_3 hb_153
  replace w0_l := Nat.lt_of_lt_of_le w0_l hb_153.size
  replace g0_0 := cell_next g0_0 hb_153
  replace g0_1 := cell_next g0_1 hb_153
  replace g0_2 := cell_next g0_2 hb_153
  replace g0_3 := cell_next g0_3 hb_153
  replace g0_l := Nat.lt_of_lt_of_le g0_l hb_153.size
  replace own_107 := own_107.next hb_153
  replace own_108 := own_108.next hb_153
  replace own_109 := own_109.next hb_153
  replace own_110 := own_110.next hb_153
  replace hB := hB.trans (hb_153.mono hB.size)
  have sz_154 := hb_153.size
  have mk_155 : (0 : Int) ≤ 1 + ((l00 + totT y00 : Nat) : Int) + ((l01 + totT y01 : Nat) : Int) + 2 * (l02 : Int) + ((1 * l03 + totP2 y03 : Nat) : Int) := by omega
  go_wp2_with fail
  go_ret
  exact ⟨rfl, hB⟩

set_option maxRecDepth 100000 in
set_option maxHeartbeats 4000000 in
theorem walk (A0 : Option Addr) (n0 cap0 : Nat) (t0 : List (Int × List Int)) (B0 : Option Addr) (m0 cbp0 : Nat) (y0 : List (Int × List Int)) (D0 : Option Addr) (o0 dap0 : Nat) (x0 : List (Int × Int)) (E0 : Option Addr) (f0 eap0 : Nat) (p0 : List P2) (w : World) (hT : TabZ w) (h0in : InTS w w.heap.size A0 n0 t0) (h0max : n0 ≤ maxLen) (h0each : ∀ t ∈ t0, t.2.length ≤ maxLen) (h0gin : InTS w w.heap.size B0 m0 y0) (h0gmax : m0 ≤ maxLen) (h0geach : ∀ t ∈ y0, t.2.length ≤ maxLen) (h0sin : InC w w.heap.size D0 o0 x0) (h0smax : o0 ≤ maxLen) (h0uin : InP2 w w.heap.size E0 f0 p0) (h0umax : f0 ≤ maxLen) (h0ueach : ∀ y ∈ p0, y.fits) :
    Calls Tryz.prog 3 #[.agg #[.slice A0 n0 cap0, .slice B0 m0 cbp0, .slice D0 o0 dap0, .slice E0 f0 eap0]] w fun e w' => e = .returned (.bool true) ∧ Below w.heap.size w w' := by
  by_cases hn : (n0 + totT t0) + (m0 + totT y0) + o0 + (f0 + totP2 p0) ≤ 1048576
  · have l0 := h0in.1
    have l1 := h0gin.1
    have l2 := h0sin.1
    have l3 := h0uin.1
    cases hv : annB t0 y0 x0 p0 with
    | true =>
      obtain ⟨ms, hms⟩ := marks_exist x0 (fromP (atsP p0))
      obtain ⟨⟨s0, s0'⟩, ⟨s1, s1'⟩, s2, s3, s3'⟩ := annB_small hv
      have hsm := annB_tot hv
      have hid := droN_small ms o0 (x0, p0)
      simp only at hid
      exact road A0 n0 cap0 t0 B0 m0 cbp0 y0 D0 o0 dap0 x0 E0 f0 eap0 p0 w h0in h0gin h0sin h0uin (by omega) (by omega) (by omega) (by omega) (by omega) (by omega) (by omega) (by omega)
        t0 n0 y0 m0 (droN ms o0 (x0, p0)).1 (droN ms o0 (x0, p0)).1.length (droN ms o0 (x0, p0)).2 (droN ms o0 (x0, p0)).2.length true (by omega) (by omega) (by omega) (by omega) (by omega) (by omega) (by omega)
        (fun w0 a00 u00 a01 u01 a02 u02 a03 u03 hbb g0 g1 g2 g3 _ => specUnre_yes a00 n0 u00 t0 a01 m0 u01 y0 a02 o0 u02 x0 a03 f0 u03 p0 w0 g0 g1 g2 g3 (by omega) (by omega) (by omega) (by omega) (by omega) (by omega) (by omega) hv ms hms)
        (fun w0 a00 u00 a01 u01 a02 u02 a03 u03 hbb g0 g1 g2 g3 _ => implUnre_mid a00 n0 u00 t0 a01 m0 u01 y0 a02 o0 u02 x0 a03 f0 u03 p0 w0 g0 g1 g2 g3 (by omega) (by omega) (by omega) (by omega) (by omega) (by omega) (by omega) _ _ _ _ _ _ _ _ _
          (fun x hx => optUnre_yes a00 n0 u00 t0 a01 m0 u01 y0 a02 o0 u02 x0 a03 f0 u03 p0 x ((g0.next hx (Nat.le_refl _)).more hx.size) ((g1.next hx (Nat.le_refl _)).more hx.size) ((g2.next hx (Nat.le_refl _)).more hx.size) ((g3.next hx (Nat.le_refl _)).more hx.size) (by omega) (by omega) (by omega) (by omega) (by omega) (by omega) (by omega) hv ms hms ((hT.next hbb).next hx)))
    | false =>
      exact road A0 n0 cap0 t0 B0 m0 cbp0 y0 D0 o0 dap0 x0 E0 f0 eap0 p0 w h0in h0gin h0sin h0uin (by omega) (by omega) (by omega) (by omega) (by omega) (by omega) (by omega) (by omega)
        [] 0 [] 0 [] 0 [] 0 false (by omega) (Nat.zero_le _) (by omega) (Nat.zero_le _) (by omega) (by omega) (Nat.zero_le _)
        (fun w0 a00 u00 a01 u01 a02 u02 a03 u03 hbb g0 g1 g2 g3 _ => specUnre_no a00 n0 u00 t0 a01 m0 u01 y0 a02 o0 u02 x0 a03 f0 u03 p0 w0 g0 g1 g2 g3 (by omega) (by omega) (by omega) (by omega) (by omega) (by omega) (by omega) hv)
        (fun w0 a00 u00 a01 u01 a02 u02 a03 u03 hbb g0 g1 g2 g3 _ => implUnre_mid a00 n0 u00 t0 a01 m0 u01 y0 a02 o0 u02 x0 a03 f0 u03 p0 w0 g0 g1 g2 g3 (by omega) (by omega) (by omega) (by omega) (by omega) (by omega) (by omega) _ _ _ _ _ _ _ _ _
          (fun x hx => optUnre_no a00 n0 u00 t0 a01 m0 u01 y0 a02 o0 u02 x0 a03 f0 u03 p0 x ((g0.next hx (Nat.le_refl _)).more hx.size) ((g1.next hx (Nat.le_refl _)).more hx.size) ((g2.next hx (Nat.le_refl _)).more hx.size) ((g3.next hx (Nat.le_refl _)).more hx.size) (by omega) (by omega) (by omega) (by omega) (by omega) (by omega) (by omega) hv))
  · exact early0 A0 n0 cap0 t0 B0 m0 cbp0 y0 D0 o0 dap0 x0 E0 f0 eap0 p0 w h0in h0gin h0sin h0uin (by omega) h0max h0each h0gmax h0geach h0smax h0umax h0ueach

/-- The cells of a table. -/
def litCells : DataW Unit → List Value
  | .lit (.int k z) => [Value.int k z]
  | .lit (.bool b) => [Value.bool b]
  | .lit (.string l) => [Value.string ⟨l.toArray⟩]
  | _ => []
def tabCells : DataW Unit → List Value
  | .agg l => l.flatMap fun x => match x with
    | .agg r => r.flatMap litCells
    | x => litCells x
  | _ => []
/-- A world that meets the list. -/
noncomputable def laidWorld (os : Os) : World :=
  let w0 := World.holding Tryz.prog os ⟨#[], #[], []⟩
  let put (g : Nat) (d : DataW Unit) (h : Array Obj) : Array Obj := h.modify g fun
      | .cells _ t frozen => .cells (tabCells d).toArray t frozen
      | o => o
  { w0 with heap := put 1 (Rows.laid_math_bits_deBruijn64tab) w0.heap }
theorem laidWorld_met (os : Os) (args : Array Value) : laidMetH Tryz.prog Rows.fnExactDropUnreachableRow.laid ((laidWorld os).forCall (fun _ _ => 0) ⟨#[], args, []⟩).memory :=
  laidMetH_of_parts (laidMet_of_run' 8 (by kernel_rfl) (by kernel_rfl)) (by kernel_rfl)

set_option maxRecDepth 100000 in
set_option maxHeartbeats 4000000 in
theorem lifted (os : Os) (started : os.Started) (H : Type) (enc : TypeId × Value → H) :
    ReturnsInHanded {} Tryz.checked os 3 .any (fun w args => (Rows.fnExactDropUnreachableSpec.pre enc Tryz.prog Tryz.f3 [] false w args ∧ laidMetH Tryz.prog Rows.fnExactDropUnreachableRow.laid w) ∧ sizedMet enc Tryz.prog Tryz.f3 (OpenSpec.ofChange Rows.fnExactDropUnreachableSpec) false w args) (Rows.fnExactDropUnreachableSpec.post enc Tryz.prog Tryz.f3 false true false false) := by
  refine returnsInHanded_of_change_and (C := Tryz.checked) (X := fun w _ => laidMetH Tryz.prog Rows.fnExactDropUnreachableRow.laid w) (fun _ _ _ hh h => h.of_heap hh) own started (by kernel_rfl) Tryz.func3
    (ChangeSpec.witness_at (enc := enc) (C := Tryz.checked) (os := os) (X := fun w _ => laidMetH Tryz.prog Rows.fnExactDropUnreachableRow.laid w) false (laidWorld os) #[.agg #[.slice none 0 0, .slice none 0 0, .slice none 0 0, .slice none 0 0]] 8 rfl (by kernel_rfl) (by kernel_rfl) (by kernel_rfl) (by kernel_rfl) (by kernel_rfl) (laidWorld_met os _)) ?_
  intro W base args ds gs before hval0 hW _ _ hL _
  have hval : ∀ (j : Nat) t v, Tryz.f3.params[j]? = some t → args[j]? = some v → Value.okWide Tryz.prog W .any base t v := hval0
  have hW' := hW
  obtain ⟨p, q, hA0, hV, rfl, hfz, hnd⟩ := hW
  have hA : DataW.TrodAll enc Tryz.prog W 0 (fun _ => true) true Tryz.f3.params.toList args.toList ds p := hA0
  rw [Tryz.params3] at hA hval
  obtain ⟨v0, vs0, d0, ds0, p0, q0, hargs, rfl, rfl, g0, r0⟩ := trodAll_cons hA
  obtain ⟨rfl, rfl, rfl⟩ := trodAll_nil r0
  obtain rfl : args = #[v0] := by cases args; simp_all
  obtain ⟨rfl, rfl⟩ := trodVars_none hV
  have k0 := g0
  have lt0 : ∀ x ∈ p0, x.block < W.heap.size := by obtain ⟨m, hm⟩ := k0; exact DataW.trod_lt m _ _ _ hm
  obtain ⟨A0, n0, cap0, t0, B0, m0, cbp0, y0, D0, o0, dap0, x0, E0, f0, eap0, p0, rfl, h0in, h0max, h0each, h0gin, h0gmax, h0geach, h0sin, h0smax, h0uin, h0umax, h0ueach⟩ := annotated_in (hval 0 26 v0 rfl rfl) g0
  clear hA0 hval0
  simp only [List.append_nil] at hW'
  have hg := tabZ_of_laid (laid := Rows.fnExactDropUnreachableRow.laid) rfl hL
  refine (walk A0 n0 cap0 t0 B0 m0 cbp0 y0 D0 o0 dap0 x0 E0 f0 eap0 p0 W hg h0in h0max h0each h0gin h0gmax h0geach h0sin h0smax h0uin h0umax h0ueach).mono fun e W' ⟨he, bel⟩ => ?_
  subst he
  exact ⟨_, rfl, _, _, _, [], _, [], hW', trodAll_mk1 (shut_bool Tryz.underlying4 _), (trodAll_cons_mk (Below.trod laidOut (by kernel_rfl) (of_decide_eq_true (by kernel_rfl)) k0 bel lt0) trodAll_mk0), rfl, bel.frame _, fun h => by cases h⟩

theorem said : Rows.FnExactDropUnreachableSaid :=
  OpenClaim.holds_of_wide 3 Tryz.f3 rfl rfl rfl rfl rfl rfl rfl ⟨rfl, rfl, rfl, rfl, rfl⟩ rfl rfl rfl rfl rfl (by kernel_rfl) Tryz.func3 (by kernel_rfl)
    (of_decide_eq_true (by kernel_rfl)) (by unfold Func.isWrapper; first | (rw [if_pos (by decide +kernel)]; kernel_rfl) | (rw [if_neg (by decide +kernel)]; exact ⟨rfl, rfl⟩))
    (fun os started H enc _ => lifted os started H enc)

/-- No parameter wants a stand-in; the program's own looks are as told: what the card asks. -/
theorem plain (f : FuncId) (fn : Func) (hf : Tryz.pinned.checked.prog.funcNamed "loop.example/g01105/laws.FnExactDropUnreachable" = some f) (hfn : Tryz.pinned.checked.prog.funcs[f]? = some fn) :
    true = Tryz.pinned.checked.prog.looks [] ∧ ∀ (j : Nat) t, fn.params[j]? = some t → Tryz.pinned.checked.prog.wantsStandIn t = false := by
  obtain rfl : f = 3 := Option.some.inj ((show Tryz.prog.funcNamed "loop.example/g01105/laws.FnExactDropUnreachable" = some 3 by kernel_rfl).symm.trans hf) |>.symm
  obtain rfl : fn = Tryz.f3 := (Option.some.inj (Tryz.func3.symm.trans hfn)).symm
  refine ⟨by kernel_rfl, fun j t ht => ?_⟩
  rw [Tryz.params3] at ht
  have hm : t = 26 := by simpa using Array.mem_of_getElem? ht
  subst hm
  exact (show Tryz.prog.wantsStandIn 26 = false by kernel_rfl)

/-- The card. -/
theorem proved : Rows.FnExactDropUnreachableCardSaid :=
  Claim7.holds_tied_plain_at .later [] _ _ _ _ said (fun _ h => by cases h) (by kernel_rfl) (fun _ h => by cases h) fnExactDropUnreachable_row_tie rfl ⟨rfl, rfl⟩ (by kernel_rfl) rfl plain (by kernel_rfl)
#print axioms proved
end Go.Proofs.YtdmcpabpjhinhaaGreatDoor.fnExactDropUnreachable
