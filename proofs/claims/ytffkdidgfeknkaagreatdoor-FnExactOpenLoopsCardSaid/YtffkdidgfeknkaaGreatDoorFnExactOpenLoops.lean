/-
  For all annotated code the program's OpenLoops answers as the model's, leaves the code as it was, and gives memory of its own.
  Conditions: those that the card itself bears (the tables that the program's text lays).
-/
import Derived.Test.YtffkdidgfeknkaaGreatDoorRows
import Derived.WalkKit
import Derived.ProofKit
import Derived.OpenShut
import Derived.ShutString
import Derived.ChangeOld
import Derived.Below
import Derived.WalkSmall
import Derived.Test.YtffkdidgfeknkaaGreatDoorTms
import Derived.Test.YtffkdidgfeknkaaGreatDoorCards
import Derived.Test.YtffkdidgfeknkaaGreatDoorTie
import Derived.ChangeSame
import Derived.ChangeVars
import Derived.JoinedOf
import Derived.RowKit
import Derived.RowKitTokens
import Derived.LaidLaws
import Derived.LaidHandle
import Derived.Stop.LaidErr
import Derived.Stop.Joined
import Derived.SevenTiedAt
import Derived.Test.YtffkdidgfeknkaaGreatDoorAnnM
import Derived.Test.YtffkdidgfeknkaaGreatDoorOpnI
import Derived.Test.YtffkdidgfeknkaaGreatDoorTabZ
namespace Go.Proofs.YtffkdidgfeknkaaGreatDoor.fnExactOpenLoops
open Go.ChangeShapes Go.WideShapes Go.ChangeAt Go.RowKit
open Go.ChangeMaps (open_string shut_string)
set_option linter.unusedVariables false

theorem own : ownKnob Tryz.prog.godebug = none := by kernel_rfl
theorem laidOut : laidOutB Tryz.prog = true := by kernel_rfl
set_option maxRecDepth 100000 in
set_option maxHeartbeats 8000000 in
theorem early0 (A0 : Option Addr) (n0 cap0 : Nat) (t0 : List (Int × List Int)) (B0 : Option Addr) (m0 cbp0 : Nat) (y0 : List (Int × List Int)) (D0 : Option Addr) (o0 dap0 : Nat) (x0 : List (Int × Int)) (E0 : Option Addr) (f0 eap0 : Nat) (p0 : List P2) (w : World) (in0a : InTS w w.heap.size A0 n0 t0) (in0b : InTS w w.heap.size B0 m0 y0) (in0c : InC w w.heap.size D0 o0 x0) (in0d : InP2 w w.heap.size E0 f0 p0) (q0 : 1048576 < ((n0 + totT t0) + (m0 + totT y0) + o0 + (f0 + totP2 p0))) (vn0 : n0 ≤ maxLen) (en0 : ∀ t ∈ t0, t.2.length ≤ maxLen) (vm0 : m0 ≤ maxLen) (em0 : ∀ t ∈ y0, t.2.length ≤ maxLen) (vo0 : o0 ≤ maxLen) (vf0 : f0 ≤ maxLen) (ef0 : ∀ x ∈ p0, x.fits) :
    Calls Tryz.prog 4 #[.agg #[.slice A0 n0 cap0, .slice B0 m0 cbp0, .slice D0 o0 dap0, .slice E0 f0 eap0]] w fun e w' => e = .returned (.bool true) ∧ Below w.heap.size w w' := by
  have hB := Below.refl w.heap.size w
  go_enter Tryz.func4, Tryz.ntmps4
  go_wp2_with fail
  have hb_1 : Below w.heap.size w (w.alloc (.cells #[.slice A0 n0 cap0, .slice B0 m0 cbp0, .slice D0 o0 dap0, .slice E0 f0 eap0] 26)) := bnew _ _
  have sz_2 : w.heap.size < (w.alloc (.cells #[.slice A0 n0 cap0, .slice B0 m0 cbp0, .slice D0 o0 dap0, .slice E0 f0 eap0] 26)).heap.size := by simp
  have a0_0 : (w.alloc (.cells #[.slice A0 n0 cap0, .slice B0 m0 cbp0, .slice D0 o0 dap0, .slice E0 f0 eap0] 26)).cell? ⟨w.heap.size, 0, none⟩ = some (.slice A0 n0 cap0) := by simp
  have a0_1 : (w.alloc (.cells #[.slice A0 n0 cap0, .slice B0 m0 cbp0, .slice D0 o0 dap0, .slice E0 f0 eap0] 26)).cell? ⟨w.heap.size, 1, none⟩ = some (.slice B0 m0 cbp0) := by simp
  have a0_2 : (w.alloc (.cells #[.slice A0 n0 cap0, .slice B0 m0 cbp0, .slice D0 o0 dap0, .slice E0 f0 eap0] 26)).cell? ⟨w.heap.size, 2, none⟩ = some (.slice D0 o0 dap0) := by simp
  have a0_3 : (w.alloc (.cells #[.slice A0 n0 cap0, .slice B0 m0 cbp0, .slice D0 o0 dap0, .slice E0 f0 eap0] 26)).cell? ⟨w.heap.size, 3, none⟩ = some (.slice E0 f0 eap0) := by simp
  have a0_l := sz_2
  generalize w.alloc (.cells #[.slice A0 n0 cap0, .slice B0 m0 cbp0, .slice D0 o0 dap0, .slice E0 f0 eap0] 26) = w1 at hb_1 a0_0 a0_1 a0_2 a0_3 sz_2 a0_l ⊢
  replace in0a := in0a.next hb_1 (by omega)
  replace in0b := in0b.next hb_1 (by omega)
  replace in0c := in0c.next hb_1 (by omega)
  replace in0d := in0d.next hb_1 (by omega)
  replace hB := hB.trans (hb_1.mono hB.size)
  have sz_3 := hb_1.size
  refine (szAnnotated_k A0 n0 cap0 t0 B0 m0 cbp0 y0 D0 o0 dap0 x0 E0 f0 eap0 p0 _ _ _ in0a in0b in0d (by omega) (by omega) (by omega) (by first | assumption | (unfold maxLen; omega)) (by first | assumption | (unfold maxLen; omega)) (by first | assumption | (unfold maxLen; omega)) (by first | assumption | (unfold maxLen; omega)) (by first | assumption | exact each_of (by omega)) (by first | assumption | exact each_of (by omega)) (by first | assumption | exact fitsP_of (by omega))).mono ?_
  rintro e w2 ⟨rfl, hb_4⟩
  rw [szv_no (by omega)]
  replace in0a := in0a.next hb_4 (by omega)
  replace in0b := in0b.next hb_4 (by omega)
  replace in0c := in0c.next hb_4 (by omega)
  replace in0d := in0d.next hb_4 (by omega)
  replace a0_0 := cell_next a0_0 hb_4
  replace a0_1 := cell_next a0_1 hb_4
  replace a0_2 := cell_next a0_2 hb_4
  replace a0_3 := cell_next a0_3 hb_4
  replace a0_l := Nat.lt_of_lt_of_le a0_l hb_4.size
  replace hB := hB.trans (hb_4.mono hB.size)
  have sz_5 := hb_4.size
  go_wp2_with fail
  go_ret
  exact ⟨rfl, hB⟩

set_option maxRecDepth 100000 in
set_option maxHeartbeats 8000000 in
theorem road (A0 : Option Addr) (n0 cap0 : Nat) (t0 : List (Int × List Int)) (B0 : Option Addr) (m0 cbp0 : Nat) (y0 : List (Int × List Int)) (D0 : Option Addr) (o0 dap0 : Nat) (x0 : List (Int × Int)) (E0 : Option Addr) (f0 eap0 : Nat) (p0 : List P2) (w : World) (in0a : InTS w w.heap.size A0 n0 t0) (in0b : InTS w w.heap.size B0 m0 y0) (in0c : InC w w.heap.size D0 o0 x0) (in0d : InP2 w w.heap.size E0 f0 p0) (h0ok : n0 ≤ 1048576) (h0eok : totT t0 ≤ 1048576) (h0gok : m0 ≤ 1048576) (h0fok : totT y0 ≤ 1048576) (h0sok : o0 ≤ 1048576) (h0uok : f0 ≤ 1048576) (h0vok : totP2 p0 ≤ 1048576) (h0sum : (n0 + totT t0) + (m0 + totT y0) + o0 + (f0 + totP2 p0) ≤ 1048576) (y00 : List Int) (l00 : Nat) (r1 : Bool) (k00 : l00 ≤ 1000)
    (HS0 : ∀ (w0 : World) (a00 : Option Addr) (u00 : Nat) (a01 : Option Addr) (u01 : Nat) (a02 : Option Addr) (u02 : Nat) (a03 : Option Addr) (u03 : Nat), Below w.heap.size w w0 → InTS w0 w0.heap.size a00 n0 t0 → InTS w0 w0.heap.size a01 m0 y0 → InC w0 w0.heap.size a02 o0 x0 → InP2 w0 w0.heap.size a03 f0 p0 → Calls Tryz.prog 15 #[.agg #[.slice a00 n0 u00, .slice a01 m0 u01, .slice a02 o0 u02, .slice a03 f0 u03]] w0 fun e w1 => ∃ (R00 : Option Addr) (d00 : Nat), e = .returned (.tuple #[.slice R00 l00 d00, .bool r1]) ∧ OwnL w1 w0.heap.size w1.heap.size R00 l00 d00 y00 ∧ Below w0.heap.size w0 w1)
    (HI0 : ∀ (w0 : World) (a00 : Option Addr) (u00 : Nat) (a01 : Option Addr) (u01 : Nat) (a02 : Option Addr) (u02 : Nat) (a03 : Option Addr) (u03 : Nat), Below w.heap.size w w0 → InTS w0 w0.heap.size a00 n0 t0 → InTS w0 w0.heap.size a01 m0 y0 → InC w0 w0.heap.size a02 o0 x0 → InP2 w0 w0.heap.size a03 f0 p0 → Calls Tryz.prog 16 #[.agg #[.slice a00 n0 u00, .slice a01 m0 u01, .slice a02 o0 u02, .slice a03 f0 u03]] w0 fun e w1 => ∃ (R00 : Option Addr) (d00 : Nat), e = .returned (.tuple #[.slice R00 l00 d00, .bool r1]) ∧ OwnL w1 w0.heap.size w1.heap.size R00 l00 d00 y00 ∧ Below w0.heap.size w0 w1) :
    Calls Tryz.prog 4 #[.agg #[.slice A0 n0 cap0, .slice B0 m0 cbp0, .slice D0 o0 dap0, .slice E0 f0 eap0]] w fun e w' => e = .returned (.bool true) ∧ Below w.heap.size w w' := by
  have HS := Lib.hid HS0
  have HI := Lib.hid HI0
  clear HS0 HI0
  have hB := Below.refl w.heap.size w
  have hl_5 : (0 : Int) ≤ 1048576 - (((n0 + totT t0) + (m0 + totT y0) + o0 + (f0 + totP2 p0) : Nat) : Int) := by omega
  go_enter Tryz.func4, Tryz.ntmps4
  go_wp2_with fail
  have hb_1 : Below w.heap.size w (w.alloc (.cells #[.slice A0 n0 cap0, .slice B0 m0 cbp0, .slice D0 o0 dap0, .slice E0 f0 eap0] 26)) := bnew _ _
  have sz_2 : w.heap.size < (w.alloc (.cells #[.slice A0 n0 cap0, .slice B0 m0 cbp0, .slice D0 o0 dap0, .slice E0 f0 eap0] 26)).heap.size := by simp
  have a0_0 : (w.alloc (.cells #[.slice A0 n0 cap0, .slice B0 m0 cbp0, .slice D0 o0 dap0, .slice E0 f0 eap0] 26)).cell? ⟨w.heap.size, 0, none⟩ = some (.slice A0 n0 cap0) := by simp
  have a0_1 : (w.alloc (.cells #[.slice A0 n0 cap0, .slice B0 m0 cbp0, .slice D0 o0 dap0, .slice E0 f0 eap0] 26)).cell? ⟨w.heap.size, 1, none⟩ = some (.slice B0 m0 cbp0) := by simp
  have a0_2 : (w.alloc (.cells #[.slice A0 n0 cap0, .slice B0 m0 cbp0, .slice D0 o0 dap0, .slice E0 f0 eap0] 26)).cell? ⟨w.heap.size, 2, none⟩ = some (.slice D0 o0 dap0) := by simp
  have a0_3 : (w.alloc (.cells #[.slice A0 n0 cap0, .slice B0 m0 cbp0, .slice D0 o0 dap0, .slice E0 f0 eap0] 26)).cell? ⟨w.heap.size, 3, none⟩ = some (.slice E0 f0 eap0) := by simp
  have a0_l := sz_2
  generalize w.alloc (.cells #[.slice A0 n0 cap0, .slice B0 m0 cbp0, .slice D0 o0 dap0, .slice E0 f0 eap0] 26) = w1 at hb_1 a0_0 a0_1 a0_2 a0_3 sz_2 a0_l ⊢
  replace in0a := in0a.next hb_1 (by omega)
  replace in0b := in0b.next hb_1 (by omega)
  replace in0c := in0c.next hb_1 (by omega)
  replace in0d := in0d.next hb_1 (by omega)
  replace hB := hB.trans (hb_1.mono hB.size)
  have sz_3 := hb_1.size
  refine (szAnnotated_k A0 n0 cap0 t0 B0 m0 cbp0 y0 D0 o0 dap0 x0 E0 f0 eap0 p0 _ _ _ in0a in0b in0d (by omega) (by omega) (by omega) (by first | assumption | (unfold maxLen; omega)) (by first | assumption | (unfold maxLen; omega)) (by first | assumption | (unfold maxLen; omega)) (by first | assumption | (unfold maxLen; omega)) (by first | assumption | exact each_of (by omega)) (by first | assumption | exact each_of (by omega)) (by first | assumption | exact fitsP_of (by omega))).mono ?_
  rintro e w2 ⟨rfl, hb_4⟩
  rw [szv_yes (by omega)]
  replace in0a := in0a.next hb_4 (by omega)
  replace in0b := in0b.next hb_4 (by omega)
  replace in0c := in0c.next hb_4 (by omega)
  replace in0d := in0d.next hb_4 (by omega)
  replace a0_0 := cell_next a0_0 hb_4
  replace a0_1 := cell_next a0_1 hb_4
  replace a0_2 := cell_next a0_2 hb_4
  replace a0_3 := cell_next a0_3 hb_4
  replace a0_l := Nat.lt_of_lt_of_le a0_l hb_4.size
  replace hB := hB.trans (hb_4.mono hB.size)
  have sz_6 := hb_4.size
  go_wp2_with fail
  refine (toAnnotated_k A0 n0 cap0 t0 B0 m0 cbp0 y0 D0 o0 dap0 x0 E0 f0 eap0 p0 _ _ in0a in0b in0c in0d (by omega) h0ok h0eok h0gok h0fok h0sok h0uok h0vok).mono ?_
  rintro e w3 ⟨g_7, g_8, g_9, g_10, mid_16, mid_17, mid_18, rfl, own_11, own_12, own_13, own_14, md_19, hb_15⟩
  replace in0a := in0a.next hb_15 (by omega)
  replace in0b := in0b.next hb_15 (by omega)
  replace in0c := in0c.next hb_15 (by omega)
  replace in0d := in0d.next hb_15 (by omega)
  replace a0_0 := cell_next a0_0 hb_15
  replace a0_1 := cell_next a0_1 hb_15
  replace a0_2 := cell_next a0_2 hb_15
  replace a0_3 := cell_next a0_3 hb_15
  replace a0_l := Nat.lt_of_lt_of_le a0_l hb_15.size
  replace hB := hB.trans (hb_15.mono hB.size)
  have sz_20 := hb_15.size
  go_wp2_with fail
  refine (HS.out w3 _ _ _ _ _ _ _ _ hB ((own_11.inn).more (by omega)) ((own_12.inn).more (by omega)) ((own_13.inn).more (by omega)) ((own_14.inn).more (by omega))).mono ?_
  rintro e w4 ⟨R_22, d_23, rfl, own_24, hb_21⟩
  clear own_11 own_12 own_13 own_14
  replace in0a := in0a.next hb_21 (by omega)
  replace in0b := in0b.next hb_21 (by omega)
  replace in0c := in0c.next hb_21 (by omega)
  replace in0d := in0d.next hb_21 (by omega)
  replace a0_0 := cell_next a0_0 hb_21
  replace a0_1 := cell_next a0_1 hb_21
  replace a0_2 := cell_next a0_2 hb_21
  replace a0_3 := cell_next a0_3 hb_21
  replace a0_l := Nat.lt_of_lt_of_le a0_l hb_21.size
  replace hB := hB.trans (hb_21.mono hB.size)
  have sz_25 := hb_21.size
  go_wp2_with fail
  refine (toAnnotated_k A0 n0 cap0 t0 B0 m0 cbp0 y0 D0 o0 dap0 x0 E0 f0 eap0 p0 _ _ in0a in0b in0c in0d (by omega) h0ok h0eok h0gok h0fok h0sok h0uok h0vok).mono ?_
  rintro e w5 ⟨g_26, g_27, g_28, g_29, mid_35, mid_36, mid_37, rfl, own_30, own_31, own_32, own_33, md_38, hb_34⟩
  replace in0a := in0a.next hb_34 (by omega)
  replace in0b := in0b.next hb_34 (by omega)
  replace in0c := in0c.next hb_34 (by omega)
  replace in0d := in0d.next hb_34 (by omega)
  replace a0_0 := cell_next a0_0 hb_34
  replace a0_1 := cell_next a0_1 hb_34
  replace a0_2 := cell_next a0_2 hb_34
  replace a0_3 := cell_next a0_3 hb_34
  replace a0_l := Nat.lt_of_lt_of_le a0_l hb_34.size
  replace own_24 := own_24.next hb_34
  replace hB := hB.trans (hb_34.mono hB.size)
  have sz_39 := hb_34.size
  go_wp2_with fail
  have hb_40 : Below w5.heap.size w5 (w5.alloc (.cells #[.slice (some ⟨g_26, 0, none⟩) n0 n0, .slice (some ⟨g_27, 0, none⟩) m0 m0, .slice (some ⟨g_28, 0, none⟩) o0 o0, .slice (some ⟨g_29, 0, none⟩) f0 f0] 35)) := bnew _ _
  have sz_41 : w5.heap.size < (w5.alloc (.cells #[.slice (some ⟨g_26, 0, none⟩) n0 n0, .slice (some ⟨g_27, 0, none⟩) m0 m0, .slice (some ⟨g_28, 0, none⟩) o0 o0, .slice (some ⟨g_29, 0, none⟩) f0 f0] 35)).heap.size := by simp
  have x0_0 : (w5.alloc (.cells #[.slice (some ⟨g_26, 0, none⟩) n0 n0, .slice (some ⟨g_27, 0, none⟩) m0 m0, .slice (some ⟨g_28, 0, none⟩) o0 o0, .slice (some ⟨g_29, 0, none⟩) f0 f0] 35)).cell? ⟨w5.heap.size, 0, none⟩ = some (.slice (some ⟨g_26, 0, none⟩) n0 n0) := by simp
  have x0_1 : (w5.alloc (.cells #[.slice (some ⟨g_26, 0, none⟩) n0 n0, .slice (some ⟨g_27, 0, none⟩) m0 m0, .slice (some ⟨g_28, 0, none⟩) o0 o0, .slice (some ⟨g_29, 0, none⟩) f0 f0] 35)).cell? ⟨w5.heap.size, 1, none⟩ = some (.slice (some ⟨g_27, 0, none⟩) m0 m0) := by simp
  have x0_2 : (w5.alloc (.cells #[.slice (some ⟨g_26, 0, none⟩) n0 n0, .slice (some ⟨g_27, 0, none⟩) m0 m0, .slice (some ⟨g_28, 0, none⟩) o0 o0, .slice (some ⟨g_29, 0, none⟩) f0 f0] 35)).cell? ⟨w5.heap.size, 2, none⟩ = some (.slice (some ⟨g_28, 0, none⟩) o0 o0) := by simp
  have x0_3 : (w5.alloc (.cells #[.slice (some ⟨g_26, 0, none⟩) n0 n0, .slice (some ⟨g_27, 0, none⟩) m0 m0, .slice (some ⟨g_28, 0, none⟩) o0 o0, .slice (some ⟨g_29, 0, none⟩) f0 f0] 35)).cell? ⟨w5.heap.size, 3, none⟩ = some (.slice (some ⟨g_29, 0, none⟩) f0 f0) := by simp
  have x0_l := sz_41
  generalize w5.alloc (.cells #[.slice (some ⟨g_26, 0, none⟩) n0 n0, .slice (some ⟨g_27, 0, none⟩) m0 m0, .slice (some ⟨g_28, 0, none⟩) o0 o0, .slice (some ⟨g_29, 0, none⟩) f0 f0] 35) = w6 at hb_40 x0_0 x0_1 x0_2 x0_3 sz_41 x0_l ⊢
  replace in0a := in0a.next hb_40 (by omega)
  replace in0b := in0b.next hb_40 (by omega)
  replace in0c := in0c.next hb_40 (by omega)
  replace in0d := in0d.next hb_40 (by omega)
  replace a0_0 := cell_next a0_0 hb_40
  replace a0_1 := cell_next a0_1 hb_40
  replace a0_2 := cell_next a0_2 hb_40
  replace a0_3 := cell_next a0_3 hb_40
  replace a0_l := Nat.lt_of_lt_of_le a0_l hb_40.size
  replace own_24 := own_24.next hb_40
  replace own_30 := own_30.next hb_40
  replace own_31 := own_31.next hb_40
  replace own_32 := own_32.next hb_40
  replace own_33 := own_33.next hb_40
  replace hB := hB.trans (hb_40.mono hB.size)
  have sz_42 := hb_40.size
  refine (HI.out w6 _ _ _ _ _ _ _ _ hB ((own_30.inn).more (by omega)) ((own_31.inn).more (by omega)) ((own_32.inn).more (by omega)) ((own_33.inn).more (by omega))).mono ?_
  rintro e w7 ⟨R_44, d_45, rfl, own_46, hb_43⟩
  replace in0a := in0a.next hb_43 (by omega)
  replace in0b := in0b.next hb_43 (by omega)
  replace in0c := in0c.next hb_43 (by omega)
  replace in0d := in0d.next hb_43 (by omega)
  replace a0_0 := cell_next a0_0 hb_43
  replace a0_1 := cell_next a0_1 hb_43
  replace a0_2 := cell_next a0_2 hb_43
  replace a0_3 := cell_next a0_3 hb_43
  replace a0_l := Nat.lt_of_lt_of_le a0_l hb_43.size
  replace own_24 := own_24.next hb_43
  replace own_30 := own_30.next hb_43
  replace own_31 := own_31.next hb_43
  replace own_32 := own_32.next hb_43
  replace own_33 := own_33.next hb_43
  replace x0_0 := cell_next x0_0 hb_43
  replace x0_1 := cell_next x0_1 hb_43
  replace x0_2 := cell_next x0_2 hb_43
  replace x0_3 := cell_next x0_3 hb_43
  replace x0_l := Nat.lt_of_lt_of_le x0_l hb_43.size
  replace hB := hB.trans (hb_43.mono hB.size)
  have sz_47 := hb_43.size
  go_wp2_with fail
  -- if !eqInt64S(g0, w0) || g1 != w1 {
  refine (eqInt64S_k R_44 R_22 l00 d_45 d_23 _ _ y00 _ own_46.inn own_24.inn (by omega) (by omega) (by omega)).mono ?_
  rintro e w8 ⟨rfl, hb_48⟩
  replace in0a := in0a.next hb_48 (by omega)
  replace in0b := in0b.next hb_48 (by omega)
  replace in0c := in0c.next hb_48 (by omega)
  replace in0d := in0d.next hb_48 (by omega)
  replace a0_0 := cell_next a0_0 hb_48
  replace a0_1 := cell_next a0_1 hb_48
  replace a0_2 := cell_next a0_2 hb_48
  replace a0_3 := cell_next a0_3 hb_48
  replace a0_l := Nat.lt_of_lt_of_le a0_l hb_48.size
  replace own_24 := own_24.next hb_48
  replace own_30 := own_30.next hb_48
  replace own_31 := own_31.next hb_48
  replace own_32 := own_32.next hb_48
  replace own_33 := own_33.next hb_48
  replace x0_0 := cell_next x0_0 hb_48
  replace x0_1 := cell_next x0_1 hb_48
  replace x0_2 := cell_next x0_2 hb_48
  replace x0_3 := cell_next x0_3 hb_48
  replace x0_l := Nat.lt_of_lt_of_le x0_l hb_48.size
  replace own_46 := own_46.next hb_48
  replace hB := hB.trans (hb_48.mono hB.size)
  have sz_49 := hb_48.size
  go_wp2_with fail
  have HT_50 := Lib.hid (toAnnotated_k A0 n0 cap0 t0 B0 m0 cbp0 y0 D0 o0 dap0 x0 E0 f0 eap0 p0 _ w8.drew in0a.drew in0b.drew in0c.drew in0d.drew (by show _ ≤ w8.heap.size; omega) h0ok h0eok h0gok h0fok h0sok h0uok h0vok)
  have HE_51 : Hid (∀ w9 g_52 g_53 g_54 g_55 mid_61 mid_62 mid_63, Below w8.drew.heap.size w8.drew w9 → OwnTS w9 w8.drew.heap.size mid_61 (some ⟨g_52, 0, none⟩) n0 n0 t0 → OwnTS w9 mid_61 mid_62 (some ⟨g_53, 0, none⟩) m0 m0 y0 → OwnC w9 mid_62 mid_63 (some ⟨g_54, 0, none⟩) o0 o0 x0 → OwnP2 w9 mid_63 w9.heap.size (some ⟨g_55, 0, none⟩) f0 f0 p0 → w8.drew.heap.size ≤ mid_61 ∧ mid_61 ≤ mid_62 ∧ mid_62 ≤ mid_63 ∧ mid_63 ≤ w9.heap.size → Calls Tryz.prog 11 #[.agg #[.slice (some ⟨g_26, 0, none⟩) n0 n0, .slice (some ⟨g_27, 0, none⟩) m0 m0, .slice (some ⟨g_28, 0, none⟩) o0 o0, .slice (some ⟨g_29, 0, none⟩) f0 f0], .agg #[.slice (some ⟨g_52, 0, none⟩) n0 n0, .slice (some ⟨g_53, 0, none⟩) m0 m0, .slice (some ⟨g_54, 0, none⟩) o0 o0, .slice (some ⟨g_55, 0, none⟩) f0 f0]] w9 fun e w' => e = .returned (.bool true) ∧ Below w9.heap.size w9 w') := fun w9 g_52 g_53 g_54 g_55 mid_61 mid_62 mid_63 hb_60 own_56 own_57 own_58 own_59 md_64 => eqAnnotated_k (some ⟨g_26, 0, none⟩) n0 n0 t0 (some ⟨g_27, 0, none⟩) m0 m0 y0 (some ⟨g_28, 0, none⟩) o0 o0 x0 (some ⟨g_29, 0, none⟩) f0 f0 p0 (some ⟨g_52, 0, none⟩) n0 (some ⟨g_53, 0, none⟩) m0 (some ⟨g_54, 0, none⟩) o0 (some ⟨g_55, 0, none⟩) f0 (w9.heap.size) (w9.heap.size) w9 (((own_30.inn).call (by omega) hb_60).more (le_call (by omega) hb_60)) (((own_31.inn).call (by omega) hb_60).more (le_call (by omega) hb_60)) (((own_32.inn).call (by omega) hb_60).more (le_call (by omega) hb_60)) (((own_33.inn).call (by omega) hb_60).more (le_call (by omega) hb_60)) ((own_56.inn).more (by omega)) ((own_57.inn).more (by omega)) ((own_58.inn).more (by omega)) ((own_59.inn).more (by omega)) (Nat.le_refl _) (Nat.le_refl _) h0ok h0eok h0gok h0fok h0sok h0uok h0vok
  go_region_held3 (fun w' => w'.cell? ⟨w.heap.size, 0, none⟩ = some (.slice A0 n0 cap0) ∧ w'.cell? ⟨w.heap.size, 1, none⟩ = some (.slice B0 m0 cbp0) ∧ w'.cell? ⟨w.heap.size, 2, none⟩ = some (.slice D0 o0 dap0) ∧ w'.cell? ⟨w.heap.size, 3, none⟩ = some (.slice E0 f0 eap0) ∧ w'.cell? ⟨w5.heap.size, 0, none⟩ = some (.slice (some ⟨g_26, 0, none⟩) n0 n0) ∧ w'.cell? ⟨w5.heap.size, 1, none⟩ = some (.slice (some ⟨g_27, 0, none⟩) m0 m0) ∧ w'.cell? ⟨w5.heap.size, 2, none⟩ = some (.slice (some ⟨g_28, 0, none⟩) o0 o0) ∧ w'.cell? ⟨w5.heap.size, 3, none⟩ = some (.slice (some ⟨g_29, 0, none⟩) f0 f0))
    (first | go_keep | exact ⟨cell_on a0_0 hb_60, cell_on a0_1 hb_60, cell_on a0_2 hb_60, cell_on a0_3 hb_60, cell_on x0_0 hb_60, cell_on x0_1 hb_60, cell_on x0_2 hb_60, cell_on x0_3 hb_60⟩ | exact ⟨cell_on2 a0_0 hb_60 hb_66, cell_on2 a0_1 hb_60 hb_66, cell_on2 a0_2 hb_60 hb_66, cell_on2 a0_3 hb_60 hb_66, cell_on2 x0_0 hb_60 hb_66, cell_on2 x0_1 hb_60 hb_66, cell_on2 x0_2 hb_60 hb_66, cell_on2 x0_3 hb_60 hb_66⟩)
    (first | (go_at_call 8; refine HT_50.out.mono ?_; rintro e w9 ⟨g_52, g_53, g_54, g_55, mid_61, mid_62, mid_63, rfl, own_56, own_57, own_58, own_59, md_64, hb_60⟩) | (go_at_call 11; refine (HE_51.out _ _ _ _ _ _ _ _ hb_60 own_56 own_57 own_58 own_59 md_64).mono ?_; rintro e w10 ⟨rfl, hb_66⟩))
  replace hb_60 := (bstep hb_60)
  replace in0a := in0a.next hb_60 (by omega)
  replace in0b := in0b.next hb_60 (by omega)
  replace in0c := in0c.next hb_60 (by omega)
  replace in0d := in0d.next hb_60 (by omega)
  replace a0_0 := cell_next a0_0 hb_60
  replace a0_1 := cell_next a0_1 hb_60
  replace a0_2 := cell_next a0_2 hb_60
  replace a0_3 := cell_next a0_3 hb_60
  replace a0_l := Nat.lt_of_lt_of_le a0_l hb_60.size
  replace own_24 := own_24.next hb_60
  replace own_30 := own_30.next hb_60
  replace own_31 := own_31.next hb_60
  replace own_32 := own_32.next hb_60
  replace own_33 := own_33.next hb_60
  replace x0_0 := cell_next x0_0 hb_60
  replace x0_1 := cell_next x0_1 hb_60
  replace x0_2 := cell_next x0_2 hb_60
  replace x0_3 := cell_next x0_3 hb_60
  replace x0_l := Nat.lt_of_lt_of_le x0_l hb_60.size
  replace own_46 := own_46.next hb_60
  replace hB := hB.trans (hb_60.mono hB.size)
  have sz_67 := hb_60.size
  replace in0a := in0a.next hb_66 (by omega)
  replace in0b := in0b.next hb_66 (by omega)
  replace in0c := in0c.next hb_66 (by omega)
  replace in0d := in0d.next hb_66 (by omega)
  replace a0_0 := cell_next a0_0 hb_66
  replace a0_1 := cell_next a0_1 hb_66
  replace a0_2 := cell_next a0_2 hb_66
  replace a0_3 := cell_next a0_3 hb_66
  replace a0_l := Nat.lt_of_lt_of_le a0_l hb_66.size
  replace own_24 := own_24.next hb_66
  replace own_30 := own_30.next hb_66
  replace own_31 := own_31.next hb_66
  replace own_32 := own_32.next hb_66
  replace own_33 := own_33.next hb_66
  replace x0_0 := cell_next x0_0 hb_66
  replace x0_1 := cell_next x0_1 hb_66
  replace x0_2 := cell_next x0_2 hb_66
  replace x0_3 := cell_next x0_3 hb_66
  replace x0_l := Nat.lt_of_lt_of_le x0_l hb_66.size
  replace own_46 := own_46.next hb_66
  replace hB := hB.trans (hb_66.mono hB.size)
  have sz_68 := hb_66.size
  clear HT_50 HE_51 own_56 own_57 own_58 own_59
  go_wp2_with fail
  refine (markAnnotated_k w4.heap.size mid_35 mid_36 mid_37 w5.heap.size (some ⟨g_26, 0, none⟩) n0 n0 t0 (some ⟨g_27, 0, none⟩) m0 m0 y0 (some ⟨g_28, 0, none⟩) o0 o0 x0 (some ⟨g_29, 0, none⟩) f0 f0 p0 1 _ own_30 own_31 own_32 own_33 (by omega) (by omega) (by omega) (by omega) (by omega) (by omega) (by omega) (by omega) (by omega) (by omega) (by omega) (by omega) (by omega) (by omega)).mono ?_
  rintro e w11 ⟨rfl, own_70, own_71, own_72, own_73, ho_69⟩
  replace in0a := in0a.out ho_69 (by omega) (by omega)
  replace in0b := in0b.out ho_69 (by omega) (by omega)
  replace in0c := in0c.out ho_69 (by omega) (by omega)
  replace in0d := in0d.out ho_69 (by omega) (by omega)
  replace a0_0 := ho_69.cell a0_0 (by omega)
  replace a0_1 := ho_69.cell a0_1 (by omega)
  replace a0_2 := ho_69.cell a0_2 (by omega)
  replace a0_3 := ho_69.cell a0_3 (by omega)
  replace a0_l := Nat.lt_of_lt_of_le a0_l ho_69.size
  replace own_24 := own_24.out ho_69 (by omega)
  replace x0_0 := ho_69.cell x0_0 (by omega)
  replace x0_1 := ho_69.cell x0_1 (by omega)
  replace x0_2 := ho_69.cell x0_2 (by omega)
  replace x0_3 := ho_69.cell x0_3 (by omega)
  replace x0_l := Nat.lt_of_lt_of_le x0_l ho_69.size
  replace own_46 := own_46.out ho_69 (by omega)
  replace hB := hB.trans (ho_69.below (by omega) (by omega))
  have sz_74 := ho_69.size
  clear own_30 own_31 own_32 own_33
  have mk_75 : (0 : Int) ≤ 1 + ((n0 + totT t0 : Nat) : Int) + ((m0 + totT y0 : Nat) : Int) + 2 * (o0 : Int) + ((1 * f0 + totP2 p0 : Nat) : Int) := by omega
  clear x0_0 x0_1 x0_2 x0_3 x0_l
  clear own_70 own_71 own_72 own_73
  go_wp2_with fail
  -- if k < 0 || !eqInt64S(g0, w0) || g1 != w1 {
  refine (eqInt64S_k R_44 R_22 l00 d_45 d_23 _ _ y00 _ own_46.inn own_24.inn (by omega) (by omega) (by omega)).mono ?_
  rintro e w12 ⟨rfl, hb_76⟩
  replace in0a := in0a.next hb_76 (by omega)
  replace in0b := in0b.next hb_76 (by omega)
  replace in0c := in0c.next hb_76 (by omega)
  replace in0d := in0d.next hb_76 (by omega)
  replace a0_0 := cell_next a0_0 hb_76
  replace a0_1 := cell_next a0_1 hb_76
  replace a0_2 := cell_next a0_2 hb_76
  replace a0_3 := cell_next a0_3 hb_76
  replace a0_l := Nat.lt_of_lt_of_le a0_l hb_76.size
  replace own_24 := own_24.next hb_76
  replace own_46 := own_46.next hb_76
  replace hB := hB.trans (hb_76.mono hB.size)
  have sz_77 := hb_76.size
  go_wp2_with fail
  refine (markInt64S_k w6.heap.size w7.heap.size R_44 l00 d_45 y00 1 _ own_46 (by omega) (by omega) (by omega)).mono ?_
  rintro e w13 ⟨rfl, own_79, ho_78⟩
  replace in0a := in0a.out ho_78 (by omega) (by omega)
  replace in0b := in0b.out ho_78 (by omega) (by omega)
  replace in0c := in0c.out ho_78 (by omega) (by omega)
  replace in0d := in0d.out ho_78 (by omega) (by omega)
  replace a0_0 := ho_78.cell a0_0 (by omega)
  replace a0_1 := ho_78.cell a0_1 (by omega)
  replace a0_2 := ho_78.cell a0_2 (by omega)
  replace a0_3 := ho_78.cell a0_3 (by omega)
  replace a0_l := Nat.lt_of_lt_of_le a0_l ho_78.size
  replace own_24 := own_24.out ho_78 (by omega)
  replace hB := hB.trans (ho_78.below (by omega) (by omega))
  have sz_80 := ho_78.size
  clear own_46
  go_wp2_with fail
  refine (heldInt64S_k R_44 l00 d_45 _ 1 _ own_79.inn (by omega) (by omega) (by omega)).mono ?_
  rintro e w14 ⟨rfl, hb_81⟩
  replace in0a := in0a.next hb_81 (by omega)
  replace in0b := in0b.next hb_81 (by omega)
  replace in0c := in0c.next hb_81 (by omega)
  replace in0d := in0d.next hb_81 (by omega)
  replace a0_0 := cell_next a0_0 hb_81
  replace a0_1 := cell_next a0_1 hb_81
  replace a0_2 := cell_next a0_2 hb_81
  replace a0_3 := cell_next a0_3 hb_81
  replace a0_l := Nat.lt_of_lt_of_le a0_l hb_81.size
  replace own_24 := own_24.next hb_81
  replace own_79 := own_79.next hb_81
  replace hB := hB.trans (hb_81.mono hB.size)
  have sz_82 := hb_81.size
  go_wp2_with fail
  refine (toAnnotated_k A0 n0 cap0 t0 B0 m0 cbp0 y0 D0 o0 dap0 x0 E0 f0 eap0 p0 _ _ in0a in0b in0c in0d (by omega) h0ok h0eok h0gok h0fok h0sok h0uok h0vok).mono ?_
  rintro e w15 ⟨g_83, g_84, g_85, g_86, mid_92, mid_93, mid_94, rfl, own_87, own_88, own_89, own_90, md_95, hb_91⟩
  replace in0a := in0a.next hb_91 (by omega)
  replace in0b := in0b.next hb_91 (by omega)
  replace in0c := in0c.next hb_91 (by omega)
  replace in0d := in0d.next hb_91 (by omega)
  replace a0_0 := cell_next a0_0 hb_91
  replace a0_1 := cell_next a0_1 hb_91
  replace a0_2 := cell_next a0_2 hb_91
  replace a0_3 := cell_next a0_3 hb_91
  replace a0_l := Nat.lt_of_lt_of_le a0_l hb_91.size
  replace own_24 := own_24.next hb_91
  replace own_79 := own_79.next hb_91
  replace hB := hB.trans (hb_91.mono hB.size)
  have sz_96 := hb_91.size
  go_wp2_with fail
  refine (HI.out w15 _ _ _ _ _ _ _ _ hB ((own_87.inn).more (by omega)) ((own_88.inn).more (by omega)) ((own_89.inn).more (by omega)) ((own_90.inn).more (by omega))).mono ?_
  rintro e w16 ⟨R_98, d_99, rfl, own_100, hb_97⟩
  clear own_87 own_88 own_89 own_90
  replace in0a := in0a.next hb_97 (by omega)
  replace in0b := in0b.next hb_97 (by omega)
  replace in0c := in0c.next hb_97 (by omega)
  replace in0d := in0d.next hb_97 (by omega)
  replace a0_0 := cell_next a0_0 hb_97
  replace a0_1 := cell_next a0_1 hb_97
  replace a0_2 := cell_next a0_2 hb_97
  replace a0_3 := cell_next a0_3 hb_97
  replace a0_l := Nat.lt_of_lt_of_le a0_l hb_97.size
  replace own_24 := own_24.next hb_97
  replace own_79 := own_79.next hb_97
  replace hB := hB.trans (hb_97.mono hB.size)
  have sz_101 := hb_97.size
  go_wp2_with fail
  -- if !eqInt64S(h0, w0) || h1 != w1 {
  refine (eqInt64S_k R_98 R_22 l00 d_99 d_23 _ _ y00 _ own_100.inn own_24.inn (by omega) (by omega) (by omega)).mono ?_
  rintro e w17 ⟨rfl, hb_102⟩
  replace in0a := in0a.next hb_102 (by omega)
  replace in0b := in0b.next hb_102 (by omega)
  replace in0c := in0c.next hb_102 (by omega)
  replace in0d := in0d.next hb_102 (by omega)
  replace a0_0 := cell_next a0_0 hb_102
  replace a0_1 := cell_next a0_1 hb_102
  replace a0_2 := cell_next a0_2 hb_102
  replace a0_3 := cell_next a0_3 hb_102
  replace a0_l := Nat.lt_of_lt_of_le a0_l hb_102.size
  replace own_24 := own_24.next hb_102
  replace own_79 := own_79.next hb_102
  replace own_100 := own_100.next hb_102
  replace hB := hB.trans (hb_102.mono hB.size)
  have sz_103 := hb_102.size
  go_wp2_with fail
  clear own_100
  refine (heldInt64S_k R_44 l00 d_45 _ 1 _ own_79.inn (by omega) (by omega) (by omega)).mono ?_
  rintro e w18 ⟨rfl, hb_104⟩
  replace in0a := in0a.next hb_104 (by omega)
  replace in0b := in0b.next hb_104 (by omega)
  replace in0c := in0c.next hb_104 (by omega)
  replace in0d := in0d.next hb_104 (by omega)
  replace a0_0 := cell_next a0_0 hb_104
  replace a0_1 := cell_next a0_1 hb_104
  replace a0_2 := cell_next a0_2 hb_104
  replace a0_3 := cell_next a0_3 hb_104
  replace a0_l := Nat.lt_of_lt_of_le a0_l hb_104.size
  replace own_24 := own_24.next hb_104
  replace own_79 := own_79.next hb_104
  replace hB := hB.trans (hb_104.mono hB.size)
  have sz_105 := hb_104.size
  go_wp2_with fail
  go_ret
  exact ⟨rfl, hB⟩

set_option maxRecDepth 100000 in
set_option maxHeartbeats 4000000 in
theorem walk (A0 : Option Addr) (n0 cap0 : Nat) (t0 : List (Int × List Int)) (B0 : Option Addr) (m0 cbp0 : Nat) (y0 : List (Int × List Int)) (D0 : Option Addr) (o0 dap0 : Nat) (x0 : List (Int × Int)) (E0 : Option Addr) (f0 eap0 : Nat) (p0 : List P2) (w : World) (hT : TabZ w) (h0in : InTS w w.heap.size A0 n0 t0) (h0max : n0 ≤ maxLen) (h0each : ∀ t ∈ t0, t.2.length ≤ maxLen) (h0gin : InTS w w.heap.size B0 m0 y0) (h0gmax : m0 ≤ maxLen) (h0geach : ∀ t ∈ y0, t.2.length ≤ maxLen) (h0sin : InC w w.heap.size D0 o0 x0) (h0smax : o0 ≤ maxLen) (h0uin : InP2 w w.heap.size E0 f0 p0) (h0umax : f0 ≤ maxLen) (h0ueach : ∀ y ∈ p0, y.fits) :
    Calls Tryz.prog 4 #[.agg #[.slice A0 n0 cap0, .slice B0 m0 cbp0, .slice D0 o0 dap0, .slice E0 f0 eap0]] w fun e w' => e = .returned (.bool true) ∧ Below w.heap.size w w' := by
  by_cases hn : (n0 + totT t0) + (m0 + totT y0) + o0 + (f0 + totP2 p0) ≤ 1048576
  · have hk := opnR_len t0 y0 x0 p0
    exact road A0 n0 cap0 t0 B0 m0 cbp0 y0 D0 o0 dap0 x0 E0 f0 eap0 p0 w h0in h0gin h0sin h0uin (by omega) (by omega) (by omega) (by omega) (by omega) (by omega) (by omega) (by omega)
      (opnR t0 y0 x0 p0).1 (opnR t0 y0 x0 p0).1.length (opnR t0 y0 x0 p0).2 (by omega)
      (fun w0 a00 u00 a01 u01 a02 u02 a03 u03 hbb g0 g1 g2 g3 => specOpn_c a00 n0 u00 t0 a01 m0 u01 y0 a02 o0 u02 x0 a03 f0 u03 p0 w0 g0 g1 g2 g3 (by omega) (by omega) (by omega) (by omega) (by omega) (by omega) (by omega))
      (fun w0 a00 u00 a01 u01 a02 u02 a03 u03 hbb g0 g1 g2 g3 => implOpn_c a00 n0 u00 t0 a01 m0 u01 y0 a02 o0 u02 x0 a03 f0 u03 p0 w0 g0 g1 g2 g3 (by omega) (by omega) (by omega) (by omega) (by omega) (by omega) (by omega) (hT.next hbb))
  · exact early0 A0 n0 cap0 t0 B0 m0 cbp0 y0 D0 o0 dap0 x0 E0 f0 eap0 p0 w h0in h0gin h0sin h0uin (by omega) h0max h0each h0gmax h0geach h0smax h0umax h0ueach

/-- The cells of a table. -/
def litCells : DataW Unit → List Value
  | .lit (.int k z) => [Value.int k z]
  | .lit (.bool b) => [Value.bool b]
  | .lit (.string l) => [Value.string ⟨l.toArray⟩]
  | _ => []
def tabCells : DataW Unit → List Value
  | .agg l => l.flatMap fun x => match x with
    | .agg r => r.flatMap litCells
    | x => litCells x
  | _ => []
/-- A world that meets the list. -/
noncomputable def laidWorld (os : Os) : World :=
  let w0 := World.holding Tryz.prog os ⟨#[], #[], []⟩
  let put (g : Nat) (d : DataW Unit) (h : Array Obj) : Array Obj := h.modify g fun
      | .cells _ t frozen => .cells (tabCells d).toArray t frozen
      | o => o
  { w0 with heap := put 1 (Rows.laid_math_bits_deBruijn64tab) w0.heap }
theorem laidWorld_met (os : Os) (args : Array Value) : laidMetH Tryz.prog Rows.fnExactOpenLoopsRow.laid ((laidWorld os).forCall (fun _ _ => 0) ⟨#[], args, []⟩).memory :=
  laidMetH_of_parts (laidMet_of_run' 8 (by kernel_rfl) (by kernel_rfl)) (by kernel_rfl)

set_option maxRecDepth 100000 in
set_option maxHeartbeats 4000000 in
theorem lifted (os : Os) (started : os.Started) (H : Type) (enc : TypeId × Value → H) :
    ReturnsInHanded {} Tryz.checked os 4 .any (fun w args => (Rows.fnExactOpenLoopsSpec.pre enc Tryz.prog Tryz.f4 [] false w args ∧ laidMetH Tryz.prog Rows.fnExactOpenLoopsRow.laid w) ∧ sizedMet enc Tryz.prog Tryz.f4 (OpenSpec.ofChange Rows.fnExactOpenLoopsSpec) false w args) (Rows.fnExactOpenLoopsSpec.post enc Tryz.prog Tryz.f4 false true false false) := by
  refine returnsInHanded_of_change_and (C := Tryz.checked) (X := fun w _ => laidMetH Tryz.prog Rows.fnExactOpenLoopsRow.laid w) (fun _ _ _ hh h => h.of_heap hh) own started (by kernel_rfl) Tryz.func4
    (ChangeSpec.witness_at (enc := enc) (C := Tryz.checked) (os := os) (X := fun w _ => laidMetH Tryz.prog Rows.fnExactOpenLoopsRow.laid w) false (laidWorld os) #[.agg #[.slice none 0 0, .slice none 0 0, .slice none 0 0, .slice none 0 0]] 8 rfl (by kernel_rfl) (by kernel_rfl) (by kernel_rfl) (by kernel_rfl) (by kernel_rfl) (laidWorld_met os _)) ?_
  intro W base args ds gs before hval0 hW _ _ hL _
  have hval : ∀ (j : Nat) t v, Tryz.f4.params[j]? = some t → args[j]? = some v → Value.okWide Tryz.prog W .any base t v := hval0
  have hW' := hW
  obtain ⟨p, q, hA0, hV, rfl, hfz, hnd⟩ := hW
  have hA : DataW.TrodAll enc Tryz.prog W 0 (fun _ => true) true Tryz.f4.params.toList args.toList ds p := hA0
  rw [Tryz.params4] at hA hval
  obtain ⟨v0, vs0, d0, ds0, p0, q0, hargs, rfl, rfl, g0, r0⟩ := trodAll_cons hA
  obtain ⟨rfl, rfl, rfl⟩ := trodAll_nil r0
  obtain rfl : args = #[v0] := by cases args; simp_all
  obtain ⟨rfl, rfl⟩ := trodVars_none hV
  have k0 := g0
  have lt0 : ∀ x ∈ p0, x.block < W.heap.size := by obtain ⟨m, hm⟩ := k0; exact DataW.trod_lt m _ _ _ hm
  obtain ⟨A0, n0, cap0, t0, B0, m0, cbp0, y0, D0, o0, dap0, x0, E0, f0, eap0, p0, rfl, h0in, h0max, h0each, h0gin, h0gmax, h0geach, h0sin, h0smax, h0uin, h0umax, h0ueach⟩ := annotated_in (hval 0 26 v0 rfl rfl) g0
  clear hA0 hval0
  simp only [List.append_nil] at hW'
  have hg := tabZ_of_laid (laid := Rows.fnExactOpenLoopsRow.laid) rfl hL
  refine (walk A0 n0 cap0 t0 B0 m0 cbp0 y0 D0 o0 dap0 x0 E0 f0 eap0 p0 W hg h0in h0max h0each h0gin h0gmax h0geach h0sin h0smax h0uin h0umax h0ueach).mono fun e W' ⟨he, bel⟩ => ?_
  subst he
  exact ⟨_, rfl, _, _, _, [], _, [], hW', trodAll_mk1 (shut_bool Tryz.underlying4 _), (trodAll_cons_mk (Below.trod laidOut (by kernel_rfl) (of_decide_eq_true (by kernel_rfl)) k0 bel lt0) trodAll_mk0), rfl, bel.frame _, fun h => by cases h⟩

theorem said : Rows.FnExactOpenLoopsSaid :=
  OpenClaim.holds_of_wide 4 Tryz.f4 rfl rfl rfl rfl rfl rfl rfl ⟨rfl, rfl, rfl, rfl, rfl⟩ rfl rfl rfl rfl rfl (by kernel_rfl) Tryz.func4 (by kernel_rfl)
    (of_decide_eq_true (by kernel_rfl)) (by unfold Func.isWrapper; first | (rw [if_pos (by decide +kernel)]; kernel_rfl) | (rw [if_neg (by decide +kernel)]; exact ⟨rfl, rfl⟩))
    (fun os started H enc _ => lifted os started H enc)

/-- No parameter wants a stand-in; the program's own looks are as told: what the card asks. -/
theorem plain (f : FuncId) (fn : Func) (hf : Tryz.pinned.checked.prog.funcNamed "loop.example/g01105/laws.FnExactOpenLoops" = some f) (hfn : Tryz.pinned.checked.prog.funcs[f]? = some fn) :
    false = Tryz.pinned.checked.prog.looks [] ∧ ∀ (j : Nat) t, fn.params[j]? = some t → Tryz.pinned.checked.prog.wantsStandIn t = false := by
  obtain rfl : f = 4 := Option.some.inj ((show Tryz.prog.funcNamed "loop.example/g01105/laws.FnExactOpenLoops" = some 4 by kernel_rfl).symm.trans hf) |>.symm
  obtain rfl : fn = Tryz.f4 := (Option.some.inj (Tryz.func4.symm.trans hfn)).symm
  refine ⟨by kernel_rfl, fun j t ht => ?_⟩
  rw [Tryz.params4] at ht
  have hm : t = 26 := by simpa using Array.mem_of_getElem? ht
  subst hm
  exact (show Tryz.prog.wantsStandIn 26 = false by kernel_rfl)

/-- The card. -/
theorem proved : Rows.FnExactOpenLoopsCardSaid :=
  Claim7.holds_tied_plain_at .later [] _ _ _ _ said (fun _ h => by cases h) (by kernel_rfl) (fun _ h => by cases h) fnExactOpenLoops_row_tie rfl ⟨rfl, rfl⟩ (by kernel_rfl) rfl plain (by kernel_rfl)
#print axioms proved
end Go.Proofs.YtffkdidgfeknkaaGreatDoor.fnExactOpenLoops
