/-
  For all annotated code the program's LongestWay answers as the model's, and leaves the code as it was.
  Conditions: those that the card itself bears (the tables that the program's text lays).
-/
import Derived.Test.YtffkdidgfeknkaaGreatDoorRows
import Derived.WalkKit
import Derived.ProofKit
import Derived.OpenShut
import Derived.ShutString
import Derived.ChangeOld
import Derived.Below
import Derived.WalkSmall
import Derived.Test.YtffkdidgfeknkaaGreatDoorTms
import Derived.Test.YtffkdidgfeknkaaGreatDoorCards
import Derived.Test.YtffkdidgfeknkaaGreatDoorTie
import Derived.ChangeSame
import Derived.ChangeVars
import Derived.OpenVars
import Derived.JoinedOf
import Derived.RowKit
import Derived.RowKitTokens
import Derived.LaidLaws
import Derived.LaidHandle
import Derived.Stop.LaidErr
import Derived.Stop.Joined
import Derived.SevenTiedAt
import Derived.Test.YtffkdidgfeknkaaGreatDoorAnnM
import Derived.Test.YtffkdidgfeknkaaGreatDoorBunP
import Derived.Test.YtffkdidgfeknkaaGreatDoorWayI
import Derived.Test.YtffkdidgfeknkaaGreatDoorBunO
namespace Go.Proofs.YtffkdidgfeknkaaGreatDoor.fnExactLongestWay
open Go.ChangeShapes Go.WideShapes Go.ChangeAt Go.RowKit
open Go.ChangeMaps (open_string shut_string)
set_option linter.unusedVariables false

theorem own : ownKnob Tryz.prog.godebug = none := by kernel_rfl
theorem laidOut : laidOutB Tryz.prog = true := by kernel_rfl
set_option maxRecDepth 100000 in
set_option maxHeartbeats 8000000 in
theorem early0 (A0 : Option Addr) (n0 cap0 : Nat) (t0 : List (Int × List Int)) (B0 : Option Addr) (m0 cbp0 : Nat) (y0 : List (Int × List Int)) (D0 : Option Addr) (o0 dap0 : Nat) (x0 : List (Int × Int)) (E0 : Option Addr) (f0 eap0 : Nat) (p0 : List P2) (w : World) (in0a : InTS w w.heap.size A0 n0 t0) (in0b : InTS w w.heap.size B0 m0 y0) (in0c : InC w w.heap.size D0 o0 x0) (in0d : InP2 w w.heap.size E0 f0 p0) (q0 : 1048576 < ((n0 + totT t0) + (m0 + totT y0) + o0 + (f0 + totP2 p0))) (vn0 : n0 ≤ maxLen) (en0 : ∀ t ∈ t0, t.2.length ≤ maxLen) (vm0 : m0 ≤ maxLen) (em0 : ∀ t ∈ y0, t.2.length ≤ maxLen) (vo0 : o0 ≤ maxLen) (vf0 : f0 ≤ maxLen) (ef0 : ∀ x ∈ p0, x.fits) :
    Calls Tryz.prog 5 #[.agg #[.slice A0 n0 cap0, .slice B0 m0 cbp0, .slice D0 o0 dap0, .slice E0 f0 eap0]] w fun e w' => e = .returned (.bool true) ∧ Below w.heap.size w w' := by
  have hB := Below.refl w.heap.size w
  go_enter Tryz.func5, Tryz.ntmps5
  go_wp2_with fail
  have hb_1 : Below w.heap.size w (w.alloc (.cells #[.slice A0 n0 cap0, .slice B0 m0 cbp0, .slice D0 o0 dap0, .slice E0 f0 eap0] 26)) := bnew _ _
  have sz_2 : w.heap.size < (w.alloc (.cells #[.slice A0 n0 cap0, .slice B0 m0 cbp0, .slice D0 o0 dap0, .slice E0 f0 eap0] 26)).heap.size := by simp
  have a0_0 : (w.alloc (.cells #[.slice A0 n0 cap0, .slice B0 m0 cbp0, .slice D0 o0 dap0, .slice E0 f0 eap0] 26)).cell? ⟨w.heap.size, 0, none⟩ = some (.slice A0 n0 cap0) := by simp
  have a0_1 : (w.alloc (.cells #[.slice A0 n0 cap0, .slice B0 m0 cbp0, .slice D0 o0 dap0, .slice E0 f0 eap0] 26)).cell? ⟨w.heap.size, 1, none⟩ = some (.slice B0 m0 cbp0) := by simp
  have a0_2 : (w.alloc (.cells #[.slice A0 n0 cap0, .slice B0 m0 cbp0, .slice D0 o0 dap0, .slice E0 f0 eap0] 26)).cell? ⟨w.heap.size, 2, none⟩ = some (.slice D0 o0 dap0) := by simp
  have a0_3 : (w.alloc (.cells #[.slice A0 n0 cap0, .slice B0 m0 cbp0, .slice D0 o0 dap0, .slice E0 f0 eap0] 26)).cell? ⟨w.heap.size, 3, none⟩ = some (.slice E0 f0 eap0) := by simp
  have a0_l := sz_2
  generalize w.alloc (.cells #[.slice A0 n0 cap0, .slice B0 m0 cbp0, .slice D0 o0 dap0, .slice E0 f0 eap0] 26) = w1 at hb_1 a0_0 a0_1 a0_2 a0_3 sz_2 a0_l ⊢
  replace in0a := in0a.next hb_1 (by omega)
  replace in0b := in0b.next hb_1 (by omega)
  replace in0c := in0c.next hb_1 (by omega)
  replace in0d := in0d.next hb_1 (by omega)
  replace hB := hB.trans (hb_1.mono hB.size)
  have sz_3 := hb_1.size
  refine (szAnnotated_k A0 n0 cap0 t0 B0 m0 cbp0 y0 D0 o0 dap0 x0 E0 f0 eap0 p0 _ _ _ in0a in0b in0d (by omega) (by omega) (by omega) (by first | assumption | (unfold maxLen; omega)) (by first | assumption | (unfold maxLen; omega)) (by first | assumption | (unfold maxLen; omega)) (by first | assumption | (unfold maxLen; omega)) (by first | assumption | exact each_of (by omega)) (by first | assumption | exact each_of (by omega)) (by first | assumption | exact fitsP_of (by omega))).mono ?_
  rintro e w2 ⟨rfl, hb_4⟩
  rw [szv_no (by omega)]
  replace in0a := in0a.next hb_4 (by omega)
  replace in0b := in0b.next hb_4 (by omega)
  replace in0c := in0c.next hb_4 (by omega)
  replace in0d := in0d.next hb_4 (by omega)
  replace a0_0 := cell_next a0_0 hb_4
  replace a0_1 := cell_next a0_1 hb_4
  replace a0_2 := cell_next a0_2 hb_4
  replace a0_3 := cell_next a0_3 hb_4
  replace a0_l := Nat.lt_of_lt_of_le a0_l hb_4.size
  replace hB := hB.trans (hb_4.mono hB.size)
  have sz_5 := hb_4.size
  go_wp2_with fail
  go_ret
  exact ⟨rfl, hB⟩

set_option maxRecDepth 100000 in
set_option maxHeartbeats 8000000 in
theorem road (A0 : Option Addr) (n0 cap0 : Nat) (t0 : List (Int × List Int)) (B0 : Option Addr) (m0 cbp0 : Nat) (y0 : List (Int × List Int)) (D0 : Option Addr) (o0 dap0 : Nat) (x0 : List (Int × Int)) (E0 : Option Addr) (f0 eap0 : Nat) (p0 : List P2) (w : World) (in0a : InTS w w.heap.size A0 n0 t0) (in0b : InTS w w.heap.size B0 m0 y0) (in0c : InC w w.heap.size D0 o0 x0) (in0d : InP2 w w.heap.size E0 f0 p0) (h0ok : n0 ≤ 1048576) (h0eok : totT t0 ≤ 1048576) (h0gok : m0 ≤ 1048576) (h0fok : totT y0 ≤ 1048576) (h0sok : o0 ≤ 1048576) (h0uok : f0 ≤ 1048576) (h0vok : totP2 p0 ≤ 1048576) (h0sum : (n0 + totT t0) + (m0 + totT y0) + o0 + (f0 + totP2 p0) ≤ 1048576) (r0 : Int) (r1 : Bool) 
    (HS0 : ∀ (w0 : World) (a00 : Option Addr) (u00 : Nat) (a01 : Option Addr) (u01 : Nat) (a02 : Option Addr) (u02 : Nat) (a03 : Option Addr) (u03 : Nat), Below w.heap.size w w0 → InTS w0 w0.heap.size a00 n0 t0 → InTS w0 w0.heap.size a01 m0 y0 → InC w0 w0.heap.size a02 o0 x0 → InP2 w0 w0.heap.size a03 f0 p0 → Calls Tryz.prog 17 #[.agg #[.slice a00 n0 u00, .slice a01 m0 u01, .slice a02 o0 u02, .slice a03 f0 u03]] w0 fun e w1 => e = .returned (.tuple #[.int .i64 r0, .bool r1]) ∧ Below w0.heap.size w0 w1)
    (HI0 : ∀ (w0 : World) (a00 : Option Addr) (u00 : Nat) (a01 : Option Addr) (u01 : Nat) (a02 : Option Addr) (u02 : Nat) (a03 : Option Addr) (u03 : Nat), Below w.heap.size w w0 → InTS w0 w0.heap.size a00 n0 t0 → InTS w0 w0.heap.size a01 m0 y0 → InC w0 w0.heap.size a02 o0 x0 → InP2 w0 w0.heap.size a03 f0 p0 → Calls Tryz.prog 18 #[.agg #[.slice a00 n0 u00, .slice a01 m0 u01, .slice a02 o0 u02, .slice a03 f0 u03]] w0 fun e w1 => e = .returned (.tuple #[.int .i64 r0, .bool r1]) ∧ Below w0.heap.size w0 w1) :
    Calls Tryz.prog 5 #[.agg #[.slice A0 n0 cap0, .slice B0 m0 cbp0, .slice D0 o0 dap0, .slice E0 f0 eap0]] w fun e w' => e = .returned (.bool true) ∧ Below w.heap.size w w' := by
  have HS := Lib.hid HS0
  have HI := Lib.hid HI0
  clear HS0 HI0
  have hB := Below.refl w.heap.size w
  have hl_5 : (0 : Int) ≤ 1048576 - (((n0 + totT t0) + (m0 + totT y0) + o0 + (f0 + totP2 p0) : Nat) : Int) := by omega
  go_enter Tryz.func5, Tryz.ntmps5
  go_wp2_with fail
  have hb_1 : Below w.heap.size w (w.alloc (.cells #[.slice A0 n0 cap0, .slice B0 m0 cbp0, .slice D0 o0 dap0, .slice E0 f0 eap0] 26)) := bnew _ _
  have sz_2 : w.heap.size < (w.alloc (.cells #[.slice A0 n0 cap0, .slice B0 m0 cbp0, .slice D0 o0 dap0, .slice E0 f0 eap0] 26)).heap.size := by simp
  have a0_0 : (w.alloc (.cells #[.slice A0 n0 cap0, .slice B0 m0 cbp0, .slice D0 o0 dap0, .slice E0 f0 eap0] 26)).cell? ⟨w.heap.size, 0, none⟩ = some (.slice A0 n0 cap0) := by simp
  have a0_1 : (w.alloc (.cells #[.slice A0 n0 cap0, .slice B0 m0 cbp0, .slice D0 o0 dap0, .slice E0 f0 eap0] 26)).cell? ⟨w.heap.size, 1, none⟩ = some (.slice B0 m0 cbp0) := by simp
  have a0_2 : (w.alloc (.cells #[.slice A0 n0 cap0, .slice B0 m0 cbp0, .slice D0 o0 dap0, .slice E0 f0 eap0] 26)).cell? ⟨w.heap.size, 2, none⟩ = some (.slice D0 o0 dap0) := by simp
  have a0_3 : (w.alloc (.cells #[.slice A0 n0 cap0, .slice B0 m0 cbp0, .slice D0 o0 dap0, .slice E0 f0 eap0] 26)).cell? ⟨w.heap.size, 3, none⟩ = some (.slice E0 f0 eap0) := by simp
  have a0_l := sz_2
  generalize w.alloc (.cells #[.slice A0 n0 cap0, .slice B0 m0 cbp0, .slice D0 o0 dap0, .slice E0 f0 eap0] 26) = w1 at hb_1 a0_0 a0_1 a0_2 a0_3 sz_2 a0_l ⊢
  replace in0a := in0a.next hb_1 (by omega)
  replace in0b := in0b.next hb_1 (by omega)
  replace in0c := in0c.next hb_1 (by omega)
  replace in0d := in0d.next hb_1 (by omega)
  replace hB := hB.trans (hb_1.mono hB.size)
  have sz_3 := hb_1.size
  refine (szAnnotated_k A0 n0 cap0 t0 B0 m0 cbp0 y0 D0 o0 dap0 x0 E0 f0 eap0 p0 _ _ _ in0a in0b in0d (by omega) (by omega) (by omega) (by first | assumption | (unfold maxLen; omega)) (by first | assumption | (unfold maxLen; omega)) (by first | assumption | (unfold maxLen; omega)) (by first | assumption | (unfold maxLen; omega)) (by first | assumption | exact each_of (by omega)) (by first | assumption | exact each_of (by omega)) (by first | assumption | exact fitsP_of (by omega))).mono ?_
  rintro e w2 ⟨rfl, hb_4⟩
  rw [szv_yes (by omega)]
  replace in0a := in0a.next hb_4 (by omega)
  replace in0b := in0b.next hb_4 (by omega)
  replace in0c := in0c.next hb_4 (by omega)
  replace in0d := in0d.next hb_4 (by omega)
  replace a0_0 := cell_next a0_0 hb_4
  replace a0_1 := cell_next a0_1 hb_4
  replace a0_2 := cell_next a0_2 hb_4
  replace a0_3 := cell_next a0_3 hb_4
  replace a0_l := Nat.lt_of_lt_of_le a0_l hb_4.size
  replace hB := hB.trans (hb_4.mono hB.size)
  have sz_6 := hb_4.size
  go_wp2_with fail
  refine (toAnnotated_k A0 n0 cap0 t0 B0 m0 cbp0 y0 D0 o0 dap0 x0 E0 f0 eap0 p0 _ _ in0a in0b in0c in0d (by omega) h0ok h0eok h0gok h0fok h0sok h0uok h0vok).mono ?_
  rintro e w3 ⟨g_7, g_8, g_9, g_10, mid_16, mid_17, mid_18, rfl, own_11, own_12, own_13, own_14, md_19, hb_15⟩
  replace in0a := in0a.next hb_15 (by omega)
  replace in0b := in0b.next hb_15 (by omega)
  replace in0c := in0c.next hb_15 (by omega)
  replace in0d := in0d.next hb_15 (by omega)
  replace a0_0 := cell_next a0_0 hb_15
  replace a0_1 := cell_next a0_1 hb_15
  replace a0_2 := cell_next a0_2 hb_15
  replace a0_3 := cell_next a0_3 hb_15
  replace a0_l := Nat.lt_of_lt_of_le a0_l hb_15.size
  replace hB := hB.trans (hb_15.mono hB.size)
  have sz_20 := hb_15.size
  go_wp2_with fail
  refine (HS.out w3 _ _ _ _ _ _ _ _ hB ((own_11.inn).more (by omega)) ((own_12.inn).more (by omega)) ((own_13.inn).more (by omega)) ((own_14.inn).more (by omega))).mono ?_
  rintro e w4 ⟨rfl, hb_21⟩
  clear own_11 own_12 own_13 own_14
  replace in0a := in0a.next hb_21 (by omega)
  replace in0b := in0b.next hb_21 (by omega)
  replace in0c := in0c.next hb_21 (by omega)
  replace in0d := in0d.next hb_21 (by omega)
  replace a0_0 := cell_next a0_0 hb_21
  replace a0_1 := cell_next a0_1 hb_21
  replace a0_2 := cell_next a0_2 hb_21
  replace a0_3 := cell_next a0_3 hb_21
  replace a0_l := Nat.lt_of_lt_of_le a0_l hb_21.size
  replace hB := hB.trans (hb_21.mono hB.size)
  have sz_22 := hb_21.size
  go_wp2_with fail
  refine (toAnnotated_k A0 n0 cap0 t0 B0 m0 cbp0 y0 D0 o0 dap0 x0 E0 f0 eap0 p0 _ _ in0a in0b in0c in0d (by omega) h0ok h0eok h0gok h0fok h0sok h0uok h0vok).mono ?_
  rintro e w5 ⟨g_23, g_24, g_25, g_26, mid_32, mid_33, mid_34, rfl, own_27, own_28, own_29, own_30, md_35, hb_31⟩
  replace in0a := in0a.next hb_31 (by omega)
  replace in0b := in0b.next hb_31 (by omega)
  replace in0c := in0c.next hb_31 (by omega)
  replace in0d := in0d.next hb_31 (by omega)
  replace a0_0 := cell_next a0_0 hb_31
  replace a0_1 := cell_next a0_1 hb_31
  replace a0_2 := cell_next a0_2 hb_31
  replace a0_3 := cell_next a0_3 hb_31
  replace a0_l := Nat.lt_of_lt_of_le a0_l hb_31.size
  replace hB := hB.trans (hb_31.mono hB.size)
  have sz_36 := hb_31.size
  go_wp2_with fail
  have hb_37 : Below w5.heap.size w5 (w5.alloc (.cells #[.slice (some ⟨g_23, 0, none⟩) n0 n0, .slice (some ⟨g_24, 0, none⟩) m0 m0, .slice (some ⟨g_25, 0, none⟩) o0 o0, .slice (some ⟨g_26, 0, none⟩) f0 f0] 35)) := bnew _ _
  have sz_38 : w5.heap.size < (w5.alloc (.cells #[.slice (some ⟨g_23, 0, none⟩) n0 n0, .slice (some ⟨g_24, 0, none⟩) m0 m0, .slice (some ⟨g_25, 0, none⟩) o0 o0, .slice (some ⟨g_26, 0, none⟩) f0 f0] 35)).heap.size := by simp
  have x0_0 : (w5.alloc (.cells #[.slice (some ⟨g_23, 0, none⟩) n0 n0, .slice (some ⟨g_24, 0, none⟩) m0 m0, .slice (some ⟨g_25, 0, none⟩) o0 o0, .slice (some ⟨g_26, 0, none⟩) f0 f0] 35)).cell? ⟨w5.heap.size, 0, none⟩ = some (.slice (some ⟨g_23, 0, none⟩) n0 n0) := by simp
  have x0_1 : (w5.alloc (.cells #[.slice (some ⟨g_23, 0, none⟩) n0 n0, .slice (some ⟨g_24, 0, none⟩) m0 m0, .slice (some ⟨g_25, 0, none⟩) o0 o0, .slice (some ⟨g_26, 0, none⟩) f0 f0] 35)).cell? ⟨w5.heap.size, 1, none⟩ = some (.slice (some ⟨g_24, 0, none⟩) m0 m0) := by simp
  have x0_2 : (w5.alloc (.cells #[.slice (some ⟨g_23, 0, none⟩) n0 n0, .slice (some ⟨g_24, 0, none⟩) m0 m0, .slice (some ⟨g_25, 0, none⟩) o0 o0, .slice (some ⟨g_26, 0, none⟩) f0 f0] 35)).cell? ⟨w5.heap.size, 2, none⟩ = some (.slice (some ⟨g_25, 0, none⟩) o0 o0) := by simp
  have x0_3 : (w5.alloc (.cells #[.slice (some ⟨g_23, 0, none⟩) n0 n0, .slice (some ⟨g_24, 0, none⟩) m0 m0, .slice (some ⟨g_25, 0, none⟩) o0 o0, .slice (some ⟨g_26, 0, none⟩) f0 f0] 35)).cell? ⟨w5.heap.size, 3, none⟩ = some (.slice (some ⟨g_26, 0, none⟩) f0 f0) := by simp
  have x0_l := sz_38
  generalize w5.alloc (.cells #[.slice (some ⟨g_23, 0, none⟩) n0 n0, .slice (some ⟨g_24, 0, none⟩) m0 m0, .slice (some ⟨g_25, 0, none⟩) o0 o0, .slice (some ⟨g_26, 0, none⟩) f0 f0] 35) = w6 at hb_37 x0_0 x0_1 x0_2 x0_3 sz_38 x0_l ⊢
  replace in0a := in0a.next hb_37 (by omega)
  replace in0b := in0b.next hb_37 (by omega)
  replace in0c := in0c.next hb_37 (by omega)
  replace in0d := in0d.next hb_37 (by omega)
  replace a0_0 := cell_next a0_0 hb_37
  replace a0_1 := cell_next a0_1 hb_37
  replace a0_2 := cell_next a0_2 hb_37
  replace a0_3 := cell_next a0_3 hb_37
  replace a0_l := Nat.lt_of_lt_of_le a0_l hb_37.size
  replace own_27 := own_27.next hb_37
  replace own_28 := own_28.next hb_37
  replace own_29 := own_29.next hb_37
  replace own_30 := own_30.next hb_37
  replace hB := hB.trans (hb_37.mono hB.size)
  have sz_39 := hb_37.size
  refine (HI.out w6 _ _ _ _ _ _ _ _ hB ((own_27.inn).more (by omega)) ((own_28.inn).more (by omega)) ((own_29.inn).more (by omega)) ((own_30.inn).more (by omega))).mono ?_
  rintro e w7 ⟨rfl, hb_40⟩
  replace in0a := in0a.next hb_40 (by omega)
  replace in0b := in0b.next hb_40 (by omega)
  replace in0c := in0c.next hb_40 (by omega)
  replace in0d := in0d.next hb_40 (by omega)
  replace a0_0 := cell_next a0_0 hb_40
  replace a0_1 := cell_next a0_1 hb_40
  replace a0_2 := cell_next a0_2 hb_40
  replace a0_3 := cell_next a0_3 hb_40
  replace a0_l := Nat.lt_of_lt_of_le a0_l hb_40.size
  replace own_27 := own_27.next hb_40
  replace own_28 := own_28.next hb_40
  replace own_29 := own_29.next hb_40
  replace own_30 := own_30.next hb_40
  replace x0_0 := cell_next x0_0 hb_40
  replace x0_1 := cell_next x0_1 hb_40
  replace x0_2 := cell_next x0_2 hb_40
  replace x0_3 := cell_next x0_3 hb_40
  replace x0_l := Nat.lt_of_lt_of_le x0_l hb_40.size
  replace hB := hB.trans (hb_40.mono hB.size)
  have sz_41 := hb_40.size
  go_wp2_with fail
  -- if g0 != w0 || g1 != w1 {
  have HT_42 := Lib.hid (toAnnotated_k A0 n0 cap0 t0 B0 m0 cbp0 y0 D0 o0 dap0 x0 E0 f0 eap0 p0 _ w7.drew in0a.drew in0b.drew in0c.drew in0d.drew (by show _ ≤ w7.heap.size; omega) h0ok h0eok h0gok h0fok h0sok h0uok h0vok)
  have HE_43 : Hid (∀ w8 g_44 g_45 g_46 g_47 mid_53 mid_54 mid_55, Below w7.drew.heap.size w7.drew w8 → OwnTS w8 w7.drew.heap.size mid_53 (some ⟨g_44, 0, none⟩) n0 n0 t0 → OwnTS w8 mid_53 mid_54 (some ⟨g_45, 0, none⟩) m0 m0 y0 → OwnC w8 mid_54 mid_55 (some ⟨g_46, 0, none⟩) o0 o0 x0 → OwnP2 w8 mid_55 w8.heap.size (some ⟨g_47, 0, none⟩) f0 f0 p0 → w7.drew.heap.size ≤ mid_53 ∧ mid_53 ≤ mid_54 ∧ mid_54 ≤ mid_55 ∧ mid_55 ≤ w8.heap.size → Calls Tryz.prog 11 #[.agg #[.slice (some ⟨g_23, 0, none⟩) n0 n0, .slice (some ⟨g_24, 0, none⟩) m0 m0, .slice (some ⟨g_25, 0, none⟩) o0 o0, .slice (some ⟨g_26, 0, none⟩) f0 f0], .agg #[.slice (some ⟨g_44, 0, none⟩) n0 n0, .slice (some ⟨g_45, 0, none⟩) m0 m0, .slice (some ⟨g_46, 0, none⟩) o0 o0, .slice (some ⟨g_47, 0, none⟩) f0 f0]] w8 fun e w' => e = .returned (.bool true) ∧ Below w8.heap.size w8 w') := fun w8 g_44 g_45 g_46 g_47 mid_53 mid_54 mid_55 hb_52 own_48 own_49 own_50 own_51 md_56 => eqAnnotated_k (some ⟨g_23, 0, none⟩) n0 n0 t0 (some ⟨g_24, 0, none⟩) m0 m0 y0 (some ⟨g_25, 0, none⟩) o0 o0 x0 (some ⟨g_26, 0, none⟩) f0 f0 p0 (some ⟨g_44, 0, none⟩) n0 (some ⟨g_45, 0, none⟩) m0 (some ⟨g_46, 0, none⟩) o0 (some ⟨g_47, 0, none⟩) f0 (w8.heap.size) (w8.heap.size) w8 (((own_27.inn).call (by omega) hb_52).more (le_call (by omega) hb_52)) (((own_28.inn).call (by omega) hb_52).more (le_call (by omega) hb_52)) (((own_29.inn).call (by omega) hb_52).more (le_call (by omega) hb_52)) (((own_30.inn).call (by omega) hb_52).more (le_call (by omega) hb_52)) ((own_48.inn).more (by omega)) ((own_49.inn).more (by omega)) ((own_50.inn).more (by omega)) ((own_51.inn).more (by omega)) (Nat.le_refl _) (Nat.le_refl _) h0ok h0eok h0gok h0fok h0sok h0uok h0vok
  go_region_held3 (fun w' => w'.cell? ⟨w.heap.size, 0, none⟩ = some (.slice A0 n0 cap0) ∧ w'.cell? ⟨w.heap.size, 1, none⟩ = some (.slice B0 m0 cbp0) ∧ w'.cell? ⟨w.heap.size, 2, none⟩ = some (.slice D0 o0 dap0) ∧ w'.cell? ⟨w.heap.size, 3, none⟩ = some (.slice E0 f0 eap0) ∧ w'.cell? ⟨w5.heap.size, 0, none⟩ = some (.slice (some ⟨g_23, 0, none⟩) n0 n0) ∧ w'.cell? ⟨w5.heap.size, 1, none⟩ = some (.slice (some ⟨g_24, 0, none⟩) m0 m0) ∧ w'.cell? ⟨w5.heap.size, 2, none⟩ = some (.slice (some ⟨g_25, 0, none⟩) o0 o0) ∧ w'.cell? ⟨w5.heap.size, 3, none⟩ = some (.slice (some ⟨g_26, 0, none⟩) f0 f0))
    (first | go_keep | exact ⟨cell_on a0_0 hb_52, cell_on a0_1 hb_52, cell_on a0_2 hb_52, cell_on a0_3 hb_52, cell_on x0_0 hb_52, cell_on x0_1 hb_52, cell_on x0_2 hb_52, cell_on x0_3 hb_52⟩ | exact ⟨cell_on2 a0_0 hb_52 hb_58, cell_on2 a0_1 hb_52 hb_58, cell_on2 a0_2 hb_52 hb_58, cell_on2 a0_3 hb_52 hb_58, cell_on2 x0_0 hb_52 hb_58, cell_on2 x0_1 hb_52 hb_58, cell_on2 x0_2 hb_52 hb_58, cell_on2 x0_3 hb_52 hb_58⟩)
    (first | (go_at_call 8; refine HT_42.out.mono ?_; rintro e w8 ⟨g_44, g_45, g_46, g_47, mid_53, mid_54, mid_55, rfl, own_48, own_49, own_50, own_51, md_56, hb_52⟩) | (go_at_call 11; refine (HE_43.out _ _ _ _ _ _ _ _ hb_52 own_48 own_49 own_50 own_51 md_56).mono ?_; rintro e w9 ⟨rfl, hb_58⟩))
  replace hb_52 := (bstep hb_52)
  replace in0a := in0a.next hb_52 (by omega)
  replace in0b := in0b.next hb_52 (by omega)
  replace in0c := in0c.next hb_52 (by omega)
  replace in0d := in0d.next hb_52 (by omega)
  replace a0_0 := cell_next a0_0 hb_52
  replace a0_1 := cell_next a0_1 hb_52
  replace a0_2 := cell_next a0_2 hb_52
  replace a0_3 := cell_next a0_3 hb_52
  replace a0_l := Nat.lt_of_lt_of_le a0_l hb_52.size
  replace own_27 := own_27.next hb_52
  replace own_28 := own_28.next hb_52
  replace own_29 := own_29.next hb_52
  replace own_30 := own_30.next hb_52
  replace x0_0 := cell_next x0_0 hb_52
  replace x0_1 := cell_next x0_1 hb_52
  replace x0_2 := cell_next x0_2 hb_52
  replace x0_3 := cell_next x0_3 hb_52
  replace x0_l := Nat.lt_of_lt_of_le x0_l hb_52.size
  replace hB := hB.trans (hb_52.mono hB.size)
  have sz_59 := hb_52.size
  replace in0a := in0a.next hb_58 (by omega)
  replace in0b := in0b.next hb_58 (by omega)
  replace in0c := in0c.next hb_58 (by omega)
  replace in0d := in0d.next hb_58 (by omega)
  replace a0_0 := cell_next a0_0 hb_58
  replace a0_1 := cell_next a0_1 hb_58
  replace a0_2 := cell_next a0_2 hb_58
  replace a0_3 := cell_next a0_3 hb_58
  replace a0_l := Nat.lt_of_lt_of_le a0_l hb_58.size
  replace own_27 := own_27.next hb_58
  replace own_28 := own_28.next hb_58
  replace own_29 := own_29.next hb_58
  replace own_30 := own_30.next hb_58
  replace x0_0 := cell_next x0_0 hb_58
  replace x0_1 := cell_next x0_1 hb_58
  replace x0_2 := cell_next x0_2 hb_58
  replace x0_3 := cell_next x0_3 hb_58
  replace x0_l := Nat.lt_of_lt_of_le x0_l hb_58.size
  replace hB := hB.trans (hb_58.mono hB.size)
  have sz_60 := hb_58.size
  clear HT_42 HE_43 own_48 own_49 own_50 own_51
  go_wp2_with fail
  go_ret
  exact ⟨rfl, hB⟩

set_option maxRecDepth 100000 in
set_option maxHeartbeats 4000000 in
theorem walk (A0 : Option Addr) (n0 cap0 : Nat) (t0 : List (Int × List Int)) (B0 : Option Addr) (m0 cbp0 : Nat) (y0 : List (Int × List Int)) (D0 : Option Addr) (o0 dap0 : Nat) (x0 : List (Int × Int)) (E0 : Option Addr) (f0 eap0 : Nat) (p0 : List P2) (w : World) (hT : WayX w) (h0in : InTS w w.heap.size A0 n0 t0) (h0max : n0 ≤ maxLen) (h0each : ∀ t ∈ t0, t.2.length ≤ maxLen) (h0gin : InTS w w.heap.size B0 m0 y0) (h0gmax : m0 ≤ maxLen) (h0geach : ∀ t ∈ y0, t.2.length ≤ maxLen) (h0sin : InC w w.heap.size D0 o0 x0) (h0smax : o0 ≤ maxLen) (h0uin : InP2 w w.heap.size E0 f0 p0) (h0umax : f0 ≤ maxLen) (h0ueach : ∀ y ∈ p0, y.fits) :
    Calls Tryz.prog 5 #[.agg #[.slice A0 n0 cap0, .slice B0 m0 cbp0, .slice D0 o0 dap0, .slice E0 f0 eap0]] w fun e w' => e = .returned (.bool true) ∧ Below w.heap.size w w' := by
  by_cases hn : (n0 + totT t0) + (m0 + totT y0) + o0 + (f0 + totP2 p0) ≤ 1048576
  · obtain ⟨⟨tp, pv, hstk⟩, htz⟩ := hT
    exact road A0 n0 cap0 t0 B0 m0 cbp0 y0 D0 o0 dap0 x0 E0 f0 eap0 p0 w h0in h0gin h0sin h0uin (by omega) (by omega) (by omega) (by omega) (by omega) (by omega) (by omega) (by omega)
      (wayR t0 y0 x0 p0).1 (wayR t0 y0 x0 p0).2
      (fun w0 a00 u00 a01 u01 a02 u02 a03 u03 hbb g0 g1 g2 g3 => specWay_c a00 n0 u00 t0 a01 m0 u01 y0 a02 o0 u02 x0 a03 f0 u03 p0 w0 g0 g1 g2 g3 (by omega) (by omega) (by omega) (by omega) (by omega) (by omega) (by omega))
      (fun w0 a00 u00 a01 u01 a02 u02 a03 u03 hbb g0 g1 g2 g3 => implWay_c tp pv a00 n0 u00 t0 a01 m0 u01 y0 a02 o0 u02 x0 a03 f0 u03 p0 w0 g0 g1 g2 g3 (by omega) (by omega) (by omega) (by omega) (by omega) (by omega) (by omega) (hstk.next hbb) (htz.next hbb))
  · exact early0 A0 n0 cap0 t0 B0 m0 cbp0 y0 D0 o0 dap0 x0 E0 f0 eap0 p0 w h0in h0gin h0sin h0uin (by omega) h0max h0each h0gmax h0geach h0smax h0umax h0ueach

/-- The cells of a table. -/
def litCells : DataW Unit → List Value
  | .lit (.int k z) => [Value.int k z]
  | .lit (.bool b) => [Value.bool b]
  | .lit (.string l) => [Value.string ⟨l.toArray⟩]
  | _ => []
def tabCells : DataW Unit → List Value
  | .agg l => l.flatMap fun x => match x with
    | .agg r => r.flatMap litCells
    | x => litCells x
  | _ => []
/-- A world that meets the list. -/
noncomputable def laidWorld (os : Os) : World :=
  let low := (World.holding Tryz.prog default ⟨#[], #[], []⟩).heap.size
  let w0 := World.holding Tryz.prog os ⟨#[.cells #[.string ⟨#[110, 111, 32, 119, 97, 121, 32, 111, 110, 32, 119, 105, 116, 104, 105, 110, 32, 116, 104, 101, 32, 108, 105, 109, 105, 116, 115]⟩] 191], #[], []⟩
  let err (g k : Nat) (h : Array Obj) : Array Obj := h.modify g fun
      | .cells _ t frozen => .cells #[.iface 172 (.pointer (some ⟨low + k, 0, none⟩))] t frozen
      | o => o
  let put (g : Nat) (d : DataW Unit) (h : Array Obj) : Array Obj := h.modify g fun
      | .cells _ t frozen => .cells (tabCells d).toArray t frozen
      | o => o
  { w0 with heap := err 0 0 (put 1 (Rows.laid_math_bits_deBruijn64tab) w0.heap) }
theorem laidWorld_met (os : Os) (args : Array Value) : laidMetH Tryz.prog Rows.fnExactLongestWayRow.laid ((laidWorld os).forCall (fun _ _ => 0) ⟨#[], args, []⟩).memory :=
  laidMetH_of_parts (laidMet_of_run' 8 (by kernel_rfl) (by kernel_rfl)) (by kernel_rfl)

set_option maxRecDepth 100000 in
set_option maxHeartbeats 4000000 in
theorem lifted (os : Os) (started : os.Started) (H : Type) (enc : TypeId × Value → H) :
    ReturnsInHanded {} Tryz.checked os 5 .any (fun w args => (Rows.fnExactLongestWaySpec.pre enc Tryz.prog Tryz.f5 [] false w args ∧ laidMetH Tryz.prog Rows.fnExactLongestWayRow.laid w) ∧ sizedMet enc Tryz.prog Tryz.f5 (OpenSpec.ofChange Rows.fnExactLongestWaySpec) false w args) (Rows.fnExactLongestWaySpec.post enc Tryz.prog Tryz.f5 false true false false) := by
  refine returnsInHanded_of_change_and (C := Tryz.checked) (X := fun w _ => laidMetH Tryz.prog Rows.fnExactLongestWayRow.laid w) (fun _ _ _ hh h => h.of_heap hh) own started (by kernel_rfl) Tryz.func5
    (ChangeSpec.witness_at (enc := enc) (C := Tryz.checked) (os := os) (X := fun w _ => laidMetH Tryz.prog Rows.fnExactLongestWayRow.laid w) false (laidWorld os) #[.agg #[.slice none 0 0, .slice none 0 0, .slice none 0 0, .slice none 0 0]] 8 rfl (by kernel_rfl) (by kernel_rfl) (by kernel_rfl) (by kernel_rfl) (by kernel_rfl) (laidWorld_met os _)) ?_
  intro W base args ds gs before hval0 hW _ _ hL _
  have hval : ∀ (j : Nat) t v, Tryz.f5.params[j]? = some t → args[j]? = some v → Value.okWide Tryz.prog W .any base t v := hval0
  have hW' := hW
  obtain ⟨p, q, hA0, hV, rfl, hfz, hnd⟩ := hW
  have hA : DataW.TrodAll enc Tryz.prog W 0 (fun _ => true) true Tryz.f5.params.toList args.toList ds p := hA0
  rw [Tryz.params5] at hA hval
  obtain ⟨v0, vs0, d0, ds0, p0, q0, hargs, rfl, rfl, g0, r0⟩ := trodAll_cons hA
  obtain ⟨rfl, rfl, rfl⟩ := trodAll_nil r0
  obtain rfl : args = #[v0] := by cases args; simp_all
  have hV2 := hV
  obtain ⟨_, _, _, _, dv, _, rfl, _⟩ := trodVars_one hV2
  clear hV2
  have k0 := g0
  have lt0 : ∀ x ∈ p0, x.block < W.heap.size := by obtain ⟨m, hm⟩ := k0; exact DataW.trod_lt m _ _ _ hm
  obtain ⟨A0, n0, cap0, t0, B0, m0, cbp0, y0, D0, o0, dap0, x0, E0, f0, eap0, p0, rfl, h0in, h0max, h0each, h0gin, h0gmax, h0geach, h0sin, h0smax, h0uin, h0umax, h0ueach⟩ := annotated_in (hval 0 26 v0 rfl rfl) g0
  clear hA0 hval0
  have hg := wayX_of_laid (laid := Rows.fnExactLongestWayRow.laid) rfl hL
  refine (walk A0 n0 cap0 t0 B0 m0 cbp0 y0 D0 o0 dap0 x0 E0 f0 eap0 p0 W hg h0in h0max h0each h0gin h0gmax h0geach h0sin h0smax h0uin h0umax h0ueach).mono fun e W' ⟨he, bel⟩ => ?_
  subst he
  exact ⟨_, rfl, _, _, _, [], _, _, hW', trodAll_mk1 (shut_bool Tryz.underlying4 _), (trodAll_cons_mk (Below.trod laidOut (by kernel_rfl) (of_decide_eq_true (by kernel_rfl)) k0 bel lt0) trodAll_mk0), Below.trodVars laidOut bel (by kernel_rfl) hV, bel.frame _, fun h => by cases h⟩

theorem said : Rows.FnExactLongestWaySaid :=
  OpenClaim.holds_of_wide 5 Tryz.f5 rfl rfl rfl rfl rfl rfl rfl ⟨rfl, rfl, rfl, rfl, rfl⟩ rfl rfl rfl rfl rfl (by kernel_rfl) Tryz.func5 (by kernel_rfl)
    (of_decide_eq_true (by kernel_rfl)) (by unfold Func.isWrapper; first | (rw [if_pos (by decide +kernel)]; kernel_rfl) | (rw [if_neg (by decide +kernel)]; exact ⟨rfl, rfl⟩))
    (fun os started H enc _ => lifted os started H enc)

/-- No parameter wants a stand-in; the program's own looks are as told: what the card asks. -/
theorem plain (f : FuncId) (fn : Func) (hf : Tryz.pinned.checked.prog.funcNamed "loop.example/g01105/laws.FnExactLongestWay" = some f) (hfn : Tryz.pinned.checked.prog.funcs[f]? = some fn) :
    false = Tryz.pinned.checked.prog.looks [] ∧ ∀ (j : Nat) t, fn.params[j]? = some t → Tryz.pinned.checked.prog.wantsStandIn t = false := by
  obtain rfl : f = 5 := Option.some.inj ((show Tryz.prog.funcNamed "loop.example/g01105/laws.FnExactLongestWay" = some 5 by kernel_rfl).symm.trans hf) |>.symm
  obtain rfl : fn = Tryz.f5 := (Option.some.inj (Tryz.func5.symm.trans hfn)).symm
  refine ⟨by kernel_rfl, fun j t ht => ?_⟩
  rw [Tryz.params5] at ht
  have hm : t = 26 := by simpa using Array.mem_of_getElem? ht
  subst hm
  exact (show Tryz.prog.wantsStandIn 26 = false by kernel_rfl)

/-- The card. -/
theorem proved : Rows.FnExactLongestWayCardSaid :=
  Claim7.holds_tied_plain_at .later [] _ _ _ _ said (fun _ h => by cases h) (by kernel_rfl) (fun _ h => by cases h) fnExactLongestWay_row_tie rfl ⟨rfl, rfl⟩ (by kernel_rfl) rfl plain (by kernel_rfl)
#print axioms proved
end Go.Proofs.YtffkdidgfeknkaaGreatDoor.fnExactLongestWay
