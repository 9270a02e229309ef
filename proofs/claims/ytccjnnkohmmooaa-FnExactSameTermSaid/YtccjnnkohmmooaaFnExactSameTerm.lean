/-
  For every two terms the program's SameTerm answers as the model's and leaves both as they were.
  Conditions: none but those that the statement itself bears.
-/
import Derived.Test.YtccjnnkohmmooaaRows
import Derived.WalkKit
import Derived.ProofKit
import Derived.OpenShut
import Derived.ShutString
import Derived.ChangeOld
import Derived.Below
import Derived.WalkSmall
import Derived.Test.YtccjnnkohmmooaaTms
import Derived.Test.YtccjnnkohmmooaaTermK
import Derived.Test.YtccjnnkohmmooaaSame
namespace Go.Proofs.Ytccjnnkohmmooaa.fnExactSameTerm
open Go.ChangeShapes Go.WideShapes Go.ChangeAt Go.RowKit
open Go.ChangeMaps (open_string shut_string)
set_option linter.unusedVariables false

theorem own : ownKnob Try.prog.godebug = none := by kernel_rfl
theorem laidOut : laidOutB Try.prog = true := by kernel_rfl
set_option maxRecDepth 100000 in
set_option maxHeartbeats 8000000 in
theorem early0 (c0 : Int) (A0 : Option Addr) (n0 cap0 : Nat) (z0 : List Int) (c1 : Int) (A1 : Option Addr) (n1 cap1 : Nat) (z1 : List Int) (w : World) (in0 : InL w w.heap.size A0 n0 z0) (in1 : InL w w.heap.size A1 n1 z1) (q0 : 1048576 < (n0)) (vn0 : n0 ≤ maxLen) (vn1 : n1 ≤ maxLen) :
    Calls Try.prog 6 #[.agg #[.int .i64 c0, .slice A0 n0 cap0], .agg #[.int .i64 c1, .slice A1 n1 cap1]] w fun e w' => e = .returned (.bool true) ∧ Below w.heap.size w w' := by
  have hB := Below.refl w.heap.size w
  go_enter Try.func6, Try.ntmps6
  go_wp2_with fail
  have hb_1 : Below w.heap.size w ((w.alloc (.cells #[.int .i64 c0, .slice A0 n0 cap0] 24)).alloc (.cells #[.int .i64 c1, .slice A1 n1 cap1] 24)) := bon (bnew _ _) (bnew _ _)
  have sz_2 : w.heap.size < ((w.alloc (.cells #[.int .i64 c0, .slice A0 n0 cap0] 24)).alloc (.cells #[.int .i64 c1, .slice A1 n1 cap1] 24)).heap.size := by simp <;> omega
  have a0_0 : ((w.alloc (.cells #[.int .i64 c0, .slice A0 n0 cap0] 24)).alloc (.cells #[.int .i64 c1, .slice A1 n1 cap1] 24)).cell? ⟨w.heap.size, 0, none⟩ = some (.int .i64 c0) := by simp
  have a0_1 : ((w.alloc (.cells #[.int .i64 c0, .slice A0 n0 cap0] 24)).alloc (.cells #[.int .i64 c1, .slice A1 n1 cap1] 24)).cell? ⟨w.heap.size, 1, none⟩ = some (.slice A0 n0 cap0) := by simp
  have a0_l := sz_2
  have sz_3 : w.heap.size + 1 < ((w.alloc (.cells #[.int .i64 c0, .slice A0 n0 cap0] 24)).alloc (.cells #[.int .i64 c1, .slice A1 n1 cap1] 24)).heap.size := by simp
  have a1_0 : ((w.alloc (.cells #[.int .i64 c0, .slice A0 n0 cap0] 24)).alloc (.cells #[.int .i64 c1, .slice A1 n1 cap1] 24)).cell? ⟨w.heap.size + 1, 0, none⟩ = some (.int .i64 c1) := by simp
  have a1_1 : ((w.alloc (.cells #[.int .i64 c0, .slice A0 n0 cap0] 24)).alloc (.cells #[.int .i64 c1, .slice A1 n1 cap1] 24)).cell? ⟨w.heap.size + 1, 1, none⟩ = some (.slice A1 n1 cap1) := by simp
  have a1_l := sz_3
  generalize (w.alloc (.cells #[.int .i64 c0, .slice A0 n0 cap0] 24)).alloc (.cells #[.int .i64 c1, .slice A1 n1 cap1] 24) = w1 at hb_1 a0_0 a0_1 a1_0 a1_1 sz_2 a0_l sz_3 a1_l ⊢
  replace in0 := in0.next hb_1 (by omega)
  replace in1 := in1.next hb_1 (by omega)
  replace hB := hB.trans (hb_1.mono hB.size)
  have sz_4 := hb_1.size
  refine (szTerm_c c0 A0 n0 cap0 _ _ (by omega) (by omega) (by first | assumption | (unfold maxLen; omega))).mono ?_
  rintro e w2 ⟨rfl, hb_5⟩
  rw [szv_no (by omega)]
  replace in0 := in0.next hb_5 (by omega)
  replace in1 := in1.next hb_5 (by omega)
  replace a0_0 := cell_next a0_0 hb_5
  replace a0_1 := cell_next a0_1 hb_5
  replace a1_0 := cell_next a1_0 hb_5
  replace a1_1 := cell_next a1_1 hb_5
  replace a0_l := Nat.lt_of_lt_of_le a0_l hb_5.size
  replace a1_l := Nat.lt_of_lt_of_le a1_l hb_5.size
  replace hB := hB.trans (hb_5.mono hB.size)
  have sz_6 := hb_5.size
  go_wp2_with fail
  go_ret
  exact ⟨rfl, hB⟩

set_option maxRecDepth 100000 in
set_option maxHeartbeats 8000000 in
theorem early1 (c0 : Int) (A0 : Option Addr) (n0 cap0 : Nat) (z0 : List Int) (c1 : Int) (A1 : Option Addr) (n1 cap1 : Nat) (z1 : List Int) (w : World) (in0 : InL w w.heap.size A0 n0 z0) (in1 : InL w w.heap.size A1 n1 z1) (q0 : (n0) ≤ 1048576) (q1 : 1048576 < (n0) + (n1)) (vn0 : n0 ≤ maxLen) (vn1 : n1 ≤ maxLen) :
    Calls Try.prog 6 #[.agg #[.int .i64 c0, .slice A0 n0 cap0], .agg #[.int .i64 c1, .slice A1 n1 cap1]] w fun e w' => e = .returned (.bool true) ∧ Below w.heap.size w w' := by
  have hB := Below.refl w.heap.size w
  have hl_6 : (0 : Int) ≤ 1048576 - (n0 : Int) := by omega
  go_enter Try.func6, Try.ntmps6
  go_wp2_with fail
  have hb_1 : Below w.heap.size w ((w.alloc (.cells #[.int .i64 c0, .slice A0 n0 cap0] 24)).alloc (.cells #[.int .i64 c1, .slice A1 n1 cap1] 24)) := bon (bnew _ _) (bnew _ _)
  have sz_2 : w.heap.size < ((w.alloc (.cells #[.int .i64 c0, .slice A0 n0 cap0] 24)).alloc (.cells #[.int .i64 c1, .slice A1 n1 cap1] 24)).heap.size := by simp <;> omega
  have a0_0 : ((w.alloc (.cells #[.int .i64 c0, .slice A0 n0 cap0] 24)).alloc (.cells #[.int .i64 c1, .slice A1 n1 cap1] 24)).cell? ⟨w.heap.size, 0, none⟩ = some (.int .i64 c0) := by simp
  have a0_1 : ((w.alloc (.cells #[.int .i64 c0, .slice A0 n0 cap0] 24)).alloc (.cells #[.int .i64 c1, .slice A1 n1 cap1] 24)).cell? ⟨w.heap.size, 1, none⟩ = some (.slice A0 n0 cap0) := by simp
  have a0_l := sz_2
  have sz_3 : w.heap.size + 1 < ((w.alloc (.cells #[.int .i64 c0, .slice A0 n0 cap0] 24)).alloc (.cells #[.int .i64 c1, .slice A1 n1 cap1] 24)).heap.size := by simp
  have a1_0 : ((w.alloc (.cells #[.int .i64 c0, .slice A0 n0 cap0] 24)).alloc (.cells #[.int .i64 c1, .slice A1 n1 cap1] 24)).cell? ⟨w.heap.size + 1, 0, none⟩ = some (.int .i64 c1) := by simp
  have a1_1 : ((w.alloc (.cells #[.int .i64 c0, .slice A0 n0 cap0] 24)).alloc (.cells #[.int .i64 c1, .slice A1 n1 cap1] 24)).cell? ⟨w.heap.size + 1, 1, none⟩ = some (.slice A1 n1 cap1) := by simp
  have a1_l := sz_3
  generalize (w.alloc (.cells #[.int .i64 c0, .slice A0 n0 cap0] 24)).alloc (.cells #[.int .i64 c1, .slice A1 n1 cap1] 24) = w1 at hb_1 a0_0 a0_1 a1_0 a1_1 sz_2 a0_l sz_3 a1_l ⊢
  replace in0 := in0.next hb_1 (by omega)
  replace in1 := in1.next hb_1 (by omega)
  replace hB := hB.trans (hb_1.mono hB.size)
  have sz_4 := hb_1.size
  refine (szTerm_c c0 A0 n0 cap0 _ _ (by omega) (by omega) (by first | assumption | (unfold maxLen; omega))).mono ?_
  rintro e w2 ⟨rfl, hb_5⟩
  rw [szv_yes (by omega)]
  replace in0 := in0.next hb_5 (by omega)
  replace in1 := in1.next hb_5 (by omega)
  replace a0_0 := cell_next a0_0 hb_5
  replace a0_1 := cell_next a0_1 hb_5
  replace a1_0 := cell_next a1_0 hb_5
  replace a1_1 := cell_next a1_1 hb_5
  replace a0_l := Nat.lt_of_lt_of_le a0_l hb_5.size
  replace a1_l := Nat.lt_of_lt_of_le a1_l hb_5.size
  replace hB := hB.trans (hb_5.mono hB.size)
  have sz_7 := hb_5.size
  go_wp2_with fail
  refine (szTerm_c c1 A1 n1 cap1 _ _ (by omega) (by omega) (by first | assumption | (unfold maxLen; omega))).mono ?_
  rintro e w3 ⟨rfl, hb_8⟩
  rw [szv_no (by omega)]
  replace in0 := in0.next hb_8 (by omega)
  replace in1 := in1.next hb_8 (by omega)
  replace a0_0 := cell_next a0_0 hb_8
  replace a0_1 := cell_next a0_1 hb_8
  replace a1_0 := cell_next a1_0 hb_8
  replace a1_1 := cell_next a1_1 hb_8
  replace a0_l := Nat.lt_of_lt_of_le a0_l hb_8.size
  replace a1_l := Nat.lt_of_lt_of_le a1_l hb_8.size
  replace hB := hB.trans (hb_8.mono hB.size)
  have sz_9 := hb_8.size
  go_wp2_with fail
  go_ret
  exact ⟨rfl, hB⟩

set_option maxRecDepth 100000 in
set_option maxHeartbeats 8000000 in
theorem road (c0 : Int) (A0 : Option Addr) (n0 cap0 : Nat) (z0 : List Int) (c1 : Int) (A1 : Option Addr) (n1 cap1 : Nat) (z1 : List Int) (w : World) (in0 : InL w w.heap.size A0 n0 z0) (h0ok : n0 ≤ 1048576) (in1 : InL w w.heap.size A1 n1 z1) (h1ok : n1 ≤ 1048576) (hsum : (n0) + (n1) ≤ 1048576) (r0 : Bool) 
    (HS0 : ∀ (w0 : World) (a00 : Option Addr) (u00 : Nat) (a10 : Option Addr) (u10 : Nat), InL w0 w0.heap.size a00 n0 z0 → InL w0 w0.heap.size a10 n1 z1 → Calls Try.prog 30 #[.agg #[.int .i64 c0, .slice a00 n0 u00], .agg #[.int .i64 c1, .slice a10 n1 u10]] w0 fun e w1 => e = .returned (.bool r0) ∧ Below w0.heap.size w0 w1)
    (HI0 : ∀ (w0 : World) (a00 : Option Addr) (u00 : Nat) (a10 : Option Addr) (u10 : Nat), InL w0 w0.heap.size a00 n0 z0 → InL w0 w0.heap.size a10 n1 z1 → Calls Try.prog 31 #[.agg #[.int .i64 c0, .slice a00 n0 u00], .agg #[.int .i64 c1, .slice a10 n1 u10]] w0 fun e w1 => e = .returned (.bool r0) ∧ Below w0.heap.size w0 w1) :
    Calls Try.prog 6 #[.agg #[.int .i64 c0, .slice A0 n0 cap0], .agg #[.int .i64 c1, .slice A1 n1 cap1]] w fun e w' => e = .returned (.bool true) ∧ Below w.heap.size w w' := by
  have HS := Lib.hid HS0
  have HI := Lib.hid HI0
  clear HS0 HI0
  have hB := Below.refl w.heap.size w
  have hl_6 : (0 : Int) ≤ 1048576 - (n0 : Int) := by omega
  have hl_9 : (0 : Int) ≤ 1048576 - (n0 : Int) - (n1 : Int) := by omega
  go_enter Try.func6, Try.ntmps6
  go_wp2_with fail
  have hb_1 : Below w.heap.size w ((w.alloc (.cells #[.int .i64 c0, .slice A0 n0 cap0] 24)).alloc (.cells #[.int .i64 c1, .slice A1 n1 cap1] 24)) := bon (bnew _ _) (bnew _ _)
  have sz_2 : w.heap.size < ((w.alloc (.cells #[.int .i64 c0, .slice A0 n0 cap0] 24)).alloc (.cells #[.int .i64 c1, .slice A1 n1 cap1] 24)).heap.size := by simp <;> omega
  have a0_0 : ((w.alloc (.cells #[.int .i64 c0, .slice A0 n0 cap0] 24)).alloc (.cells #[.int .i64 c1, .slice A1 n1 cap1] 24)).cell? ⟨w.heap.size, 0, none⟩ = some (.int .i64 c0) := by simp
  have a0_1 : ((w.alloc (.cells #[.int .i64 c0, .slice A0 n0 cap0] 24)).alloc (.cells #[.int .i64 c1, .slice A1 n1 cap1] 24)).cell? ⟨w.heap.size, 1, none⟩ = some (.slice A0 n0 cap0) := by simp
  have a0_l := sz_2
  have sz_3 : w.heap.size + 1 < ((w.alloc (.cells #[.int .i64 c0, .slice A0 n0 cap0] 24)).alloc (.cells #[.int .i64 c1, .slice A1 n1 cap1] 24)).heap.size := by simp
  have a1_0 : ((w.alloc (.cells #[.int .i64 c0, .slice A0 n0 cap0] 24)).alloc (.cells #[.int .i64 c1, .slice A1 n1 cap1] 24)).cell? ⟨w.heap.size + 1, 0, none⟩ = some (.int .i64 c1) := by simp
  have a1_1 : ((w.alloc (.cells #[.int .i64 c0, .slice A0 n0 cap0] 24)).alloc (.cells #[.int .i64 c1, .slice A1 n1 cap1] 24)).cell? ⟨w.heap.size + 1, 1, none⟩ = some (.slice A1 n1 cap1) := by simp
  have a1_l := sz_3
  generalize (w.alloc (.cells #[.int .i64 c0, .slice A0 n0 cap0] 24)).alloc (.cells #[.int .i64 c1, .slice A1 n1 cap1] 24) = w1 at hb_1 a0_0 a0_1 a1_0 a1_1 sz_2 a0_l sz_3 a1_l ⊢
  replace in0 := in0.next hb_1 (by omega)
  replace in1 := in1.next hb_1 (by omega)
  replace hB := hB.trans (hb_1.mono hB.size)
  have sz_4 := hb_1.size
  refine (szTerm_c c0 A0 n0 cap0 _ _ (by omega) (by omega) (by first | assumption | (unfold maxLen; omega))).mono ?_
  rintro e w2 ⟨rfl, hb_5⟩
  rw [szv_yes (by omega)]
  replace in0 := in0.next hb_5 (by omega)
  replace in1 := in1.next hb_5 (by omega)
  replace a0_0 := cell_next a0_0 hb_5
  replace a0_1 := cell_next a0_1 hb_5
  replace a1_0 := cell_next a1_0 hb_5
  replace a1_1 := cell_next a1_1 hb_5
  replace a0_l := Nat.lt_of_lt_of_le a0_l hb_5.size
  replace a1_l := Nat.lt_of_lt_of_le a1_l hb_5.size
  replace hB := hB.trans (hb_5.mono hB.size)
  have sz_7 := hb_5.size
  go_wp2_with fail
  refine (szTerm_c c1 A1 n1 cap1 _ _ (by omega) (by omega) (by first | assumption | (unfold maxLen; omega))).mono ?_
  rintro e w3 ⟨rfl, hb_8⟩
  rw [szv_yes (by omega)]
  replace in0 := in0.next hb_8 (by omega)
  replace in1 := in1.next hb_8 (by omega)
  replace a0_0 := cell_next a0_0 hb_8
  replace a0_1 := cell_next a0_1 hb_8
  replace a1_0 := cell_next a1_0 hb_8
  replace a1_1 := cell_next a1_1 hb_8
  replace a0_l := Nat.lt_of_lt_of_le a0_l hb_8.size
  replace a1_l := Nat.lt_of_lt_of_le a1_l hb_8.size
  replace hB := hB.trans (hb_8.mono hB.size)
  have sz_10 := hb_8.size
  go_wp2_with fail
  go_cut [6] (fun s6 wx => s6 = .bool r0 ∧ Below w3.heap.size w3 wx)
  case first =>
    have HT_14 := Lib.hid (fun (x : World) (h : Below w3.drew.heap.size w3.drew x) => toTerm_k c0 A0 n0 cap0 _ z0 x (in0.call (by omega) h) (le_call (by omega) h) h0ok)
    have HT_19 := Lib.hid (fun (x : World) (h : Below w3.drew.heap.size w3.drew x) => toTerm_k c1 A1 n1 cap1 _ z1 x (in1.call (by omega) h) (le_call (by omega) h) h1ok)
    go_region_held3 (fun w' => w'.cell? ⟨w.heap.size, 0, none⟩ = some (.int .i64 c0) ∧ w'.cell? ⟨w.heap.size, 1, none⟩ = some (.slice A0 n0 cap0) ∧ w'.cell? ⟨w.heap.size + 1, 0, none⟩ = some (.int .i64 c1) ∧ w'.cell? ⟨w.heap.size + 1, 1, none⟩ = some (.slice A1 n1 cap1))
      (first | go_keep | exact ⟨cell_on a0_0 hb_16, cell_on a0_1 hb_16, cell_on a1_0 hb_16, cell_on a1_1 hb_16⟩ | exact ⟨cell_on a0_0 hb_21, cell_on a0_1 hb_21, cell_on a1_0 hb_21, cell_on a1_1 hb_21⟩ | exact ⟨cell_on2 a0_0 hb_16 hb_21, cell_on2 a0_1 hb_16 hb_21, cell_on2 a1_0 hb_16 hb_21, cell_on2 a1_1 hb_16 hb_21⟩ | exact ⟨cell_on2 a0_0 hb_21 hb_16, cell_on2 a0_1 hb_21 hb_16, cell_on2 a1_0 hb_21 hb_16, cell_on2 a1_1 hb_21 hb_16⟩ | exact ⟨cell_next (cell_on2 a0_0 hb_16 hb_21) hb_26, cell_next (cell_on2 a0_1 hb_16 hb_21) hb_26, cell_next (cell_on2 a1_0 hb_16 hb_21) hb_26, cell_next (cell_on2 a1_1 hb_16 hb_21) hb_26⟩ | exact ⟨cell_next (cell_on2 a0_0 hb_21 hb_16) hb_26, cell_next (cell_on2 a0_1 hb_21 hb_16) hb_26, cell_next (cell_on2 a1_0 hb_21 hb_16) hb_26, cell_next (cell_on2 a1_1 hb_21 hb_16) hb_26⟩ | exact ⟨cell_next (cell_next (cell_on2 a0_0 hb_16 hb_21) hb_26) (bnew _ _), cell_next (cell_next (cell_on2 a0_1 hb_16 hb_21) hb_26) (bnew _ _), cell_next (cell_next (cell_on2 a1_0 hb_16 hb_21) hb_26) (bnew _ _), cell_next (cell_next (cell_on2 a1_1 hb_16 hb_21) hb_26) (bnew _ _)⟩ | exact ⟨cell_next (cell_next (cell_on2 a0_0 hb_21 hb_16) hb_26) (bnew _ _), cell_next (cell_next (cell_on2 a0_1 hb_21 hb_16) hb_26) (bnew _ _), cell_next (cell_next (cell_on2 a1_0 hb_21 hb_16) hb_26) (bnew _ _), cell_next (cell_next (cell_on2 a1_1 hb_21 hb_16) hb_26) (bnew _ _)⟩)
      (first | (go_at_call_of 17 A0; with_reducible refine (HT_14.out _ (Below.refl _ _)).mono ?_; rintro e v_15 ⟨g_17, rfl, own_18, hb_16⟩) | (go_at_call_of 17 A0; with_reducible refine (HT_14.out _ hb_21).mono ?_; rintro e v_15 ⟨g_17, rfl, own_18, hb_16⟩) | (go_at_call_of 17 A1; with_reducible refine (HT_19.out _ (Below.refl _ _)).mono ?_; rintro e v_20 ⟨g_22, rfl, own_23, hb_21⟩) | (go_at_call_of 17 A1; with_reducible refine (HT_19.out _ hb_16).mono ?_; rintro e v_20 ⟨g_22, rfl, own_23, hb_21⟩) | (go_at_call 30; with_reducible refine (HS.out _ _ _ _ _ (own_18.next hb_21).all own_23.all).mono ?_; rintro e v_25 ⟨rfl, hb_26⟩) | (go_at_call 30; with_reducible refine (HS.out _ _ _ _ _ own_18.all (own_23.next hb_16).all).mono ?_; rintro e v_25 ⟨rfl, hb_26⟩))
    all_goals (go_wp2_with fail; go_meet; first | exact ⟨rfl, bon (bon (bstep hb_16) hb_21) hb_26⟩ | exact ⟨rfl, bon (bon (bstep hb_21) hb_16) hb_26⟩)
  case rest =>
    obtain ⟨rfl, hb_13⟩ := hcut
    obtain ⟨w4, hwx⟩ : ∃ x, x = wc := ⟨_, rfl⟩
    subst hwx
    replace in0 := in0.next hb_13 (by omega)
    replace in1 := in1.next hb_13 (by omega)
    replace a0_0 := cell_next a0_0 hb_13
    replace a0_1 := cell_next a0_1 hb_13
    replace a1_0 := cell_next a1_0 hb_13
    replace a1_1 := cell_next a1_1 hb_13
    replace a0_l := Nat.lt_of_lt_of_le a0_l hb_13.size
    replace a1_l := Nat.lt_of_lt_of_le a1_l hb_13.size
    replace hB := hB.trans (hb_13.mono hB.size)
    have sz_27 := hb_13.size
    go_wp2_with fail
    refine (toTerm_k c0 A0 n0 cap0 _ z0 _ in0 (by omega) h0ok).mono ?_
    rintro e w5 ⟨g_28, rfl, own_29, hb_30⟩
    replace in0 := in0.next hb_30 (by omega)
    replace in1 := in1.next hb_30 (by omega)
    replace a0_0 := cell_next a0_0 hb_30
    replace a0_1 := cell_next a0_1 hb_30
    replace a1_0 := cell_next a1_0 hb_30
    replace a1_1 := cell_next a1_1 hb_30
    replace a0_l := Nat.lt_of_lt_of_le a0_l hb_30.size
    replace a1_l := Nat.lt_of_lt_of_le a1_l hb_30.size
    replace hB := hB.trans (hb_30.mono hB.size)
    have sz_31 := hb_30.size
    go_wp2_with fail
    have hb_32 : Below w5.heap.size w5 (w5.alloc (.cells #[.int .i64 c0, .slice (some ⟨g_28, 0, none⟩) n0 n0] 27)) := bnew _ _
    have sz_33 : w5.heap.size < (w5.alloc (.cells #[.int .i64 c0, .slice (some ⟨g_28, 0, none⟩) n0 n0] 27)).heap.size := by simp
    have x0_0 : (w5.alloc (.cells #[.int .i64 c0, .slice (some ⟨g_28, 0, none⟩) n0 n0] 27)).cell? ⟨w5.heap.size, 0, none⟩ = some (.int .i64 c0) := by simp
    have x0_1 : (w5.alloc (.cells #[.int .i64 c0, .slice (some ⟨g_28, 0, none⟩) n0 n0] 27)).cell? ⟨w5.heap.size, 1, none⟩ = some (.slice (some ⟨g_28, 0, none⟩) n0 n0) := by simp
    have x0_l := sz_33
    generalize w5.alloc (.cells #[.int .i64 c0, .slice (some ⟨g_28, 0, none⟩) n0 n0] 27) = w6 at hb_32 x0_0 x0_1 sz_33 x0_l ⊢
    replace in0 := in0.next hb_32 (by omega)
    replace in1 := in1.next hb_32 (by omega)
    replace a0_0 := cell_next a0_0 hb_32
    replace a0_1 := cell_next a0_1 hb_32
    replace a1_0 := cell_next a1_0 hb_32
    replace a1_1 := cell_next a1_1 hb_32
    replace a0_l := Nat.lt_of_lt_of_le a0_l hb_32.size
    replace a1_l := Nat.lt_of_lt_of_le a1_l hb_32.size
    replace own_29 := own_29.next hb_32
    replace hB := hB.trans (hb_32.mono hB.size)
    have sz_34 := hb_32.size
    refine (toTerm_k c1 A1 n1 cap1 _ z1 _ in1 (by omega) h1ok).mono ?_
    rintro e w7 ⟨g_35, rfl, own_36, hb_37⟩
    replace in0 := in0.next hb_37 (by omega)
    replace in1 := in1.next hb_37 (by omega)
    replace a0_0 := cell_next a0_0 hb_37
    replace a0_1 := cell_next a0_1 hb_37
    replace a1_0 := cell_next a1_0 hb_37
    replace a1_1 := cell_next a1_1 hb_37
    replace a0_l := Nat.lt_of_lt_of_le a0_l hb_37.size
    replace a1_l := Nat.lt_of_lt_of_le a1_l hb_37.size
    replace own_29 := own_29.next hb_37
    replace x0_0 := cell_next x0_0 hb_37
    replace x0_1 := cell_next x0_1 hb_37
    replace x0_l := Nat.lt_of_lt_of_le x0_l hb_37.size
    replace hB := hB.trans (hb_37.mono hB.size)
    have sz_38 := hb_37.size
    go_wp2_with fail
    have hb_39 : Below w7.heap.size w7 (w7.alloc (.cells #[.int .i64 c1, .slice (some ⟨g_35, 0, none⟩) n1 n1] 27)) := bnew _ _
    have sz_40 : w7.heap.size < (w7.alloc (.cells #[.int .i64 c1, .slice (some ⟨g_35, 0, none⟩) n1 n1] 27)).heap.size := by simp
    have x1_0 : (w7.alloc (.cells #[.int .i64 c1, .slice (some ⟨g_35, 0, none⟩) n1 n1] 27)).cell? ⟨w7.heap.size, 0, none⟩ = some (.int .i64 c1) := by simp
    have x1_1 : (w7.alloc (.cells #[.int .i64 c1, .slice (some ⟨g_35, 0, none⟩) n1 n1] 27)).cell? ⟨w7.heap.size, 1, none⟩ = some (.slice (some ⟨g_35, 0, none⟩) n1 n1) := by simp
    have x1_l := sz_40
    generalize w7.alloc (.cells #[.int .i64 c1, .slice (some ⟨g_35, 0, none⟩) n1 n1] 27) = w8 at hb_39 x1_0 x1_1 sz_40 x1_l ⊢
    replace in0 := in0.next hb_39 (by omega)
    replace in1 := in1.next hb_39 (by omega)
    replace a0_0 := cell_next a0_0 hb_39
    replace a0_1 := cell_next a0_1 hb_39
    replace a1_0 := cell_next a1_0 hb_39
    replace a1_1 := cell_next a1_1 hb_39
    replace a0_l := Nat.lt_of_lt_of_le a0_l hb_39.size
    replace a1_l := Nat.lt_of_lt_of_le a1_l hb_39.size
    replace own_29 := own_29.next hb_39
    replace x0_0 := cell_next x0_0 hb_39
    replace x0_1 := cell_next x0_1 hb_39
    replace x0_l := Nat.lt_of_lt_of_le x0_l hb_39.size
    replace own_36 := own_36.next hb_39
    replace hB := hB.trans (hb_39.mono hB.size)
    have sz_41 := hb_39.size
    refine (HI.out w8 _ _ _ _ ((own_29.inn).more (by omega)) ((own_36.inn).more (by omega))).mono ?_
    rintro e w9 ⟨rfl, hb_42⟩
    replace in0 := in0.next hb_42 (by omega)
    replace in1 := in1.next hb_42 (by omega)
    replace a0_0 := cell_next a0_0 hb_42
    replace a0_1 := cell_next a0_1 hb_42
    replace a1_0 := cell_next a1_0 hb_42
    replace a1_1 := cell_next a1_1 hb_42
    replace a0_l := Nat.lt_of_lt_of_le a0_l hb_42.size
    replace a1_l := Nat.lt_of_lt_of_le a1_l hb_42.size
    replace own_29 := own_29.next hb_42
    replace x0_0 := cell_next x0_0 hb_42
    replace x0_1 := cell_next x0_1 hb_42
    replace x0_l := Nat.lt_of_lt_of_le x0_l hb_42.size
    replace own_36 := own_36.next hb_42
    replace x1_0 := cell_next x1_0 hb_42
    replace x1_1 := cell_next x1_1 hb_42
    replace x1_l := Nat.lt_of_lt_of_le x1_l hb_42.size
    replace hB := hB.trans (hb_42.mono hB.size)
    have sz_43 := hb_42.size
    go_wp2_with fail
    -- if g0 != w0 {
    have HT_44 := Lib.hid (toTerm_k c0 A0 n0 cap0 _ z0 w9.drew in0.drew (by show _ ≤ w9.heap.size; omega) h0ok)
    have HE_45 : Hid (∀ w10 g_46, Below w9.drew.heap.size w9.drew w10 → OwnL w10 w9.drew.heap.size w10.heap.size (some ⟨g_46, 0, none⟩) n0 n0 z0 → Calls Try.prog 19 #[.agg #[.int .i64 c0, .slice (some ⟨g_28, 0, none⟩) n0 n0], .agg #[.int .i64 c0, .slice (some ⟨g_46, 0, none⟩) n0 n0]] w10 fun e w' => e = .returned (.bool true) ∧ Below w10.heap.size w10 w') := fun w10 g_46 hb_48 own_47 => eqTerm_k c0 (some ⟨g_28, 0, none⟩) (some ⟨g_46, 0, none⟩) n0 n0 n0 _ _ z0 w10 ((own_29.inn).call (by omega) hb_48) own_47.inn (le_call (by omega) hb_48) (Nat.le_refl _) h0ok
    go_region_held3 (fun w' => w'.cell? ⟨w.heap.size, 0, none⟩ = some (.int .i64 c0) ∧ w'.cell? ⟨w.heap.size, 1, none⟩ = some (.slice A0 n0 cap0) ∧ w'.cell? ⟨w5.heap.size, 0, none⟩ = some (.int .i64 c0) ∧ w'.cell? ⟨w5.heap.size, 1, none⟩ = some (.slice (some ⟨g_28, 0, none⟩) n0 n0))
      (first | go_keep | exact ⟨cell_on a0_0 hb_48, cell_on a0_1 hb_48, cell_on x0_0 hb_48, cell_on x0_1 hb_48⟩ | exact ⟨cell_on2 a0_0 hb_48 hb_50, cell_on2 a0_1 hb_48 hb_50, cell_on2 x0_0 hb_48 hb_50, cell_on2 x0_1 hb_48 hb_50⟩)
      (first | (go_at_call 17; refine HT_44.out.mono ?_; rintro e w10 ⟨g_46, rfl, own_47, hb_48⟩) | (go_at_call 19; refine (HE_45.out _ _ hb_48 own_47).mono ?_; rintro e w11 ⟨rfl, hb_50⟩))
    replace hb_48 := (bstep hb_48)
    replace in0 := in0.next hb_48 (by omega)
    replace in1 := in1.next hb_48 (by omega)
    replace a0_0 := cell_next a0_0 hb_48
    replace a0_1 := cell_next a0_1 hb_48
    replace a1_0 := cell_next a1_0 hb_48
    replace a1_1 := cell_next a1_1 hb_48
    replace a0_l := Nat.lt_of_lt_of_le a0_l hb_48.size
    replace a1_l := Nat.lt_of_lt_of_le a1_l hb_48.size
    replace own_29 := own_29.next hb_48
    replace x0_0 := cell_next x0_0 hb_48
    replace x0_1 := cell_next x0_1 hb_48
    replace x0_l := Nat.lt_of_lt_of_le x0_l hb_48.size
    replace own_36 := own_36.next hb_48
    replace x1_0 := cell_next x1_0 hb_48
    replace x1_1 := cell_next x1_1 hb_48
    replace x1_l := Nat.lt_of_lt_of_le x1_l hb_48.size
    replace hB := hB.trans (hb_48.mono hB.size)
    have sz_51 := hb_48.size
    replace in0 := in0.next hb_50 (by omega)
    replace in1 := in1.next hb_50 (by omega)
    replace a0_0 := cell_next a0_0 hb_50
    replace a0_1 := cell_next a0_1 hb_50
    replace a1_0 := cell_next a1_0 hb_50
    replace a1_1 := cell_next a1_1 hb_50
    replace a0_l := Nat.lt_of_lt_of_le a0_l hb_50.size
    replace a1_l := Nat.lt_of_lt_of_le a1_l hb_50.size
    replace own_29 := own_29.next hb_50
    replace x0_0 := cell_next x0_0 hb_50
    replace x0_1 := cell_next x0_1 hb_50
    replace x0_l := Nat.lt_of_lt_of_le x0_l hb_50.size
    replace own_36 := own_36.next hb_50
    replace x1_0 := cell_next x1_0 hb_50
    replace x1_1 := cell_next x1_1 hb_50
    replace x1_l := Nat.lt_of_lt_of_le x1_l hb_50.size
    replace hB := hB.trans (hb_50.mono hB.size)
    have sz_52 := hb_50.size
    clear HT_44 HE_45 own_47
    go_wp2_with fail
    have HT_53 := Lib.hid (toTerm_k c1 A1 n1 cap1 _ z1 w11.drew in1.drew (by show _ ≤ w11.heap.size; omega) h1ok)
    have HE_54 : Hid (∀ w12 g_55, Below w11.drew.heap.size w11.drew w12 → OwnL w12 w11.drew.heap.size w12.heap.size (some ⟨g_55, 0, none⟩) n1 n1 z1 → Calls Try.prog 19 #[.agg #[.int .i64 c1, .slice (some ⟨g_35, 0, none⟩) n1 n1], .agg #[.int .i64 c1, .slice (some ⟨g_55, 0, none⟩) n1 n1]] w12 fun e w' => e = .returned (.bool true) ∧ Below w12.heap.size w12 w') := fun w12 g_55 hb_57 own_56 => eqTerm_k c1 (some ⟨g_35, 0, none⟩) (some ⟨g_55, 0, none⟩) n1 n1 n1 _ _ z1 w12 ((own_36.inn).call (by omega) hb_57) own_56.inn (le_call (by omega) hb_57) (Nat.le_refl _) h1ok
    go_region_held3 (fun w' => w'.cell? ⟨w.heap.size + 1, 0, none⟩ = some (.int .i64 c1) ∧ w'.cell? ⟨w.heap.size + 1, 1, none⟩ = some (.slice A1 n1 cap1) ∧ w'.cell? ⟨w7.heap.size, 0, none⟩ = some (.int .i64 c1) ∧ w'.cell? ⟨w7.heap.size, 1, none⟩ = some (.slice (some ⟨g_35, 0, none⟩) n1 n1))
      (first | go_keep | exact ⟨cell_on a1_0 hb_57, cell_on a1_1 hb_57, cell_on x1_0 hb_57, cell_on x1_1 hb_57⟩ | exact ⟨cell_on2 a1_0 hb_57 hb_59, cell_on2 a1_1 hb_57 hb_59, cell_on2 x1_0 hb_57 hb_59, cell_on2 x1_1 hb_57 hb_59⟩)
      (first | (go_at_call 17; refine HT_53.out.mono ?_; rintro e w12 ⟨g_55, rfl, own_56, hb_57⟩) | (go_at_call 19; refine (HE_54.out _ _ hb_57 own_56).mono ?_; rintro e w13 ⟨rfl, hb_59⟩))
    replace hb_57 := (bstep hb_57)
    replace in0 := in0.next hb_57 (by omega)
    replace in1 := in1.next hb_57 (by omega)
    replace a0_0 := cell_next a0_0 hb_57
    replace a0_1 := cell_next a0_1 hb_57
    replace a1_0 := cell_next a1_0 hb_57
    replace a1_1 := cell_next a1_1 hb_57
    replace a0_l := Nat.lt_of_lt_of_le a0_l hb_57.size
    replace a1_l := Nat.lt_of_lt_of_le a1_l hb_57.size
    replace own_29 := own_29.next hb_57
    replace x0_0 := cell_next x0_0 hb_57
    replace x0_1 := cell_next x0_1 hb_57
    replace x0_l := Nat.lt_of_lt_of_le x0_l hb_57.size
    replace own_36 := own_36.next hb_57
    replace x1_0 := cell_next x1_0 hb_57
    replace x1_1 := cell_next x1_1 hb_57
    replace x1_l := Nat.lt_of_lt_of_le x1_l hb_57.size
    replace hB := hB.trans (hb_57.mono hB.size)
    have sz_60 := hb_57.size
    replace in0 := in0.next hb_59 (by omega)
    replace in1 := in1.next hb_59 (by omega)
    replace a0_0 := cell_next a0_0 hb_59
    replace a0_1 := cell_next a0_1 hb_59
    replace a1_0 := cell_next a1_0 hb_59
    replace a1_1 := cell_next a1_1 hb_59
    replace a0_l := Nat.lt_of_lt_of_le a0_l hb_59.size
    replace a1_l := Nat.lt_of_lt_of_le a1_l hb_59.size
    replace own_29 := own_29.next hb_59
    replace x0_0 := cell_next x0_0 hb_59
    replace x0_1 := cell_next x0_1 hb_59
    replace x0_l := Nat.lt_of_lt_of_le x0_l hb_59.size
    replace own_36 := own_36.next hb_59
    replace x1_0 := cell_next x1_0 hb_59
    replace x1_1 := cell_next x1_1 hb_59
    replace x1_l := Nat.lt_of_lt_of_le x1_l hb_59.size
    replace hB := hB.trans (hb_59.mono hB.size)
    have sz_61 := hb_59.size
    clear HT_53 HE_54 own_56
    go_wp2_with fail
    go_ret
    exact ⟨rfl, hB⟩

set_option maxRecDepth 100000 in
set_option maxHeartbeats 4000000 in
theorem walk (c0 : Int) (A0 : Option Addr) (n0 cap0 : Nat) (z0 : List Int) (c1 : Int) (A1 : Option Addr) (n1 cap1 : Nat) (z1 : List Int) (w : World) (h0row : Row w w.heap.size A0 (z0.map ic)) (h0len : z0.length = n0) (h0max : n0 ≤ maxLen) (h1row : Row w w.heap.size A1 (z1.map ic)) (h1len : z1.length = n1) (h1max : n1 ≤ maxLen) :
    Calls Try.prog 6 #[.agg #[.int .i64 c0, .slice A0 n0 cap0], .agg #[.int .i64 c1, .slice A1 n1 cap1]] w fun e w' => e = .returned (.bool true) ∧ Below w.heap.size w w' := by
  by_cases h0 : n0 ≤ 1048576
  · by_cases h1 : n0 + n1 ≤ 1048576
    · exact road c0 A0 n0 cap0 z0 c1 A1 n1 cap1 z1 w ⟨h0len, h0row⟩ h0 ⟨h1len, h1row⟩ (by omega) (by omega) (sameT (c0, z0) (c1, z1)) (fun w0 a00 u00 a10 u10 h g => specSame_c c0 a00 n0 u00 z0 c1 a10 n1 u10 z1 w0 h h0 g (by omega)) (fun w0 a00 u00 a10 u10 h g => implSame_c c0 a00 n0 u00 z0 c1 a10 n1 u10 z1 w0 h h0 g (by omega))
    · exact early1 c0 A0 n0 cap0 z0 c1 A1 n1 cap1 z1 w ⟨h0len, h0row⟩ ⟨h1len, h1row⟩ h0 (by omega) h0max h1max
  · exact early0 c0 A0 n0 cap0 z0 c1 A1 n1 cap1 z1 w ⟨h0len, h0row⟩ ⟨h1len, h1row⟩ (by omega) h0max h1max

set_option maxRecDepth 100000 in
set_option maxHeartbeats 4000000 in
theorem lifted (os : Os) (started : os.Started) (H : Type) (enc : TypeId × Value → H) :
    ReturnsInHanded {} Try.checked os 6 .any (Rows.fnExactSameTermSpec.pre6 enc Try.prog Try.f6 Rows.fnExactSameTermRow.domain false) (Rows.fnExactSameTermSpec.post enc Try.prog Try.f6 false true false false) := by
  refine returnsInHanded_of_change (C := Try.checked) own started (by kernel_rfl) Try.func6
    (ChangeSpec.witness6 (enc := enc) (C := Try.checked) false ⟨#[], #[.agg #[.int .i64 0, .slice none 0 0], .agg #[.int .i64 0, .slice none 0 0]], []⟩ 8 (by kernel_rfl) (by kernel_rfl) (by kernel_rfl) (by kernel_rfl)) ?_
  intro W base args ds gs before hval0 hW hcnd _
  have hval : ∀ (j : Nat) t v, Try.f6.params[j]? = some t → args[j]? = some v → Value.okWide Try.prog W .any base t v := hval0
  have hW' := hW
  obtain ⟨p, q, hA0, hV, rfl, hfz, hnd⟩ := hW
  have hA : DataW.TrodAll enc Try.prog W 0 (fun _ => true) true Try.f6.params.toList args.toList ds p := hA0
  rw [Try.params6] at hA hval
  obtain ⟨v0, vs0, d0, ds0, p0, q0, hargs, rfl, rfl, g0, r0⟩ := trodAll_cons hA
  obtain ⟨v1, vs1, d1, ds1, p1, q1, rfl, rfl, rfl, g1, r1⟩ := trodAll_cons r0
  obtain ⟨rfl, rfl, rfl⟩ := trodAll_nil r1
  obtain rfl : args = #[v0, v1] := by cases args; simp_all
  obtain ⟨rfl, rfl⟩ := trodVars_none hV
  have k0 := g0
  have lt0 : ∀ x ∈ p0, x.block < W.heap.size := by obtain ⟨m, hm⟩ := k0; exact DataW.trod_lt m _ _ _ hm
  have k1 := g1
  have lt1 : ∀ x ∈ p1, x.block < W.heap.size := by obtain ⟨m, hm⟩ := k1; exact DataW.trod_lt m _ _ _ hm
  obtain ⟨c0, A0, n0, cap0, z0, rfl, h0len, h0max, h0row, _⟩ := term_in (hval 0 24 v0 rfl rfl) g0
  obtain ⟨c1, A1, n1, cap1, z1, rfl, h1len, h1max, h1row, _⟩ := term_in (hval 1 24 v1 rfl rfl) g1
  clear hA0 hval0
  simp only [List.append_nil] at hW'
  refine (walk c0 A0 n0 cap0 z0 c1 A1 n1 cap1 z1 W h0row h0len h0max h1row h1len h1max).mono fun e W' ⟨he, bel⟩ => ?_
  subst he
  exact ⟨_, rfl, _, _, _, [], _, [], hW', trodAll_mk1 (shut_bool Try.underlying4 _), (trodAll_cons_mk (Below.trod laidOut (by kernel_rfl) (of_decide_eq_true (by kernel_rfl)) k0 bel lt0) (trodAll_cons_mk (Below.trod laidOut (by kernel_rfl) (of_decide_eq_true (by kernel_rfl)) k1 bel lt1) trodAll_mk0)), rfl, bel.frame _, fun h => by cases h⟩

theorem over : Rows.fnExactSameTermRow.holds Try.pinned (OpenSpec.ofChange Rows.fnExactSameTermSpec) :=
  OpenClaim.holds_of_wide 6 Try.f6 rfl rfl rfl rfl rfl rfl rfl ⟨rfl, rfl, rfl, rfl, rfl⟩ rfl rfl rfl rfl rfl (by kernel_rfl) Try.func6 (by kernel_rfl)
    (of_decide_eq_true (by kernel_rfl)) (by unfold Func.isWrapper; first | (rw [if_pos (by decide +kernel)]; kernel_rfl) | (rw [if_neg (by decide +kernel)]; exact ⟨rfl, rfl⟩))
    (fun os started H enc _ => lifted os started H enc)

/-- The statement. -/
theorem proved : Rows.FnExactSameTermSaid := over
#print axioms proved
end Go.Proofs.Ytccjnnkohmmooaa.fnExactSameTerm
