/-
  For every policy the program's MinimalPolicy answers as the model's, leaves it as it was, and gives memory of its own.
  Conditions: none but those that the statement itself bears.
-/
import Derived.Test.YtopijecdhjnipaaRows
import Derived.WalkKit
import Derived.ProofKit
import Derived.OpenShut
import Derived.ShutString
import Derived.ChangeOld
import Derived.Below
import Derived.WalkSmall
import Derived.Test.YtopijecdhjnipaaTms
import Derived.Test.YtopijecdhjnipaaMinT
import Derived.Test.YtopijecdhjnipaaMinS
import Derived.Test.YtopijecdhjnipaaMarkP
namespace Go.Proofs.Ytopijecdhjnipaa.fnExactMinimalPolicy
open Go.ChangeShapes Go.WideShapes Go.ChangeAt Go.RowKit
open Go.ChangeMaps (open_string shut_string)
set_option linter.unusedVariables false

theorem own : ownKnob Try.prog.godebug = none := by kernel_rfl
theorem laidOut : laidOutB Try.prog = true := by kernel_rfl
set_option maxRecDepth 100000 in
set_option maxHeartbeats 8000000 in
theorem early0 (A0 : Option Addr) (n0 cap0 : Nat) (t0 : List (List Int)) (w : World) (in0 : InLL w w.heap.size A0 n0 t0) (q0 : 1048576 < (n0 + totLL t0)) (vn0 : n0 ≤ maxLen) (en0 : ∀ x ∈ t0, x.length ≤ maxLen) :
    Calls Try.prog 3 #[.agg #[.slice A0 n0 cap0]] w fun e w' => e = .returned (.bool true) ∧ Below w.heap.size w w' := by
  have hB := Below.refl w.heap.size w
  go_enter Try.func3, Try.ntmps3
  go_wp2_with fail
  have hb_1 : Below w.heap.size w (w.alloc (.cells #[.slice A0 n0 cap0] 24)) := bnew _ _
  have sz_2 : w.heap.size < (w.alloc (.cells #[.slice A0 n0 cap0] 24)).heap.size := by simp
  have a0_0 : (w.alloc (.cells #[.slice A0 n0 cap0] 24)).cell? ⟨w.heap.size, 0, none⟩ = some (.slice A0 n0 cap0) := by simp
  have a0_l := sz_2
  generalize w.alloc (.cells #[.slice A0 n0 cap0] 24) = w1 at hb_1 a0_0 sz_2 a0_l ⊢
  replace in0 := in0.next hb_1 (by omega)
  replace hB := hB.trans (hb_1.mono hB.size)
  have sz_3 := hb_1.size
  refine (szPolicy_k A0 n0 cap0 _ t0 _ _ in0 (by omega) (by omega) (by omega) (by first | assumption | (unfold maxLen; omega)) (by first | assumption | exact fitsLL_of (by unfold maxLen; omega))).mono ?_
  rintro e w2 ⟨rfl, hb_4⟩
  rw [szv_no (by omega)]
  replace in0 := in0.next hb_4 (by omega)
  replace a0_0 := cell_next a0_0 hb_4
  replace a0_l := Nat.lt_of_lt_of_le a0_l hb_4.size
  replace hB := hB.trans (hb_4.mono hB.size)
  have sz_5 := hb_4.size
  go_wp2_with fail
  go_ret
  exact ⟨rfl, hB⟩

set_option maxRecDepth 100000 in
set_option maxHeartbeats 8000000 in
theorem road (A0 : Option Addr) (n0 cap0 : Nat) (t0 : List (List Int)) (w : World) (in0 : InLL w w.heap.size A0 n0 t0) (h0ok : n0 ≤ 1048576) (h0eok : totLL t0 ≤ 1048576) (h0sum : n0 + totLL t0 ≤ 1048576) (y00 : List (List Int)) (l00 : Nat) (r1 : Bool) (k00 : l00 ≤ 1000) (k00e : totLL y00 ≤ 100000)
    (HS0 : ∀ (w0 : World) (a00 : Option Addr) (u00 : Nat), InLL w0 w0.heap.size a00 n0 t0 → Calls Try.prog 8 #[.agg #[.slice a00 n0 u00]] w0 fun e w1 => ∃ (R00 : Option Addr) (d00 : Nat), e = .returned (.tuple #[.agg #[.slice R00 l00 d00], .bool r1]) ∧ InLL w1 w1.heap.size R00 l00 y00 ∧ Below w0.heap.size w0 w1)
    (HI0 : ∀ (w0 : World) (a00 : Option Addr) (u00 : Nat), InLL w0 w0.heap.size a00 n0 t0 → Calls Try.prog 10 #[.agg #[.slice a00 n0 u00]] w0 fun e w1 => ∃ (R00 : Option Addr) (d00 : Nat), e = .returned (.tuple #[.agg #[.slice R00 l00 d00], .bool r1]) ∧ OwnLO w1 w0.heap.size w1.heap.size R00 l00 d00 y00 ∧ Below w0.heap.size w0 w1) :
    Calls Try.prog 3 #[.agg #[.slice A0 n0 cap0]] w fun e w' => e = .returned (.bool true) ∧ Below w.heap.size w w' := by
  have HS := Lib.hid HS0
  have HI := Lib.hid HI0
  clear HS0 HI0
  have hB := Below.refl w.heap.size w
  have hl_5 : (0 : Int) ≤ 1048576 - ((n0 + totLL t0 : Nat) : Int) := by omega
  go_enter Try.func3, Try.ntmps3
  go_wp2_with fail
  have hb_1 : Below w.heap.size w (w.alloc (.cells #[.slice A0 n0 cap0] 24)) := bnew _ _
  have sz_2 : w.heap.size < (w.alloc (.cells #[.slice A0 n0 cap0] 24)).heap.size := by simp
  have a0_0 : (w.alloc (.cells #[.slice A0 n0 cap0] 24)).cell? ⟨w.heap.size, 0, none⟩ = some (.slice A0 n0 cap0) := by simp
  have a0_l := sz_2
  generalize w.alloc (.cells #[.slice A0 n0 cap0] 24) = w1 at hb_1 a0_0 sz_2 a0_l ⊢
  replace in0 := in0.next hb_1 (by omega)
  replace hB := hB.trans (hb_1.mono hB.size)
  have sz_3 := hb_1.size
  refine (szPolicy_k A0 n0 cap0 _ t0 _ _ in0 (by omega) (by omega) (by omega) (by first | assumption | (unfold maxLen; omega)) (by first | assumption | exact fitsLL_of (by unfold maxLen; omega))).mono ?_
  rintro e w2 ⟨rfl, hb_4⟩
  rw [szv_yes (by omega)]
  replace in0 := in0.next hb_4 (by omega)
  replace a0_0 := cell_next a0_0 hb_4
  replace a0_l := Nat.lt_of_lt_of_le a0_l hb_4.size
  replace hB := hB.trans (hb_4.mono hB.size)
  have sz_6 := hb_4.size
  go_wp2_with fail
  refine (toPolicy_k A0 n0 cap0 _ t0 _ in0 (by omega) h0ok h0eok).mono ?_
  rintro e w3 ⟨g_7, rfl, own_8, hb_9⟩
  replace in0 := in0.next hb_9 (by omega)
  replace a0_0 := cell_next a0_0 hb_9
  replace a0_l := Nat.lt_of_lt_of_le a0_l hb_9.size
  replace hB := hB.trans (hb_9.mono hB.size)
  have sz_10 := hb_9.size
  go_wp2_with fail
  refine (HS.out w3 _ _ own_8.inn).mono ?_
  rintro e w4 ⟨R_12, d_13, rfl, own_14, hb_11⟩
  clear own_8
  replace in0 := in0.next hb_11 (by omega)
  replace a0_0 := cell_next a0_0 hb_11
  replace a0_l := Nat.lt_of_lt_of_le a0_l hb_11.size
  replace hB := hB.trans (hb_11.mono hB.size)
  have sz_15 := hb_11.size
  go_wp2_with fail
  have hb_16 : Below w4.heap.size w4 (w4.alloc (.cells #[.slice R_12 l00 d_13] 26)) := bnew _ _
  have sz_17 : w4.heap.size < (w4.alloc (.cells #[.slice R_12 l00 d_13] 26)).heap.size := by simp
  have w0_0 : (w4.alloc (.cells #[.slice R_12 l00 d_13] 26)).cell? ⟨w4.heap.size, 0, none⟩ = some (.slice R_12 l00 d_13) := by simp
  have w0_l := sz_17
  generalize w4.alloc (.cells #[.slice R_12 l00 d_13] 26) = w5 at hb_16 w0_0 sz_17 w0_l ⊢
  replace in0 := in0.next hb_16 (by omega)
  replace a0_0 := cell_next a0_0 hb_16
  replace a0_l := Nat.lt_of_lt_of_le a0_l hb_16.size
  replace own_14 := own_14.next hb_16 (by omega)
  replace hB := hB.trans (hb_16.mono hB.size)
  have sz_18 := hb_16.size
  refine (toPolicy_k A0 n0 cap0 _ t0 _ in0 (by omega) h0ok h0eok).mono ?_
  rintro e w6 ⟨g_19, rfl, own_20, hb_21⟩
  replace in0 := in0.next hb_21 (by omega)
  replace a0_0 := cell_next a0_0 hb_21
  replace a0_l := Nat.lt_of_lt_of_le a0_l hb_21.size
  replace own_14 := own_14.next hb_21 (by omega)
  replace w0_0 := cell_next w0_0 hb_21
  replace w0_l := Nat.lt_of_lt_of_le w0_l hb_21.size
  replace hB := hB.trans (hb_21.mono hB.size)
  have sz_22 := hb_21.size
  go_wp2_with fail
  have hb_23 : Below w6.heap.size w6 (w6.alloc (.cells #[.slice (some ⟨g_19, 0, none⟩) n0 n0] 26)) := bnew _ _
  have sz_24 : w6.heap.size < (w6.alloc (.cells #[.slice (some ⟨g_19, 0, none⟩) n0 n0] 26)).heap.size := by simp
  have x0_0 : (w6.alloc (.cells #[.slice (some ⟨g_19, 0, none⟩) n0 n0] 26)).cell? ⟨w6.heap.size, 0, none⟩ = some (.slice (some ⟨g_19, 0, none⟩) n0 n0) := by simp
  have x0_l := sz_24
  generalize w6.alloc (.cells #[.slice (some ⟨g_19, 0, none⟩) n0 n0] 26) = w7 at hb_23 x0_0 sz_24 x0_l ⊢
  replace in0 := in0.next hb_23 (by omega)
  replace a0_0 := cell_next a0_0 hb_23
  replace a0_l := Nat.lt_of_lt_of_le a0_l hb_23.size
  replace own_14 := own_14.next hb_23 (by omega)
  replace w0_0 := cell_next w0_0 hb_23
  replace w0_l := Nat.lt_of_lt_of_le w0_l hb_23.size
  replace own_20 := own_20.next hb_23
  replace hB := hB.trans (hb_23.mono hB.size)
  have sz_25 := hb_23.size
  refine (HI.out w7 _ _ ((own_20.inn).more (by omega))).mono ?_
  rintro e w8 ⟨R_27, d_28, rfl, own_29, hb_26⟩
  replace in0 := in0.next hb_26 (by omega)
  replace a0_0 := cell_next a0_0 hb_26
  replace a0_l := Nat.lt_of_lt_of_le a0_l hb_26.size
  replace own_14 := own_14.next hb_26 (by omega)
  replace w0_0 := cell_next w0_0 hb_26
  replace w0_l := Nat.lt_of_lt_of_le w0_l hb_26.size
  replace own_20 := own_20.next hb_26
  replace x0_0 := cell_next x0_0 hb_26
  replace x0_l := Nat.lt_of_lt_of_le x0_l hb_26.size
  replace hB := hB.trans (hb_26.mono hB.size)
  have sz_30 := hb_26.size
  go_wp2_with fail
  have hb_31 : Below w8.heap.size w8 (w8.alloc (.cells #[.slice R_27 l00 d_28] 26)) := bnew _ _
  have sz_32 : w8.heap.size < (w8.alloc (.cells #[.slice R_27 l00 d_28] 26)).heap.size := by simp
  have g0_0 : (w8.alloc (.cells #[.slice R_27 l00 d_28] 26)).cell? ⟨w8.heap.size, 0, none⟩ = some (.slice R_27 l00 d_28) := by simp
  have g0_l := sz_32
  generalize w8.alloc (.cells #[.slice R_27 l00 d_28] 26) = w9 at hb_31 g0_0 sz_32 g0_l ⊢
  replace in0 := in0.next hb_31 (by omega)
  replace a0_0 := cell_next a0_0 hb_31
  replace a0_l := Nat.lt_of_lt_of_le a0_l hb_31.size
  replace own_14 := own_14.next hb_31 (by omega)
  replace w0_0 := cell_next w0_0 hb_31
  replace w0_l := Nat.lt_of_lt_of_le w0_l hb_31.size
  replace own_20 := own_20.next hb_31
  replace x0_0 := cell_next x0_0 hb_31
  replace x0_l := Nat.lt_of_lt_of_le x0_l hb_31.size
  replace own_29 := own_29.next hb_31
  replace hB := hB.trans (hb_31.mono hB.size)
  have sz_33 := hb_31.size
  -- if !eqPolicy(g0, w0) || g1 != w1 {
  refine (eqPolicy_k R_27 R_12 l00 d_28 d_13 _ _ y00 _ own_29.inn own_14 (by omega) (by omega) (by omega) (by omega)).mono ?_
  rintro e w10 ⟨rfl, hb_34⟩
  replace in0 := in0.next hb_34 (by omega)
  replace a0_0 := cell_next a0_0 hb_34
  replace a0_l := Nat.lt_of_lt_of_le a0_l hb_34.size
  replace own_14 := own_14.next hb_34 (by omega)
  replace w0_0 := cell_next w0_0 hb_34
  replace w0_l := Nat.lt_of_lt_of_le w0_l hb_34.size
  replace own_20 := own_20.next hb_34
  replace x0_0 := cell_next x0_0 hb_34
  replace x0_l := Nat.lt_of_lt_of_le x0_l hb_34.size
  replace own_29 := own_29.next hb_34
  replace g0_0 := cell_next g0_0 hb_34
  replace g0_l := Nat.lt_of_lt_of_le g0_l hb_34.size
  replace hB := hB.trans (hb_34.mono hB.size)
  have sz_35 := hb_34.size
  go_wp2_with fail
  have HT_36 := Lib.hid (toPolicy_k A0 n0 cap0 _ t0 w10.drew in0.drew (by show _ ≤ w10.heap.size; omega) h0ok h0eok)
  have HE_37 : Hid (∀ w11 g_38, Below w10.drew.heap.size w10.drew w11 → OwnLL w11 w10.drew.heap.size w11.heap.size (some ⟨g_38, 0, none⟩) n0 n0 t0 → Calls Try.prog 11 #[.agg #[.slice (some ⟨g_19, 0, none⟩) n0 n0], .agg #[.slice (some ⟨g_38, 0, none⟩) n0 n0]] w11 fun e w' => e = .returned (.bool true) ∧ Below w11.heap.size w11 w') := fun w11 g_38 hb_40 own_39 => eqPolicy_k (some ⟨g_19, 0, none⟩) (some ⟨g_38, 0, none⟩) n0 n0 n0 _ _ t0 w11 ((own_20.inn).call (by omega) hb_40) own_39.inn (le_call (by omega) hb_40) (Nat.le_refl _) h0ok h0eok
  go_region_held3 (fun w' => w'.cell? ⟨w.heap.size, 0, none⟩ = some (.slice A0 n0 cap0) ∧ w'.cell? ⟨w6.heap.size, 0, none⟩ = some (.slice (some ⟨g_19, 0, none⟩) n0 n0))
    (first | go_keep | exact ⟨cell_on a0_0 hb_40, cell_on x0_0 hb_40⟩ | exact ⟨cell_on2 a0_0 hb_40 hb_42, cell_on2 x0_0 hb_40 hb_42⟩)
    (first | (go_at_call 9; refine HT_36.out.mono ?_; rintro e w11 ⟨g_38, rfl, own_39, hb_40⟩) | (go_at_call 11; refine (HE_37.out _ _ hb_40 own_39).mono ?_; rintro e w12 ⟨rfl, hb_42⟩))
  replace hb_40 := (bstep hb_40)
  replace in0 := in0.next hb_40 (by omega)
  replace a0_0 := cell_next a0_0 hb_40
  replace a0_l := Nat.lt_of_lt_of_le a0_l hb_40.size
  replace own_14 := own_14.next hb_40 (by omega)
  replace w0_0 := cell_next w0_0 hb_40
  replace w0_l := Nat.lt_of_lt_of_le w0_l hb_40.size
  replace own_20 := own_20.next hb_40
  replace x0_0 := cell_next x0_0 hb_40
  replace x0_l := Nat.lt_of_lt_of_le x0_l hb_40.size
  replace own_29 := own_29.next hb_40
  replace g0_0 := cell_next g0_0 hb_40
  replace g0_l := Nat.lt_of_lt_of_le g0_l hb_40.size
  replace hB := hB.trans (hb_40.mono hB.size)
  have sz_43 := hb_40.size
  replace in0 := in0.next hb_42 (by omega)
  replace a0_0 := cell_next a0_0 hb_42
  replace a0_l := Nat.lt_of_lt_of_le a0_l hb_42.size
  replace own_14 := own_14.next hb_42 (by omega)
  replace w0_0 := cell_next w0_0 hb_42
  replace w0_l := Nat.lt_of_lt_of_le w0_l hb_42.size
  replace own_20 := own_20.next hb_42
  replace x0_0 := cell_next x0_0 hb_42
  replace x0_l := Nat.lt_of_lt_of_le x0_l hb_42.size
  replace own_29 := own_29.next hb_42
  replace g0_0 := cell_next g0_0 hb_42
  replace g0_l := Nat.lt_of_lt_of_le g0_l hb_42.size
  replace hB := hB.trans (hb_42.mono hB.size)
  have sz_44 := hb_42.size
  clear HT_36 HE_37 own_39
  go_wp2_with fail
  refine (markPolicy_k w5.heap.size w6.heap.size (some ⟨g_19, 0, none⟩) n0 n0 t0 1 _ own_20 (by omega) (by omega) (by omega) (by omega)).mono ?_
  rintro e w13 ⟨rfl, own_46, ho_45⟩
  replace in0 := in0.out ho_45 (by omega) (by omega)
  replace a0_0 := ho_45.cell a0_0 (by omega)
  replace a0_l := Nat.lt_of_lt_of_le a0_l ho_45.size
  replace own_14 := own_14.out ho_45 (by omega) (by omega)
  replace w0_0 := ho_45.cell w0_0 (by omega)
  replace w0_l := Nat.lt_of_lt_of_le w0_l ho_45.size
  replace x0_0 := ho_45.cell x0_0 (by omega)
  replace x0_l := Nat.lt_of_lt_of_le x0_l ho_45.size
  replace own_29 := own_29.out ho_45 (by omega)
  replace g0_0 := ho_45.cell g0_0 (by omega)
  replace g0_l := Nat.lt_of_lt_of_le g0_l ho_45.size
  replace hB := hB.trans (ho_45.below (by omega) (by omega))
  have sz_47 := ho_45.size
  clear own_20
  clear x0_0 x0_l
  clear own_46
  go_wp2_with fail
  -- if k < 0 || !eqPolicy(g0, w0) || g1 != w1 {
  refine (eqPolicy_k R_27 R_12 l00 d_28 d_13 _ _ y00 _ own_29.inn own_14 (by omega) (by omega) (by omega) (by omega)).mono ?_
  rintro e w14 ⟨rfl, hb_48⟩
  replace in0 := in0.next hb_48 (by omega)
  replace a0_0 := cell_next a0_0 hb_48
  replace a0_l := Nat.lt_of_lt_of_le a0_l hb_48.size
  replace own_14 := own_14.next hb_48 (by omega)
  replace w0_0 := cell_next w0_0 hb_48
  replace w0_l := Nat.lt_of_lt_of_le w0_l hb_48.size
  replace own_29 := own_29.next hb_48
  replace g0_0 := cell_next g0_0 hb_48
  replace g0_l := Nat.lt_of_lt_of_le g0_l hb_48.size
  replace hB := hB.trans (hb_48.mono hB.size)
  have sz_49 := hb_48.size
  go_wp2_with fail
  refine (markPolicy_q w7.heap.size w8.heap.size R_27 l00 d_28 y00 1 _ own_29 (by omega) (by omega) (by omega) (by omega)).mono ?_
  rintro e w15 ⟨rfl, own_51, ho_50⟩
  replace in0 := in0.out ho_50 (by omega) (by omega)
  replace a0_0 := ho_50.cell a0_0 (by omega)
  replace a0_l := Nat.lt_of_lt_of_le a0_l ho_50.size
  replace own_14 := own_14.out ho_50 (by omega) (by omega)
  replace w0_0 := ho_50.cell w0_0 (by omega)
  replace w0_l := Nat.lt_of_lt_of_le w0_l ho_50.size
  replace g0_0 := ho_50.cell g0_0 (by omega)
  replace g0_l := Nat.lt_of_lt_of_le g0_l ho_50.size
  replace hB := hB.trans (ho_50.below (by omega) (by omega))
  have sz_52 := ho_50.size
  clear own_29
  go_wp2_with fail
  refine (heldPolicy_k R_27 l00 d_28 _ y00 1 _ own_51.inn (by omega) (by omega) (by omega) (by omega) (by omega)).mono ?_
  rintro e w16 ⟨rfl, hb_53⟩
  replace in0 := in0.next hb_53 (by omega)
  replace a0_0 := cell_next a0_0 hb_53
  replace a0_l := Nat.lt_of_lt_of_le a0_l hb_53.size
  replace own_14 := own_14.next hb_53 (by omega)
  replace w0_0 := cell_next w0_0 hb_53
  replace w0_l := Nat.lt_of_lt_of_le w0_l hb_53.size
  replace g0_0 := cell_next g0_0 hb_53
  replace g0_l := Nat.lt_of_lt_of_le g0_l hb_53.size
  replace own_51 := own_51.next hb_53
  replace hB := hB.trans (hb_53.mono hB.size)
  have sz_54 := hb_53.size
  go_wp2_with fail
  refine (toPolicy_k A0 n0 cap0 _ t0 _ in0 (by omega) h0ok h0eok).mono ?_
  rintro e w17 ⟨g_55, rfl, own_56, hb_57⟩
  replace in0 := in0.next hb_57 (by omega)
  replace a0_0 := cell_next a0_0 hb_57
  replace a0_l := Nat.lt_of_lt_of_le a0_l hb_57.size
  replace own_14 := own_14.next hb_57 (by omega)
  replace w0_0 := cell_next w0_0 hb_57
  replace w0_l := Nat.lt_of_lt_of_le w0_l hb_57.size
  replace g0_0 := cell_next g0_0 hb_57
  replace g0_l := Nat.lt_of_lt_of_le g0_l hb_57.size
  replace own_51 := own_51.next hb_57
  replace hB := hB.trans (hb_57.mono hB.size)
  have sz_58 := hb_57.size
  go_wp2_with fail
  refine (HI.out w17 _ _ own_56.inn).mono ?_
  rintro e w18 ⟨R_60, d_61, rfl, own_62, hb_59⟩
  clear own_56
  replace in0 := in0.next hb_59 (by omega)
  replace a0_0 := cell_next a0_0 hb_59
  replace a0_l := Nat.lt_of_lt_of_le a0_l hb_59.size
  replace own_14 := own_14.next hb_59 (by omega)
  replace w0_0 := cell_next w0_0 hb_59
  replace w0_l := Nat.lt_of_lt_of_le w0_l hb_59.size
  replace g0_0 := cell_next g0_0 hb_59
  replace g0_l := Nat.lt_of_lt_of_le g0_l hb_59.size
  replace own_51 := own_51.next hb_59
  replace hB := hB.trans (hb_59.mono hB.size)
  have sz_63 := hb_59.size
  go_wp2_with fail
  have hb_64 : Below w18.heap.size w18 (w18.alloc (.cells #[.slice R_60 l00 d_61] 26)) := bnew _ _
  have sz_65 : w18.heap.size < (w18.alloc (.cells #[.slice R_60 l00 d_61] 26)).heap.size := by simp
  have h0_0 : (w18.alloc (.cells #[.slice R_60 l00 d_61] 26)).cell? ⟨w18.heap.size, 0, none⟩ = some (.slice R_60 l00 d_61) := by simp
  have h0_l := sz_65
  generalize w18.alloc (.cells #[.slice R_60 l00 d_61] 26) = w19 at hb_64 h0_0 sz_65 h0_l ⊢
  replace in0 := in0.next hb_64 (by omega)
  replace a0_0 := cell_next a0_0 hb_64
  replace a0_l := Nat.lt_of_lt_of_le a0_l hb_64.size
  replace own_14 := own_14.next hb_64 (by omega)
  replace w0_0 := cell_next w0_0 hb_64
  replace w0_l := Nat.lt_of_lt_of_le w0_l hb_64.size
  replace g0_0 := cell_next g0_0 hb_64
  replace g0_l := Nat.lt_of_lt_of_le g0_l hb_64.size
  replace own_51 := own_51.next hb_64
  replace own_62 := own_62.next hb_64
  replace hB := hB.trans (hb_64.mono hB.size)
  have sz_66 := hb_64.size
  -- if !eqPolicy(h0, w0) || h1 != w1 {
  refine (eqPolicy_k R_60 R_12 l00 d_61 d_13 _ _ y00 _ own_62.inn own_14 (by omega) (by omega) (by omega) (by omega)).mono ?_
  rintro e w20 ⟨rfl, hb_67⟩
  replace in0 := in0.next hb_67 (by omega)
  replace a0_0 := cell_next a0_0 hb_67
  replace a0_l := Nat.lt_of_lt_of_le a0_l hb_67.size
  replace own_14 := own_14.next hb_67 (by omega)
  replace w0_0 := cell_next w0_0 hb_67
  replace w0_l := Nat.lt_of_lt_of_le w0_l hb_67.size
  replace g0_0 := cell_next g0_0 hb_67
  replace g0_l := Nat.lt_of_lt_of_le g0_l hb_67.size
  replace own_51 := own_51.next hb_67
  replace own_62 := own_62.next hb_67
  replace h0_0 := cell_next h0_0 hb_67
  replace h0_l := Nat.lt_of_lt_of_le h0_l hb_67.size
  replace hB := hB.trans (hb_67.mono hB.size)
  have sz_68 := hb_67.size
  go_wp2_with fail
  clear own_62
  clear h0_0 h0_l
  refine (heldPolicy_k R_27 l00 d_28 _ y00 1 _ own_51.inn (by omega) (by omega) (by omega) (by omega) (by omega)).mono ?_
  rintro e w21 ⟨rfl, hb_69⟩
  replace in0 := in0.next hb_69 (by omega)
  replace a0_0 := cell_next a0_0 hb_69
  replace a0_l := Nat.lt_of_lt_of_le a0_l hb_69.size
  replace own_14 := own_14.next hb_69 (by omega)
  replace w0_0 := cell_next w0_0 hb_69
  replace w0_l := Nat.lt_of_lt_of_le w0_l hb_69.size
  replace g0_0 := cell_next g0_0 hb_69
  replace g0_l := Nat.lt_of_lt_of_le g0_l hb_69.size
  replace own_51 := own_51.next hb_69
  replace hB := hB.trans (hb_69.mono hB.size)
  have sz_70 := hb_69.size
  go_wp2_with fail
  go_ret
  exact ⟨rfl, hB⟩

set_option maxRecDepth 100000 in
set_option maxHeartbeats 4000000 in
theorem walk (A0 : Option Addr) (n0 cap0 : Nat) (t0 : List (List Int)) (w : World) (h0in : InLL w w.heap.size A0 n0 t0) (h0max : n0 ≤ maxLen) (h0each : ∀ y ∈ t0, y.length ≤ maxLen) :
    Calls Try.prog 3 #[.agg #[.slice A0 n0 cap0]] w fun e w' => e = .returned (.bool true) ∧ Below w.heap.size w w' := by
  by_cases hn : n0 + totLL t0 ≤ 1048576
  · have hk := minR_small t0
    exact road A0 n0 cap0 t0 w h0in (by omega) (by omega) (by omega) (minR t0).1 (minR t0).1.length (minR t0).2 (by omega) (by omega)
      (fun w0 a b h => (specMinimal_c a n0 b w0.heap.size t0 w0 h (Nat.le_refl _) (by omega)).mono fun e w1 ⟨A', c', h1, ⟨rs, h2⟩, h3⟩ => ⟨A', c', h1, h2.inn, h3⟩)
      (fun w0 a b h => (implMinimal_c a n0 b w0.heap.size t0 w0 h (Nat.le_refl _) (by omega) (fun x hx => Nat.le_trans (totLL_mem hx) (by omega))).mono fun e w1 ⟨A', c', h1, ⟨rs, h2⟩, h3⟩ => ⟨A', c', h1, OwnLO.of h2 h3.size, h3⟩)
  · exact early0 A0 n0 cap0 t0 w h0in (by omega) h0max h0each

set_option maxRecDepth 100000 in
set_option maxHeartbeats 4000000 in
theorem lifted (os : Os) (started : os.Started) (H : Type) (enc : TypeId × Value → H) :
    ReturnsInHanded {} Try.checked os 3 .any (Rows.fnExactMinimalPolicySpec.pre6 enc Try.prog Try.f3 Rows.fnExactMinimalPolicyRow.domain false) (Rows.fnExactMinimalPolicySpec.post enc Try.prog Try.f3 false true false false) := by
  refine returnsInHanded_of_change (C := Try.checked) own started (by kernel_rfl) Try.func3
    (ChangeSpec.witness6 (enc := enc) (C := Try.checked) false ⟨#[], #[.agg #[.slice none 0 0]], []⟩ 8 (by kernel_rfl) (by kernel_rfl) (by kernel_rfl) (by kernel_rfl)) ?_
  intro W base args ds gs before hval0 hW hcnd _
  have hval : ∀ (j : Nat) t v, Try.f3.params[j]? = some t → args[j]? = some v → Value.okWide Try.prog W .any base t v := hval0
  have hW' := hW
  obtain ⟨p, q, hA0, hV, rfl, hfz, hnd⟩ := hW
  have hA : DataW.TrodAll enc Try.prog W 0 (fun _ => true) true Try.f3.params.toList args.toList ds p := hA0
  rw [Try.params3] at hA hval
  obtain ⟨v0, vs0, d0, ds0, p0, q0, hargs, rfl, rfl, g0, r0⟩ := trodAll_cons hA
  obtain ⟨rfl, rfl, rfl⟩ := trodAll_nil r0
  obtain rfl : args = #[v0] := by cases args; simp_all
  obtain ⟨rfl, rfl⟩ := trodVars_none hV
  have k0 := g0
  have lt0 : ∀ x ∈ p0, x.block < W.heap.size := by obtain ⟨m, hm⟩ := k0; exact DataW.trod_lt m _ _ _ hm
  obtain ⟨A0, n0, cap0, t0, rfl, h0max, h0in, h0each⟩ := policy_in (hval 0 24 v0 rfl rfl) g0
  clear hA0 hval0
  simp only [List.append_nil] at hW'
  refine (walk A0 n0 cap0 t0 W h0in h0max h0each).mono fun e W' ⟨he, bel⟩ => ?_
  subst he
  exact ⟨_, rfl, _, _, _, [], _, [], hW', trodAll_mk1 (shut_bool Try.underlying4 _), (trodAll_cons_mk (Below.trod laidOut (by kernel_rfl) (of_decide_eq_true (by kernel_rfl)) k0 bel lt0) trodAll_mk0), rfl, bel.frame _, fun h => by cases h⟩

theorem over : Rows.fnExactMinimalPolicyRow.holds Try.pinned (OpenSpec.ofChange Rows.fnExactMinimalPolicySpec) :=
  OpenClaim.holds_of_wide 3 Try.f3 rfl rfl rfl rfl rfl rfl rfl ⟨rfl, rfl, rfl, rfl, rfl⟩ rfl rfl rfl rfl rfl (by kernel_rfl) Try.func3 (by kernel_rfl)
    (of_decide_eq_true (by kernel_rfl)) (by unfold Func.isWrapper; first | (rw [if_pos (by decide +kernel)]; kernel_rfl) | (rw [if_neg (by decide +kernel)]; exact ⟨rfl, rfl⟩))
    (fun os started H enc _ => lifted os started H enc)

/-- The statement. -/
theorem proved : Rows.FnExactMinimalPolicySaid := over
#print axioms proved
end Go.Proofs.Ytopijecdhjnipaa.fnExactMinimalPolicy
