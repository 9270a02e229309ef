/-
  For every two lists of instructions the program's JoinCode answers as the model's, leaves the lists as they were, and gives memory of its own.
  Conditions: none but those that the statement itself bears.
-/
import Derived.Test.YtnfapodeifpeoaaRows
import Derived.WalkKit
import Derived.ProofKit
import Derived.OpenShut
import Derived.ShutString
import Derived.ChangeOld
import Derived.Below
import Derived.WalkSmall
import Derived.Test.YtnfapodeifpeoaaTms
import Derived.Test.YtnfapodeifpeoaaJoinC
namespace Go.Proofs.Ytnfapodeifpeoaa.fnExactJoinCode
open Go.ChangeShapes Go.WideShapes Go.ChangeAt Go.RowKit
open Go.ChangeMaps (open_string shut_string)
set_option linter.unusedVariables false

theorem own : ownKnob Try.prog.godebug = none := by kernel_rfl
theorem laidOut : laidOutB Try.prog = true := by kernel_rfl
set_option maxRecDepth 100000 in
set_option maxHeartbeats 8000000 in
theorem early0 (A0 : Option Addr) (n0 cap0 : Nat) (t0 : List (Int × Int)) (A1 : Option Addr) (n1 cap1 : Nat) (t1 : List (Int × Int)) (w : World) (in0 : InC w w.heap.size A0 n0 t0) (in1 : InC w w.heap.size A1 n1 t1) (q0 : 1048576 < (n0)) (vn0 : n0 ≤ maxLen) (vn1 : n1 ≤ maxLen) :
    Calls Try.prog 12 #[.slice A0 n0 cap0, .slice A1 n1 cap1] w fun e w' => e = .returned (.bool true) ∧ Below w.heap.size w w' := by
  have hB := Below.refl w.heap.size w
  go_enter Try.func12, Try.ntmps12
  go_wp2_with fail
  refine (szInstrS_k A0 n0 cap0 _ _ (by omega) (by omega) (by first | assumption | (unfold maxLen; omega))).mono ?_
  rintro e w1 ⟨rfl, hb_1⟩
  rw [szv_no (by omega)]
  replace in0 := in0.next hb_1 (by omega)
  replace in1 := in1.next hb_1 (by omega)
  replace hB := hB.trans (hb_1.mono hB.size)
  have sz_2 := hb_1.size
  go_wp2_with fail
  go_ret
  exact ⟨rfl, hB⟩

set_option maxRecDepth 100000 in
set_option maxHeartbeats 8000000 in
theorem early1 (A0 : Option Addr) (n0 cap0 : Nat) (t0 : List (Int × Int)) (A1 : Option Addr) (n1 cap1 : Nat) (t1 : List (Int × Int)) (w : World) (in0 : InC w w.heap.size A0 n0 t0) (in1 : InC w w.heap.size A1 n1 t1) (q0 : (n0) ≤ 1048576) (q1 : 1048576 < (n0) + (n1)) (vn0 : n0 ≤ maxLen) (vn1 : n1 ≤ maxLen) :
    Calls Try.prog 12 #[.slice A0 n0 cap0, .slice A1 n1 cap1] w fun e w' => e = .returned (.bool true) ∧ Below w.heap.size w w' := by
  have hB := Below.refl w.heap.size w
  have hl_2 : (0 : Int) ≤ 1048576 - (n0 : Int) := by omega
  go_enter Try.func12, Try.ntmps12
  go_wp2_with fail
  refine (szInstrS_k A0 n0 cap0 _ _ (by omega) (by omega) (by first | assumption | (unfold maxLen; omega))).mono ?_
  rintro e w1 ⟨rfl, hb_1⟩
  rw [szv_yes (by omega)]
  replace in0 := in0.next hb_1 (by omega)
  replace in1 := in1.next hb_1 (by omega)
  replace hB := hB.trans (hb_1.mono hB.size)
  have sz_3 := hb_1.size
  go_wp2_with fail
  refine (szInstrS_k A1 n1 cap1 _ _ (by omega) (by omega) (by first | assumption | (unfold maxLen; omega))).mono ?_
  rintro e w2 ⟨rfl, hb_4⟩
  rw [szv_no (by omega)]
  replace in0 := in0.next hb_4 (by omega)
  replace in1 := in1.next hb_4 (by omega)
  replace hB := hB.trans (hb_4.mono hB.size)
  have sz_5 := hb_4.size
  go_wp2_with fail
  go_ret
  exact ⟨rfl, hB⟩

set_option maxRecDepth 100000 in
set_option maxHeartbeats 8000000 in
theorem road (A0 : Option Addr) (n0 cap0 : Nat) (t0 : List (Int × Int)) (A1 : Option Addr) (n1 cap1 : Nat) (t1 : List (Int × Int)) (w : World) (in0 : InC w w.heap.size A0 n0 t0) (h0ok : n0 ≤ 1048576) (in1 : InC w w.heap.size A1 n1 t1) (h1ok : n1 ≤ 1048576) (hsum : (n0) + (n1) ≤ 1048576) (y00 : List (Int × Int)) (l00 : Nat) (r1 : Bool) (k00 : l00 ≤ 1000)
    (HS0 : ∀ (w0 : World) (a00 : Option Addr) (u00 : Nat) (a10 : Option Addr) (u10 : Nat), InC w0 w0.heap.size a00 n0 t0 → InC w0 w0.heap.size a10 n1 t1 → Calls Try.prog 50 #[.slice a00 n0 u00, .slice a10 n1 u10] w0 fun e w1 => ∃ (R00 : Option Addr) (d00 : Nat), e = .returned (.tuple #[.slice R00 l00 d00, .bool r1]) ∧ InC w1 w1.heap.size R00 l00 y00 ∧ Below w0.heap.size w0 w1)
    (HI0 : ∀ (w0 : World) (a00 : Option Addr) (u00 : Nat) (a10 : Option Addr) (u10 : Nat), InC w0 w0.heap.size a00 n0 t0 → InC w0 w0.heap.size a10 n1 t1 → Calls Try.prog 51 #[.slice a00 n0 u00, .slice a10 n1 u10] w0 fun e w1 => ∃ (R00 : Option Addr) (d00 : Nat), e = .returned (.tuple #[.slice R00 l00 d00, .bool r1]) ∧ OwnC w1 w0.heap.size w1.heap.size R00 l00 d00 y00 ∧ Below w0.heap.size w0 w1) :
    Calls Try.prog 12 #[.slice A0 n0 cap0, .slice A1 n1 cap1] w fun e w' => e = .returned (.bool true) ∧ Below w.heap.size w w' := by
  have HS := Lib.hid HS0
  have HI := Lib.hid HI0
  clear HS0 HI0
  have hB := Below.refl w.heap.size w
  have hl_2 : (0 : Int) ≤ 1048576 - (n0 : Int) := by omega
  have hl_5 : (0 : Int) ≤ 1048576 - (n0 : Int) - (n1 : Int) := by omega
  go_enter Try.func12, Try.ntmps12
  go_wp2_with fail
  refine (szInstrS_k A0 n0 cap0 _ _ (by omega) (by omega) (by first | assumption | (unfold maxLen; omega))).mono ?_
  rintro e w1 ⟨rfl, hb_1⟩
  rw [szv_yes (by omega)]
  replace in0 := in0.next hb_1 (by omega)
  replace in1 := in1.next hb_1 (by omega)
  replace hB := hB.trans (hb_1.mono hB.size)
  have sz_3 := hb_1.size
  go_wp2_with fail
  refine (szInstrS_k A1 n1 cap1 _ _ (by omega) (by omega) (by first | assumption | (unfold maxLen; omega))).mono ?_
  rintro e w2 ⟨rfl, hb_4⟩
  rw [szv_yes (by omega)]
  replace in0 := in0.next hb_4 (by omega)
  replace in1 := in1.next hb_4 (by omega)
  replace hB := hB.trans (hb_4.mono hB.size)
  have sz_6 := hb_4.size
  go_wp2_with fail
  refine (toInstrS_k A0 n0 cap0 _ t0 _ in0 (by omega) h0ok).mono ?_
  rintro e w3 ⟨g_7, rfl, own_8, hb_9⟩
  replace in0 := in0.next hb_9 (by omega)
  replace in1 := in1.next hb_9 (by omega)
  replace hB := hB.trans (hb_9.mono hB.size)
  have sz_10 := hb_9.size
  go_wp2_with fail
  refine (toInstrS_k A1 n1 cap1 _ t1 _ in1 (by omega) h1ok).mono ?_
  rintro e w4 ⟨g_11, rfl, own_12, hb_13⟩
  replace in0 := in0.next hb_13 (by omega)
  replace in1 := in1.next hb_13 (by omega)
  replace own_8 := own_8.next hb_13
  replace hB := hB.trans (hb_13.mono hB.size)
  have sz_14 := hb_13.size
  go_wp2_with fail
  refine (HS.out w4 _ _ _ _ ((own_8.inn).more (by omega)) ((own_12.inn).more (by omega))).mono ?_
  rintro e w5 ⟨R_16, d_17, rfl, own_18, hb_15⟩
  clear own_8
  clear own_12
  replace in0 := in0.next hb_15 (by omega)
  replace in1 := in1.next hb_15 (by omega)
  replace hB := hB.trans (hb_15.mono hB.size)
  have sz_19 := hb_15.size
  go_wp2_with fail
  refine (toInstrS_k A0 n0 cap0 _ t0 _ in0 (by omega) h0ok).mono ?_
  rintro e w6 ⟨g_20, rfl, own_21, hb_22⟩
  replace in0 := in0.next hb_22 (by omega)
  replace in1 := in1.next hb_22 (by omega)
  replace own_18 := own_18.next hb_22 (by omega)
  replace hB := hB.trans (hb_22.mono hB.size)
  have sz_23 := hb_22.size
  go_wp2_with fail
  refine (toInstrS_k A1 n1 cap1 _ t1 _ in1 (by omega) h1ok).mono ?_
  rintro e w7 ⟨g_24, rfl, own_25, hb_26⟩
  replace in0 := in0.next hb_26 (by omega)
  replace in1 := in1.next hb_26 (by omega)
  replace own_18 := own_18.next hb_26 (by omega)
  replace own_21 := own_21.next hb_26
  replace hB := hB.trans (hb_26.mono hB.size)
  have sz_27 := hb_26.size
  go_wp2_with fail
  refine (HI.out w7 _ _ _ _ ((own_21.inn).more (by omega)) ((own_25.inn).more (by omega))).mono ?_
  rintro e w8 ⟨R_29, d_30, rfl, own_31, hb_28⟩
  replace in0 := in0.next hb_28 (by omega)
  replace in1 := in1.next hb_28 (by omega)
  replace own_18 := own_18.next hb_28 (by omega)
  replace own_21 := own_21.next hb_28
  replace own_25 := own_25.next hb_28
  replace hB := hB.trans (hb_28.mono hB.size)
  have sz_32 := hb_28.size
  go_wp2_with fail
  -- if !eqInstrS(g0, w0) || g1 != w1 {
  refine (eqInstrS_k R_29 R_16 l00 d_30 d_17 _ _ y00 _ own_31.inn own_18 (by omega) (by omega) (by omega)).mono ?_
  rintro e w9 ⟨rfl, hb_33⟩
  replace in0 := in0.next hb_33 (by omega)
  replace in1 := in1.next hb_33 (by omega)
  replace own_18 := own_18.next hb_33 (by omega)
  replace own_21 := own_21.next hb_33
  replace own_25 := own_25.next hb_33
  replace own_31 := own_31.next hb_33
  replace hB := hB.trans (hb_33.mono hB.size)
  have sz_34 := hb_33.size
  go_wp2_with fail
  refine (toInstrS_k A0 n0 cap0 _ t0 _ in0 (by omega) h0ok).mono ?_
  rintro e w10 ⟨g_35, rfl, own_36, hb_37⟩
  replace in0 := in0.next hb_37 (by omega)
  replace in1 := in1.next hb_37 (by omega)
  replace own_18 := own_18.next hb_37 (by omega)
  replace own_21 := own_21.next hb_37
  replace own_25 := own_25.next hb_37
  replace own_31 := own_31.next hb_37
  replace hB := hB.trans (hb_37.mono hB.size)
  have sz_38 := hb_37.size
  go_wp2_with fail
  refine (eqInstrS_k (some ⟨g_20, 0, none⟩) (some ⟨g_35, 0, none⟩) n0 n0 n0 _ _ t0 _ own_21.inn own_36.inn (by omega) (by omega) h0ok).mono ?_
  rintro e w11 ⟨rfl, hb_39⟩
  clear own_36
  replace in0 := in0.next hb_39 (by omega)
  replace in1 := in1.next hb_39 (by omega)
  replace own_18 := own_18.next hb_39 (by omega)
  replace own_21 := own_21.next hb_39
  replace own_25 := own_25.next hb_39
  replace own_31 := own_31.next hb_39
  replace hB := hB.trans (hb_39.mono hB.size)
  have sz_40 := hb_39.size
  go_wp2_with fail
  refine (toInstrS_k A1 n1 cap1 _ t1 _ in1 (by omega) h1ok).mono ?_
  rintro e w12 ⟨g_41, rfl, own_42, hb_43⟩
  replace in0 := in0.next hb_43 (by omega)
  replace in1 := in1.next hb_43 (by omega)
  replace own_18 := own_18.next hb_43 (by omega)
  replace own_21 := own_21.next hb_43
  replace own_25 := own_25.next hb_43
  replace own_31 := own_31.next hb_43
  replace hB := hB.trans (hb_43.mono hB.size)
  have sz_44 := hb_43.size
  go_wp2_with fail
  refine (eqInstrS_k (some ⟨g_24, 0, none⟩) (some ⟨g_41, 0, none⟩) n1 n1 n1 _ _ t1 _ own_25.inn own_42.inn (by omega) (by omega) h1ok).mono ?_
  rintro e w13 ⟨rfl, hb_45⟩
  clear own_42
  replace in0 := in0.next hb_45 (by omega)
  replace in1 := in1.next hb_45 (by omega)
  replace own_18 := own_18.next hb_45 (by omega)
  replace own_21 := own_21.next hb_45
  replace own_25 := own_25.next hb_45
  replace own_31 := own_31.next hb_45
  replace hB := hB.trans (hb_45.mono hB.size)
  have sz_46 := hb_45.size
  go_wp2_with fail
  refine (markInstrS_k w5.heap.size w6.heap.size (some ⟨g_20, 0, none⟩) n0 n0 t0 1 _ own_21 (by omega) (by omega) (by omega)).mono ?_
  rintro e w14 ⟨rfl, own_48, ho_47⟩
  replace in0 := in0.out ho_47 (by omega) (by omega)
  replace in1 := in1.out ho_47 (by omega) (by omega)
  replace own_18 := own_18.out ho_47 (by omega) (by omega)
  replace own_25 := own_25.out ho_47 (by omega)
  replace own_31 := own_31.out ho_47 (by omega)
  replace hB := hB.trans (ho_47.below (by omega) (by omega))
  have sz_49 := ho_47.size
  clear own_21
  clear own_48
  go_wp2_with fail
  refine (markInstrS_k w6.heap.size w7.heap.size (some ⟨g_24, 0, none⟩) n1 n1 t1 (1 + 2 * (n0 : Int)) _ own_25 (by omega) (by omega) (by omega)).mono ?_
  rintro e w15 ⟨rfl, own_51, ho_50⟩
  replace in0 := in0.out ho_50 (by omega) (by omega)
  replace in1 := in1.out ho_50 (by omega) (by omega)
  replace own_18 := own_18.out ho_50 (by omega) (by omega)
  replace own_31 := own_31.out ho_50 (by omega)
  replace hB := hB.trans (ho_50.below (by omega) (by omega))
  have sz_52 := ho_50.size
  clear own_25
  clear own_51
  go_wp2_with fail
  -- if k < 0 || !eqInstrS(g0, w0) || g1 != w1 {
  refine (eqInstrS_k R_29 R_16 l00 d_30 d_17 _ _ y00 _ own_31.inn own_18 (by omega) (by omega) (by omega)).mono ?_
  rintro e w16 ⟨rfl, hb_53⟩
  replace in0 := in0.next hb_53 (by omega)
  replace in1 := in1.next hb_53 (by omega)
  replace own_18 := own_18.next hb_53 (by omega)
  replace own_31 := own_31.next hb_53
  replace hB := hB.trans (hb_53.mono hB.size)
  have sz_54 := hb_53.size
  go_wp2_with fail
  refine (markInstrS_k w7.heap.size w8.heap.size R_29 l00 d_30 y00 1 _ own_31 (by omega) (by omega) (by omega)).mono ?_
  rintro e w17 ⟨rfl, own_56, ho_55⟩
  replace in0 := in0.out ho_55 (by omega) (by omega)
  replace in1 := in1.out ho_55 (by omega) (by omega)
  replace own_18 := own_18.out ho_55 (by omega) (by omega)
  replace hB := hB.trans (ho_55.below (by omega) (by omega))
  have sz_57 := ho_55.size
  clear own_31
  go_wp2_with fail
  refine (heldInstrS_k R_29 l00 d_30 _ 1 _ own_56.inn (by omega) (by omega) (by omega) (by omega)).mono ?_
  rintro e w18 ⟨rfl, hb_58⟩
  replace in0 := in0.next hb_58 (by omega)
  replace in1 := in1.next hb_58 (by omega)
  replace own_18 := own_18.next hb_58 (by omega)
  replace own_56 := own_56.next hb_58
  replace hB := hB.trans (hb_58.mono hB.size)
  have sz_59 := hb_58.size
  go_wp2_with fail
  refine (toInstrS_k A0 n0 cap0 _ t0 _ in0 (by omega) h0ok).mono ?_
  rintro e w19 ⟨g_60, rfl, own_61, hb_62⟩
  replace in0 := in0.next hb_62 (by omega)
  replace in1 := in1.next hb_62 (by omega)
  replace own_18 := own_18.next hb_62 (by omega)
  replace own_56 := own_56.next hb_62
  replace hB := hB.trans (hb_62.mono hB.size)
  have sz_63 := hb_62.size
  go_wp2_with fail
  refine (toInstrS_k A1 n1 cap1 _ t1 _ in1 (by omega) h1ok).mono ?_
  rintro e w20 ⟨g_64, rfl, own_65, hb_66⟩
  replace in0 := in0.next hb_66 (by omega)
  replace in1 := in1.next hb_66 (by omega)
  replace own_18 := own_18.next hb_66 (by omega)
  replace own_56 := own_56.next hb_66
  replace own_61 := own_61.next hb_66
  replace hB := hB.trans (hb_66.mono hB.size)
  have sz_67 := hb_66.size
  go_wp2_with fail
  refine (HI.out w20 _ _ _ _ ((own_61.inn).more (by omega)) ((own_65.inn).more (by omega))).mono ?_
  rintro e w21 ⟨R_69, d_70, rfl, own_71, hb_68⟩
  clear own_61
  clear own_65
  replace in0 := in0.next hb_68 (by omega)
  replace in1 := in1.next hb_68 (by omega)
  replace own_18 := own_18.next hb_68 (by omega)
  replace own_56 := own_56.next hb_68
  replace hB := hB.trans (hb_68.mono hB.size)
  have sz_72 := hb_68.size
  go_wp2_with fail
  -- if !eqInstrS(h0, w0) || h1 != w1 {
  refine (eqInstrS_k R_69 R_16 l00 d_70 d_17 _ _ y00 _ own_71.inn own_18 (by omega) (by omega) (by omega)).mono ?_
  rintro e w22 ⟨rfl, hb_73⟩
  replace in0 := in0.next hb_73 (by omega)
  replace in1 := in1.next hb_73 (by omega)
  replace own_18 := own_18.next hb_73 (by omega)
  replace own_56 := own_56.next hb_73
  replace own_71 := own_71.next hb_73
  replace hB := hB.trans (hb_73.mono hB.size)
  have sz_74 := hb_73.size
  go_wp2_with fail
  clear own_71
  refine (heldInstrS_k R_29 l00 d_30 _ 1 _ own_56.inn (by omega) (by omega) (by omega) (by omega)).mono ?_
  rintro e w23 ⟨rfl, hb_75⟩
  replace in0 := in0.next hb_75 (by omega)
  replace in1 := in1.next hb_75 (by omega)
  replace own_18 := own_18.next hb_75 (by omega)
  replace own_56 := own_56.next hb_75
  replace hB := hB.trans (hb_75.mono hB.size)
  have sz_76 := hb_75.size
  go_wp2_with fail
  go_ret
  exact ⟨rfl, hB⟩

set_option maxRecDepth 100000 in
set_option maxHeartbeats 4000000 in
theorem walk (A0 : Option Addr) (n0 cap0 : Nat) (t0 : List (Int × Int)) (A1 : Option Addr) (n1 cap1 : Nat) (t1 : List (Int × Int)) (w : World) (h0in : InC w w.heap.size A0 n0 t0) (h0max : n0 ≤ maxLen) (h0each : ∀ y ∈ t0, (Lit.int .i64 y.1).wf = true ∧ (Lit.int .i64 y.2).wf = true) (h1in : InC w w.heap.size A1 n1 t1) (h1max : n1 ≤ maxLen) (h1each : ∀ y ∈ t1, (Lit.int .i64 y.1).wf = true ∧ (Lit.int .i64 y.2).wf = true) :
    Calls Try.prog 12 #[.slice A0 n0 cap0, .slice A1 n1 cap1] w fun e w' => e = .returned (.bool true) ∧ Below w.heap.size w w' := by
  by_cases hn : n0 ≤ 1048576
  · by_cases hm : n0 + n1 ≤ 1048576
    · have hk := joiR_len t0 t1
      exact road A0 n0 cap0 t0 A1 n1 cap1 t1 w h0in (by omega) h1in (by omega) (by omega) (joiR t0 t1).1 (joiR t0 t1).1.length (joiR t0 t1).2 (by omega)
        (fun w0 a00 u00 a10 u10 h g => specJoin_c a00 n0 u00 a10 n1 u10 t0 t1 w0 h g (by omega) (by omega)) (fun w0 a00 u00 a10 u10 h g => implJoin_c a00 n0 u00 a10 n1 u10 t0 t1 w0 h g (by omega) (by omega))
    · exact early1 A0 n0 cap0 t0 A1 n1 cap1 t1 w h0in h1in (by omega) (by omega) h0max h1max
  · exact early0 A0 n0 cap0 t0 A1 n1 cap1 t1 w h0in h1in (by omega) h0max h1max

set_option maxRecDepth 100000 in
set_option maxHeartbeats 4000000 in
theorem lifted (os : Os) (started : os.Started) (H : Type) (enc : TypeId × Value → H) :
    ReturnsInHanded {} Try.checked os 12 .any (Rows.fnExactJoinCodeSpec.pre6 enc Try.prog Try.f12 Rows.fnExactJoinCodeRow.domain false) (Rows.fnExactJoinCodeSpec.post enc Try.prog Try.f12 false true false false) := by
  refine returnsInHanded_of_change (C := Try.checked) own started (by kernel_rfl) Try.func12
    (ChangeSpec.witness6 (enc := enc) (C := Try.checked) false ⟨#[], #[.slice none 0 0, .slice none 0 0], []⟩ 8 (by kernel_rfl) (by kernel_rfl) (by kernel_rfl) (by kernel_rfl)) ?_
  intro W base args ds gs before hval0 hW hcnd _
  have hval : ∀ (j : Nat) t v, Try.f12.params[j]? = some t → args[j]? = some v → Value.okWide Try.prog W .any base t v := hval0
  have hW' := hW
  obtain ⟨p, q, hA0, hV, rfl, hfz, hnd⟩ := hW
  have hA : DataW.TrodAll enc Try.prog W 0 (fun _ => true) true Try.f12.params.toList args.toList ds p := hA0
  rw [Try.params12] at hA hval
  obtain ⟨v0, vs0, d0, ds0, p0, q0, hargs, rfl, rfl, g0, r0⟩ := trodAll_cons hA
  obtain ⟨v1, vs1, d1, ds1, p1, q1, rfl, rfl, rfl, g1, r1⟩ := trodAll_cons r0
  obtain ⟨rfl, rfl, rfl⟩ := trodAll_nil r1
  obtain rfl : args = #[v0, v1] := by cases args; simp_all
  obtain ⟨rfl, rfl⟩ := trodVars_none hV
  have k0 := g0
  have lt0 : ∀ x ∈ p0, x.block < W.heap.size := by obtain ⟨m, hm⟩ := k0; exact DataW.trod_lt m _ _ _ hm
  have k1 := g1
  have lt1 : ∀ x ∈ p1, x.block < W.heap.size := by obtain ⟨m, hm⟩ := k1; exact DataW.trod_lt m _ _ _ hm
  obtain ⟨a0, b0, e0, rfl⟩ := okWide_slice Try.underlying28 (hval 0 28 v0 rfl rfl)
  obtain ⟨A0, n0, cap0, t0, q0, h0max, h0in, h0each⟩ := (fun (h : ∃ fuel, DataW.trod enc Try.prog W 0 (fun _ => true) true fuel 28 [.slice a0 b0 e0] = some _) => instrs_in h.choose_spec) (by obtain ⟨m, hm⟩ := g0; exact ⟨m, by simpa [Value.cells] using hm⟩)
  obtain ⟨rfl, rfl, rfl⟩ : a0 = A0 ∧ b0 = n0 ∧ e0 = cap0 := by simpa using q0
  obtain ⟨a1, b1, e1, rfl⟩ := okWide_slice Try.underlying28 (hval 1 28 v1 rfl rfl)
  obtain ⟨A1, n1, cap1, t1, q1, h1max, h1in, h1each⟩ := (fun (h : ∃ fuel, DataW.trod enc Try.prog W 0 (fun _ => true) true fuel 28 [.slice a1 b1 e1] = some _) => instrs_in h.choose_spec) (by obtain ⟨m, hm⟩ := g1; exact ⟨m, by simpa [Value.cells] using hm⟩)
  obtain ⟨rfl, rfl, rfl⟩ : a1 = A1 ∧ b1 = n1 ∧ e1 = cap1 := by simpa using q1
  clear hA0 hval0
  simp only [List.append_nil] at hW'
  refine (walk _ _ _ t0 _ _ _ t1 W h0in h0max h0each h1in h1max h1each).mono fun e W' ⟨he, bel⟩ => ?_
  subst he
  exact ⟨_, rfl, _, _, _, [], _, [], hW', trodAll_mk1 (shut_bool Try.underlying4 _), (trodAll_cons_mk (Below.trod laidOut (by kernel_rfl) (of_decide_eq_true (by kernel_rfl)) k0 bel lt0) (trodAll_cons_mk (Below.trod laidOut (by kernel_rfl) (of_decide_eq_true (by kernel_rfl)) k1 bel lt1) trodAll_mk0)), rfl, bel.frame _, fun h => by cases h⟩

theorem over : Rows.fnExactJoinCodeRow.holds Try.pinned (OpenSpec.ofChange Rows.fnExactJoinCodeSpec) :=
  OpenClaim.holds_of_wide 12 Try.f12 rfl rfl rfl rfl rfl rfl rfl ⟨rfl, rfl, rfl, rfl, rfl⟩ rfl rfl rfl rfl rfl (by kernel_rfl) Try.func12 (by kernel_rfl)
    (of_decide_eq_true (by kernel_rfl)) (by unfold Func.isWrapper; first | (rw [if_pos (by decide +kernel)]; kernel_rfl) | (rw [if_neg (by decide +kernel)]; exact ⟨rfl, rfl⟩))
    (fun os started H enc _ => lifted os started H enc)

/-- The statement. -/
theorem proved : Rows.FnExactJoinCodeSaid := over
#print axioms proved
end Go.Proofs.Ytnfapodeifpeoaa.fnExactJoinCode
