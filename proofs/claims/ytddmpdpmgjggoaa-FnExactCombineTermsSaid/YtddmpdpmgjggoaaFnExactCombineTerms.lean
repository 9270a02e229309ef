/-
  For every list of terms and multipliers the program's CombineTerms answers as the model's, leaves both as they were, and gives memory of its own.
  Conditions: none but those that the statement itself bears.
-/
import Derived.Test.YtddmpdpmgjggoaaRows
import Derived.WalkKit
import Derived.ProofKit
import Derived.OpenShut
import Derived.ShutString
import Derived.ChangeOld
import Derived.Below
import Derived.WalkSmall
import Derived.Test.YtddmpdpmgjggoaaTms
import Derived.Test.YtddmpdpmgjggoaaTermK
import Derived.Test.YtddmpdpmgjggoaaCombS
import Derived.Test.YtddmpdpmgjggoaaCombI
import Derived.Test.YtddmpdpmgjggoaaMarkTS
import Derived.Test.YtddmpdpmgjggoaaBox
namespace Go.Proofs.Ytddmpdpmgjggoaa.fnExactCombineTerms
open Go.ChangeShapes Go.WideShapes Go.ChangeAt Go.RowKit
open Go.ChangeMaps (open_string shut_string)
set_option linter.unusedVariables false

theorem own : ownKnob Try.prog.godebug = none := by kernel_rfl
theorem laidOut : laidOutB Try.prog = true := by kernel_rfl
theorem givesT_is {f : FuncId} {vs : Array Value} {R : (Int × List Int) × Bool} {w0 : World} (h : Calls Try.prog f vs w0 (GivesT R w0)) :
    Calls Try.prog f vs w0 fun e w1 => ∃ (R00 : Option Addr) (d00 : Nat), e = .returned (.tuple #[.agg #[.int .i64 R.1.1, .slice R00 R.1.2.length d00], .bool R.2]) ∧ OwnL w1 w0.heap.size w1.heap.size R00 R.1.2.length d00 R.1.2 ∧ Below w0.heap.size w0 w1 :=
  h.mono fun e w1 ⟨A, k, c, he, ho, hb⟩ => by
    obtain rfl := ho.1
    exact ⟨A, c, he, ho, hb⟩
set_option maxRecDepth 100000 in
set_option maxHeartbeats 8000000 in
theorem early0 (A0 : Option Addr) (n0 cap0 : Nat) (t0 : List (Int × List Int)) (A1 : Option Addr) (n1 cap1 : Nat) (z1 : List Int) (w : World) (in0 : InTS w w.heap.size A0 n0 t0) (in1 : InL w w.heap.size A1 n1 z1) (q0 : 1048576 < n1) (vn1 : n1 ≤ maxLen) (vn0 : n0 ≤ maxLen) (en0 : ∀ t ∈ t0, t.2.length ≤ maxLen) :
    Calls Try.prog 10 #[.slice A0 n0 cap0, .slice A1 n1 cap1] w fun e w' => e = .returned (.bool true) ∧ Below w.heap.size w w' := by
  have hB := Below.refl w.heap.size w
  go_enter Try.func10, Try.ntmps10
  go_wp2_with fail
  go_ret
  exact ⟨rfl, hB⟩

set_option maxRecDepth 100000 in
set_option maxHeartbeats 8000000 in
theorem early1 (A0 : Option Addr) (n0 cap0 : Nat) (t0 : List (Int × List Int)) (A1 : Option Addr) (n1 cap1 : Nat) (z1 : List Int) (w : World) (in0 : InTS w w.heap.size A0 n0 t0) (in1 : InL w w.heap.size A1 n1 z1) (q0 : n1 ≤ 1048576) (q1 : 1048576 < (n0 + totT t0)) (vn1 : n1 ≤ maxLen) (vn0 : n0 ≤ maxLen) (en0 : ∀ t ∈ t0, t.2.length ≤ maxLen) :
    Calls Try.prog 10 #[.slice A0 n0 cap0, .slice A1 n1 cap1] w fun e w' => e = .returned (.bool true) ∧ Below w.heap.size w w' := by
  have hB := Below.refl w.heap.size w
  go_enter Try.func10, Try.ntmps10
  go_wp2_with fail
  refine (szTermS_k A0 n0 cap0 _ t0 _ _ in0 (by omega) (by omega) (by omega) (by first | assumption | (unfold maxLen; omega)) (by first | assumption | exact each_of (by omega))).mono ?_
  rintro e w1 ⟨rfl, hb_1⟩
  rw [szv_no (by omega)]
  replace in0 := in0.next hb_1 (by omega)
  replace in1 := in1.next hb_1 (by omega)
  replace hB := hB.trans (hb_1.mono hB.size)
  have sz_2 := hb_1.size
  go_wp2_with fail
  go_ret
  exact ⟨rfl, hB⟩

set_option maxRecDepth 100000 in
set_option maxHeartbeats 8000000 in
theorem road (A0 : Option Addr) (n0 cap0 : Nat) (t0 : List (Int × List Int)) (A1 : Option Addr) (n1 cap1 : Nat) (z1 : List Int) (w : World) (in0 : InTS w w.heap.size A0 n0 t0) (h0ok : n0 ≤ 1048576) (h0eok : totT t0 ≤ 1048576) (h0sum : n0 + totT t0 ≤ 1048576) (in1 : InL w w.heap.size A1 n1 z1) (h1ok : n1 ≤ 1048576) (r0 : Int) (y00 : List Int) (l00 : Nat) (r1 : Bool) (k00 : l00 ≤ 1000)
    (HS0 : ∀ (w0 : World) (a00 : Option Addr) (u00 : Nat) (a10 : Option Addr) (u10 : Nat), InTS w0 w0.heap.size a00 n0 t0 → InL w0 w0.heap.size a10 n1 z1 → Calls Try.prog 38 #[.slice a00 n0 u00, .slice a10 n1 u10] w0 fun e w1 => ∃ (R00 : Option Addr) (d00 : Nat), e = .returned (.tuple #[.agg #[.int .i64 r0, .slice R00 l00 d00], .bool r1]) ∧ OwnL w1 w0.heap.size w1.heap.size R00 l00 d00 y00 ∧ Below w0.heap.size w0 w1)
    (HI0 : ∀ (w0 : World) (a00 : Option Addr) (u00 : Nat) (a10 : Option Addr) (u10 : Nat), InTS w0 w0.heap.size a00 n0 t0 → InL w0 w0.heap.size a10 n1 z1 → Calls Try.prog 23 #[.slice a00 n0 u00, .slice a10 n1 u10] w0 fun e w1 => ∃ (R00 : Option Addr) (d00 : Nat), e = .returned (.tuple #[.agg #[.int .i64 r0, .slice R00 l00 d00], .bool r1]) ∧ OwnL w1 w0.heap.size w1.heap.size R00 l00 d00 y00 ∧ Below w0.heap.size w0 w1) :
    Calls Try.prog 10 #[.slice A0 n0 cap0, .slice A1 n1 cap1] w fun e w' => e = .returned (.bool true) ∧ Below w.heap.size w w' := by
  have HS := Lib.hid HS0
  have HI := Lib.hid HI0
  clear HS0 HI0
  have hB := Below.refl w.heap.size w
  have hl_2 : (0 : Int) ≤ 1048576 - ((n0 + totT t0 : Nat) : Int) := by omega
  go_enter Try.func10, Try.ntmps10
  go_wp2_with fail
  refine (szTermS_k A0 n0 cap0 _ t0 _ _ in0 (by omega) (by omega) (by omega) (by first | assumption | (unfold maxLen; omega)) (by first | assumption | exact each_of (by omega))).mono ?_
  rintro e w1 ⟨rfl, hb_1⟩
  rw [szv_yes (by omega)]
  replace in0 := in0.next hb_1 (by omega)
  replace in1 := in1.next hb_1 (by omega)
  replace hB := hB.trans (hb_1.mono hB.size)
  have sz_3 := hb_1.size
  go_wp2_with fail
  refine (toTermS_k A0 n0 cap0 _ t0 _ in0 (by omega) h0ok h0eok).mono ?_
  rintro e w2 ⟨g_4, rfl, own_5, hb_6⟩
  replace in0 := in0.next hb_6 (by omega)
  replace in1 := in1.next hb_6 (by omega)
  replace hB := hB.trans (hb_6.mono hB.size)
  have sz_7 := hb_6.size
  go_wp2_with fail
  refine (toInt64S_k A1 n1 cap1 _ z1 _ in1 (by omega) h1ok).mono ?_
  rintro e w3 ⟨g_8, rfl, own_9, hb_10⟩
  replace in0 := in0.next hb_10 (by omega)
  replace in1 := in1.next hb_10 (by omega)
  replace own_5 := own_5.next hb_10
  replace hB := hB.trans (hb_10.mono hB.size)
  have sz_11 := hb_10.size
  go_wp2_with fail
  refine (HS.out w3 _ _ _ _ ((own_5.inn).more (by omega)) ((own_9.inn).more (by omega))).mono ?_
  rintro e w4 ⟨R_13, d_14, rfl, own_15, hb_12⟩
  clear own_5
  clear own_9
  replace in0 := in0.next hb_12 (by omega)
  replace in1 := in1.next hb_12 (by omega)
  replace hB := hB.trans (hb_12.mono hB.size)
  have sz_16 := hb_12.size
  go_wp2_with fail
  have hb_17 : Below w4.heap.size w4 (w4.alloc (.cells #[.int .i64 r0, .slice R_13 l00 d_14] 26)) := bnew _ _
  have sz_18 : w4.heap.size < (w4.alloc (.cells #[.int .i64 r0, .slice R_13 l00 d_14] 26)).heap.size := by simp
  have w0_0 : (w4.alloc (.cells #[.int .i64 r0, .slice R_13 l00 d_14] 26)).cell? ⟨w4.heap.size, 0, none⟩ = some (.int .i64 r0) := by simp
  have w0_1 : (w4.alloc (.cells #[.int .i64 r0, .slice R_13 l00 d_14] 26)).cell? ⟨w4.heap.size, 1, none⟩ = some (.slice R_13 l00 d_14) := by simp
  have w0_l := sz_18
  generalize w4.alloc (.cells #[.int .i64 r0, .slice R_13 l00 d_14] 26) = w5 at hb_17 w0_0 w0_1 sz_18 w0_l ⊢
  replace in0 := in0.next hb_17 (by omega)
  replace in1 := in1.next hb_17 (by omega)
  replace own_15 := own_15.next hb_17
  replace hB := hB.trans (hb_17.mono hB.size)
  have sz_19 := hb_17.size
  refine (toTermS_k A0 n0 cap0 _ t0 _ in0 (by omega) h0ok h0eok).mono ?_
  rintro e w6 ⟨g_20, rfl, own_21, hb_22⟩
  replace in0 := in0.next hb_22 (by omega)
  replace in1 := in1.next hb_22 (by omega)
  replace own_15 := own_15.next hb_22
  replace w0_0 := cell_next w0_0 hb_22
  replace w0_1 := cell_next w0_1 hb_22
  replace w0_l := Nat.lt_of_lt_of_le w0_l hb_22.size
  replace hB := hB.trans (hb_22.mono hB.size)
  have sz_23 := hb_22.size
  go_wp2_with fail
  refine (toInt64S_k A1 n1 cap1 _ z1 _ in1 (by omega) h1ok).mono ?_
  rintro e w7 ⟨g_24, rfl, own_25, hb_26⟩
  replace in0 := in0.next hb_26 (by omega)
  replace in1 := in1.next hb_26 (by omega)
  replace own_15 := own_15.next hb_26
  replace w0_0 := cell_next w0_0 hb_26
  replace w0_1 := cell_next w0_1 hb_26
  replace w0_l := Nat.lt_of_lt_of_le w0_l hb_26.size
  replace own_21 := own_21.next hb_26
  replace hB := hB.trans (hb_26.mono hB.size)
  have sz_27 := hb_26.size
  go_wp2_with fail
  refine (HI.out w7 _ _ _ _ ((own_21.inn).more (by omega)) ((own_25.inn).more (by omega))).mono ?_
  rintro e w8 ⟨R_29, d_30, rfl, own_31, hb_28⟩
  replace in0 := in0.next hb_28 (by omega)
  replace in1 := in1.next hb_28 (by omega)
  replace own_15 := own_15.next hb_28
  replace w0_0 := cell_next w0_0 hb_28
  replace w0_1 := cell_next w0_1 hb_28
  replace w0_l := Nat.lt_of_lt_of_le w0_l hb_28.size
  replace own_21 := own_21.next hb_28
  replace own_25 := own_25.next hb_28
  replace hB := hB.trans (hb_28.mono hB.size)
  have sz_32 := hb_28.size
  go_wp2_with fail
  have hb_33 : Below w8.heap.size w8 (w8.alloc (.cells #[.int .i64 r0, .slice R_29 l00 d_30] 26)) := bnew _ _
  have sz_34 : w8.heap.size < (w8.alloc (.cells #[.int .i64 r0, .slice R_29 l00 d_30] 26)).heap.size := by simp
  have g0_0 : (w8.alloc (.cells #[.int .i64 r0, .slice R_29 l00 d_30] 26)).cell? ⟨w8.heap.size, 0, none⟩ = some (.int .i64 r0) := by simp
  have g0_1 : (w8.alloc (.cells #[.int .i64 r0, .slice R_29 l00 d_30] 26)).cell? ⟨w8.heap.size, 1, none⟩ = some (.slice R_29 l00 d_30) := by simp
  have g0_l := sz_34
  generalize w8.alloc (.cells #[.int .i64 r0, .slice R_29 l00 d_30] 26) = w9 at hb_33 g0_0 g0_1 sz_34 g0_l ⊢
  replace in0 := in0.next hb_33 (by omega)
  replace in1 := in1.next hb_33 (by omega)
  replace own_15 := own_15.next hb_33
  replace w0_0 := cell_next w0_0 hb_33
  replace w0_1 := cell_next w0_1 hb_33
  replace w0_l := Nat.lt_of_lt_of_le w0_l hb_33.size
  replace own_21 := own_21.next hb_33
  replace own_25 := own_25.next hb_33
  replace own_31 := own_31.next hb_33
  replace hB := hB.trans (hb_33.mono hB.size)
  have sz_35 := hb_33.size
  -- if !eqTerm(g0, w0) || g1 != w1 {
  refine (eqTerm_k r0 R_29 R_13 l00 d_30 d_14 _ _ y00 _ own_31.inn own_15.inn (by omega) (by omega) (by omega)).mono ?_
  rintro e w10 ⟨rfl, hb_36⟩
  replace in0 := in0.next hb_36 (by omega)
  replace in1 := in1.next hb_36 (by omega)
  replace own_15 := own_15.next hb_36
  replace w0_0 := cell_next w0_0 hb_36
  replace w0_1 := cell_next w0_1 hb_36
  replace w0_l := Nat.lt_of_lt_of_le w0_l hb_36.size
  replace own_21 := own_21.next hb_36
  replace own_25 := own_25.next hb_36
  replace own_31 := own_31.next hb_36
  replace g0_0 := cell_next g0_0 hb_36
  replace g0_1 := cell_next g0_1 hb_36
  replace g0_l := Nat.lt_of_lt_of_le g0_l hb_36.size
  replace hB := hB.trans (hb_36.mono hB.size)
  have sz_37 := hb_36.size
  go_wp2_with fail
  refine (toTermS_k A0 n0 cap0 _ t0 _ in0 (by omega) h0ok h0eok).mono ?_
  rintro e w11 ⟨g_38, rfl, own_39, hb_40⟩
  replace in0 := in0.next hb_40 (by omega)
  replace in1 := in1.next hb_40 (by omega)
  replace own_15 := own_15.next hb_40
  replace w0_0 := cell_next w0_0 hb_40
  replace w0_1 := cell_next w0_1 hb_40
  replace w0_l := Nat.lt_of_lt_of_le w0_l hb_40.size
  replace own_21 := own_21.next hb_40
  replace own_25 := own_25.next hb_40
  replace own_31 := own_31.next hb_40
  replace g0_0 := cell_next g0_0 hb_40
  replace g0_1 := cell_next g0_1 hb_40
  replace g0_l := Nat.lt_of_lt_of_le g0_l hb_40.size
  replace hB := hB.trans (hb_40.mono hB.size)
  have sz_41 := hb_40.size
  go_wp2_with fail
  refine (eqTermS_k (some ⟨g_20, 0, none⟩) (some ⟨g_38, 0, none⟩) n0 n0 n0 _ _ t0 _ own_21.inn own_39.inn (by omega) (by omega) h0ok h0eok).mono ?_
  rintro e w12 ⟨rfl, hb_42⟩
  clear own_39
  replace in0 := in0.next hb_42 (by omega)
  replace in1 := in1.next hb_42 (by omega)
  replace own_15 := own_15.next hb_42
  replace w0_0 := cell_next w0_0 hb_42
  replace w0_1 := cell_next w0_1 hb_42
  replace w0_l := Nat.lt_of_lt_of_le w0_l hb_42.size
  replace own_21 := own_21.next hb_42
  replace own_25 := own_25.next hb_42
  replace own_31 := own_31.next hb_42
  replace g0_0 := cell_next g0_0 hb_42
  replace g0_1 := cell_next g0_1 hb_42
  replace g0_l := Nat.lt_of_lt_of_le g0_l hb_42.size
  replace hB := hB.trans (hb_42.mono hB.size)
  have sz_43 := hb_42.size
  go_wp2_with fail
  refine (toInt64S_k A1 n1 cap1 _ z1 _ in1 (by omega) h1ok).mono ?_
  rintro e w13 ⟨g_44, rfl, own_45, hb_46⟩
  replace in0 := in0.next hb_46 (by omega)
  replace in1 := in1.next hb_46 (by omega)
  replace own_15 := own_15.next hb_46
  replace w0_0 := cell_next w0_0 hb_46
  replace w0_1 := cell_next w0_1 hb_46
  replace w0_l := Nat.lt_of_lt_of_le w0_l hb_46.size
  replace own_21 := own_21.next hb_46
  replace own_25 := own_25.next hb_46
  replace own_31 := own_31.next hb_46
  replace g0_0 := cell_next g0_0 hb_46
  replace g0_1 := cell_next g0_1 hb_46
  replace g0_l := Nat.lt_of_lt_of_le g0_l hb_46.size
  replace hB := hB.trans (hb_46.mono hB.size)
  have sz_47 := hb_46.size
  go_wp2_with fail
  refine (eqInt64S_k (some ⟨g_24, 0, none⟩) (some ⟨g_44, 0, none⟩) n1 n1 n1 _ _ z1 _ own_25.inn own_45.inn (by omega) (by omega) h1ok).mono ?_
  rintro e w14 ⟨rfl, hb_48⟩
  clear own_45
  replace in0 := in0.next hb_48 (by omega)
  replace in1 := in1.next hb_48 (by omega)
  replace own_15 := own_15.next hb_48
  replace w0_0 := cell_next w0_0 hb_48
  replace w0_1 := cell_next w0_1 hb_48
  replace w0_l := Nat.lt_of_lt_of_le w0_l hb_48.size
  replace own_21 := own_21.next hb_48
  replace own_25 := own_25.next hb_48
  replace own_31 := own_31.next hb_48
  replace g0_0 := cell_next g0_0 hb_48
  replace g0_1 := cell_next g0_1 hb_48
  replace g0_l := Nat.lt_of_lt_of_le g0_l hb_48.size
  replace hB := hB.trans (hb_48.mono hB.size)
  have sz_49 := hb_48.size
  go_wp2_with fail
  refine (markTermS_w w5.heap.size w6.heap.size (some ⟨g_20, 0, none⟩) n0 n0 t0 1 _ own_21 (by omega) (by omega) (by omega) (by omega)).mono ?_
  rintro e w15 ⟨rfl, own_51, ho_50⟩
  replace in0 := in0.out ho_50 (by omega) (by omega)
  replace in1 := in1.out ho_50 (by omega) (by omega)
  replace own_15 := own_15.out ho_50 (by omega)
  replace w0_0 := ho_50.cell w0_0 (by omega)
  replace w0_1 := ho_50.cell w0_1 (by omega)
  replace w0_l := Nat.lt_of_lt_of_le w0_l ho_50.size
  replace own_25 := own_25.out ho_50 (by omega)
  replace own_31 := own_31.out ho_50 (by omega)
  replace g0_0 := ho_50.cell g0_0 (by omega)
  replace g0_1 := ho_50.cell g0_1 (by omega)
  replace g0_l := Nat.lt_of_lt_of_le g0_l ho_50.size
  replace hB := hB.trans (ho_50.below (by omega) (by omega))
  have sz_52 := ho_50.size
  clear own_21
  clear own_51
  go_wp2_with fail
  refine (markInt64S_k w6.heap.size w7.heap.size (some ⟨g_24, 0, none⟩) n1 n1 z1 (1 + ((n0 + totT t0 : Nat) : Int)) _ own_25 (by omega) (by omega) (by omega)).mono ?_
  rintro e w16 ⟨rfl, own_54, ho_53⟩
  replace in0 := in0.out ho_53 (by omega) (by omega)
  replace in1 := in1.out ho_53 (by omega) (by omega)
  replace own_15 := own_15.out ho_53 (by omega)
  replace w0_0 := ho_53.cell w0_0 (by omega)
  replace w0_1 := ho_53.cell w0_1 (by omega)
  replace w0_l := Nat.lt_of_lt_of_le w0_l ho_53.size
  replace own_31 := own_31.out ho_53 (by omega)
  replace g0_0 := ho_53.cell g0_0 (by omega)
  replace g0_1 := ho_53.cell g0_1 (by omega)
  replace g0_l := Nat.lt_of_lt_of_le g0_l ho_53.size
  replace hB := hB.trans (ho_53.below (by omega) (by omega))
  have sz_55 := ho_53.size
  clear own_25
  clear own_54
  go_wp2_with fail
  -- if k < 0 || !eqTerm(g0, w0) || g1 != w1 {
  refine (eqTerm_k r0 R_29 R_13 l00 d_30 d_14 _ _ y00 _ own_31.inn own_15.inn (by omega) (by omega) (by omega)).mono ?_
  rintro e w17 ⟨rfl, hb_56⟩
  replace in0 := in0.next hb_56 (by omega)
  replace in1 := in1.next hb_56 (by omega)
  replace own_15 := own_15.next hb_56
  replace w0_0 := cell_next w0_0 hb_56
  replace w0_1 := cell_next w0_1 hb_56
  replace w0_l := Nat.lt_of_lt_of_le w0_l hb_56.size
  replace own_31 := own_31.next hb_56
  replace g0_0 := cell_next g0_0 hb_56
  replace g0_1 := cell_next g0_1 hb_56
  replace g0_l := Nat.lt_of_lt_of_le g0_l hb_56.size
  replace hB := hB.trans (hb_56.mono hB.size)
  have sz_57 := hb_56.size
  go_wp2_with fail
  refine (markTerm_k r0 w7.heap.size w8.heap.size R_29 l00 d_30 y00 1 _ own_31 (by omega) (by omega) (by omega)).mono ?_
  rintro e w18 ⟨rfl, own_59, ho_58⟩
  replace in0 := in0.out ho_58 (by omega) (by omega)
  replace in1 := in1.out ho_58 (by omega) (by omega)
  replace own_15 := own_15.out ho_58 (by omega)
  replace w0_0 := ho_58.cell w0_0 (by omega)
  replace w0_1 := ho_58.cell w0_1 (by omega)
  replace w0_l := Nat.lt_of_lt_of_le w0_l ho_58.size
  replace g0_0 := ho_58.cell g0_0 (by omega)
  replace g0_1 := ho_58.cell g0_1 (by omega)
  replace g0_l := Nat.lt_of_lt_of_le g0_l ho_58.size
  replace hB := hB.trans (ho_58.below (by omega) (by omega))
  have sz_60 := ho_58.size
  clear own_31
  go_wp2_with fail
  refine (heldTerm_k r0 R_29 l00 d_30 _ 1 _ own_59.inn (by omega) (by omega) (by omega) (by omega)).mono ?_
  rintro e w19 ⟨rfl, hb_61⟩
  replace in0 := in0.next hb_61 (by omega)
  replace in1 := in1.next hb_61 (by omega)
  replace own_15 := own_15.next hb_61
  replace w0_0 := cell_next w0_0 hb_61
  replace w0_1 := cell_next w0_1 hb_61
  replace w0_l := Nat.lt_of_lt_of_le w0_l hb_61.size
  replace g0_0 := cell_next g0_0 hb_61
  replace g0_1 := cell_next g0_1 hb_61
  replace g0_l := Nat.lt_of_lt_of_le g0_l hb_61.size
  replace own_59 := own_59.next hb_61
  replace hB := hB.trans (hb_61.mono hB.size)
  have sz_62 := hb_61.size
  go_wp2_with fail
  refine (toTermS_k A0 n0 cap0 _ t0 _ in0 (by omega) h0ok h0eok).mono ?_
  rintro e w20 ⟨g_63, rfl, own_64, hb_65⟩
  replace in0 := in0.next hb_65 (by omega)
  replace in1 := in1.next hb_65 (by omega)
  replace own_15 := own_15.next hb_65
  replace w0_0 := cell_next w0_0 hb_65
  replace w0_1 := cell_next w0_1 hb_65
  replace w0_l := Nat.lt_of_lt_of_le w0_l hb_65.size
  replace g0_0 := cell_next g0_0 hb_65
  replace g0_1 := cell_next g0_1 hb_65
  replace g0_l := Nat.lt_of_lt_of_le g0_l hb_65.size
  replace own_59 := own_59.next hb_65
  replace hB := hB.trans (hb_65.mono hB.size)
  have sz_66 := hb_65.size
  go_wp2_with fail
  refine (toInt64S_k A1 n1 cap1 _ z1 _ in1 (by omega) h1ok).mono ?_
  rintro e w21 ⟨g_67, rfl, own_68, hb_69⟩
  replace in0 := in0.next hb_69 (by omega)
  replace in1 := in1.next hb_69 (by omega)
  replace own_15 := own_15.next hb_69
  replace w0_0 := cell_next w0_0 hb_69
  replace w0_1 := cell_next w0_1 hb_69
  replace w0_l := Nat.lt_of_lt_of_le w0_l hb_69.size
  replace g0_0 := cell_next g0_0 hb_69
  replace g0_1 := cell_next g0_1 hb_69
  replace g0_l := Nat.lt_of_lt_of_le g0_l hb_69.size
  replace own_59 := own_59.next hb_69
  replace own_64 := own_64.next hb_69
  replace hB := hB.trans (hb_69.mono hB.size)
  have sz_70 := hb_69.size
  go_wp2_with fail
  refine (HI.out w21 _ _ _ _ ((own_64.inn).more (by omega)) ((own_68.inn).more (by omega))).mono ?_
  rintro e w22 ⟨R_72, d_73, rfl, own_74, hb_71⟩
  clear own_64
  clear own_68
  replace in0 := in0.next hb_71 (by omega)
  replace in1 := in1.next hb_71 (by omega)
  replace own_15 := own_15.next hb_71
  replace w0_0 := cell_next w0_0 hb_71
  replace w0_1 := cell_next w0_1 hb_71
  replace w0_l := Nat.lt_of_lt_of_le w0_l hb_71.size
  replace g0_0 := cell_next g0_0 hb_71
  replace g0_1 := cell_next g0_1 hb_71
  replace g0_l := Nat.lt_of_lt_of_le g0_l hb_71.size
  replace own_59 := own_59.next hb_71
  replace hB := hB.trans (hb_71.mono hB.size)
  have sz_75 := hb_71.size
  go_wp2_with fail
  have hb_76 : Below w22.heap.size w22 (w22.alloc (.cells #[.int .i64 r0, .slice R_72 l00 d_73] 26)) := bnew _ _
  have sz_77 : w22.heap.size < (w22.alloc (.cells #[.int .i64 r0, .slice R_72 l00 d_73] 26)).heap.size := by simp
  have h0_0 : (w22.alloc (.cells #[.int .i64 r0, .slice R_72 l00 d_73] 26)).cell? ⟨w22.heap.size, 0, none⟩ = some (.int .i64 r0) := by simp
  have h0_1 : (w22.alloc (.cells #[.int .i64 r0, .slice R_72 l00 d_73] 26)).cell? ⟨w22.heap.size, 1, none⟩ = some (.slice R_72 l00 d_73) := by simp
  have h0_l := sz_77
  generalize w22.alloc (.cells #[.int .i64 r0, .slice R_72 l00 d_73] 26) = w23 at hb_76 h0_0 h0_1 sz_77 h0_l ⊢
  replace in0 := in0.next hb_76 (by omega)
  replace in1 := in1.next hb_76 (by omega)
  replace own_15 := own_15.next hb_76
  replace w0_0 := cell_next w0_0 hb_76
  replace w0_1 := cell_next w0_1 hb_76
  replace w0_l := Nat.lt_of_lt_of_le w0_l hb_76.size
  replace g0_0 := cell_next g0_0 hb_76
  replace g0_1 := cell_next g0_1 hb_76
  replace g0_l := Nat.lt_of_lt_of_le g0_l hb_76.size
  replace own_59 := own_59.next hb_76
  replace own_74 := own_74.next hb_76
  replace hB := hB.trans (hb_76.mono hB.size)
  have sz_78 := hb_76.size
  -- if !eqTerm(h0, w0) || h1 != w1 {
  refine (eqTerm_k r0 R_72 R_13 l00 d_73 d_14 _ _ y00 _ own_74.inn own_15.inn (by omega) (by omega) (by omega)).mono ?_
  rintro e w24 ⟨rfl, hb_79⟩
  replace in0 := in0.next hb_79 (by omega)
  replace in1 := in1.next hb_79 (by omega)
  replace own_15 := own_15.next hb_79
  replace w0_0 := cell_next w0_0 hb_79
  replace w0_1 := cell_next w0_1 hb_79
  replace w0_l := Nat.lt_of_lt_of_le w0_l hb_79.size
  replace g0_0 := cell_next g0_0 hb_79
  replace g0_1 := cell_next g0_1 hb_79
  replace g0_l := Nat.lt_of_lt_of_le g0_l hb_79.size
  replace own_59 := own_59.next hb_79
  replace own_74 := own_74.next hb_79
  replace h0_0 := cell_next h0_0 hb_79
  replace h0_1 := cell_next h0_1 hb_79
  replace h0_l := Nat.lt_of_lt_of_le h0_l hb_79.size
  replace hB := hB.trans (hb_79.mono hB.size)
  have sz_80 := hb_79.size
  go_wp2_with fail
  clear own_74
  clear h0_0 h0_1 h0_l
  refine (heldTerm_k r0 R_29 l00 d_30 _ 1 _ own_59.inn (by omega) (by omega) (by omega) (by omega)).mono ?_
  rintro e w25 ⟨rfl, hb_81⟩
  replace in0 := in0.next hb_81 (by omega)
  replace in1 := in1.next hb_81 (by omega)
  replace own_15 := own_15.next hb_81
  replace w0_0 := cell_next w0_0 hb_81
  replace w0_1 := cell_next w0_1 hb_81
  replace w0_l := Nat.lt_of_lt_of_le w0_l hb_81.size
  replace g0_0 := cell_next g0_0 hb_81
  replace g0_1 := cell_next g0_1 hb_81
  replace g0_l := Nat.lt_of_lt_of_le g0_l hb_81.size
  replace own_59 := own_59.next hb_81
  replace hB := hB.trans (hb_81.mono hB.size)
  have sz_82 := hb_81.size
  go_wp2_with fail
  go_ret
  exact ⟨rfl, hB⟩

set_option maxRecDepth 100000 in
set_option maxHeartbeats 4000000 in
theorem walk (A0 : Option Addr) (n0 cap0 : Nat) (t0 : List (Int × List Int)) (A1 : Option Addr) (n1 cap1 : Nat) (z1 : List Int) (w : World) (h0row : TRow w w.heap.size A0 t0) (h0len : t0.length = n0) (h0max : n0 ≤ maxLen) (h0each : ∀ t ∈ t0, t.2.length ≤ maxLen) (h1row : Row w w.heap.size A1 (z1.map ic)) (h1len : z1.length = n1) (h1max : n1 ≤ maxLen) (h1wf : ∀ z ∈ z1, (Lit.int .i64 z).wf = true) :
    Calls Try.prog 10 #[.slice A0 n0 cap0, .slice A1 n1 cap1] w fun e w' => e = .returned (.bool true) ∧ Below w.heap.size w w' := by
  by_cases h1 : n1 ≤ 1048576
  · by_cases h0 : n0 + totT t0 ≤ 1048576
    · have hk : (combR t0 z1).1.2.length ≤ 1000 := Nat.le_trans (res_lenC _ _) (by omega)
      exact road A0 n0 cap0 t0 A1 n1 cap1 z1 w ⟨h0len, h0row⟩ (by omega) (by omega) (by omega) ⟨h1len, h1row⟩ h1 (combR t0 z1).1.1 (combR t0 z1).1.2 (combR t0 z1).1.2.length (combR t0 z1).2 hk (fun w0 a00 u00 a10 u10 h g => givesT_is (specCombine_c a00 n0 u00 t0 a10 n1 u10 z1 w0 h (by omega) g h1 (by omega))) (fun w0 a00 u00 a10 u10 h g => givesT_is (implCombine_c a00 n0 u00 t0 a10 n1 u10 z1 w0 h (by omega) g h1 (by omega)))
    · exact early1 A0 n0 cap0 t0 A1 n1 cap1 z1 w ⟨h0len, h0row⟩ ⟨h1len, h1row⟩ h1 (by omega) h1max h0max h0each
  · exact early0 A0 n0 cap0 t0 A1 n1 cap1 z1 w ⟨h0len, h0row⟩ ⟨h1len, h1row⟩ (by omega) h1max h0max h0each

set_option maxRecDepth 100000 in
set_option maxHeartbeats 4000000 in
theorem lifted (os : Os) (started : os.Started) (H : Type) (enc : TypeId × Value → H) :
    ReturnsInHanded {} Try.checked os 10 .any (Rows.fnExactCombineTermsSpec.pre6 enc Try.prog Try.f10 Rows.fnExactCombineTermsRow.domain false) (Rows.fnExactCombineTermsSpec.post enc Try.prog Try.f10 false true false false) := by
  refine returnsInHanded_of_change (C := Try.checked) own started (by kernel_rfl) Try.func10
    (ChangeSpec.witness6 (enc := enc) (C := Try.checked) false ⟨#[], #[.slice none 0 0, .slice none 0 0], []⟩ 8 (by kernel_rfl) (by kernel_rfl) (by kernel_rfl) (by kernel_rfl)) ?_
  intro W base args ds gs before hval0 hW hcnd _
  have hval : ∀ (j : Nat) t v, Try.f10.params[j]? = some t → args[j]? = some v → Value.okWide Try.prog W .any base t v := hval0
  have hW' := hW
  obtain ⟨p, q, hA0, hV, rfl, hfz, hnd⟩ := hW
  have hA : DataW.TrodAll enc Try.prog W 0 (fun _ => true) true Try.f10.params.toList args.toList ds p := hA0
  rw [Try.params10] at hA hval
  obtain ⟨v0, vs0, d0, ds0, p0, q0, hargs, rfl, rfl, g0, r0⟩ := trodAll_cons hA
  obtain ⟨v1, vs1, d1, ds1, p1, q1, rfl, rfl, rfl, g1, r1⟩ := trodAll_cons r0
  obtain ⟨rfl, rfl, rfl⟩ := trodAll_nil r1
  obtain rfl : args = #[v0, v1] := by cases args; simp_all
  obtain ⟨rfl, rfl⟩ := trodVars_none hV
  have k0 := g0
  have lt0 : ∀ x ∈ p0, x.block < W.heap.size := by obtain ⟨m, hm⟩ := k0; exact DataW.trod_lt m _ _ _ hm
  have k1 := g1
  have lt1 : ∀ x ∈ p1, x.block < W.heap.size := by obtain ⟨m, hm⟩ := k1; exact DataW.trod_lt m _ _ _ hm
  obtain ⟨a0, b0, e0, rfl⟩ := okWide_slice Try.underlying50 (hval 0 50 v0 rfl rfl)
  obtain ⟨A0, n0, cap0, t0, q0, h0len, h0max, h0row, h0each⟩ := (fun (h : ∃ fuel, DataW.trod enc Try.prog W 0 (fun _ => true) true fuel 50 [.slice a0 b0 e0] = some _) => terms_in h.choose_spec) (by obtain ⟨m, hm⟩ := g0; exact ⟨m, by simpa [Value.cells] using hm⟩)
  obtain ⟨rfl, rfl, rfl⟩ : a0 = A0 ∧ b0 = n0 ∧ e0 = cap0 := by simpa using q0
  obtain ⟨a1, b1, e1, rfl⟩ := okWide_slice Try.underlying24 (hval 1 24 v1 rfl rfl)
  obtain ⟨A1, n1, cap1, z1, q1, h1len, h1max, h1row, h1wf⟩ := (fun (h : ∃ fuel, DataW.trod enc Try.prog W 0 (fun _ => true) true fuel 24 [.slice a1 b1 e1] = some _) => ints_in Try.underlying24 Try.underlying2 (by kernel_rfl) h.choose_spec) (by obtain ⟨m, hm⟩ := g1; exact ⟨m, by simpa [Value.cells] using hm⟩)
  obtain ⟨rfl, rfl, rfl⟩ : a1 = A1 ∧ b1 = n1 ∧ e1 = cap1 := by simpa using q1
  clear hA0 hval0
  simp only [List.append_nil] at hW'
  refine (walk _ _ _ t0 _ _ _ z1 W h0row h0len h0max h0each h1row h1len h1max h1wf).mono fun e W' ⟨he, bel⟩ => ?_
  subst he
  exact ⟨_, rfl, _, _, _, [], _, [], hW', trodAll_mk1 (shut_bool Try.underlying4 _), (trodAll_cons_mk (Below.trod laidOut (by kernel_rfl) (of_decide_eq_true (by kernel_rfl)) k0 bel lt0) (trodAll_cons_mk (Below.trod laidOut (by kernel_rfl) (of_decide_eq_true (by kernel_rfl)) k1 bel lt1) trodAll_mk0)), rfl, bel.frame _, fun h => by cases h⟩

theorem over : Rows.fnExactCombineTermsRow.holds Try.pinned (OpenSpec.ofChange Rows.fnExactCombineTermsSpec) :=
  OpenClaim.holds_of_wide 10 Try.f10 rfl rfl rfl rfl rfl rfl rfl ⟨rfl, rfl, rfl, rfl, rfl⟩ rfl rfl rfl rfl rfl (by kernel_rfl) Try.func10 (by kernel_rfl)
    (of_decide_eq_true (by kernel_rfl)) (by unfold Func.isWrapper; first | (rw [if_pos (by decide +kernel)]; kernel_rfl) | (rw [if_neg (by decide +kernel)]; exact ⟨rfl, rfl⟩))
    (fun os started H enc _ => lifted os started H enc)

/-- The statement. -/
theorem proved : Rows.FnExactCombineTermsSaid := over
#print axioms proved
end Go.Proofs.Ytddmpdpmgjggoaa.fnExactCombineTerms
