/-
  For every term and list of terms the program's SubstituteTerm answers as the model's, leaves both as they were, and gives memory of its own.
  Conditions: none but those that the statement itself bears.
-/
import Derived.Test.YtddmpdpmgjggoaaRows
import Derived.WalkKit
import Derived.ProofKit
import Derived.OpenShut
import Derived.ShutString
import Derived.ChangeOld
import Derived.Below
import Derived.WalkSmall
import Derived.Test.YtddmpdpmgjggoaaTms
import Derived.Test.YtddmpdpmgjggoaaTermK
import Derived.Test.YtddmpdpmgjggoaaSubR
import Derived.Test.YtddmpdpmgjggoaaMarkTS
import Derived.Test.YtddmpdpmgjggoaaBox
namespace Go.Proofs.Ytddmpdpmgjggoaa.fnExactSubstituteTerm
open Go.ChangeShapes Go.WideShapes Go.ChangeAt Go.RowKit
open Go.ChangeMaps (open_string shut_string)
set_option linter.unusedVariables false

theorem own : ownKnob Try.prog.godebug = none := by kernel_rfl
theorem laidOut : laidOutB Try.prog = true := by kernel_rfl
theorem givesT_is {f : FuncId} {vs : Array Value} {R : (Int × List Int) × Bool} {w0 : World} (h : Calls Try.prog f vs w0 (GivesT R w0)) :
    Calls Try.prog f vs w0 fun e w1 => ∃ (R00 : Option Addr) (d00 : Nat), e = .returned (.tuple #[.agg #[.int .i64 R.1.1, .slice R00 R.1.2.length d00], .bool R.2]) ∧ OwnL w1 w0.heap.size w1.heap.size R00 R.1.2.length d00 R.1.2 ∧ Below w0.heap.size w0 w1 :=
  h.mono fun e w1 ⟨A, k, c, he, ho, hb⟩ => by
    obtain rfl := ho.1
    exact ⟨A, c, he, ho, hb⟩
set_option maxRecDepth 100000 in
set_option maxHeartbeats 8000000 in
theorem early0 (c0 : Int) (A0 : Option Addr) (n0 cap0 : Nat) (z0 : List Int) (A1 : Option Addr) (n1 cap1 : Nat) (t1 : List (Int × List Int)) (w : World) (in0 : InL w w.heap.size A0 n0 z0) (in1 : InTS w w.heap.size A1 n1 t1) (q0 : 1048576 < (n0)) (vn0 : n0 ≤ maxLen) (vn1 : n1 ≤ maxLen) (en1 : ∀ t ∈ t1, t.2.length ≤ maxLen) :
    Calls Try.prog 9 #[.agg #[.int .i64 c0, .slice A0 n0 cap0], .slice A1 n1 cap1] w fun e w' => e = .returned (.bool true) ∧ Below w.heap.size w w' := by
  have hB := Below.refl w.heap.size w
  go_enter Try.func9, Try.ntmps9
  go_wp2_with fail
  have hb_1 : Below w.heap.size w (w.alloc (.cells #[.int .i64 c0, .slice A0 n0 cap0] 43)) := bnew _ _
  have sz_2 : w.heap.size < (w.alloc (.cells #[.int .i64 c0, .slice A0 n0 cap0] 43)).heap.size := by simp
  have a0_0 : (w.alloc (.cells #[.int .i64 c0, .slice A0 n0 cap0] 43)).cell? ⟨w.heap.size, 0, none⟩ = some (.int .i64 c0) := by simp
  have a0_1 : (w.alloc (.cells #[.int .i64 c0, .slice A0 n0 cap0] 43)).cell? ⟨w.heap.size, 1, none⟩ = some (.slice A0 n0 cap0) := by simp
  have a0_l := sz_2
  generalize w.alloc (.cells #[.int .i64 c0, .slice A0 n0 cap0] 43) = w1 at hb_1 a0_0 a0_1 sz_2 a0_l ⊢
  replace in0 := in0.next hb_1 (by omega)
  replace in1 := in1.next hb_1 (by omega)
  replace hB := hB.trans (hb_1.mono hB.size)
  have sz_3 := hb_1.size
  refine (szTerm_c c0 A0 n0 cap0 _ _ (by omega) (by omega) (by first | assumption | (unfold maxLen; omega))).mono ?_
  rintro e w2 ⟨rfl, hb_4⟩
  rw [szv_no (by omega)]
  replace in0 := in0.next hb_4 (by omega)
  replace in1 := in1.next hb_4 (by omega)
  replace a0_0 := cell_next a0_0 hb_4
  replace a0_1 := cell_next a0_1 hb_4
  replace a0_l := Nat.lt_of_lt_of_le a0_l hb_4.size
  replace hB := hB.trans (hb_4.mono hB.size)
  have sz_5 := hb_4.size
  go_wp2_with fail
  go_ret
  exact ⟨rfl, hB⟩

set_option maxRecDepth 100000 in
set_option maxHeartbeats 8000000 in
theorem early1 (c0 : Int) (A0 : Option Addr) (n0 cap0 : Nat) (z0 : List Int) (A1 : Option Addr) (n1 cap1 : Nat) (t1 : List (Int × List Int)) (w : World) (in0 : InL w w.heap.size A0 n0 z0) (in1 : InTS w w.heap.size A1 n1 t1) (q0 : (n0) ≤ 1048576) (q1 : 1048576 < (n0) + (n1 + totT t1)) (vn0 : n0 ≤ maxLen) (vn1 : n1 ≤ maxLen) (en1 : ∀ t ∈ t1, t.2.length ≤ maxLen) :
    Calls Try.prog 9 #[.agg #[.int .i64 c0, .slice A0 n0 cap0], .slice A1 n1 cap1] w fun e w' => e = .returned (.bool true) ∧ Below w.heap.size w w' := by
  have hB := Below.refl w.heap.size w
  have hl_5 : (0 : Int) ≤ 1048576 - (n0 : Int) := by omega
  go_enter Try.func9, Try.ntmps9
  go_wp2_with fail
  have hb_1 : Below w.heap.size w (w.alloc (.cells #[.int .i64 c0, .slice A0 n0 cap0] 43)) := bnew _ _
  have sz_2 : w.heap.size < (w.alloc (.cells #[.int .i64 c0, .slice A0 n0 cap0] 43)).heap.size := by simp
  have a0_0 : (w.alloc (.cells #[.int .i64 c0, .slice A0 n0 cap0] 43)).cell? ⟨w.heap.size, 0, none⟩ = some (.int .i64 c0) := by simp
  have a0_1 : (w.alloc (.cells #[.int .i64 c0, .slice A0 n0 cap0] 43)).cell? ⟨w.heap.size, 1, none⟩ = some (.slice A0 n0 cap0) := by simp
  have a0_l := sz_2
  generalize w.alloc (.cells #[.int .i64 c0, .slice A0 n0 cap0] 43) = w1 at hb_1 a0_0 a0_1 sz_2 a0_l ⊢
  replace in0 := in0.next hb_1 (by omega)
  replace in1 := in1.next hb_1 (by omega)
  replace hB := hB.trans (hb_1.mono hB.size)
  have sz_3 := hb_1.size
  refine (szTerm_c c0 A0 n0 cap0 _ _ (by omega) (by omega) (by first | assumption | (unfold maxLen; omega))).mono ?_
  rintro e w2 ⟨rfl, hb_4⟩
  rw [szv_yes (by omega)]
  replace in0 := in0.next hb_4 (by omega)
  replace in1 := in1.next hb_4 (by omega)
  replace a0_0 := cell_next a0_0 hb_4
  replace a0_1 := cell_next a0_1 hb_4
  replace a0_l := Nat.lt_of_lt_of_le a0_l hb_4.size
  replace hB := hB.trans (hb_4.mono hB.size)
  have sz_6 := hb_4.size
  go_wp2_with fail
  refine (szTermS_k A1 n1 cap1 _ t1 _ _ in1 (by omega) (by omega) (by omega) (by first | assumption | (unfold maxLen; omega)) (by first | assumption | exact each_of (by omega))).mono ?_
  rintro e w3 ⟨rfl, hb_7⟩
  rw [szv_no (by omega)]
  replace in0 := in0.next hb_7 (by omega)
  replace in1 := in1.next hb_7 (by omega)
  replace a0_0 := cell_next a0_0 hb_7
  replace a0_1 := cell_next a0_1 hb_7
  replace a0_l := Nat.lt_of_lt_of_le a0_l hb_7.size
  replace hB := hB.trans (hb_7.mono hB.size)
  have sz_8 := hb_7.size
  go_wp2_with fail
  go_ret
  exact ⟨rfl, hB⟩

set_option maxRecDepth 100000 in
set_option maxHeartbeats 8000000 in
theorem road (c0 : Int) (A0 : Option Addr) (n0 cap0 : Nat) (z0 : List Int) (A1 : Option Addr) (n1 cap1 : Nat) (t1 : List (Int × List Int)) (w : World) (in0 : InL w w.heap.size A0 n0 z0) (h0ok : n0 ≤ 1048576) (in1 : InTS w w.heap.size A1 n1 t1) (h1ok : n1 ≤ 1048576) (h1eok : totT t1 ≤ 1048576) (h1sum : n1 + totT t1 ≤ 1048576) (hsum : (n0) + (n1 + totT t1) ≤ 1048576) (r0 : Int) (y00 : List Int) (l00 : Nat) (r1 : Bool) (k00 : l00 ≤ 1000)
    (HS0 : ∀ (w0 : World) (a00 : Option Addr) (u00 : Nat) (a10 : Option Addr) (u10 : Nat), InL w0 w0.heap.size a00 n0 z0 → InTS w0 w0.heap.size a10 n1 t1 → Calls Try.prog 34 #[.agg #[.int .i64 c0, .slice a00 n0 u00], .slice a10 n1 u10] w0 fun e w1 => ∃ (R00 : Option Addr) (d00 : Nat), e = .returned (.tuple #[.agg #[.int .i64 r0, .slice R00 l00 d00], .bool r1]) ∧ OwnL w1 w0.heap.size w1.heap.size R00 l00 d00 y00 ∧ Below w0.heap.size w0 w1)
    (HI0 : ∀ (w0 : World) (a00 : Option Addr) (u00 : Nat) (a10 : Option Addr) (u10 : Nat), InL w0 w0.heap.size a00 n0 z0 → InTS w0 w0.heap.size a10 n1 t1 → Calls Try.prog 17 #[.agg #[.int .i64 c0, .slice a00 n0 u00], .slice a10 n1 u10] w0 fun e w1 => ∃ (R00 : Option Addr) (d00 : Nat), e = .returned (.tuple #[.agg #[.int .i64 r0, .slice R00 l00 d00], .bool r1]) ∧ OwnL w1 w0.heap.size w1.heap.size R00 l00 d00 y00 ∧ Below w0.heap.size w0 w1) :
    Calls Try.prog 9 #[.agg #[.int .i64 c0, .slice A0 n0 cap0], .slice A1 n1 cap1] w fun e w' => e = .returned (.bool true) ∧ Below w.heap.size w w' := by
  have HS := Lib.hid HS0
  have HI := Lib.hid HI0
  clear HS0 HI0
  have hB := Below.refl w.heap.size w
  have hl_5 : (0 : Int) ≤ 1048576 - (n0 : Int) := by omega
  have hl_8 : (0 : Int) ≤ 1048576 - (n0 : Int) - ((n1 + totT t1 : Nat) : Int) := by omega
  go_enter Try.func9, Try.ntmps9
  go_wp2_with fail
  have hb_1 : Below w.heap.size w (w.alloc (.cells #[.int .i64 c0, .slice A0 n0 cap0] 43)) := bnew _ _
  have sz_2 : w.heap.size < (w.alloc (.cells #[.int .i64 c0, .slice A0 n0 cap0] 43)).heap.size := by simp
  have a0_0 : (w.alloc (.cells #[.int .i64 c0, .slice A0 n0 cap0] 43)).cell? ⟨w.heap.size, 0, none⟩ = some (.int .i64 c0) := by simp
  have a0_1 : (w.alloc (.cells #[.int .i64 c0, .slice A0 n0 cap0] 43)).cell? ⟨w.heap.size, 1, none⟩ = some (.slice A0 n0 cap0) := by simp
  have a0_l := sz_2
  generalize w.alloc (.cells #[.int .i64 c0, .slice A0 n0 cap0] 43) = w1 at hb_1 a0_0 a0_1 sz_2 a0_l ⊢
  replace in0 := in0.next hb_1 (by omega)
  replace in1 := in1.next hb_1 (by omega)
  replace hB := hB.trans (hb_1.mono hB.size)
  have sz_3 := hb_1.size
  refine (szTerm_c c0 A0 n0 cap0 _ _ (by omega) (by omega) (by first | assumption | (unfold maxLen; omega))).mono ?_
  rintro e w2 ⟨rfl, hb_4⟩
  rw [szv_yes (by omega)]
  replace in0 := in0.next hb_4 (by omega)
  replace in1 := in1.next hb_4 (by omega)
  replace a0_0 := cell_next a0_0 hb_4
  replace a0_1 := cell_next a0_1 hb_4
  replace a0_l := Nat.lt_of_lt_of_le a0_l hb_4.size
  replace hB := hB.trans (hb_4.mono hB.size)
  have sz_6 := hb_4.size
  go_wp2_with fail
  refine (szTermS_k A1 n1 cap1 _ t1 _ _ in1 (by omega) (by omega) (by omega) (by first | assumption | (unfold maxLen; omega)) (by first | assumption | exact each_of (by omega))).mono ?_
  rintro e w3 ⟨rfl, hb_7⟩
  rw [szv_yes (by omega)]
  replace in0 := in0.next hb_7 (by omega)
  replace in1 := in1.next hb_7 (by omega)
  replace a0_0 := cell_next a0_0 hb_7
  replace a0_1 := cell_next a0_1 hb_7
  replace a0_l := Nat.lt_of_lt_of_le a0_l hb_7.size
  replace hB := hB.trans (hb_7.mono hB.size)
  have sz_9 := hb_7.size
  go_wp2_with fail
  refine (toTerm_k c0 A0 n0 cap0 _ z0 _ in0 (by omega) h0ok).mono ?_
  rintro e w4 ⟨g_10, rfl, own_11, hb_12⟩
  replace in0 := in0.next hb_12 (by omega)
  replace in1 := in1.next hb_12 (by omega)
  replace a0_0 := cell_next a0_0 hb_12
  replace a0_1 := cell_next a0_1 hb_12
  replace a0_l := Nat.lt_of_lt_of_le a0_l hb_12.size
  replace hB := hB.trans (hb_12.mono hB.size)
  have sz_13 := hb_12.size
  go_wp2_with fail
  refine (toTermS_k A1 n1 cap1 _ t1 _ in1 (by omega) h1ok h1eok).mono ?_
  rintro e w5 ⟨g_14, rfl, own_15, hb_16⟩
  replace in0 := in0.next hb_16 (by omega)
  replace in1 := in1.next hb_16 (by omega)
  replace a0_0 := cell_next a0_0 hb_16
  replace a0_1 := cell_next a0_1 hb_16
  replace a0_l := Nat.lt_of_lt_of_le a0_l hb_16.size
  replace own_11 := own_11.next hb_16
  replace hB := hB.trans (hb_16.mono hB.size)
  have sz_17 := hb_16.size
  go_wp2_with fail
  refine (HS.out w5 _ _ _ _ ((own_11.inn).more (by omega)) ((own_15.inn).more (by omega))).mono ?_
  rintro e w6 ⟨R_19, d_20, rfl, own_21, hb_18⟩
  clear own_11
  clear own_15
  replace in0 := in0.next hb_18 (by omega)
  replace in1 := in1.next hb_18 (by omega)
  replace a0_0 := cell_next a0_0 hb_18
  replace a0_1 := cell_next a0_1 hb_18
  replace a0_l := Nat.lt_of_lt_of_le a0_l hb_18.size
  replace hB := hB.trans (hb_18.mono hB.size)
  have sz_22 := hb_18.size
  go_wp2_with fail
  have hb_23 : Below w6.heap.size w6 (w6.alloc (.cells #[.int .i64 r0, .slice R_19 l00 d_20] 26)) := bnew _ _
  have sz_24 : w6.heap.size < (w6.alloc (.cells #[.int .i64 r0, .slice R_19 l00 d_20] 26)).heap.size := by simp
  have w0_0 : (w6.alloc (.cells #[.int .i64 r0, .slice R_19 l00 d_20] 26)).cell? ⟨w6.heap.size, 0, none⟩ = some (.int .i64 r0) := by simp
  have w0_1 : (w6.alloc (.cells #[.int .i64 r0, .slice R_19 l00 d_20] 26)).cell? ⟨w6.heap.size, 1, none⟩ = some (.slice R_19 l00 d_20) := by simp
  have w0_l := sz_24
  generalize w6.alloc (.cells #[.int .i64 r0, .slice R_19 l00 d_20] 26) = w7 at hb_23 w0_0 w0_1 sz_24 w0_l ⊢
  replace in0 := in0.next hb_23 (by omega)
  replace in1 := in1.next hb_23 (by omega)
  replace a0_0 := cell_next a0_0 hb_23
  replace a0_1 := cell_next a0_1 hb_23
  replace a0_l := Nat.lt_of_lt_of_le a0_l hb_23.size
  replace own_21 := own_21.next hb_23
  replace hB := hB.trans (hb_23.mono hB.size)
  have sz_25 := hb_23.size
  refine (toTerm_k c0 A0 n0 cap0 _ z0 _ in0 (by omega) h0ok).mono ?_
  rintro e w8 ⟨g_26, rfl, own_27, hb_28⟩
  replace in0 := in0.next hb_28 (by omega)
  replace in1 := in1.next hb_28 (by omega)
  replace a0_0 := cell_next a0_0 hb_28
  replace a0_1 := cell_next a0_1 hb_28
  replace a0_l := Nat.lt_of_lt_of_le a0_l hb_28.size
  replace own_21 := own_21.next hb_28
  replace w0_0 := cell_next w0_0 hb_28
  replace w0_1 := cell_next w0_1 hb_28
  replace w0_l := Nat.lt_of_lt_of_le w0_l hb_28.size
  replace hB := hB.trans (hb_28.mono hB.size)
  have sz_29 := hb_28.size
  go_wp2_with fail
  have hb_30 : Below w8.heap.size w8 (w8.alloc (.cells #[.int .i64 c0, .slice (some ⟨g_26, 0, none⟩) n0 n0] 26)) := bnew _ _
  have sz_31 : w8.heap.size < (w8.alloc (.cells #[.int .i64 c0, .slice (some ⟨g_26, 0, none⟩) n0 n0] 26)).heap.size := by simp
  have x0_0 : (w8.alloc (.cells #[.int .i64 c0, .slice (some ⟨g_26, 0, none⟩) n0 n0] 26)).cell? ⟨w8.heap.size, 0, none⟩ = some (.int .i64 c0) := by simp
  have x0_1 : (w8.alloc (.cells #[.int .i64 c0, .slice (some ⟨g_26, 0, none⟩) n0 n0] 26)).cell? ⟨w8.heap.size, 1, none⟩ = some (.slice (some ⟨g_26, 0, none⟩) n0 n0) := by simp
  have x0_l := sz_31
  generalize w8.alloc (.cells #[.int .i64 c0, .slice (some ⟨g_26, 0, none⟩) n0 n0] 26) = w9 at hb_30 x0_0 x0_1 sz_31 x0_l ⊢
  replace in0 := in0.next hb_30 (by omega)
  replace in1 := in1.next hb_30 (by omega)
  replace a0_0 := cell_next a0_0 hb_30
  replace a0_1 := cell_next a0_1 hb_30
  replace a0_l := Nat.lt_of_lt_of_le a0_l hb_30.size
  replace own_21 := own_21.next hb_30
  replace w0_0 := cell_next w0_0 hb_30
  replace w0_1 := cell_next w0_1 hb_30
  replace w0_l := Nat.lt_of_lt_of_le w0_l hb_30.size
  replace own_27 := own_27.next hb_30
  replace hB := hB.trans (hb_30.mono hB.size)
  have sz_32 := hb_30.size
  refine (toTermS_k A1 n1 cap1 _ t1 _ in1 (by omega) h1ok h1eok).mono ?_
  rintro e w10 ⟨g_33, rfl, own_34, hb_35⟩
  replace in0 := in0.next hb_35 (by omega)
  replace in1 := in1.next hb_35 (by omega)
  replace a0_0 := cell_next a0_0 hb_35
  replace a0_1 := cell_next a0_1 hb_35
  replace a0_l := Nat.lt_of_lt_of_le a0_l hb_35.size
  replace own_21 := own_21.next hb_35
  replace w0_0 := cell_next w0_0 hb_35
  replace w0_1 := cell_next w0_1 hb_35
  replace w0_l := Nat.lt_of_lt_of_le w0_l hb_35.size
  replace own_27 := own_27.next hb_35
  replace x0_0 := cell_next x0_0 hb_35
  replace x0_1 := cell_next x0_1 hb_35
  replace x0_l := Nat.lt_of_lt_of_le x0_l hb_35.size
  replace hB := hB.trans (hb_35.mono hB.size)
  have sz_36 := hb_35.size
  go_wp2_with fail
  refine (HI.out w10 _ _ _ _ ((own_27.inn).more (by omega)) ((own_34.inn).more (by omega))).mono ?_
  rintro e w11 ⟨R_38, d_39, rfl, own_40, hb_37⟩
  replace in0 := in0.next hb_37 (by omega)
  replace in1 := in1.next hb_37 (by omega)
  replace a0_0 := cell_next a0_0 hb_37
  replace a0_1 := cell_next a0_1 hb_37
  replace a0_l := Nat.lt_of_lt_of_le a0_l hb_37.size
  replace own_21 := own_21.next hb_37
  replace w0_0 := cell_next w0_0 hb_37
  replace w0_1 := cell_next w0_1 hb_37
  replace w0_l := Nat.lt_of_lt_of_le w0_l hb_37.size
  replace own_27 := own_27.next hb_37
  replace x0_0 := cell_next x0_0 hb_37
  replace x0_1 := cell_next x0_1 hb_37
  replace x0_l := Nat.lt_of_lt_of_le x0_l hb_37.size
  replace own_34 := own_34.next hb_37
  replace hB := hB.trans (hb_37.mono hB.size)
  have sz_41 := hb_37.size
  go_wp2_with fail
  have hb_42 : Below w11.heap.size w11 (w11.alloc (.cells #[.int .i64 r0, .slice R_38 l00 d_39] 26)) := bnew _ _
  have sz_43 : w11.heap.size < (w11.alloc (.cells #[.int .i64 r0, .slice R_38 l00 d_39] 26)).heap.size := by simp
  have g0_0 : (w11.alloc (.cells #[.int .i64 r0, .slice R_38 l00 d_39] 26)).cell? ⟨w11.heap.size, 0, none⟩ = some (.int .i64 r0) := by simp
  have g0_1 : (w11.alloc (.cells #[.int .i64 r0, .slice R_38 l00 d_39] 26)).cell? ⟨w11.heap.size, 1, none⟩ = some (.slice R_38 l00 d_39) := by simp
  have g0_l := sz_43
  generalize w11.alloc (.cells #[.int .i64 r0, .slice R_38 l00 d_39] 26) = w12 at hb_42 g0_0 g0_1 sz_43 g0_l ⊢
  replace in0 := in0.next hb_42 (by omega)
  replace in1 := in1.next hb_42 (by omega)
  replace a0_0 := cell_next a0_0 hb_42
  replace a0_1 := cell_next a0_1 hb_42
  replace a0_l := Nat.lt_of_lt_of_le a0_l hb_42.size
  replace own_21 := own_21.next hb_42
  replace w0_0 := cell_next w0_0 hb_42
  replace w0_1 := cell_next w0_1 hb_42
  replace w0_l := Nat.lt_of_lt_of_le w0_l hb_42.size
  replace own_27 := own_27.next hb_42
  replace x0_0 := cell_next x0_0 hb_42
  replace x0_1 := cell_next x0_1 hb_42
  replace x0_l := Nat.lt_of_lt_of_le x0_l hb_42.size
  replace own_34 := own_34.next hb_42
  replace own_40 := own_40.next hb_42
  replace hB := hB.trans (hb_42.mono hB.size)
  have sz_44 := hb_42.size
  -- if !eqTerm(g0, w0) || g1 != w1 {
  refine (eqTerm_k r0 R_38 R_19 l00 d_39 d_20 _ _ y00 _ own_40.inn own_21.inn (by omega) (by omega) (by omega)).mono ?_
  rintro e w13 ⟨rfl, hb_45⟩
  replace in0 := in0.next hb_45 (by omega)
  replace in1 := in1.next hb_45 (by omega)
  replace a0_0 := cell_next a0_0 hb_45
  replace a0_1 := cell_next a0_1 hb_45
  replace a0_l := Nat.lt_of_lt_of_le a0_l hb_45.size
  replace own_21 := own_21.next hb_45
  replace w0_0 := cell_next w0_0 hb_45
  replace w0_1 := cell_next w0_1 hb_45
  replace w0_l := Nat.lt_of_lt_of_le w0_l hb_45.size
  replace own_27 := own_27.next hb_45
  replace x0_0 := cell_next x0_0 hb_45
  replace x0_1 := cell_next x0_1 hb_45
  replace x0_l := Nat.lt_of_lt_of_le x0_l hb_45.size
  replace own_34 := own_34.next hb_45
  replace own_40 := own_40.next hb_45
  replace g0_0 := cell_next g0_0 hb_45
  replace g0_1 := cell_next g0_1 hb_45
  replace g0_l := Nat.lt_of_lt_of_le g0_l hb_45.size
  replace hB := hB.trans (hb_45.mono hB.size)
  have sz_46 := hb_45.size
  go_wp2_with fail
  have HT_47 := Lib.hid (toTerm_k c0 A0 n0 cap0 _ z0 w13.drew in0.drew (by show _ ≤ w13.heap.size; omega) h0ok)
  have HE_48 : Hid (∀ w14 g_49, Below w13.drew.heap.size w13.drew w14 → OwnL w14 w13.drew.heap.size w14.heap.size (some ⟨g_49, 0, none⟩) n0 n0 z0 → Calls Try.prog 28 #[.agg #[.int .i64 c0, .slice (some ⟨g_26, 0, none⟩) n0 n0], .agg #[.int .i64 c0, .slice (some ⟨g_49, 0, none⟩) n0 n0]] w14 fun e w' => e = .returned (.bool true) ∧ Below w14.heap.size w14 w') := fun w14 g_49 hb_51 own_50 => eqTerm_k c0 (some ⟨g_26, 0, none⟩) (some ⟨g_49, 0, none⟩) n0 n0 n0 _ _ z0 w14 ((own_27.inn).call (by omega) hb_51) own_50.inn (le_call (by omega) hb_51) (Nat.le_refl _) h0ok
  go_region_held3 (fun w' => w'.cell? ⟨w.heap.size, 0, none⟩ = some (.int .i64 c0) ∧ w'.cell? ⟨w.heap.size, 1, none⟩ = some (.slice A0 n0 cap0) ∧ w'.cell? ⟨w8.heap.size, 0, none⟩ = some (.int .i64 c0) ∧ w'.cell? ⟨w8.heap.size, 1, none⟩ = some (.slice (some ⟨g_26, 0, none⟩) n0 n0))
    (first | go_keep | exact ⟨cell_on a0_0 hb_51, cell_on a0_1 hb_51, cell_on x0_0 hb_51, cell_on x0_1 hb_51⟩ | exact ⟨cell_on2 a0_0 hb_51 hb_53, cell_on2 a0_1 hb_51 hb_53, cell_on2 x0_0 hb_51 hb_53, cell_on2 x0_1 hb_51 hb_53⟩)
    (first | (go_at_call 27; refine HT_47.out.mono ?_; rintro e w14 ⟨g_49, rfl, own_50, hb_51⟩) | (go_at_call 28; refine (HE_48.out _ _ hb_51 own_50).mono ?_; rintro e w15 ⟨rfl, hb_53⟩))
  replace hb_51 := (bstep hb_51)
  replace in0 := in0.next hb_51 (by omega)
  replace in1 := in1.next hb_51 (by omega)
  replace a0_0 := cell_next a0_0 hb_51
  replace a0_1 := cell_next a0_1 hb_51
  replace a0_l := Nat.lt_of_lt_of_le a0_l hb_51.size
  replace own_21 := own_21.next hb_51
  replace w0_0 := cell_next w0_0 hb_51
  replace w0_1 := cell_next w0_1 hb_51
  replace w0_l := Nat.lt_of_lt_of_le w0_l hb_51.size
  replace own_27 := own_27.next hb_51
  replace x0_0 := cell_next x0_0 hb_51
  replace x0_1 := cell_next x0_1 hb_51
  replace x0_l := Nat.lt_of_lt_of_le x0_l hb_51.size
  replace own_34 := own_34.next hb_51
  replace own_40 := own_40.next hb_51
  replace g0_0 := cell_next g0_0 hb_51
  replace g0_1 := cell_next g0_1 hb_51
  replace g0_l := Nat.lt_of_lt_of_le g0_l hb_51.size
  replace hB := hB.trans (hb_51.mono hB.size)
  have sz_54 := hb_51.size
  replace in0 := in0.next hb_53 (by omega)
  replace in1 := in1.next hb_53 (by omega)
  replace a0_0 := cell_next a0_0 hb_53
  replace a0_1 := cell_next a0_1 hb_53
  replace a0_l := Nat.lt_of_lt_of_le a0_l hb_53.size
  replace own_21 := own_21.next hb_53
  replace w0_0 := cell_next w0_0 hb_53
  replace w0_1 := cell_next w0_1 hb_53
  replace w0_l := Nat.lt_of_lt_of_le w0_l hb_53.size
  replace own_27 := own_27.next hb_53
  replace x0_0 := cell_next x0_0 hb_53
  replace x0_1 := cell_next x0_1 hb_53
  replace x0_l := Nat.lt_of_lt_of_le x0_l hb_53.size
  replace own_34 := own_34.next hb_53
  replace own_40 := own_40.next hb_53
  replace g0_0 := cell_next g0_0 hb_53
  replace g0_1 := cell_next g0_1 hb_53
  replace g0_l := Nat.lt_of_lt_of_le g0_l hb_53.size
  replace hB := hB.trans (hb_53.mono hB.size)
  have sz_55 := hb_53.size
  clear HT_47 HE_48 own_50
  go_wp2_with fail
  refine (toTermS_k A1 n1 cap1 _ t1 _ in1 (by omega) h1ok h1eok).mono ?_
  rintro e w16 ⟨g_56, rfl, own_57, hb_58⟩
  replace in0 := in0.next hb_58 (by omega)
  replace in1 := in1.next hb_58 (by omega)
  replace a0_0 := cell_next a0_0 hb_58
  replace a0_1 := cell_next a0_1 hb_58
  replace a0_l := Nat.lt_of_lt_of_le a0_l hb_58.size
  replace own_21 := own_21.next hb_58
  replace w0_0 := cell_next w0_0 hb_58
  replace w0_1 := cell_next w0_1 hb_58
  replace w0_l := Nat.lt_of_lt_of_le w0_l hb_58.size
  replace own_27 := own_27.next hb_58
  replace x0_0 := cell_next x0_0 hb_58
  replace x0_1 := cell_next x0_1 hb_58
  replace x0_l := Nat.lt_of_lt_of_le x0_l hb_58.size
  replace own_34 := own_34.next hb_58
  replace own_40 := own_40.next hb_58
  replace g0_0 := cell_next g0_0 hb_58
  replace g0_1 := cell_next g0_1 hb_58
  replace g0_l := Nat.lt_of_lt_of_le g0_l hb_58.size
  replace hB := hB.trans (hb_58.mono hB.size)
  have sz_59 := hb_58.size
  go_wp2_with fail
  refine (eqTermS_k (some ⟨g_33, 0, none⟩) (some ⟨g_56, 0, none⟩) n1 n1 n1 _ _ t1 _ own_34.inn own_57.inn (by omega) (by omega) h1ok h1eok).mono ?_
  rintro e w17 ⟨rfl, hb_60⟩
  clear own_57
  replace in0 := in0.next hb_60 (by omega)
  replace in1 := in1.next hb_60 (by omega)
  replace a0_0 := cell_next a0_0 hb_60
  replace a0_1 := cell_next a0_1 hb_60
  replace a0_l := Nat.lt_of_lt_of_le a0_l hb_60.size
  replace own_21 := own_21.next hb_60
  replace w0_0 := cell_next w0_0 hb_60
  replace w0_1 := cell_next w0_1 hb_60
  replace w0_l := Nat.lt_of_lt_of_le w0_l hb_60.size
  replace own_27 := own_27.next hb_60
  replace x0_0 := cell_next x0_0 hb_60
  replace x0_1 := cell_next x0_1 hb_60
  replace x0_l := Nat.lt_of_lt_of_le x0_l hb_60.size
  replace own_34 := own_34.next hb_60
  replace own_40 := own_40.next hb_60
  replace g0_0 := cell_next g0_0 hb_60
  replace g0_1 := cell_next g0_1 hb_60
  replace g0_l := Nat.lt_of_lt_of_le g0_l hb_60.size
  replace hB := hB.trans (hb_60.mono hB.size)
  have sz_61 := hb_60.size
  go_wp2_with fail
  refine (markTerm_k c0 w7.heap.size w8.heap.size (some ⟨g_26, 0, none⟩) n0 n0 z0 1 _ own_27 (by omega) (by omega) (by omega)).mono ?_
  rintro e w18 ⟨rfl, own_63, ho_62⟩
  replace in0 := in0.out ho_62 (by omega) (by omega)
  replace in1 := in1.out ho_62 (by omega) (by omega)
  replace a0_0 := ho_62.cell a0_0 (by omega)
  replace a0_1 := ho_62.cell a0_1 (by omega)
  replace a0_l := Nat.lt_of_lt_of_le a0_l ho_62.size
  replace own_21 := own_21.out ho_62 (by omega)
  replace w0_0 := ho_62.cell w0_0 (by omega)
  replace w0_1 := ho_62.cell w0_1 (by omega)
  replace w0_l := Nat.lt_of_lt_of_le w0_l ho_62.size
  replace x0_0 := ho_62.cell x0_0 (by omega)
  replace x0_1 := ho_62.cell x0_1 (by omega)
  replace x0_l := Nat.lt_of_lt_of_le x0_l ho_62.size
  replace own_34 := own_34.out ho_62 (by omega)
  replace own_40 := own_40.out ho_62 (by omega)
  replace g0_0 := ho_62.cell g0_0 (by omega)
  replace g0_1 := ho_62.cell g0_1 (by omega)
  replace g0_l := Nat.lt_of_lt_of_le g0_l ho_62.size
  replace hB := hB.trans (ho_62.below (by omega) (by omega))
  have sz_64 := ho_62.size
  clear own_27
  clear x0_0 x0_1 x0_l
  clear own_63
  go_wp2_with fail
  refine (markTermS_w w9.heap.size w10.heap.size (some ⟨g_33, 0, none⟩) n1 n1 t1 (1 + (n0 : Int)) _ own_34 (by omega) (by omega) (by omega) (by omega)).mono ?_
  rintro e w19 ⟨rfl, own_66, ho_65⟩
  replace in0 := in0.out ho_65 (by omega) (by omega)
  replace in1 := in1.out ho_65 (by omega) (by omega)
  replace a0_0 := ho_65.cell a0_0 (by omega)
  replace a0_1 := ho_65.cell a0_1 (by omega)
  replace a0_l := Nat.lt_of_lt_of_le a0_l ho_65.size
  replace own_21 := own_21.out ho_65 (by omega)
  replace w0_0 := ho_65.cell w0_0 (by omega)
  replace w0_1 := ho_65.cell w0_1 (by omega)
  replace w0_l := Nat.lt_of_lt_of_le w0_l ho_65.size
  replace own_40 := own_40.out ho_65 (by omega)
  replace g0_0 := ho_65.cell g0_0 (by omega)
  replace g0_1 := ho_65.cell g0_1 (by omega)
  replace g0_l := Nat.lt_of_lt_of_le g0_l ho_65.size
  replace hB := hB.trans (ho_65.below (by omega) (by omega))
  have sz_67 := ho_65.size
  clear own_34
  clear own_66
  go_wp2_with fail
  -- if k < 0 || !eqTerm(g0, w0) || g1 != w1 {
  refine (eqTerm_k r0 R_38 R_19 l00 d_39 d_20 _ _ y00 _ own_40.inn own_21.inn (by omega) (by omega) (by omega)).mono ?_
  rintro e w20 ⟨rfl, hb_68⟩
  replace in0 := in0.next hb_68 (by omega)
  replace in1 := in1.next hb_68 (by omega)
  replace a0_0 := cell_next a0_0 hb_68
  replace a0_1 := cell_next a0_1 hb_68
  replace a0_l := Nat.lt_of_lt_of_le a0_l hb_68.size
  replace own_21 := own_21.next hb_68
  replace w0_0 := cell_next w0_0 hb_68
  replace w0_1 := cell_next w0_1 hb_68
  replace w0_l := Nat.lt_of_lt_of_le w0_l hb_68.size
  replace own_40 := own_40.next hb_68
  replace g0_0 := cell_next g0_0 hb_68
  replace g0_1 := cell_next g0_1 hb_68
  replace g0_l := Nat.lt_of_lt_of_le g0_l hb_68.size
  replace hB := hB.trans (hb_68.mono hB.size)
  have sz_69 := hb_68.size
  go_wp2_with fail
  refine (markTerm_k r0 w10.heap.size w11.heap.size R_38 l00 d_39 y00 1 _ own_40 (by omega) (by omega) (by omega)).mono ?_
  rintro e w21 ⟨rfl, own_71, ho_70⟩
  replace in0 := in0.out ho_70 (by omega) (by omega)
  replace in1 := in1.out ho_70 (by omega) (by omega)
  replace a0_0 := ho_70.cell a0_0 (by omega)
  replace a0_1 := ho_70.cell a0_1 (by omega)
  replace a0_l := Nat.lt_of_lt_of_le a0_l ho_70.size
  replace own_21 := own_21.out ho_70 (by omega)
  replace w0_0 := ho_70.cell w0_0 (by omega)
  replace w0_1 := ho_70.cell w0_1 (by omega)
  replace w0_l := Nat.lt_of_lt_of_le w0_l ho_70.size
  replace g0_0 := ho_70.cell g0_0 (by omega)
  replace g0_1 := ho_70.cell g0_1 (by omega)
  replace g0_l := Nat.lt_of_lt_of_le g0_l ho_70.size
  replace hB := hB.trans (ho_70.below (by omega) (by omega))
  have sz_72 := ho_70.size
  clear own_40
  go_wp2_with fail
  refine (heldTerm_k r0 R_38 l00 d_39 _ 1 _ own_71.inn (by omega) (by omega) (by omega) (by omega)).mono ?_
  rintro e w22 ⟨rfl, hb_73⟩
  replace in0 := in0.next hb_73 (by omega)
  replace in1 := in1.next hb_73 (by omega)
  replace a0_0 := cell_next a0_0 hb_73
  replace a0_1 := cell_next a0_1 hb_73
  replace a0_l := Nat.lt_of_lt_of_le a0_l hb_73.size
  replace own_21 := own_21.next hb_73
  replace w0_0 := cell_next w0_0 hb_73
  replace w0_1 := cell_next w0_1 hb_73
  replace w0_l := Nat.lt_of_lt_of_le w0_l hb_73.size
  replace g0_0 := cell_next g0_0 hb_73
  replace g0_1 := cell_next g0_1 hb_73
  replace g0_l := Nat.lt_of_lt_of_le g0_l hb_73.size
  replace own_71 := own_71.next hb_73
  replace hB := hB.trans (hb_73.mono hB.size)
  have sz_74 := hb_73.size
  go_wp2_with fail
  refine (toTerm_k c0 A0 n0 cap0 _ z0 _ in0 (by omega) h0ok).mono ?_
  rintro e w23 ⟨g_75, rfl, own_76, hb_77⟩
  replace in0 := in0.next hb_77 (by omega)
  replace in1 := in1.next hb_77 (by omega)
  replace a0_0 := cell_next a0_0 hb_77
  replace a0_1 := cell_next a0_1 hb_77
  replace a0_l := Nat.lt_of_lt_of_le a0_l hb_77.size
  replace own_21 := own_21.next hb_77
  replace w0_0 := cell_next w0_0 hb_77
  replace w0_1 := cell_next w0_1 hb_77
  replace w0_l := Nat.lt_of_lt_of_le w0_l hb_77.size
  replace g0_0 := cell_next g0_0 hb_77
  replace g0_1 := cell_next g0_1 hb_77
  replace g0_l := Nat.lt_of_lt_of_le g0_l hb_77.size
  replace own_71 := own_71.next hb_77
  replace hB := hB.trans (hb_77.mono hB.size)
  have sz_78 := hb_77.size
  go_wp2_with fail
  refine (toTermS_k A1 n1 cap1 _ t1 _ in1 (by omega) h1ok h1eok).mono ?_
  rintro e w24 ⟨g_79, rfl, own_80, hb_81⟩
  replace in0 := in0.next hb_81 (by omega)
  replace in1 := in1.next hb_81 (by omega)
  replace a0_0 := cell_next a0_0 hb_81
  replace a0_1 := cell_next a0_1 hb_81
  replace a0_l := Nat.lt_of_lt_of_le a0_l hb_81.size
  replace own_21 := own_21.next hb_81
  replace w0_0 := cell_next w0_0 hb_81
  replace w0_1 := cell_next w0_1 hb_81
  replace w0_l := Nat.lt_of_lt_of_le w0_l hb_81.size
  replace g0_0 := cell_next g0_0 hb_81
  replace g0_1 := cell_next g0_1 hb_81
  replace g0_l := Nat.lt_of_lt_of_le g0_l hb_81.size
  replace own_71 := own_71.next hb_81
  replace own_76 := own_76.next hb_81
  replace hB := hB.trans (hb_81.mono hB.size)
  have sz_82 := hb_81.size
  go_wp2_with fail
  refine (HI.out w24 _ _ _ _ ((own_76.inn).more (by omega)) ((own_80.inn).more (by omega))).mono ?_
  rintro e w25 ⟨R_84, d_85, rfl, own_86, hb_83⟩
  clear own_76
  clear own_80
  replace in0 := in0.next hb_83 (by omega)
  replace in1 := in1.next hb_83 (by omega)
  replace a0_0 := cell_next a0_0 hb_83
  replace a0_1 := cell_next a0_1 hb_83
  replace a0_l := Nat.lt_of_lt_of_le a0_l hb_83.size
  replace own_21 := own_21.next hb_83
  replace w0_0 := cell_next w0_0 hb_83
  replace w0_1 := cell_next w0_1 hb_83
  replace w0_l := Nat.lt_of_lt_of_le w0_l hb_83.size
  replace g0_0 := cell_next g0_0 hb_83
  replace g0_1 := cell_next g0_1 hb_83
  replace g0_l := Nat.lt_of_lt_of_le g0_l hb_83.size
  replace own_71 := own_71.next hb_83
  replace hB := hB.trans (hb_83.mono hB.size)
  have sz_87 := hb_83.size
  go_wp2_with fail
  have hb_88 : Below w25.heap.size w25 (w25.alloc (.cells #[.int .i64 r0, .slice R_84 l00 d_85] 26)) := bnew _ _
  have sz_89 : w25.heap.size < (w25.alloc (.cells #[.int .i64 r0, .slice R_84 l00 d_85] 26)).heap.size := by simp
  have h0_0 : (w25.alloc (.cells #[.int .i64 r0, .slice R_84 l00 d_85] 26)).cell? ⟨w25.heap.size, 0, none⟩ = some (.int .i64 r0) := by simp
  have h0_1 : (w25.alloc (.cells #[.int .i64 r0, .slice R_84 l00 d_85] 26)).cell? ⟨w25.heap.size, 1, none⟩ = some (.slice R_84 l00 d_85) := by simp
  have h0_l := sz_89
  generalize w25.alloc (.cells #[.int .i64 r0, .slice R_84 l00 d_85] 26) = w26 at hb_88 h0_0 h0_1 sz_89 h0_l ⊢
  replace in0 := in0.next hb_88 (by omega)
  replace in1 := in1.next hb_88 (by omega)
  replace a0_0 := cell_next a0_0 hb_88
  replace a0_1 := cell_next a0_1 hb_88
  replace a0_l := Nat.lt_of_lt_of_le a0_l hb_88.size
  replace own_21 := own_21.next hb_88
  replace w0_0 := cell_next w0_0 hb_88
  replace w0_1 := cell_next w0_1 hb_88
  replace w0_l := Nat.lt_of_lt_of_le w0_l hb_88.size
  replace g0_0 := cell_next g0_0 hb_88
  replace g0_1 := cell_next g0_1 hb_88
  replace g0_l := Nat.lt_of_lt_of_le g0_l hb_88.size
  replace own_71 := own_71.next hb_88
  replace own_86 := own_86.next hb_88
  replace hB := hB.trans (hb_88.mono hB.size)
  have sz_90 := hb_88.size
  -- if !eqTerm(h0, w0) || h1 != w1 {
  refine (eqTerm_k r0 R_84 R_19 l00 d_85 d_20 _ _ y00 _ own_86.inn own_21.inn (by omega) (by omega) (by omega)).mono ?_
  rintro e w27 ⟨rfl, hb_91⟩
  replace in0 := in0.next hb_91 (by omega)
  replace in1 := in1.next hb_91 (by omega)
  replace a0_0 := cell_next a0_0 hb_91
  replace a0_1 := cell_next a0_1 hb_91
  replace a0_l := Nat.lt_of_lt_of_le a0_l hb_91.size
  replace own_21 := own_21.next hb_91
  replace w0_0 := cell_next w0_0 hb_91
  replace w0_1 := cell_next w0_1 hb_91
  replace w0_l := Nat.lt_of_lt_of_le w0_l hb_91.size
  replace g0_0 := cell_next g0_0 hb_91
  replace g0_1 := cell_next g0_1 hb_91
  replace g0_l := Nat.lt_of_lt_of_le g0_l hb_91.size
  replace own_71 := own_71.next hb_91
  replace own_86 := own_86.next hb_91
  replace h0_0 := cell_next h0_0 hb_91
  replace h0_1 := cell_next h0_1 hb_91
  replace h0_l := Nat.lt_of_lt_of_le h0_l hb_91.size
  replace hB := hB.trans (hb_91.mono hB.size)
  have sz_92 := hb_91.size
  go_wp2_with fail
  clear own_86
  clear h0_0 h0_1 h0_l
  refine (heldTerm_k r0 R_38 l00 d_39 _ 1 _ own_71.inn (by omega) (by omega) (by omega) (by omega)).mono ?_
  rintro e w28 ⟨rfl, hb_93⟩
  replace in0 := in0.next hb_93 (by omega)
  replace in1 := in1.next hb_93 (by omega)
  replace a0_0 := cell_next a0_0 hb_93
  replace a0_1 := cell_next a0_1 hb_93
  replace a0_l := Nat.lt_of_lt_of_le a0_l hb_93.size
  replace own_21 := own_21.next hb_93
  replace w0_0 := cell_next w0_0 hb_93
  replace w0_1 := cell_next w0_1 hb_93
  replace w0_l := Nat.lt_of_lt_of_le w0_l hb_93.size
  replace g0_0 := cell_next g0_0 hb_93
  replace g0_1 := cell_next g0_1 hb_93
  replace g0_l := Nat.lt_of_lt_of_le g0_l hb_93.size
  replace own_71 := own_71.next hb_93
  replace hB := hB.trans (hb_93.mono hB.size)
  have sz_94 := hb_93.size
  go_wp2_with fail
  go_ret
  exact ⟨rfl, hB⟩

set_option maxRecDepth 100000 in
set_option maxHeartbeats 4000000 in
theorem walk (c0 : Int) (A0 : Option Addr) (n0 cap0 : Nat) (z0 : List Int) (A1 : Option Addr) (n1 cap1 : Nat) (t1 : List (Int × List Int)) (w : World) (h0row : Row w w.heap.size A0 (z0.map ic)) (h0len : z0.length = n0) (h0max : n0 ≤ maxLen) (h1row : TRow w w.heap.size A1 t1) (h1len : t1.length = n1) (h1max : n1 ≤ maxLen) (h1each : ∀ t ∈ t1, t.2.length ≤ maxLen) :
    Calls Try.prog 9 #[.agg #[.int .i64 c0, .slice A0 n0 cap0], .slice A1 n1 cap1] w fun e w' => e = .returned (.bool true) ∧ Below w.heap.size w w' := by
  by_cases h0 : n0 ≤ 1048576
  · by_cases h1 : n0 + (n1 + totT t1) ≤ 1048576
    · have hk : (subR (c0, z0) t1).1.2.length ≤ 1000 := Nat.le_trans (res_lenR _ _) (by omega)
      exact road c0 A0 n0 cap0 z0 A1 n1 cap1 t1 w ⟨h0len, h0row⟩ h0 ⟨h1len, h1row⟩ (by omega) (by omega) (by omega) (by omega) (subR (c0, z0) t1).1.1 (subR (c0, z0) t1).1.2 (subR (c0, z0) t1).1.2.length (subR (c0, z0) t1).2 hk (fun w0 a00 u00 a10 u10 h g => givesT_is (specSub_c c0 a00 n0 u00 z0 a10 n1 u10 t1 w0 h h0 g (by omega) (by omega))) (fun w0 a00 u00 a10 u10 h g => givesT_is (implSub_c c0 a00 n0 u00 z0 a10 n1 u10 t1 w0 h h0 g (by omega) (by omega)))
    · exact early1 c0 A0 n0 cap0 z0 A1 n1 cap1 t1 w ⟨h0len, h0row⟩ ⟨h1len, h1row⟩ h0 (by omega) h0max h1max h1each
  · exact early0 c0 A0 n0 cap0 z0 A1 n1 cap1 t1 w ⟨h0len, h0row⟩ ⟨h1len, h1row⟩ (by omega) h0max h1max h1each

set_option maxRecDepth 100000 in
set_option maxHeartbeats 4000000 in
theorem lifted (os : Os) (started : os.Started) (H : Type) (enc : TypeId × Value → H) :
    ReturnsInHanded {} Try.checked os 9 .any (Rows.fnExactSubstituteTermSpec.pre6 enc Try.prog Try.f9 Rows.fnExactSubstituteTermRow.domain false) (Rows.fnExactSubstituteTermSpec.post enc Try.prog Try.f9 false true false false) := by
  refine returnsInHanded_of_change (C := Try.checked) own started (by kernel_rfl) Try.func9
    (ChangeSpec.witness6 (enc := enc) (C := Try.checked) false ⟨#[], #[.agg #[.int .i64 0, .slice none 0 0], .slice none 0 0], []⟩ 8 (by kernel_rfl) (by kernel_rfl) (by kernel_rfl) (by kernel_rfl)) ?_
  intro W base args ds gs before hval0 hW hcnd _
  have hval : ∀ (j : Nat) t v, Try.f9.params[j]? = some t → args[j]? = some v → Value.okWide Try.prog W .any base t v := hval0
  have hW' := hW
  obtain ⟨p, q, hA0, hV, rfl, hfz, hnd⟩ := hW
  have hA : DataW.TrodAll enc Try.prog W 0 (fun _ => true) true Try.f9.params.toList args.toList ds p := hA0
  rw [Try.params9] at hA hval
  obtain ⟨v0, vs0, d0, ds0, p0, q0, hargs, rfl, rfl, g0, r0⟩ := trodAll_cons hA
  obtain ⟨v1, vs1, d1, ds1, p1, q1, rfl, rfl, rfl, g1, r1⟩ := trodAll_cons r0
  obtain ⟨rfl, rfl, rfl⟩ := trodAll_nil r1
  obtain rfl : args = #[v0, v1] := by cases args; simp_all
  obtain ⟨rfl, rfl⟩ := trodVars_none hV
  have k0 := g0
  have lt0 : ∀ x ∈ p0, x.block < W.heap.size := by obtain ⟨m, hm⟩ := k0; exact DataW.trod_lt m _ _ _ hm
  have k1 := g1
  have lt1 : ∀ x ∈ p1, x.block < W.heap.size := by obtain ⟨m, hm⟩ := k1; exact DataW.trod_lt m _ _ _ hm
  obtain ⟨c0, A0, n0, cap0, z0, rfl, h0len, h0max, h0row, _⟩ := term_in (hval 0 43 v0 rfl rfl) g0
  obtain ⟨a1, b1, e1, rfl⟩ := okWide_slice Try.underlying50 (hval 1 50 v1 rfl rfl)
  obtain ⟨A1, n1, cap1, t1, q1, h1len, h1max, h1row, h1each⟩ := (fun (h : ∃ fuel, DataW.trod enc Try.prog W 0 (fun _ => true) true fuel 50 [.slice a1 b1 e1] = some _) => terms_in h.choose_spec) (by obtain ⟨m, hm⟩ := g1; exact ⟨m, by simpa [Value.cells] using hm⟩)
  obtain ⟨rfl, rfl, rfl⟩ : a1 = A1 ∧ b1 = n1 ∧ e1 = cap1 := by simpa using q1
  clear hA0 hval0
  simp only [List.append_nil] at hW'
  refine (walk c0 A0 n0 cap0 z0 _ _ _ t1 W h0row h0len h0max h1row h1len h1max h1each).mono fun e W' ⟨he, bel⟩ => ?_
  subst he
  exact ⟨_, rfl, _, _, _, [], _, [], hW', trodAll_mk1 (shut_bool Try.underlying4 _), (trodAll_cons_mk (Below.trod laidOut (by kernel_rfl) (of_decide_eq_true (by kernel_rfl)) k0 bel lt0) (trodAll_cons_mk (Below.trod laidOut (by kernel_rfl) (of_decide_eq_true (by kernel_rfl)) k1 bel lt1) trodAll_mk0)), rfl, bel.frame _, fun h => by cases h⟩

theorem over : Rows.fnExactSubstituteTermRow.holds Try.pinned (OpenSpec.ofChange Rows.fnExactSubstituteTermSpec) :=
  OpenClaim.holds_of_wide 9 Try.f9 rfl rfl rfl rfl rfl rfl rfl ⟨rfl, rfl, rfl, rfl, rfl⟩ rfl rfl rfl rfl rfl (by kernel_rfl) Try.func9 (by kernel_rfl)
    (of_decide_eq_true (by kernel_rfl)) (by unfold Func.isWrapper; first | (rw [if_pos (by decide +kernel)]; kernel_rfl) | (rw [if_neg (by decide +kernel)]; exact ⟨rfl, rfl⟩))
    (fun os started H enc _ => lifted os started H enc)

/-- The statement. -/
theorem proved : Rows.FnExactSubstituteTermSaid := over
#print axioms proved
end Go.Proofs.Ytddmpdpmgjggoaa.fnExactSubstituteTerm
