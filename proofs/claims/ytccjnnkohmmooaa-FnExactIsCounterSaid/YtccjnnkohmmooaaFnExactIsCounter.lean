/-
  For every sequent and list of numbers the program's IsCounter answers as the model's and leaves both as they were.
  Conditions: none but those that the statement itself bears.
-/
import Derived.Test.YtccjnnkohmmooaaRows
import Derived.WalkKit
import Derived.ProofKit
import Derived.OpenShut
import Derived.ShutString
import Derived.ChangeOld
import Derived.Below
import Derived.WalkSmall
import Derived.Test.YtccjnnkohmmooaaTms
import Derived.Test.YtccjnnkohmmooaaTermK
import Derived.Test.YtccjnnkohmmooaaCounter
namespace Go.Proofs.Ytccjnnkohmmooaa.fnExactIsCounter
open Go.ChangeShapes Go.WideShapes Go.ChangeAt Go.RowKit
open Go.ChangeMaps (open_string shut_string)
set_option linter.unusedVariables false

theorem own : ownKnob Try.prog.godebug = none := by kernel_rfl
theorem laidOut : laidOutB Try.prog = true := by kernel_rfl
set_option maxRecDepth 100000 in
set_option maxHeartbeats 8000000 in
theorem early0 (c0 : Int) (A0 : Option Addr) (n0 cap0 : Nat) (t0 : List (Int × List Int)) (B0 : Option Addr) (m0 cbp0 : Nat) (z0 : List Int) (A1 : Option Addr) (n1 cap1 : Nat) (z1 : List Int) (w : World) (in0a : InTS w w.heap.size A0 n0 t0) (in0b : InL w w.heap.size B0 m0 z0) (in1 : InL w w.heap.size A1 n1 z1) (q0 : 1048576 < n1) (vn1 : n1 ≤ maxLen) (vn0 : n0 ≤ maxLen) (en0 : ∀ t ∈ t0, t.2.length ≤ maxLen) (vm0 : m0 ≤ maxLen) :
    Calls Try.prog 8 #[.agg #[.slice A0 n0 cap0, .int .i64 c0, .slice B0 m0 cbp0], .slice A1 n1 cap1] w fun e w' => e = .returned (.bool true) ∧ Below w.heap.size w w' := by
  have hB := Below.refl w.heap.size w
  go_enter Try.func8, Try.ntmps8
  go_wp2_with fail
  have hb_1 : Below w.heap.size w (w.alloc (.cells #[.slice A0 n0 cap0, .int .i64 c0, .slice B0 m0 cbp0] 39)) := bnew _ _
  have sz_2 : w.heap.size < (w.alloc (.cells #[.slice A0 n0 cap0, .int .i64 c0, .slice B0 m0 cbp0] 39)).heap.size := by simp
  have a0_0 : (w.alloc (.cells #[.slice A0 n0 cap0, .int .i64 c0, .slice B0 m0 cbp0] 39)).cell? ⟨w.heap.size, 0, none⟩ = some (.slice A0 n0 cap0) := by simp
  have a0_1 : (w.alloc (.cells #[.slice A0 n0 cap0, .int .i64 c0, .slice B0 m0 cbp0] 39)).cell? ⟨w.heap.size, 1, none⟩ = some (.int .i64 c0) := by simp
  have a0_2 : (w.alloc (.cells #[.slice A0 n0 cap0, .int .i64 c0, .slice B0 m0 cbp0] 39)).cell? ⟨w.heap.size, 2, none⟩ = some (.slice B0 m0 cbp0) := by simp
  have a0_l := sz_2
  generalize w.alloc (.cells #[.slice A0 n0 cap0, .int .i64 c0, .slice B0 m0 cbp0] 39) = w1 at hb_1 a0_0 a0_1 a0_2 sz_2 a0_l ⊢
  replace in0a := in0a.next hb_1 (by omega)
  replace in0b := in0b.next hb_1 (by omega)
  replace in1 := in1.next hb_1 (by omega)
  replace hB := hB.trans (hb_1.mono hB.size)
  have sz_3 := hb_1.size
  go_ret
  exact ⟨rfl, hB⟩

set_option maxRecDepth 100000 in
set_option maxHeartbeats 8000000 in
theorem early1 (c0 : Int) (A0 : Option Addr) (n0 cap0 : Nat) (t0 : List (Int × List Int)) (B0 : Option Addr) (m0 cbp0 : Nat) (z0 : List Int) (A1 : Option Addr) (n1 cap1 : Nat) (z1 : List Int) (w : World) (in0a : InTS w w.heap.size A0 n0 t0) (in0b : InL w w.heap.size B0 m0 z0) (in1 : InL w w.heap.size A1 n1 z1) (q0 : n1 ≤ 1048576) (q1 : 1048576 < (n0 + totT t0 + m0)) (vn1 : n1 ≤ maxLen) (vn0 : n0 ≤ maxLen) (en0 : ∀ t ∈ t0, t.2.length ≤ maxLen) (vm0 : m0 ≤ maxLen) :
    Calls Try.prog 8 #[.agg #[.slice A0 n0 cap0, .int .i64 c0, .slice B0 m0 cbp0], .slice A1 n1 cap1] w fun e w' => e = .returned (.bool true) ∧ Below w.heap.size w w' := by
  have hB := Below.refl w.heap.size w
  go_enter Try.func8, Try.ntmps8
  go_wp2_with fail
  have hb_1 : Below w.heap.size w (w.alloc (.cells #[.slice A0 n0 cap0, .int .i64 c0, .slice B0 m0 cbp0] 39)) := bnew _ _
  have sz_2 : w.heap.size < (w.alloc (.cells #[.slice A0 n0 cap0, .int .i64 c0, .slice B0 m0 cbp0] 39)).heap.size := by simp
  have a0_0 : (w.alloc (.cells #[.slice A0 n0 cap0, .int .i64 c0, .slice B0 m0 cbp0] 39)).cell? ⟨w.heap.size, 0, none⟩ = some (.slice A0 n0 cap0) := by simp
  have a0_1 : (w.alloc (.cells #[.slice A0 n0 cap0, .int .i64 c0, .slice B0 m0 cbp0] 39)).cell? ⟨w.heap.size, 1, none⟩ = some (.int .i64 c0) := by simp
  have a0_2 : (w.alloc (.cells #[.slice A0 n0 cap0, .int .i64 c0, .slice B0 m0 cbp0] 39)).cell? ⟨w.heap.size, 2, none⟩ = some (.slice B0 m0 cbp0) := by simp
  have a0_l := sz_2
  generalize w.alloc (.cells #[.slice A0 n0 cap0, .int .i64 c0, .slice B0 m0 cbp0] 39) = w1 at hb_1 a0_0 a0_1 a0_2 sz_2 a0_l ⊢
  replace in0a := in0a.next hb_1 (by omega)
  replace in0b := in0b.next hb_1 (by omega)
  replace in1 := in1.next hb_1 (by omega)
  replace hB := hB.trans (hb_1.mono hB.size)
  have sz_3 := hb_1.size
  refine (szSequent_k c0 A0 n0 cap0 _ t0 B0 m0 cbp0 _ _ in0a (by omega) (by omega) (by omega) (by first | assumption | (unfold maxLen; omega)) (by first | assumption | exact each_of (by omega)) (by first | assumption | (unfold maxLen; omega))).mono ?_
  rintro e w2 ⟨rfl, hb_4⟩
  rw [szv_no (by omega)]
  replace in0a := in0a.next hb_4 (by omega)
  replace in0b := in0b.next hb_4 (by omega)
  replace in1 := in1.next hb_4 (by omega)
  replace a0_0 := cell_next a0_0 hb_4
  replace a0_1 := cell_next a0_1 hb_4
  replace a0_2 := cell_next a0_2 hb_4
  replace a0_l := Nat.lt_of_lt_of_le a0_l hb_4.size
  replace hB := hB.trans (hb_4.mono hB.size)
  have sz_5 := hb_4.size
  go_wp2_with fail
  go_ret
  exact ⟨rfl, hB⟩

set_option maxRecDepth 100000 in
set_option maxHeartbeats 8000000 in
theorem road (c0 : Int) (A0 : Option Addr) (n0 cap0 : Nat) (t0 : List (Int × List Int)) (B0 : Option Addr) (m0 cbp0 : Nat) (z0 : List Int) (A1 : Option Addr) (n1 cap1 : Nat) (z1 : List Int) (w : World) (in0a : InTS w w.heap.size A0 n0 t0) (in0b : InL w w.heap.size B0 m0 z0) (h0ok : n0 ≤ 1048576) (h0eok : totT t0 ≤ 1048576) (h0gok : m0 ≤ 1048576) (h0sum : n0 + totT t0 + m0 ≤ 1048576) (in1 : InL w w.heap.size A1 n1 z1) (h1ok : n1 ≤ 1048576) (r0 : Bool) 
    (HS0 : ∀ (w0 : World) (a00 : Option Addr) (u00 : Nat) (a01 : Option Addr) (u01 : Nat) (a10 : Option Addr) (u10 : Nat), InTS w0 w0.heap.size a00 n0 t0 → InL w0 w0.heap.size a01 m0 z0 → InL w0 w0.heap.size a10 n1 z1 → Calls Try.prog 36 #[.agg #[.slice a00 n0 u00, .int .i64 c0, .slice a01 m0 u01], .slice a10 n1 u10] w0 fun e w1 => e = .returned (.bool r0) ∧ Below w0.heap.size w0 w1)
    (HI0 : ∀ (w0 : World) (a00 : Option Addr) (u00 : Nat) (a01 : Option Addr) (u01 : Nat) (a10 : Option Addr) (u10 : Nat), InTS w0 w0.heap.size a00 n0 t0 → InL w0 w0.heap.size a01 m0 z0 → InL w0 w0.heap.size a10 n1 z1 → Calls Try.prog 37 #[.agg #[.slice a00 n0 u00, .int .i64 c0, .slice a01 m0 u01], .slice a10 n1 u10] w0 fun e w1 => e = .returned (.bool r0) ∧ Below w0.heap.size w0 w1) :
    Calls Try.prog 8 #[.agg #[.slice A0 n0 cap0, .int .i64 c0, .slice B0 m0 cbp0], .slice A1 n1 cap1] w fun e w' => e = .returned (.bool true) ∧ Below w.heap.size w w' := by
  have HS := Lib.hid HS0
  have HI := Lib.hid HI0
  clear HS0 HI0
  have hB := Below.refl w.heap.size w
  have hl_5 : (0 : Int) ≤ 1048576 - ((n0 + totT t0 + m0 : Nat) : Int) := by omega
  go_enter Try.func8, Try.ntmps8
  go_wp2_with fail
  have hb_1 : Below w.heap.size w (w.alloc (.cells #[.slice A0 n0 cap0, .int .i64 c0, .slice B0 m0 cbp0] 39)) := bnew _ _
  have sz_2 : w.heap.size < (w.alloc (.cells #[.slice A0 n0 cap0, .int .i64 c0, .slice B0 m0 cbp0] 39)).heap.size := by simp
  have a0_0 : (w.alloc (.cells #[.slice A0 n0 cap0, .int .i64 c0, .slice B0 m0 cbp0] 39)).cell? ⟨w.heap.size, 0, none⟩ = some (.slice A0 n0 cap0) := by simp
  have a0_1 : (w.alloc (.cells #[.slice A0 n0 cap0, .int .i64 c0, .slice B0 m0 cbp0] 39)).cell? ⟨w.heap.size, 1, none⟩ = some (.int .i64 c0) := by simp
  have a0_2 : (w.alloc (.cells #[.slice A0 n0 cap0, .int .i64 c0, .slice B0 m0 cbp0] 39)).cell? ⟨w.heap.size, 2, none⟩ = some (.slice B0 m0 cbp0) := by simp
  have a0_l := sz_2
  generalize w.alloc (.cells #[.slice A0 n0 cap0, .int .i64 c0, .slice B0 m0 cbp0] 39) = w1 at hb_1 a0_0 a0_1 a0_2 sz_2 a0_l ⊢
  replace in0a := in0a.next hb_1 (by omega)
  replace in0b := in0b.next hb_1 (by omega)
  replace in1 := in1.next hb_1 (by omega)
  replace hB := hB.trans (hb_1.mono hB.size)
  have sz_3 := hb_1.size
  refine (szSequent_k c0 A0 n0 cap0 _ t0 B0 m0 cbp0 _ _ in0a (by omega) (by omega) (by omega) (by first | assumption | (unfold maxLen; omega)) (by first | assumption | exact each_of (by omega)) (by first | assumption | (unfold maxLen; omega))).mono ?_
  rintro e w2 ⟨rfl, hb_4⟩
  rw [szv_yes (by omega)]
  replace in0a := in0a.next hb_4 (by omega)
  replace in0b := in0b.next hb_4 (by omega)
  replace in1 := in1.next hb_4 (by omega)
  replace a0_0 := cell_next a0_0 hb_4
  replace a0_1 := cell_next a0_1 hb_4
  replace a0_2 := cell_next a0_2 hb_4
  replace a0_l := Nat.lt_of_lt_of_le a0_l hb_4.size
  replace hB := hB.trans (hb_4.mono hB.size)
  have sz_6 := hb_4.size
  go_wp2_with fail
  refine (toSequent_k c0 A0 n0 cap0 _ t0 B0 m0 cbp0 z0 _ in0a in0b (by omega) h0ok h0eok h0gok).mono ?_
  rintro e w3 ⟨g_7, g_8, mid_12, rfl, own_9, own_10, md_13, hb_11⟩
  replace in0a := in0a.next hb_11 (by omega)
  replace in0b := in0b.next hb_11 (by omega)
  replace in1 := in1.next hb_11 (by omega)
  replace a0_0 := cell_next a0_0 hb_11
  replace a0_1 := cell_next a0_1 hb_11
  replace a0_2 := cell_next a0_2 hb_11
  replace a0_l := Nat.lt_of_lt_of_le a0_l hb_11.size
  replace hB := hB.trans (hb_11.mono hB.size)
  have sz_14 := hb_11.size
  go_wp2_with fail
  refine (toInt64S_k A1 n1 cap1 _ z1 _ in1 (by omega) h1ok).mono ?_
  rintro e w4 ⟨g_15, rfl, own_16, hb_17⟩
  replace in0a := in0a.next hb_17 (by omega)
  replace in0b := in0b.next hb_17 (by omega)
  replace in1 := in1.next hb_17 (by omega)
  replace a0_0 := cell_next a0_0 hb_17
  replace a0_1 := cell_next a0_1 hb_17
  replace a0_2 := cell_next a0_2 hb_17
  replace a0_l := Nat.lt_of_lt_of_le a0_l hb_17.size
  replace own_9 := own_9.next hb_17
  replace own_10 := own_10.next hb_17
  replace hB := hB.trans (hb_17.mono hB.size)
  have sz_18 := hb_17.size
  go_wp2_with fail
  refine (HS.out w4 _ _ _ _ _ _ ((own_9.inn).more (by omega)) ((own_10.inn).more (by omega)) ((own_16.inn).more (by omega))).mono ?_
  rintro e w5 ⟨rfl, hb_19⟩
  clear own_9 own_10
  clear own_16
  replace in0a := in0a.next hb_19 (by omega)
  replace in0b := in0b.next hb_19 (by omega)
  replace in1 := in1.next hb_19 (by omega)
  replace a0_0 := cell_next a0_0 hb_19
  replace a0_1 := cell_next a0_1 hb_19
  replace a0_2 := cell_next a0_2 hb_19
  replace a0_l := Nat.lt_of_lt_of_le a0_l hb_19.size
  replace hB := hB.trans (hb_19.mono hB.size)
  have sz_20 := hb_19.size
  go_wp2_with fail
  refine (toSequent_k c0 A0 n0 cap0 _ t0 B0 m0 cbp0 z0 _ in0a in0b (by omega) h0ok h0eok h0gok).mono ?_
  rintro e w6 ⟨g_21, g_22, mid_26, rfl, own_23, own_24, md_27, hb_25⟩
  replace in0a := in0a.next hb_25 (by omega)
  replace in0b := in0b.next hb_25 (by omega)
  replace in1 := in1.next hb_25 (by omega)
  replace a0_0 := cell_next a0_0 hb_25
  replace a0_1 := cell_next a0_1 hb_25
  replace a0_2 := cell_next a0_2 hb_25
  replace a0_l := Nat.lt_of_lt_of_le a0_l hb_25.size
  replace hB := hB.trans (hb_25.mono hB.size)
  have sz_28 := hb_25.size
  go_wp2_with fail
  have hb_29 : Below w6.heap.size w6 (w6.alloc (.cells #[.slice (some ⟨g_21, 0, none⟩) n0 n0, .int .i64 c0, .slice (some ⟨g_22, 0, none⟩) m0 m0] 43)) := bnew _ _
  have sz_30 : w6.heap.size < (w6.alloc (.cells #[.slice (some ⟨g_21, 0, none⟩) n0 n0, .int .i64 c0, .slice (some ⟨g_22, 0, none⟩) m0 m0] 43)).heap.size := by simp
  have x0_0 : (w6.alloc (.cells #[.slice (some ⟨g_21, 0, none⟩) n0 n0, .int .i64 c0, .slice (some ⟨g_22, 0, none⟩) m0 m0] 43)).cell? ⟨w6.heap.size, 0, none⟩ = some (.slice (some ⟨g_21, 0, none⟩) n0 n0) := by simp
  have x0_1 : (w6.alloc (.cells #[.slice (some ⟨g_21, 0, none⟩) n0 n0, .int .i64 c0, .slice (some ⟨g_22, 0, none⟩) m0 m0] 43)).cell? ⟨w6.heap.size, 1, none⟩ = some (.int .i64 c0) := by simp
  have x0_2 : (w6.alloc (.cells #[.slice (some ⟨g_21, 0, none⟩) n0 n0, .int .i64 c0, .slice (some ⟨g_22, 0, none⟩) m0 m0] 43)).cell? ⟨w6.heap.size, 2, none⟩ = some (.slice (some ⟨g_22, 0, none⟩) m0 m0) := by simp
  have x0_l := sz_30
  generalize w6.alloc (.cells #[.slice (some ⟨g_21, 0, none⟩) n0 n0, .int .i64 c0, .slice (some ⟨g_22, 0, none⟩) m0 m0] 43) = w7 at hb_29 x0_0 x0_1 x0_2 sz_30 x0_l ⊢
  replace in0a := in0a.next hb_29 (by omega)
  replace in0b := in0b.next hb_29 (by omega)
  replace in1 := in1.next hb_29 (by omega)
  replace a0_0 := cell_next a0_0 hb_29
  replace a0_1 := cell_next a0_1 hb_29
  replace a0_2 := cell_next a0_2 hb_29
  replace a0_l := Nat.lt_of_lt_of_le a0_l hb_29.size
  replace own_23 := own_23.next hb_29
  replace own_24 := own_24.next hb_29
  replace hB := hB.trans (hb_29.mono hB.size)
  have sz_31 := hb_29.size
  refine (toInt64S_k A1 n1 cap1 _ z1 _ in1 (by omega) h1ok).mono ?_
  rintro e w8 ⟨g_32, rfl, own_33, hb_34⟩
  replace in0a := in0a.next hb_34 (by omega)
  replace in0b := in0b.next hb_34 (by omega)
  replace in1 := in1.next hb_34 (by omega)
  replace a0_0 := cell_next a0_0 hb_34
  replace a0_1 := cell_next a0_1 hb_34
  replace a0_2 := cell_next a0_2 hb_34
  replace a0_l := Nat.lt_of_lt_of_le a0_l hb_34.size
  replace own_23 := own_23.next hb_34
  replace own_24 := own_24.next hb_34
  replace x0_0 := cell_next x0_0 hb_34
  replace x0_1 := cell_next x0_1 hb_34
  replace x0_2 := cell_next x0_2 hb_34
  replace x0_l := Nat.lt_of_lt_of_le x0_l hb_34.size
  replace hB := hB.trans (hb_34.mono hB.size)
  have sz_35 := hb_34.size
  go_wp2_with fail
  refine (HI.out w8 _ _ _ _ _ _ ((own_23.inn).more (by omega)) ((own_24.inn).more (by omega)) ((own_33.inn).more (by omega))).mono ?_
  rintro e w9 ⟨rfl, hb_36⟩
  replace in0a := in0a.next hb_36 (by omega)
  replace in0b := in0b.next hb_36 (by omega)
  replace in1 := in1.next hb_36 (by omega)
  replace a0_0 := cell_next a0_0 hb_36
  replace a0_1 := cell_next a0_1 hb_36
  replace a0_2 := cell_next a0_2 hb_36
  replace a0_l := Nat.lt_of_lt_of_le a0_l hb_36.size
  replace own_23 := own_23.next hb_36
  replace own_24 := own_24.next hb_36
  replace x0_0 := cell_next x0_0 hb_36
  replace x0_1 := cell_next x0_1 hb_36
  replace x0_2 := cell_next x0_2 hb_36
  replace x0_l := Nat.lt_of_lt_of_le x0_l hb_36.size
  replace own_33 := own_33.next hb_36
  replace hB := hB.trans (hb_36.mono hB.size)
  have sz_37 := hb_36.size
  go_wp2_with fail
  -- if g0 != w0 {
  have HT_38 := Lib.hid (toSequent_k c0 A0 n0 cap0 _ t0 B0 m0 cbp0 z0 w9.drew in0a.drew in0b.drew (by show _ ≤ w9.heap.size; omega) h0ok h0eok h0gok)
  have HE_39 : Hid (∀ w10 g_40 g_41 mid_45, Below w9.drew.heap.size w9.drew w10 → OwnTS w10 w9.drew.heap.size mid_45 (some ⟨g_40, 0, none⟩) n0 n0 t0 → OwnL w10 mid_45 w10.heap.size (some ⟨g_41, 0, none⟩) m0 m0 z0 → w9.drew.heap.size ≤ mid_45 ∧ mid_45 ≤ w10.heap.size → Calls Try.prog 29 #[.agg #[.slice (some ⟨g_21, 0, none⟩) n0 n0, .int .i64 c0, .slice (some ⟨g_22, 0, none⟩) m0 m0], .agg #[.slice (some ⟨g_40, 0, none⟩) n0 n0, .int .i64 c0, .slice (some ⟨g_41, 0, none⟩) m0 m0]] w10 fun e w' => e = .returned (.bool true) ∧ Below w10.heap.size w10 w') := fun w10 g_40 g_41 mid_45 hb_44 own_42 own_43 md_46 => eqSequent_k c0 (some ⟨g_21, 0, none⟩) (some ⟨g_40, 0, none⟩) n0 n0 n0 t0 (some ⟨g_22, 0, none⟩) (some ⟨g_41, 0, none⟩) m0 m0 m0 z0 (w10.heap.size) (w10.heap.size) w10 (((own_23.inn).call (by omega) hb_44).more (le_call (by omega) hb_44)) (((own_24.inn).call (by omega) hb_44).more (le_call (by omega) hb_44)) ((own_42.inn).more (by omega)) ((own_43.inn).more (by omega)) (Nat.le_refl _) (Nat.le_refl _) h0ok h0eok h0gok
  go_region_held3 (fun w' => w'.cell? ⟨w.heap.size, 0, none⟩ = some (.slice A0 n0 cap0) ∧ w'.cell? ⟨w.heap.size, 1, none⟩ = some (.int .i64 c0) ∧ w'.cell? ⟨w.heap.size, 2, none⟩ = some (.slice B0 m0 cbp0) ∧ w'.cell? ⟨w6.heap.size, 0, none⟩ = some (.slice (some ⟨g_21, 0, none⟩) n0 n0) ∧ w'.cell? ⟨w6.heap.size, 1, none⟩ = some (.int .i64 c0) ∧ w'.cell? ⟨w6.heap.size, 2, none⟩ = some (.slice (some ⟨g_22, 0, none⟩) m0 m0))
    (first | go_keep | exact ⟨cell_on a0_0 hb_44, cell_on a0_1 hb_44, cell_on a0_2 hb_44, cell_on x0_0 hb_44, cell_on x0_1 hb_44, cell_on x0_2 hb_44⟩ | exact ⟨cell_on2 a0_0 hb_44 hb_48, cell_on2 a0_1 hb_44 hb_48, cell_on2 a0_2 hb_44 hb_48, cell_on2 x0_0 hb_44 hb_48, cell_on2 x0_1 hb_44 hb_48, cell_on2 x0_2 hb_44 hb_48⟩)
    (first | (go_at_call 27; refine HT_38.out.mono ?_; rintro e w10 ⟨g_40, g_41, mid_45, rfl, own_42, own_43, md_46, hb_44⟩) | (go_at_call 29; refine (HE_39.out _ _ _ _ hb_44 own_42 own_43 md_46).mono ?_; rintro e w11 ⟨rfl, hb_48⟩))
  replace hb_44 := (bstep hb_44)
  replace in0a := in0a.next hb_44 (by omega)
  replace in0b := in0b.next hb_44 (by omega)
  replace in1 := in1.next hb_44 (by omega)
  replace a0_0 := cell_next a0_0 hb_44
  replace a0_1 := cell_next a0_1 hb_44
  replace a0_2 := cell_next a0_2 hb_44
  replace a0_l := Nat.lt_of_lt_of_le a0_l hb_44.size
  replace own_23 := own_23.next hb_44
  replace own_24 := own_24.next hb_44
  replace x0_0 := cell_next x0_0 hb_44
  replace x0_1 := cell_next x0_1 hb_44
  replace x0_2 := cell_next x0_2 hb_44
  replace x0_l := Nat.lt_of_lt_of_le x0_l hb_44.size
  replace own_33 := own_33.next hb_44
  replace hB := hB.trans (hb_44.mono hB.size)
  have sz_49 := hb_44.size
  replace in0a := in0a.next hb_48 (by omega)
  replace in0b := in0b.next hb_48 (by omega)
  replace in1 := in1.next hb_48 (by omega)
  replace a0_0 := cell_next a0_0 hb_48
  replace a0_1 := cell_next a0_1 hb_48
  replace a0_2 := cell_next a0_2 hb_48
  replace a0_l := Nat.lt_of_lt_of_le a0_l hb_48.size
  replace own_23 := own_23.next hb_48
  replace own_24 := own_24.next hb_48
  replace x0_0 := cell_next x0_0 hb_48
  replace x0_1 := cell_next x0_1 hb_48
  replace x0_2 := cell_next x0_2 hb_48
  replace x0_l := Nat.lt_of_lt_of_le x0_l hb_48.size
  replace own_33 := own_33.next hb_48
  replace hB := hB.trans (hb_48.mono hB.size)
  have sz_50 := hb_48.size
  clear HT_38 HE_39 own_42 own_43
  go_wp2_with fail
  refine (toInt64S_k A1 n1 cap1 _ z1 _ in1 (by omega) h1ok).mono ?_
  rintro e w12 ⟨g_51, rfl, own_52, hb_53⟩
  replace in0a := in0a.next hb_53 (by omega)
  replace in0b := in0b.next hb_53 (by omega)
  replace in1 := in1.next hb_53 (by omega)
  replace a0_0 := cell_next a0_0 hb_53
  replace a0_1 := cell_next a0_1 hb_53
  replace a0_2 := cell_next a0_2 hb_53
  replace a0_l := Nat.lt_of_lt_of_le a0_l hb_53.size
  replace own_23 := own_23.next hb_53
  replace own_24 := own_24.next hb_53
  replace x0_0 := cell_next x0_0 hb_53
  replace x0_1 := cell_next x0_1 hb_53
  replace x0_2 := cell_next x0_2 hb_53
  replace x0_l := Nat.lt_of_lt_of_le x0_l hb_53.size
  replace own_33 := own_33.next hb_53
  replace hB := hB.trans (hb_53.mono hB.size)
  have sz_54 := hb_53.size
  go_wp2_with fail
  refine (eqInt64S_k (some ⟨g_32, 0, none⟩) (some ⟨g_51, 0, none⟩) n1 n1 n1 _ _ z1 _ own_33.inn own_52.inn (by omega) (by omega) h1ok).mono ?_
  rintro e w13 ⟨rfl, hb_55⟩
  clear own_52
  replace in0a := in0a.next hb_55 (by omega)
  replace in0b := in0b.next hb_55 (by omega)
  replace in1 := in1.next hb_55 (by omega)
  replace a0_0 := cell_next a0_0 hb_55
  replace a0_1 := cell_next a0_1 hb_55
  replace a0_2 := cell_next a0_2 hb_55
  replace a0_l := Nat.lt_of_lt_of_le a0_l hb_55.size
  replace own_23 := own_23.next hb_55
  replace own_24 := own_24.next hb_55
  replace x0_0 := cell_next x0_0 hb_55
  replace x0_1 := cell_next x0_1 hb_55
  replace x0_2 := cell_next x0_2 hb_55
  replace x0_l := Nat.lt_of_lt_of_le x0_l hb_55.size
  replace own_33 := own_33.next hb_55
  replace hB := hB.trans (hb_55.mono hB.size)
  have sz_56 := hb_55.size
  go_wp2_with fail
  go_ret
  exact ⟨rfl, hB⟩

set_option maxRecDepth 100000 in
set_option maxHeartbeats 4000000 in
theorem walk (A0 : Option Addr) (n0 cap0 : Nat) (t0 : List (Int × List Int)) (c0 : Int) (B0 : Option Addr) (m0 cbp0 : Nat) (z0 : List Int) (A1 : Option Addr) (n1 cap1 : Nat) (z1 : List Int) (w : World) (h0row : TRow w w.heap.size A0 t0) (h0len : t0.length = n0) (h0max : n0 ≤ maxLen) (h0each : ∀ t ∈ t0, t.2.length ≤ maxLen) (h0glen : z0.length = m0) (h0gmax : m0 ≤ maxLen) (h0grow : Row w w.heap.size B0 (z0.map ic)) (h1row : Row w w.heap.size A1 (z1.map ic)) (h1len : z1.length = n1) (h1max : n1 ≤ maxLen) (h1wf : ∀ z ∈ z1, (Lit.int .i64 z).wf = true) :
    Calls Try.prog 8 #[.agg #[.slice A0 n0 cap0, .int .i64 c0, .slice B0 m0 cbp0], .slice A1 n1 cap1] w fun e w' => e = .returned (.bool true) ∧ Below w.heap.size w w' := by
  by_cases h1 : n1 ≤ 1048576
  · by_cases hn : n0 + totT t0 + m0 ≤ 1048576
    · exact road c0 A0 n0 cap0 t0 B0 m0 cbp0 z0 A1 n1 cap1 z1 w ⟨h0len, h0row⟩ ⟨h0glen, h0grow⟩ (by omega) (by omega) (by omega) (by omega) ⟨h1len, h1row⟩ h1 (cntB t0 (c0, z0) z1)
        (fun w0 a00 u00 a01 u01 a10 u10 h h' h'' => specCounter_c c0 a00 n0 u00 t0 a01 m0 u01 z0 a10 n1 u10 z1 w0 h h' h'' (by omega) (by omega) (by omega) h1)
        (fun w0 a00 u00 a01 u01 a10 u10 h h' h'' => implCounter_c c0 a00 n0 u00 t0 a01 m0 u01 z0 a10 n1 u10 z1 w0 h h' h'' (by omega) (by omega) (by omega) h1)
    · exact early1 c0 A0 n0 cap0 t0 B0 m0 cbp0 z0 A1 n1 cap1 z1 w ⟨h0len, h0row⟩ ⟨h0glen, h0grow⟩ ⟨h1len, h1row⟩ h1 (by omega) h1max h0max h0each h0gmax
  · exact early0 c0 A0 n0 cap0 t0 B0 m0 cbp0 z0 A1 n1 cap1 z1 w ⟨h0len, h0row⟩ ⟨h0glen, h0grow⟩ ⟨h1len, h1row⟩ (by omega) h1max h0max h0each h0gmax

set_option maxRecDepth 100000 in
set_option maxHeartbeats 4000000 in
theorem lifted (os : Os) (started : os.Started) (H : Type) (enc : TypeId × Value → H) :
    ReturnsInHanded {} Try.checked os 8 .any (Rows.fnExactIsCounterSpec.pre6 enc Try.prog Try.f8 Rows.fnExactIsCounterRow.domain false) (Rows.fnExactIsCounterSpec.post enc Try.prog Try.f8 false true false false) := by
  refine returnsInHanded_of_change (C := Try.checked) own started (by kernel_rfl) Try.func8
    (ChangeSpec.witness6 (enc := enc) (C := Try.checked) false ⟨#[], #[.agg #[.slice none 0 0, .int .i64 0, .slice none 0 0], .slice none 0 0], []⟩ 8 (by kernel_rfl) (by kernel_rfl) (by kernel_rfl) (by kernel_rfl)) ?_
  intro W base args ds gs before hval0 hW hcnd _
  have hval : ∀ (j : Nat) t v, Try.f8.params[j]? = some t → args[j]? = some v → Value.okWide Try.prog W .any base t v := hval0
  have hW' := hW
  obtain ⟨p, q, hA0, hV, rfl, hfz, hnd⟩ := hW
  have hA : DataW.TrodAll enc Try.prog W 0 (fun _ => true) true Try.f8.params.toList args.toList ds p := hA0
  rw [Try.params8] at hA hval
  obtain ⟨v0, vs0, d0, ds0, p0, q0, hargs, rfl, rfl, g0, r0⟩ := trodAll_cons hA
  obtain ⟨v1, vs1, d1, ds1, p1, q1, rfl, rfl, rfl, g1, r1⟩ := trodAll_cons r0
  obtain ⟨rfl, rfl, rfl⟩ := trodAll_nil r1
  obtain rfl : args = #[v0, v1] := by cases args; simp_all
  obtain ⟨rfl, rfl⟩ := trodVars_none hV
  have k0 := g0
  have lt0 : ∀ x ∈ p0, x.block < W.heap.size := by obtain ⟨m, hm⟩ := k0; exact DataW.trod_lt m _ _ _ hm
  have k1 := g1
  have lt1 : ∀ x ∈ p1, x.block < W.heap.size := by obtain ⟨m, hm⟩ := k1; exact DataW.trod_lt m _ _ _ hm
  obtain ⟨A0, n0, cap0, t0, c0, B0, m0, cbp0, z0, rfl, h0len, h0max, h0row, h0each, h0glen, h0gmax, h0grow⟩ := sequent_in (hval 0 39 v0 rfl rfl) g0
  obtain ⟨a1, b1, e1, rfl⟩ := okWide_slice Try.underlying22 (hval 1 22 v1 rfl rfl)
  obtain ⟨A1, n1, cap1, z1, q1, h1len, h1max, h1row, h1wf⟩ := (fun (h : ∃ fuel, DataW.trod enc Try.prog W 0 (fun _ => true) true fuel 22 [.slice a1 b1 e1] = some _) => ints_in Try.underlying22 Try.underlying2 (by kernel_rfl) h.choose_spec) (by obtain ⟨m, hm⟩ := g1; exact ⟨m, by simpa [Value.cells] using hm⟩)
  obtain ⟨rfl, rfl, rfl⟩ : a1 = A1 ∧ b1 = n1 ∧ e1 = cap1 := by simpa using q1
  clear hA0 hval0
  simp only [List.append_nil] at hW'
  refine (walk A0 n0 cap0 t0 c0 B0 m0 cbp0 z0 _ _ _ z1 W h0row h0len h0max h0each h0glen h0gmax h0grow h1row h1len h1max h1wf).mono fun e W' ⟨he, bel⟩ => ?_
  subst he
  exact ⟨_, rfl, _, _, _, [], _, [], hW', trodAll_mk1 (shut_bool Try.underlying4 _), (trodAll_cons_mk (Below.trod laidOut (by kernel_rfl) (of_decide_eq_true (by kernel_rfl)) k0 bel lt0) (trodAll_cons_mk (Below.trod laidOut (by kernel_rfl) (of_decide_eq_true (by kernel_rfl)) k1 bel lt1) trodAll_mk0)), rfl, bel.frame _, fun h => by cases h⟩

theorem over : Rows.fnExactIsCounterRow.holds Try.pinned (OpenSpec.ofChange Rows.fnExactIsCounterSpec) :=
  OpenClaim.holds_of_wide 8 Try.f8 rfl rfl rfl rfl rfl rfl rfl ⟨rfl, rfl, rfl, rfl, rfl⟩ rfl rfl rfl rfl rfl (by kernel_rfl) Try.func8 (by kernel_rfl)
    (of_decide_eq_true (by kernel_rfl)) (by unfold Func.isWrapper; first | (rw [if_pos (by decide +kernel)]; kernel_rfl) | (rw [if_neg (by decide +kernel)]; exact ⟨rfl, rfl⟩))
    (fun os started H enc _ => lifted os started H enc)

/-- The statement. -/
theorem proved : Rows.FnExactIsCounterSaid := over
#print axioms proved
end Go.Proofs.Ytccjnnkohmmooaa.fnExactIsCounter
