/-
  For every list of instructions and config the program's StepCode answers as the model's, leaves both as they were, and its answer owns its memory.
  Conditions: none but those that the statement itself bears.
-/
import Derived.Test.YtnfapodeifpeoaaRows
import Derived.WalkKit
import Derived.ProofKit
import Derived.OpenShut
import Derived.ShutString
import Derived.ChangeOld
import Derived.Below
import Derived.WalkSmall
import Derived.Test.YtnfapodeifpeoaaTms
import Derived.Test.YtnfapodeifpeoaaStepI
import Derived.Test.YtnfapodeifpeoaaMarkC
import Derived.Test.YtnfapodeifpeoaaBoxC
namespace Go.Proofs.Ytnfapodeifpeoaa.fnExactStepCode
open Go.ChangeShapes Go.WideShapes Go.ChangeAt Go.RowKit
open Go.ChangeMaps (open_string shut_string)
set_option linter.unusedVariables false

theorem own : ownKnob Try.prog.godebug = none := by kernel_rfl
theorem laidOut : laidOutB Try.prog = true := by kernel_rfl
set_option maxRecDepth 100000 in
set_option maxHeartbeats 8000000 in
theorem early0 (A0 : Option Addr) (n0 cap0 : Nat) (t0 : List (Int × Int)) (pl1 : Int) (A1 : Option Addr) (n1 cap1 : Nat) (z1 : List Int) (B1 : Option Addr) (m1 cbp1 : Nat) (y1 : List Int) (D1 : Option Addr) (o1 dap1 : Nat) (x1 : List Int) (w : World) (in0 : InC w w.heap.size A0 n0 t0) (in1a : InL w w.heap.size A1 n1 z1) (in1b : InL w w.heap.size B1 m1 y1) (in1c : InL w w.heap.size D1 o1 x1) (q0 : 1048576 < (n0)) (vn0 : n0 ≤ maxLen) (vn1 : n1 ≤ maxLen) (vm1 : m1 ≤ maxLen) (vo1 : o1 ≤ maxLen) :
    Calls Try.prog 6 #[.slice A0 n0 cap0, .agg #[.slice A1 n1 cap1, .slice B1 m1 cbp1, .slice D1 o1 dap1, .int .i64 pl1]] w fun e w' => e = .returned (.bool true) ∧ Below w.heap.size w w' := by
  have hB := Below.refl w.heap.size w
  go_enter Try.func6, Try.ntmps6
  go_wp2_with fail
  have hb_1 : Below w.heap.size w (w.alloc (.cells #[.slice A1 n1 cap1, .slice B1 m1 cbp1, .slice D1 o1 dap1, .int .i64 pl1] 39)) := bnew _ _
  have sz_2 : w.heap.size < (w.alloc (.cells #[.slice A1 n1 cap1, .slice B1 m1 cbp1, .slice D1 o1 dap1, .int .i64 pl1] 39)).heap.size := by simp
  have a1_0 : (w.alloc (.cells #[.slice A1 n1 cap1, .slice B1 m1 cbp1, .slice D1 o1 dap1, .int .i64 pl1] 39)).cell? ⟨w.heap.size, 0, none⟩ = some (.slice A1 n1 cap1) := by simp
  have a1_1 : (w.alloc (.cells #[.slice A1 n1 cap1, .slice B1 m1 cbp1, .slice D1 o1 dap1, .int .i64 pl1] 39)).cell? ⟨w.heap.size, 1, none⟩ = some (.slice B1 m1 cbp1) := by simp
  have a1_2 : (w.alloc (.cells #[.slice A1 n1 cap1, .slice B1 m1 cbp1, .slice D1 o1 dap1, .int .i64 pl1] 39)).cell? ⟨w.heap.size, 2, none⟩ = some (.slice D1 o1 dap1) := by simp
  have a1_3 : (w.alloc (.cells #[.slice A1 n1 cap1, .slice B1 m1 cbp1, .slice D1 o1 dap1, .int .i64 pl1] 39)).cell? ⟨w.heap.size, 3, none⟩ = some (.int .i64 pl1) := by simp
  have a1_l := sz_2
  generalize w.alloc (.cells #[.slice A1 n1 cap1, .slice B1 m1 cbp1, .slice D1 o1 dap1, .int .i64 pl1] 39) = w1 at hb_1 a1_0 a1_1 a1_2 a1_3 sz_2 a1_l ⊢
  replace in0 := in0.next hb_1 (by omega)
  replace in1a := in1a.next hb_1 (by omega)
  replace in1b := in1b.next hb_1 (by omega)
  replace in1c := in1c.next hb_1 (by omega)
  replace hB := hB.trans (hb_1.mono hB.size)
  have sz_3 := hb_1.size
  refine (szInstrS_k A0 n0 cap0 _ _ (by omega) (by omega) (by first | assumption | (unfold maxLen; omega))).mono ?_
  rintro e w2 ⟨rfl, hb_4⟩
  rw [szv_no (by omega)]
  replace in0 := in0.next hb_4 (by omega)
  replace in1a := in1a.next hb_4 (by omega)
  replace in1b := in1b.next hb_4 (by omega)
  replace in1c := in1c.next hb_4 (by omega)
  replace a1_0 := cell_next a1_0 hb_4
  replace a1_1 := cell_next a1_1 hb_4
  replace a1_2 := cell_next a1_2 hb_4
  replace a1_3 := cell_next a1_3 hb_4
  replace a1_l := Nat.lt_of_lt_of_le a1_l hb_4.size
  replace hB := hB.trans (hb_4.mono hB.size)
  have sz_5 := hb_4.size
  go_wp2_with fail
  go_ret
  exact ⟨rfl, hB⟩

set_option maxRecDepth 100000 in
set_option maxHeartbeats 8000000 in
theorem early1 (A0 : Option Addr) (n0 cap0 : Nat) (t0 : List (Int × Int)) (pl1 : Int) (A1 : Option Addr) (n1 cap1 : Nat) (z1 : List Int) (B1 : Option Addr) (m1 cbp1 : Nat) (y1 : List Int) (D1 : Option Addr) (o1 dap1 : Nat) (x1 : List Int) (w : World) (in0 : InC w w.heap.size A0 n0 t0) (in1a : InL w w.heap.size A1 n1 z1) (in1b : InL w w.heap.size B1 m1 y1) (in1c : InL w w.heap.size D1 o1 x1) (q0 : (n0) ≤ 1048576) (q1 : 1048576 < (n0) + (n1 + m1 + o1)) (vn0 : n0 ≤ maxLen) (vn1 : n1 ≤ maxLen) (vm1 : m1 ≤ maxLen) (vo1 : o1 ≤ maxLen) :
    Calls Try.prog 6 #[.slice A0 n0 cap0, .agg #[.slice A1 n1 cap1, .slice B1 m1 cbp1, .slice D1 o1 dap1, .int .i64 pl1]] w fun e w' => e = .returned (.bool true) ∧ Below w.heap.size w w' := by
  have hB := Below.refl w.heap.size w
  have hl_5 : (0 : Int) ≤ 1048576 - (n0 : Int) := by omega
  go_enter Try.func6, Try.ntmps6
  go_wp2_with fail
  have hb_1 : Below w.heap.size w (w.alloc (.cells #[.slice A1 n1 cap1, .slice B1 m1 cbp1, .slice D1 o1 dap1, .int .i64 pl1] 39)) := bnew _ _
  have sz_2 : w.heap.size < (w.alloc (.cells #[.slice A1 n1 cap1, .slice B1 m1 cbp1, .slice D1 o1 dap1, .int .i64 pl1] 39)).heap.size := by simp
  have a1_0 : (w.alloc (.cells #[.slice A1 n1 cap1, .slice B1 m1 cbp1, .slice D1 o1 dap1, .int .i64 pl1] 39)).cell? ⟨w.heap.size, 0, none⟩ = some (.slice A1 n1 cap1) := by simp
  have a1_1 : (w.alloc (.cells #[.slice A1 n1 cap1, .slice B1 m1 cbp1, .slice D1 o1 dap1, .int .i64 pl1] 39)).cell? ⟨w.heap.size, 1, none⟩ = some (.slice B1 m1 cbp1) := by simp
  have a1_2 : (w.alloc (.cells #[.slice A1 n1 cap1, .slice B1 m1 cbp1, .slice D1 o1 dap1, .int .i64 pl1] 39)).cell? ⟨w.heap.size, 2, none⟩ = some (.slice D1 o1 dap1) := by simp
  have a1_3 : (w.alloc (.cells #[.slice A1 n1 cap1, .slice B1 m1 cbp1, .slice D1 o1 dap1, .int .i64 pl1] 39)).cell? ⟨w.heap.size, 3, none⟩ = some (.int .i64 pl1) := by simp
  have a1_l := sz_2
  generalize w.alloc (.cells #[.slice A1 n1 cap1, .slice B1 m1 cbp1, .slice D1 o1 dap1, .int .i64 pl1] 39) = w1 at hb_1 a1_0 a1_1 a1_2 a1_3 sz_2 a1_l ⊢
  replace in0 := in0.next hb_1 (by omega)
  replace in1a := in1a.next hb_1 (by omega)
  replace in1b := in1b.next hb_1 (by omega)
  replace in1c := in1c.next hb_1 (by omega)
  replace hB := hB.trans (hb_1.mono hB.size)
  have sz_3 := hb_1.size
  refine (szInstrS_k A0 n0 cap0 _ _ (by omega) (by omega) (by first | assumption | (unfold maxLen; omega))).mono ?_
  rintro e w2 ⟨rfl, hb_4⟩
  rw [szv_yes (by omega)]
  replace in0 := in0.next hb_4 (by omega)
  replace in1a := in1a.next hb_4 (by omega)
  replace in1b := in1b.next hb_4 (by omega)
  replace in1c := in1c.next hb_4 (by omega)
  replace a1_0 := cell_next a1_0 hb_4
  replace a1_1 := cell_next a1_1 hb_4
  replace a1_2 := cell_next a1_2 hb_4
  replace a1_3 := cell_next a1_3 hb_4
  replace a1_l := Nat.lt_of_lt_of_le a1_l hb_4.size
  replace hB := hB.trans (hb_4.mono hB.size)
  have sz_6 := hb_4.size
  go_wp2_with fail
  refine (szConfig_k A1 n1 cap1 B1 m1 cbp1 D1 o1 dap1 pl1 _ _ (by omega) (by omega) (by first | assumption | (unfold maxLen; omega)) (by first | assumption | (unfold maxLen; omega)) (by first | assumption | (unfold maxLen; omega))).mono ?_
  rintro e w3 ⟨rfl, hb_7⟩
  rw [szv_no (by omega)]
  replace in0 := in0.next hb_7 (by omega)
  replace in1a := in1a.next hb_7 (by omega)
  replace in1b := in1b.next hb_7 (by omega)
  replace in1c := in1c.next hb_7 (by omega)
  replace a1_0 := cell_next a1_0 hb_7
  replace a1_1 := cell_next a1_1 hb_7
  replace a1_2 := cell_next a1_2 hb_7
  replace a1_3 := cell_next a1_3 hb_7
  replace a1_l := Nat.lt_of_lt_of_le a1_l hb_7.size
  replace hB := hB.trans (hb_7.mono hB.size)
  have sz_8 := hb_7.size
  go_wp2_with fail
  go_ret
  exact ⟨rfl, hB⟩

set_option maxRecDepth 100000 in
set_option maxHeartbeats 8000000 in
theorem road (A0 : Option Addr) (n0 cap0 : Nat) (t0 : List (Int × Int)) (pl1 : Int) (A1 : Option Addr) (n1 cap1 : Nat) (z1 : List Int) (B1 : Option Addr) (m1 cbp1 : Nat) (y1 : List Int) (D1 : Option Addr) (o1 dap1 : Nat) (x1 : List Int) (w : World) (in0 : InC w w.heap.size A0 n0 t0) (h0ok : n0 ≤ 1048576) (in1a : InL w w.heap.size A1 n1 z1) (in1b : InL w w.heap.size B1 m1 y1) (in1c : InL w w.heap.size D1 o1 x1) (h1ok : n1 ≤ 1048576) (h1gok : m1 ≤ 1048576) (h1sok : o1 ≤ 1048576) (h1sum : n1 + m1 + o1 ≤ 1048576) (hsum : (n0) + (n1 + m1 + o1) ≤ 1048576) (r0 : Int) (y00 : List Int) (l00 : Nat) (y01 : List Int) (l01 : Nat) (y02 : List Int) (l02 : Nat) (r1 : Int) (r2 : Bool) (k00 : l00 ≤ 1000) (k01 : l01 ≤ 1000) (k02 : l02 ≤ 1000)
    (HS0 : ∀ (w0 : World) (a00 : Option Addr) (u00 : Nat) (a10 : Option Addr) (u10 : Nat) (a11 : Option Addr) (u11 : Nat) (a12 : Option Addr) (u12 : Nat), InC w0 w0.heap.size a00 n0 t0 → InL w0 w0.heap.size a10 n1 z1 → n1 ≤ u10 → InL w0 w0.heap.size a11 m1 y1 → m1 ≤ u11 → InL w0 w0.heap.size a12 o1 x1 → o1 ≤ u12 → Calls Try.prog 26 #[.slice a00 n0 u00, .agg #[.slice a10 n1 u10, .slice a11 m1 u11, .slice a12 o1 u12, .int .i64 pl1]] w0 fun e w1 => ∃ (R00 : Option Addr) (d00 : Nat) (R01 : Option Addr) (d01 : Nat) (R02 : Option Addr) (d02 : Nat), e = .returned (.tuple #[.agg #[.slice R00 l00 d00, .slice R01 l01 d01, .slice R02 l02 d02, .int .i64 r0], .int .i64 r1, .bool r2]) ∧ OwnL w1 w0.heap.size w1.heap.size R00 l00 d00 y00 ∧ OwnL w1 w0.heap.size w1.heap.size R01 l01 d01 y01 ∧ OwnL w1 w0.heap.size w1.heap.size R02 l02 d02 y02 ∧ Below w0.heap.size w0 w1)
    (HI0 : ∀ (w0 : World) (a00 : Option Addr) (u00 : Nat) (a10 : Option Addr) (u10 : Nat) (a11 : Option Addr) (u11 : Nat) (a12 : Option Addr) (u12 : Nat), InC w0 w0.heap.size a00 n0 t0 → InL w0 w0.heap.size a10 n1 z1 → n1 ≤ u10 → InL w0 w0.heap.size a11 m1 y1 → m1 ≤ u11 → InL w0 w0.heap.size a12 o1 x1 → o1 ≤ u12 → Calls Try.prog 27 #[.slice a00 n0 u00, .agg #[.slice a10 n1 u10, .slice a11 m1 u11, .slice a12 o1 u12, .int .i64 pl1]] w0 fun e w1 => ∃ (R00 : Option Addr) (d00 : Nat) (R01 : Option Addr) (d01 : Nat) (R02 : Option Addr) (d02 : Nat) (md0 md1 : Nat), e = .returned (.tuple #[.agg #[.slice R00 l00 d00, .slice R01 l01 d01, .slice R02 l02 d02, .int .i64 r0], .int .i64 r1, .bool r2]) ∧ OwnL w1 w0.heap.size md0 R00 l00 d00 y00 ∧ OwnL w1 md0 md1 R01 l01 d01 y01 ∧ OwnL w1 md1 w1.heap.size R02 l02 d02 y02 ∧ (w0.heap.size ≤ md0 ∧ md0 ≤ md1 ∧ md1 ≤ w1.heap.size) ∧ Below w0.heap.size w0 w1) :
    Calls Try.prog 6 #[.slice A0 n0 cap0, .agg #[.slice A1 n1 cap1, .slice B1 m1 cbp1, .slice D1 o1 dap1, .int .i64 pl1]] w fun e w' => e = .returned (.bool true) ∧ Below w.heap.size w w' := by
  have HS := Lib.hid HS0
  have HI := Lib.hid HI0
  clear HS0 HI0
  have hB := Below.refl w.heap.size w
  have hl_5 : (0 : Int) ≤ 1048576 - (n0 : Int) := by omega
  have hl_8 : (0 : Int) ≤ 1048576 - (n0 : Int) - ((n1 + m1 + o1 : Nat) : Int) := by omega
  go_enter Try.func6, Try.ntmps6
  go_wp2_with fail
  have hb_1 : Below w.heap.size w (w.alloc (.cells #[.slice A1 n1 cap1, .slice B1 m1 cbp1, .slice D1 o1 dap1, .int .i64 pl1] 39)) := bnew _ _
  have sz_2 : w.heap.size < (w.alloc (.cells #[.slice A1 n1 cap1, .slice B1 m1 cbp1, .slice D1 o1 dap1, .int .i64 pl1] 39)).heap.size := by simp
  have a1_0 : (w.alloc (.cells #[.slice A1 n1 cap1, .slice B1 m1 cbp1, .slice D1 o1 dap1, .int .i64 pl1] 39)).cell? ⟨w.heap.size, 0, none⟩ = some (.slice A1 n1 cap1) := by simp
  have a1_1 : (w.alloc (.cells #[.slice A1 n1 cap1, .slice B1 m1 cbp1, .slice D1 o1 dap1, .int .i64 pl1] 39)).cell? ⟨w.heap.size, 1, none⟩ = some (.slice B1 m1 cbp1) := by simp
  have a1_2 : (w.alloc (.cells #[.slice A1 n1 cap1, .slice B1 m1 cbp1, .slice D1 o1 dap1, .int .i64 pl1] 39)).cell? ⟨w.heap.size, 2, none⟩ = some (.slice D1 o1 dap1) := by simp
  have a1_3 : (w.alloc (.cells #[.slice A1 n1 cap1, .slice B1 m1 cbp1, .slice D1 o1 dap1, .int .i64 pl1] 39)).cell? ⟨w.heap.size, 3, none⟩ = some (.int .i64 pl1) := by simp
  have a1_l := sz_2
  generalize w.alloc (.cells #[.slice A1 n1 cap1, .slice B1 m1 cbp1, .slice D1 o1 dap1, .int .i64 pl1] 39) = w1 at hb_1 a1_0 a1_1 a1_2 a1_3 sz_2 a1_l ⊢
  replace in0 := in0.next hb_1 (by omega)
  replace in1a := in1a.next hb_1 (by omega)
  replace in1b := in1b.next hb_1 (by omega)
  replace in1c := in1c.next hb_1 (by omega)
  replace hB := hB.trans (hb_1.mono hB.size)
  have sz_3 := hb_1.size
  refine (szInstrS_k A0 n0 cap0 _ _ (by omega) (by omega) (by first | assumption | (unfold maxLen; omega))).mono ?_
  rintro e w2 ⟨rfl, hb_4⟩
  rw [szv_yes (by omega)]
  replace in0 := in0.next hb_4 (by omega)
  replace in1a := in1a.next hb_4 (by omega)
  replace in1b := in1b.next hb_4 (by omega)
  replace in1c := in1c.next hb_4 (by omega)
  replace a1_0 := cell_next a1_0 hb_4
  replace a1_1 := cell_next a1_1 hb_4
  replace a1_2 := cell_next a1_2 hb_4
  replace a1_3 := cell_next a1_3 hb_4
  replace a1_l := Nat.lt_of_lt_of_le a1_l hb_4.size
  replace hB := hB.trans (hb_4.mono hB.size)
  have sz_6 := hb_4.size
  go_wp2_with fail
  refine (szConfig_k A1 n1 cap1 B1 m1 cbp1 D1 o1 dap1 pl1 _ _ (by omega) (by omega) (by first | assumption | (unfold maxLen; omega)) (by first | assumption | (unfold maxLen; omega)) (by first | assumption | (unfold maxLen; omega))).mono ?_
  rintro e w3 ⟨rfl, hb_7⟩
  rw [szv_yes (by omega)]
  replace in0 := in0.next hb_7 (by omega)
  replace in1a := in1a.next hb_7 (by omega)
  replace in1b := in1b.next hb_7 (by omega)
  replace in1c := in1c.next hb_7 (by omega)
  replace a1_0 := cell_next a1_0 hb_7
  replace a1_1 := cell_next a1_1 hb_7
  replace a1_2 := cell_next a1_2 hb_7
  replace a1_3 := cell_next a1_3 hb_7
  replace a1_l := Nat.lt_of_lt_of_le a1_l hb_7.size
  replace hB := hB.trans (hb_7.mono hB.size)
  have sz_9 := hb_7.size
  go_wp2_with fail
  go_cut [6, 7, 8] (fun s6 s7 s8 wx => ∃ (R_10 : Option Addr) (d_11 : Nat) (R_12 : Option Addr) (d_13 : Nat) (R_14 : Option Addr) (d_15 : Nat) (bx_18 : Nat) (lo_21 hi_22 : Nat) (lo_25 hi_26 : Nat) (lo_29 hi_30 : Nat), s6 = .pointer (some ⟨bx_18, 0, none⟩) ∧ s7 = .int .i64 r1 ∧ s8 = .bool r2 ∧ wx.cell? ⟨bx_18, 0, none⟩ = some (.slice R_10 l00 d_11) ∧ wx.cell? ⟨bx_18, 1, none⟩ = some (.slice R_12 l01 d_13) ∧ wx.cell? ⟨bx_18, 2, none⟩ = some (.slice R_14 l02 d_15) ∧ wx.cell? ⟨bx_18, 3, none⟩ = some (.int .i64 r0) ∧ bx_18 < wx.heap.size ∧ w3.heap.size ≤ bx_18 ∧ OwnL wx lo_21 hi_22 R_10 l00 d_11 y00 ∧ (w3.heap.size ≤ lo_21 ∧ lo_21 ≤ hi_22 ∧ hi_22 ≤ wx.heap.size) ∧ OwnL wx lo_25 hi_26 R_12 l01 d_13 y01 ∧ (w3.heap.size ≤ lo_25 ∧ lo_25 ≤ hi_26 ∧ hi_26 ≤ wx.heap.size) ∧ OwnL wx lo_29 hi_30 R_14 l02 d_15 y02 ∧ (w3.heap.size ≤ lo_29 ∧ lo_29 ≤ hi_30 ∧ hi_30 ≤ wx.heap.size) ∧ Below w3.heap.size w3 wx)
  case first =>
    have HT_33 := Lib.hid (fun (x : World) (h : Below w3.drew.heap.size w3.drew x) => toInstrS_k A0 n0 cap0 _ t0 x (in0.call (by omega) h) (le_call (by omega) h) h0ok)
    have HT_38 := Lib.hid (fun (x : World) (h : Below w3.drew.heap.size w3.drew x) => toConfig_k A1 n1 cap1 _ z1 B1 m1 cbp1 y1 D1 o1 dap1 x1 pl1 x (in1a.call (by omega) h) (in1b.call (by omega) h) (in1c.call (by omega) h) (le_call (by omega) h) h1ok h1gok h1sok)
    have hD0 : Below w3.drew.heap.size w3.drew w3.drew := Below.refl _ _
    have sc0_0 : w3.drew.cell? ⟨w.heap.size, 0, none⟩ = some (.slice A1 n1 cap1) := a1_0
    have sc1_0 : w3.drew.cell? ⟨w.heap.size, 1, none⟩ = some (.slice B1 m1 cbp1) := a1_1
    have sc2_0 : w3.drew.cell? ⟨w.heap.size, 2, none⟩ = some (.slice D1 o1 dap1) := a1_2
    have sc3_0 : w3.drew.cell? ⟨w.heap.size, 3, none⟩ = some (.int .i64 pl1) := a1_3
    refine wp_region_held_drew (S := fun w' => w'.cell? ⟨w.heap.size, 0, none⟩ = some (.slice A1 n1 cap1) ∧ w'.cell? ⟨w.heap.size, 1, none⟩ = some (.slice B1 m1 cbp1) ∧ w'.cell? ⟨w.heap.size, 2, none⟩ = some (.slice D1 o1 dap1) ∧ w'.cell? ⟨w.heap.size, 3, none⟩ = some (.int .i64 pl1)) (by kernel_rfl) ⟨sc0_0, sc1_0, sc2_0, sc3_0⟩ ?_
    intro hHeld0
    refine wpAnyH_take (i := 0) (v := ?_) rfl (by kernel_rfl) (by kernel_rfl) (by kernel_rfl) (fun _ _ _ h => h) (Or.inl ⟨by kernel_rfl, ?_⟩) (by assumption) ?_
    rotate_left
    · intro w9 hS9; (try dsimp only at hS9); go_simp; (try with_reducible rfl)
    set_option linter.unusedSimpArgs false in try simp only [Act.put, List.getElem_toArray, List.getElem_cons_succ, List.getElem_cons_zero, List.setIfInBounds_toArray, List.set_cons_zero, List.set_cons_succ]
    refine wpAnyH_take (i := 2) (v := ?_) rfl (by kernel_rfl) (by kernel_rfl) (by kernel_rfl) (fun _ _ _ h => h) (Or.inl ⟨by kernel_rfl, ?_⟩) (by assumption) ?_
    rotate_left
    · intro w9 hS9; (try dsimp only at hS9); go_simp; (try with_reducible rfl)
    set_option linter.unusedSimpArgs false in try simp only [Act.put, List.getElem_toArray, List.getElem_cons_succ, List.getElem_cons_zero, List.setIfInBounds_toArray, List.set_cons_zero, List.set_cons_succ]
    refine wpAnyH_ready (rs := [1, 9]) (by kernel_rfl) (by simp) ?_
    refine AllReadyH.cons rfl (fun K hK => ?_) (AllReadyH.cons rfl (fun K hK => ?_) AllReadyH.nil)
    · go_simp
      go_wp2_with (go_at_call 18; refine (HT_33.out _ (hD0)).mono ?_; rintro e v1 ⟨g_36, rfl, oa2, hb1⟩)
      have hw1 := bon (hD0) hb1
      have sc0_3 := cell_next (show w3.drew.cell? _ = _ from sc0_0) hb1
      have sc1_4 := cell_next (show w3.drew.cell? _ = _ from sc1_0) hb1
      have sc2_5 := cell_next (show w3.drew.cell? _ = _ from sc2_0) hb1
      have sc3_6 := cell_next (show w3.drew.cell? _ = _ from sc3_0) hb1
      refine hK.out _ _ ⟨sc0_3, sc1_4, sc2_5, sc3_6⟩ (fun hHeld7 => ?_)
      clear hK K hHeld0
      set_option linter.unusedSimpArgs false in try simp only [Act.put, List.getElem_toArray, List.getElem_cons_succ, List.getElem_cons_zero, List.setIfInBounds_toArray, List.set_cons_zero, List.set_cons_succ]
      refine wpAnyH_ready (rs := [3, 9]) (by kernel_rfl) (by simp) ?_
      refine AllReadyH.cons rfl (fun K hK => ?_) (AllReadyH.cons rfl (fun K hK => ?_) AllReadyH.nil)
      · go_simp
        go_wp2_with (go_at_call 23; refine (HT_38.out _ (hw1)).mono ?_; rintro e v8 ⟨g_41, g_42, g_43, mz0, mz1, rfl, oa9, oa10, oa11, mdz, hb8⟩)
        have hw8 := bon (hw1) hb8
        have sc0_12 := cell_next (show v1.cell? _ = _ from sc0_3) hb8
        have sc1_13 := cell_next (show v1.cell? _ = _ from sc1_4) hb8
        have sc2_14 := cell_next (show v1.cell? _ = _ from sc2_5) hb8
        have sc3_15 := cell_next (show v1.cell? _ = _ from sc3_6) hb8
        have oa2_16 := oa2.next hb8
        refine hK.out _ _ ⟨sc0_12, sc1_13, sc2_14, sc3_15⟩ (fun hHeld17 => ?_)
        clear hK K hHeld7
        set_option linter.unusedSimpArgs false in try simp only [Act.put, List.getElem_toArray, List.getElem_cons_succ, List.getElem_cons_zero, List.setIfInBounds_toArray, List.set_cons_zero, List.set_cons_succ]
        refine wpAnyH_ready (rs := [4, 9]) (by kernel_rfl) (by simp) ?_
        refine AllReadyH.cons rfl (fun K hK => ?_) (AllReadyH.cons rfl (fun K hK => ?_) AllReadyH.nil)
        · go_simp
          go_wp2_with (go_at_call 26; refine (HS.out _ _ _ _ _ _ _ _ _ oa2_16.all oa9.all (Nat.le_refl _) oa10.all (Nat.le_refl _) oa11.all (Nat.le_refl _)).mono ?_; rintro e v18 ⟨R_10, d_11, R_12, d_13, R_14, d_15, rfl, op19, op20, op21, hb18⟩)
          have hw18 := bon (hw8) hb18
          have sc0_22 := cell_next (show v8.cell? _ = _ from sc0_12) hb18
          have sc1_23 := cell_next (show v8.cell? _ = _ from sc1_13) hb18
          have sc2_24 := cell_next (show v8.cell? _ = _ from sc2_14) hb18
          have sc3_25 := cell_next (show v8.cell? _ = _ from sc3_15) hb18
          have oa2_16_26 := oa2_16.next hb18
          have oa9_27 := oa9.next hb18
          have oa10_28 := oa10.next hb18
          have oa11_29 := oa11.next hb18
          refine hK.out _ _ ⟨sc0_22, sc1_23, sc2_24, sc3_25⟩ (fun hHeld30 => ?_)
          clear hK K hHeld17
          set_option linter.unusedSimpArgs false in try simp only [Act.put, List.getElem_toArray, List.getElem_cons_succ, List.getElem_cons_zero, List.setIfInBounds_toArray, List.set_cons_zero, List.set_cons_succ]
          refine wpAnyH_take (i := 5) (v := ?_) rfl (by kernel_rfl) (by kernel_rfl) (by kernel_rfl) (fun _ _ _ h => h) (Or.inl ⟨by kernel_rfl, ?_⟩) (by assumption) ?_
          rotate_left
          · intro w9 hS9; (try dsimp only at hS9); go_simp; (try with_reducible rfl)
          set_option linter.unusedSimpArgs false in try simp only [Act.put, List.getElem_toArray, List.getElem_cons_succ, List.getElem_cons_zero, List.setIfInBounds_toArray, List.set_cons_zero, List.set_cons_succ]
          refine wpAnyH_take (i := 6) (v := ?_) rfl (by kernel_rfl) (by kernel_rfl) (by kernel_rfl) (fun _ _ _ h => h) (Or.inl ⟨by kernel_rfl, ?_⟩) (by assumption) ?_
          rotate_left
          · intro w9 hS9; (try dsimp only at hS9); go_simp; (try with_reducible rfl)
          set_option linter.unusedSimpArgs false in try simp only [Act.put, List.getElem_toArray, List.getElem_cons_succ, List.getElem_cons_zero, List.setIfInBounds_toArray, List.set_cons_zero, List.set_cons_succ]
          refine wpAnyH_take (i := 7) (v := ?_) rfl (by kernel_rfl) (by kernel_rfl) (by kernel_rfl) (fun _ _ _ h => h) (Or.inl ⟨by kernel_rfl, ?_⟩) (by assumption) ?_
          rotate_left
          · intro w9 hS9; (try dsimp only at hS9); go_simp; (try with_reducible rfl)
          set_option linter.unusedSimpArgs false in try simp only [Act.put, List.getElem_toArray, List.getElem_cons_succ, List.getElem_cons_zero, List.setIfInBounds_toArray, List.set_cons_zero, List.set_cons_succ]
          refine wpAnyH_take (i := 8) (v := ?_) rfl (by kernel_rfl) (by kernel_rfl) (by kernel_rfl) (fun _ _ _ h => h) (Or.inl ⟨by kernel_rfl, ?_⟩) (by assumption) ?_
          rotate_left
          · intro w9 hS9; (try dsimp only at hS9); go_simp; (try with_reducible rfl)
          set_option linter.unusedSimpArgs false in try simp only [Act.put, List.getElem_toArray, List.getElem_cons_succ, List.getElem_cons_zero, List.setIfInBounds_toArray, List.set_cons_zero, List.set_cons_succ]
          refine wpAnyH_ready (rs := [9]) (by kernel_rfl) (by simp) ?_
          refine AllReadyH.cons rfl (fun K hK => ?_) AllReadyH.nil
          go_simp
          have sc0_31 := cell_next sc0_22 (bnew v18 (.cells #[.slice none 0 0, .slice none 0 0, .slice none 0 0, .int .i64 0] 44))
          have sc1_32 := cell_next sc1_23 (bnew v18 (.cells #[.slice none 0 0, .slice none 0 0, .slice none 0 0, .int .i64 0] 44))
          have sc2_33 := cell_next sc2_24 (bnew v18 (.cells #[.slice none 0 0, .slice none 0 0, .slice none 0 0, .int .i64 0] 44))
          have sc3_34 := cell_next sc3_25 (bnew v18 (.cells #[.slice none 0 0, .slice none 0 0, .slice none 0 0, .int .i64 0] 44))
          refine hK.out _ _ ⟨sc0_31, sc1_32, sc2_33, sc3_34⟩ (fun hHeld35 => ?_)
          clear hK K hHeld30
          set_option linter.unusedSimpArgs false in try simp only [Act.put, List.getElem_toArray, List.getElem_cons_succ, List.getElem_cons_zero, List.setIfInBounds_toArray, List.set_cons_zero, List.set_cons_succ]
          refine wpAnyH_ready (rs := [10]) (by kernel_rfl) (by simp) ?_
          refine AllReadyH.cons rfl (fun K hK => ?_) AllReadyH.nil
          go_simp
          have sc0_36 := cell_next sc0_22 (bnew v18 (.cells #[.slice R_10 l00 d_11, .slice R_12 l01 d_13, .slice R_14 l02 d_15, .int .i64 r0] 44))
          have sc1_37 := cell_next sc1_23 (bnew v18 (.cells #[.slice R_10 l00 d_11, .slice R_12 l01 d_13, .slice R_14 l02 d_15, .int .i64 r0] 44))
          have sc2_38 := cell_next sc2_24 (bnew v18 (.cells #[.slice R_10 l00 d_11, .slice R_12 l01 d_13, .slice R_14 l02 d_15, .int .i64 r0] 44))
          have sc3_39 := cell_next sc3_25 (bnew v18 (.cells #[.slice R_10 l00 d_11, .slice R_12 l01 d_13, .slice R_14 l02 d_15, .int .i64 r0] 44))
          refine hK.out _ _ ⟨sc0_36, sc1_37, sc2_38, sc3_39⟩ (fun hHeld40 => ?_)
          clear hK K hHeld35
          set_option linter.unusedSimpArgs false in try simp only [Act.put, List.getElem_toArray, List.getElem_cons_succ, List.getElem_cons_zero, List.setIfInBounds_toArray, List.set_cons_zero, List.set_cons_succ]
          refine wpAnyH_take (i := 11) (v := ?_) rfl (by kernel_rfl) (by kernel_rfl) (by kernel_rfl) (fun _ _ _ h => h) (Or.inl ⟨by kernel_rfl, ?_⟩) (by assumption) ?_
          rotate_left
          · intro w9 hS9; (try dsimp only at hS9); go_simp; (try with_reducible rfl)
          set_option linter.unusedSimpArgs false in try simp only [Act.put, List.getElem_toArray, List.getElem_cons_succ, List.getElem_cons_zero, List.setIfInBounds_toArray, List.set_cons_zero, List.set_cons_succ]
          refine wpAnyH_take (i := 12) (v := ?_) rfl (by kernel_rfl) (by kernel_rfl) (by kernel_rfl) (fun _ _ _ h => h) (Or.inl ⟨by kernel_rfl, ?_⟩) (by assumption) ?_
          rotate_left
          · intro w9 hS9; (try dsimp only at hS9); go_simp; (try with_reducible rfl)
          set_option linter.unusedSimpArgs false in try simp only [Act.put, List.getElem_toArray, List.getElem_cons_succ, List.getElem_cons_zero, List.setIfInBounds_toArray, List.set_cons_zero, List.set_cons_succ]
          refine wpAnyH_done (by kernel_rfl) ?_ _
          go_wp2_with fail
          go_meet
          exact ⟨_, _, _, _, _, _, _, _, _, _, _, _, _, rfl, rfl, rfl, fin_new4 (bstep (hw8)) hb18 op19 (by have := hb18.size; omega) op20 (by have := hb18.size; omega) op21 (by have := hb18.size; omega)⟩
        · go_simp
          have hA41 : Below w3.drew.heap.size w3.drew (v8.alloc (.cells #[.slice none 0 0, .slice none 0 0, .slice none 0 0, .int .i64 0] 44)) := bon (hw8) (bnew v8 _)
          have hA41b0 : BlkIs (v8.alloc (.cells #[.slice none 0 0, .slice none 0 0, .slice none 0 0, .int .i64 0] 44)) v8.heap.size 44 #[.slice none 0 0, .slice none 0 0, .slice none 0 0, .int .i64 0] := blk_new _ _ _ _ rfl
          have hA41b : BlkIs (v8.alloc (.cells #[.slice none 0 0, .slice none 0 0, .slice none 0 0, .int .i64 0] 44)) v8.heap.size 44 #[.slice none 0 0, .slice none 0 0, .slice none 0 0, .int .i64 0] := hA41b0
          have hA41g : w3.heap.size ≤ v8.heap.size := (bstep (hw8)).size
          have sc0_42 : (v8.alloc (.cells #[.slice none 0 0, .slice none 0 0, .slice none 0 0, .int .i64 0] 44)).cell? ⟨w.heap.size, 0, none⟩ = some (.slice A1 n1 cap1) := cell_next (w1 := v8.alloc (.cells #[.slice none 0 0, .slice none 0 0, .slice none 0 0, .int .i64 0] 44)) (show v8.cell? _ = _ from sc0_12) (bnew v8 _)
          have sc1_43 : (v8.alloc (.cells #[.slice none 0 0, .slice none 0 0, .slice none 0 0, .int .i64 0] 44)).cell? ⟨w.heap.size, 1, none⟩ = some (.slice B1 m1 cbp1) := cell_next (w1 := v8.alloc (.cells #[.slice none 0 0, .slice none 0 0, .slice none 0 0, .int .i64 0] 44)) (show v8.cell? _ = _ from sc1_13) (bnew v8 _)
          have sc2_44 : (v8.alloc (.cells #[.slice none 0 0, .slice none 0 0, .slice none 0 0, .int .i64 0] 44)).cell? ⟨w.heap.size, 2, none⟩ = some (.slice D1 o1 dap1) := cell_next (w1 := v8.alloc (.cells #[.slice none 0 0, .slice none 0 0, .slice none 0 0, .int .i64 0] 44)) (show v8.cell? _ = _ from sc2_14) (bnew v8 _)
          have sc3_45 : (v8.alloc (.cells #[.slice none 0 0, .slice none 0 0, .slice none 0 0, .int .i64 0] 44)).cell? ⟨w.heap.size, 3, none⟩ = some (.int .i64 pl1) := cell_next (w1 := v8.alloc (.cells #[.slice none 0 0, .slice none 0 0, .slice none 0 0, .int .i64 0] 44)) (show v8.cell? _ = _ from sc3_15) (bnew v8 _)
          have oa2_16_46 := oa2_16.next (bnew v8 (.cells #[.slice none 0 0, .slice none 0 0, .slice none 0 0, .int .i64 0] 44))
          have oa9_47 := oa9.next (bnew v8 (.cells #[.slice none 0 0, .slice none 0 0, .slice none 0 0, .int .i64 0] 44))
          have oa10_48 := oa10.next (bnew v8 (.cells #[.slice none 0 0, .slice none 0 0, .slice none 0 0, .int .i64 0] 44))
          have oa11_49 := oa11.next (bnew v8 (.cells #[.slice none 0 0, .slice none 0 0, .slice none 0 0, .int .i64 0] 44))
          refine hK.out _ _ ⟨sc0_42, sc1_43, sc2_44, sc3_45⟩ (fun hHeld50 => ?_)
          clear hK K hHeld17
          set_option linter.unusedSimpArgs false in try simp only [Act.put, List.getElem_toArray, List.getElem_cons_succ, List.getElem_cons_zero, List.setIfInBounds_toArray, List.set_cons_zero, List.set_cons_succ]
          refine wpAnyH_ready (rs := [4]) (by kernel_rfl) (by simp) ?_
          refine AllReadyH.cons rfl (fun K hK => ?_) AllReadyH.nil
          go_simp
          go_wp2_with (go_at_call 26; refine (HS.out _ _ _ _ _ _ _ _ _ oa2_16_46.all oa9_47.all (Nat.le_refl _) oa10_48.all (Nat.le_refl _) oa11_49.all (Nat.le_refl _)).mono ?_; rintro e v51 ⟨R_10, d_11, R_12, d_13, R_14, d_15, rfl, op52, op53, op54, hb51⟩)
          have hw51 := bon (hA41) hb51
          have sc0_55 := cell_next (show (v8.alloc (.cells #[.slice none 0 0, .slice none 0 0, .slice none 0 0, .int .i64 0] 44)).cell? _ = _ from sc0_42) hb51
          have sc1_56 := cell_next (show (v8.alloc (.cells #[.slice none 0 0, .slice none 0 0, .slice none 0 0, .int .i64 0] 44)).cell? _ = _ from sc1_43) hb51
          have sc2_57 := cell_next (show (v8.alloc (.cells #[.slice none 0 0, .slice none 0 0, .slice none 0 0, .int .i64 0] 44)).cell? _ = _ from sc2_44) hb51
          have sc3_58 := cell_next (show (v8.alloc (.cells #[.slice none 0 0, .slice none 0 0, .slice none 0 0, .int .i64 0] 44)).cell? _ = _ from sc3_45) hb51
          have oa2_16_46_59 := oa2_16_46.next hb51
          have oa9_47_60 := oa9_47.next hb51
          have oa10_48_61 := oa10_48.next hb51
          have oa11_49_62 := oa11_49.next hb51
          have bk63 := hA41b.next hb51
          refine hK.out _ _ ⟨sc0_55, sc1_56, sc2_57, sc3_58⟩ (fun hHeld64 => ?_)
          clear hK K hHeld50
          set_option linter.unusedSimpArgs false in try simp only [Act.put, List.getElem_toArray, List.getElem_cons_succ, List.getElem_cons_zero, List.setIfInBounds_toArray, List.set_cons_zero, List.set_cons_succ]
          refine wpAnyH_take (i := 5) (v := ?_) rfl (by kernel_rfl) (by kernel_rfl) (by kernel_rfl) (fun _ _ _ h => h) (Or.inl ⟨by kernel_rfl, ?_⟩) (by assumption) ?_
          rotate_left
          · intro w9 hS9; (try dsimp only at hS9); go_simp; (try with_reducible rfl)
          set_option linter.unusedSimpArgs false in try simp only [Act.put, List.getElem_toArray, List.getElem_cons_succ, List.getElem_cons_zero, List.setIfInBounds_toArray, List.set_cons_zero, List.set_cons_succ]
          refine wpAnyH_take (i := 6) (v := ?_) rfl (by kernel_rfl) (by kernel_rfl) (by kernel_rfl) (fun _ _ _ h => h) (Or.inl ⟨by kernel_rfl, ?_⟩) (by assumption) ?_
          rotate_left
          · intro w9 hS9; (try dsimp only at hS9); go_simp; (try with_reducible rfl)
          set_option linter.unusedSimpArgs false in try simp only [Act.put, List.getElem_toArray, List.getElem_cons_succ, List.getElem_cons_zero, List.setIfInBounds_toArray, List.set_cons_zero, List.set_cons_succ]
          refine wpAnyH_take (i := 7) (v := ?_) rfl (by kernel_rfl) (by kernel_rfl) (by kernel_rfl) (fun _ _ _ h => h) (Or.inl ⟨by kernel_rfl, ?_⟩) (by assumption) ?_
          rotate_left
          · intro w9 hS9; (try dsimp only at hS9); go_simp; (try with_reducible rfl)
          set_option linter.unusedSimpArgs false in try simp only [Act.put, List.getElem_toArray, List.getElem_cons_succ, List.getElem_cons_zero, List.setIfInBounds_toArray, List.set_cons_zero, List.set_cons_succ]
          refine wpAnyH_take (i := 8) (v := ?_) rfl (by kernel_rfl) (by kernel_rfl) (by kernel_rfl) (fun _ _ _ h => h) (Or.inl ⟨by kernel_rfl, ?_⟩) (by assumption) ?_
          rotate_left
          · intro w9 hS9; (try dsimp only at hS9); go_simp; (try with_reducible rfl)
          set_option linter.unusedSimpArgs false in try simp only [Act.put, List.getElem_toArray, List.getElem_cons_succ, List.getElem_cons_zero, List.setIfInBounds_toArray, List.set_cons_zero, List.set_cons_succ]
          have z0 := bk63.cell 0
          have f0 := bk63.frozen 0
          have z1 := bk63.cell 1
          have f1 := bk63.frozen 1
          have z2 := bk63.cell 2
          have f2 := bk63.frozen 2
          have z3 := bk63.cell 3
          have f3 := bk63.frozen 3
          simp at z0 z1 z2 z3
          have ho65 : Out (v8.heap.size) (v8.heap.size + 1) v51 ((((v51.setCell ⟨v8.heap.size, 0, none⟩ (.slice R_10 l00 d_11)).setCell ⟨v8.heap.size, 1, none⟩ (.slice R_12 l01 d_13)).setCell ⟨v8.heap.size, 2, none⟩ (.slice R_14 l02 d_15)).setCell ⟨v8.heap.size, 3, none⟩ (.int .i64 r0)) := out_set (out_set (out_set (out_set (Out.refl _ _ _) (by omega)) (by omega)) (by omega)) (by omega)
          have sc0_66 := ho65.cell sc0_55 (by omega)
          have sc1_67 := ho65.cell sc1_56 (by omega)
          have sc2_68 := ho65.cell sc2_57 (by omega)
          have sc3_69 := ho65.cell sc3_58 (by omega)
          refine wpAnyH_ready (rs := [10]) (by kernel_rfl) (by simp) ?_
          refine AllReadyH.cons rfl (fun K hK => ?_) AllReadyH.nil
          go_simp
          refine hK.out _ _ ⟨sc0_66, sc1_67, sc2_68, sc3_69⟩ (fun hHeld70 => ?_)
          clear hK K hHeld64
          set_option linter.unusedSimpArgs false in try simp only [Act.put, List.getElem_toArray, List.getElem_cons_succ, List.getElem_cons_zero, List.setIfInBounds_toArray, List.set_cons_zero, List.set_cons_succ]
          refine wpAnyH_take (i := 11) (v := ?_) rfl (by kernel_rfl) (by kernel_rfl) (by kernel_rfl) (fun _ _ _ h => h) (Or.inl ⟨by kernel_rfl, ?_⟩) (by assumption) ?_
          rotate_left
          · intro w9 hS9; (try dsimp only at hS9); go_simp; (try with_reducible rfl)
          set_option linter.unusedSimpArgs false in try simp only [Act.put, List.getElem_toArray, List.getElem_cons_succ, List.getElem_cons_zero, List.setIfInBounds_toArray, List.set_cons_zero, List.set_cons_succ]
          refine wpAnyH_take (i := 12) (v := ?_) rfl (by kernel_rfl) (by kernel_rfl) (by kernel_rfl) (fun _ _ _ h => h) (Or.inl ⟨by kernel_rfl, ?_⟩) (by assumption) ?_
          rotate_left
          · intro w9 hS9; (try dsimp only at hS9); go_simp; (try with_reducible rfl)
          set_option linter.unusedSimpArgs false in try simp only [Act.put, List.getElem_toArray, List.getElem_cons_succ, List.getElem_cons_zero, List.setIfInBounds_toArray, List.set_cons_zero, List.set_cons_succ]
          refine wpAnyH_done (by kernel_rfl) ?_ _
          go_wp2_with fail
          go_meet
          exact ⟨_, _, _, _, _, _, _, _, _, _, _, _, _, rfl, rfl, rfl, fin_box4 (bstep (hA41)) ⟨bk63, hA41b.lt, hA41g⟩ hb51 op52 (by have := hb51.size; omega) op53 (by have := hb51.size; omega) op54 (by have := hb51.size; omega)⟩
      · go_simp
        have hA71 : Below w3.drew.heap.size w3.drew (v1.alloc (.cells #[.slice none 0 0, .slice none 0 0, .slice none 0 0, .int .i64 0] 44)) := bon (hw1) (bnew v1 _)
        have hA71b0 : BlkIs (v1.alloc (.cells #[.slice none 0 0, .slice none 0 0, .slice none 0 0, .int .i64 0] 44)) v1.heap.size 44 #[.slice none 0 0, .slice none 0 0, .slice none 0 0, .int .i64 0] := blk_new _ _ _ _ rfl
        have hA71b : BlkIs (v1.alloc (.cells #[.slice none 0 0, .slice none 0 0, .slice none 0 0, .int .i64 0] 44)) v1.heap.size 44 #[.slice none 0 0, .slice none 0 0, .slice none 0 0, .int .i64 0] := hA71b0
        have hA71g : w3.heap.size ≤ v1.heap.size := (bstep (hw1)).size
        have sc0_72 : (v1.alloc (.cells #[.slice none 0 0, .slice none 0 0, .slice none 0 0, .int .i64 0] 44)).cell? ⟨w.heap.size, 0, none⟩ = some (.slice A1 n1 cap1) := cell_next (w1 := v1.alloc (.cells #[.slice none 0 0, .slice none 0 0, .slice none 0 0, .int .i64 0] 44)) (show v1.cell? _ = _ from sc0_3) (bnew v1 _)
        have sc1_73 : (v1.alloc (.cells #[.slice none 0 0, .slice none 0 0, .slice none 0 0, .int .i64 0] 44)).cell? ⟨w.heap.size, 1, none⟩ = some (.slice B1 m1 cbp1) := cell_next (w1 := v1.alloc (.cells #[.slice none 0 0, .slice none 0 0, .slice none 0 0, .int .i64 0] 44)) (show v1.cell? _ = _ from sc1_4) (bnew v1 _)
        have sc2_74 : (v1.alloc (.cells #[.slice none 0 0, .slice none 0 0, .slice none 0 0, .int .i64 0] 44)).cell? ⟨w.heap.size, 2, none⟩ = some (.slice D1 o1 dap1) := cell_next (w1 := v1.alloc (.cells #[.slice none 0 0, .slice none 0 0, .slice none 0 0, .int .i64 0] 44)) (show v1.cell? _ = _ from sc2_5) (bnew v1 _)
        have sc3_75 : (v1.alloc (.cells #[.slice none 0 0, .slice none 0 0, .slice none 0 0, .int .i64 0] 44)).cell? ⟨w.heap.size, 3, none⟩ = some (.int .i64 pl1) := cell_next (w1 := v1.alloc (.cells #[.slice none 0 0, .slice none 0 0, .slice none 0 0, .int .i64 0] 44)) (show v1.cell? _ = _ from sc3_6) (bnew v1 _)
        have oa2_76 := oa2.next (bnew v1 (.cells #[.slice none 0 0, .slice none 0 0, .slice none 0 0, .int .i64 0] 44))
        refine hK.out _ _ ⟨sc0_72, sc1_73, sc2_74, sc3_75⟩ (fun hHeld77 => ?_)
        clear hK K hHeld7
        set_option linter.unusedSimpArgs false in try simp only [Act.put, List.getElem_toArray, List.getElem_cons_succ, List.getElem_cons_zero, List.setIfInBounds_toArray, List.set_cons_zero, List.set_cons_succ]
        refine wpAnyH_ready (rs := [3]) (by kernel_rfl) (by simp) ?_
        refine AllReadyH.cons rfl (fun K hK => ?_) AllReadyH.nil
        go_simp
        go_wp2_with (go_at_call 23; refine (HT_38.out _ (hA71)).mono ?_; rintro e v78 ⟨g_41, g_42, g_43, mz0, mz1, rfl, oa79, oa80, oa81, mdz, hb78⟩)
        have hw78 := bon (hA71) hb78
        have sc0_82 := cell_next (show (v1.alloc (.cells #[.slice none 0 0, .slice none 0 0, .slice none 0 0, .int .i64 0] 44)).cell? _ = _ from sc0_72) hb78
        have sc1_83 := cell_next (show (v1.alloc (.cells #[.slice none 0 0, .slice none 0 0, .slice none 0 0, .int .i64 0] 44)).cell? _ = _ from sc1_73) hb78
        have sc2_84 := cell_next (show (v1.alloc (.cells #[.slice none 0 0, .slice none 0 0, .slice none 0 0, .int .i64 0] 44)).cell? _ = _ from sc2_74) hb78
        have sc3_85 := cell_next (show (v1.alloc (.cells #[.slice none 0 0, .slice none 0 0, .slice none 0 0, .int .i64 0] 44)).cell? _ = _ from sc3_75) hb78
        have oa2_76_86 := oa2_76.next hb78
        have bk87 := hA71b.next hb78
        refine hK.out _ _ ⟨sc0_82, sc1_83, sc2_84, sc3_85⟩ (fun hHeld88 => ?_)
        clear hK K hHeld77
        set_option linter.unusedSimpArgs false in try simp only [Act.put, List.getElem_toArray, List.getElem_cons_succ, List.getElem_cons_zero, List.setIfInBounds_toArray, List.set_cons_zero, List.set_cons_succ]
        refine wpAnyH_ready (rs := [4]) (by kernel_rfl) (by simp) ?_
        refine AllReadyH.cons rfl (fun K hK => ?_) AllReadyH.nil
        go_simp
        go_wp2_with (go_at_call 26; refine (HS.out _ _ _ _ _ _ _ _ _ oa2_76_86.all oa79.all (Nat.le_refl _) oa80.all (Nat.le_refl _) oa81.all (Nat.le_refl _)).mono ?_; rintro e v89 ⟨R_10, d_11, R_12, d_13, R_14, d_15, rfl, op90, op91, op92, hb89⟩)
        have hw89 := bon (hw78) hb89
        have sc0_93 := cell_next (show v78.cell? _ = _ from sc0_82) hb89
        have sc1_94 := cell_next (show v78.cell? _ = _ from sc1_83) hb89
        have sc2_95 := cell_next (show v78.cell? _ = _ from sc2_84) hb89
        have sc3_96 := cell_next (show v78.cell? _ = _ from sc3_85) hb89
        have oa2_76_86_97 := oa2_76_86.next hb89
        have oa79_98 := oa79.next hb89
        have oa80_99 := oa80.next hb89
        have oa81_100 := oa81.next hb89
        have bk101 := bk87.next hb89
        refine hK.out _ _ ⟨sc0_93, sc1_94, sc2_95, sc3_96⟩ (fun hHeld102 => ?_)
        clear hK K hHeld88
        set_option linter.unusedSimpArgs false in try simp only [Act.put, List.getElem_toArray, List.getElem_cons_succ, List.getElem_cons_zero, List.setIfInBounds_toArray, List.set_cons_zero, List.set_cons_succ]
        refine wpAnyH_take (i := 5) (v := ?_) rfl (by kernel_rfl) (by kernel_rfl) (by kernel_rfl) (fun _ _ _ h => h) (Or.inl ⟨by kernel_rfl, ?_⟩) (by assumption) ?_
        rotate_left
        · intro w9 hS9; (try dsimp only at hS9); go_simp; (try with_reducible rfl)
        set_option linter.unusedSimpArgs false in try simp only [Act.put, List.getElem_toArray, List.getElem_cons_succ, List.getElem_cons_zero, List.setIfInBounds_toArray, List.set_cons_zero, List.set_cons_succ]
        refine wpAnyH_take (i := 6) (v := ?_) rfl (by kernel_rfl) (by kernel_rfl) (by kernel_rfl) (fun _ _ _ h => h) (Or.inl ⟨by kernel_rfl, ?_⟩) (by assumption) ?_
        rotate_left
        · intro w9 hS9; (try dsimp only at hS9); go_simp; (try with_reducible rfl)
        set_option linter.unusedSimpArgs false in try simp only [Act.put, List.getElem_toArray, List.getElem_cons_succ, List.getElem_cons_zero, List.setIfInBounds_toArray, List.set_cons_zero, List.set_cons_succ]
        refine wpAnyH_take (i := 7) (v := ?_) rfl (by kernel_rfl) (by kernel_rfl) (by kernel_rfl) (fun _ _ _ h => h) (Or.inl ⟨by kernel_rfl, ?_⟩) (by assumption) ?_
        rotate_left
        · intro w9 hS9; (try dsimp only at hS9); go_simp; (try with_reducible rfl)
        set_option linter.unusedSimpArgs false in try simp only [Act.put, List.getElem_toArray, List.getElem_cons_succ, List.getElem_cons_zero, List.setIfInBounds_toArray, List.set_cons_zero, List.set_cons_succ]
        refine wpAnyH_take (i := 8) (v := ?_) rfl (by kernel_rfl) (by kernel_rfl) (by kernel_rfl) (fun _ _ _ h => h) (Or.inl ⟨by kernel_rfl, ?_⟩) (by assumption) ?_
        rotate_left
        · intro w9 hS9; (try dsimp only at hS9); go_simp; (try with_reducible rfl)
        set_option linter.unusedSimpArgs false in try simp only [Act.put, List.getElem_toArray, List.getElem_cons_succ, List.getElem_cons_zero, List.setIfInBounds_toArray, List.set_cons_zero, List.set_cons_succ]
        have z0 := bk101.cell 0
        have f0 := bk101.frozen 0
        have z1 := bk101.cell 1
        have f1 := bk101.frozen 1
        have z2 := bk101.cell 2
        have f2 := bk101.frozen 2
        have z3 := bk101.cell 3
        have f3 := bk101.frozen 3
        simp at z0 z1 z2 z3
        have ho103 : Out (v1.heap.size) (v1.heap.size + 1) v89 ((((v89.setCell ⟨v1.heap.size, 0, none⟩ (.slice R_10 l00 d_11)).setCell ⟨v1.heap.size, 1, none⟩ (.slice R_12 l01 d_13)).setCell ⟨v1.heap.size, 2, none⟩ (.slice R_14 l02 d_15)).setCell ⟨v1.heap.size, 3, none⟩ (.int .i64 r0)) := out_set (out_set (out_set (out_set (Out.refl _ _ _) (by omega)) (by omega)) (by omega)) (by omega)
        have sc0_104 := ho103.cell sc0_93 (by omega)
        have sc1_105 := ho103.cell sc1_94 (by omega)
        have sc2_106 := ho103.cell sc2_95 (by omega)
        have sc3_107 := ho103.cell sc3_96 (by omega)
        refine wpAnyH_ready (rs := [10]) (by kernel_rfl) (by simp) ?_
        refine AllReadyH.cons rfl (fun K hK => ?_) AllReadyH.nil
        go_simp
        refine hK.out _ _ ⟨sc0_104, sc1_105, sc2_106, sc3_107⟩ (fun hHeld108 => ?_)
        clear hK K hHeld102
        set_option linter.unusedSimpArgs false in try simp only [Act.put, List.getElem_toArray, List.getElem_cons_succ, List.getElem_cons_zero, List.setIfInBounds_toArray, List.set_cons_zero, List.set_cons_succ]
        refine wpAnyH_take (i := 11) (v := ?_) rfl (by kernel_rfl) (by kernel_rfl) (by kernel_rfl) (fun _ _ _ h => h) (Or.inl ⟨by kernel_rfl, ?_⟩) (by assumption) ?_
        rotate_left
        · intro w9 hS9; (try dsimp only at hS9); go_simp; (try with_reducible rfl)
        set_option linter.unusedSimpArgs false in try simp only [Act.put, List.getElem_toArray, List.getElem_cons_succ, List.getElem_cons_zero, List.setIfInBounds_toArray, List.set_cons_zero, List.set_cons_succ]
        refine wpAnyH_take (i := 12) (v := ?_) rfl (by kernel_rfl) (by kernel_rfl) (by kernel_rfl) (fun _ _ _ h => h) (Or.inl ⟨by kernel_rfl, ?_⟩) (by assumption) ?_
        rotate_left
        · intro w9 hS9; (try dsimp only at hS9); go_simp; (try with_reducible rfl)
        set_option linter.unusedSimpArgs false in try simp only [Act.put, List.getElem_toArray, List.getElem_cons_succ, List.getElem_cons_zero, List.setIfInBounds_toArray, List.set_cons_zero, List.set_cons_succ]
        refine wpAnyH_done (by kernel_rfl) ?_ _
        go_wp2_with fail
        go_meet
        exact ⟨_, _, _, _, _, _, _, _, _, _, _, _, _, rfl, rfl, rfl, fin_box4 (bstep (hw78)) ⟨bk101, bk87.lt, hA71g⟩ hb89 op90 (by have := hb89.size; omega) op91 (by have := hb89.size; omega) op92 (by have := hb89.size; omega)⟩
    · go_simp
      have hA109 : Below w3.drew.heap.size w3.drew (w3.alloc (.cells #[.slice none 0 0, .slice none 0 0, .slice none 0 0, .int .i64 0] 44)).drew := bel_ad w3 _
      have hA109b0 : BlkIs (w3.alloc (.cells #[.slice none 0 0, .slice none 0 0, .slice none 0 0, .int .i64 0] 44)) w3.heap.size 44 #[.slice none 0 0, .slice none 0 0, .slice none 0 0, .int .i64 0] := blk_new _ _ _ _ rfl
      have hA109b : BlkIs (w3.alloc (.cells #[.slice none 0 0, .slice none 0 0, .slice none 0 0, .int .i64 0] 44)).drew w3.heap.size 44 #[.slice none 0 0, .slice none 0 0, .slice none 0 0, .int .i64 0] := hA109b0
      have hA109g : w3.heap.size ≤ w3.heap.size := Nat.le_refl _
      have sc0_110 : (w3.alloc (.cells #[.slice none 0 0, .slice none 0 0, .slice none 0 0, .int .i64 0] 44)).drew.cell? ⟨w.heap.size, 0, none⟩ = some (.slice A1 n1 cap1) := cell_next (w1 := w3.alloc (.cells #[.slice none 0 0, .slice none 0 0, .slice none 0 0, .int .i64 0] 44)) (show w3.cell? _ = _ from sc0_0) (bnew w3 _)
      have sc1_111 : (w3.alloc (.cells #[.slice none 0 0, .slice none 0 0, .slice none 0 0, .int .i64 0] 44)).drew.cell? ⟨w.heap.size, 1, none⟩ = some (.slice B1 m1 cbp1) := cell_next (w1 := w3.alloc (.cells #[.slice none 0 0, .slice none 0 0, .slice none 0 0, .int .i64 0] 44)) (show w3.cell? _ = _ from sc1_0) (bnew w3 _)
      have sc2_112 : (w3.alloc (.cells #[.slice none 0 0, .slice none 0 0, .slice none 0 0, .int .i64 0] 44)).drew.cell? ⟨w.heap.size, 2, none⟩ = some (.slice D1 o1 dap1) := cell_next (w1 := w3.alloc (.cells #[.slice none 0 0, .slice none 0 0, .slice none 0 0, .int .i64 0] 44)) (show w3.cell? _ = _ from sc2_0) (bnew w3 _)
      have sc3_113 : (w3.alloc (.cells #[.slice none 0 0, .slice none 0 0, .slice none 0 0, .int .i64 0] 44)).drew.cell? ⟨w.heap.size, 3, none⟩ = some (.int .i64 pl1) := cell_next (w1 := w3.alloc (.cells #[.slice none 0 0, .slice none 0 0, .slice none 0 0, .int .i64 0] 44)) (show w3.cell? _ = _ from sc3_0) (bnew w3 _)
      refine hK.out _ _ ⟨sc0_110, sc1_111, sc2_112, sc3_113⟩ (fun hHeld114 => ?_)
      clear hK K hHeld0
      set_option linter.unusedSimpArgs false in try simp only [Act.put, List.getElem_toArray, List.getElem_cons_succ, List.getElem_cons_zero, List.setIfInBounds_toArray, List.set_cons_zero, List.set_cons_succ]
      refine wpAnyH_ready (rs := [1]) (by kernel_rfl) (by simp) ?_
      refine AllReadyH.cons rfl (fun K hK => ?_) AllReadyH.nil
      go_simp
      go_wp2_with (go_at_call 18; refine (HT_33.out _ (hA109)).mono ?_; rintro e v115 ⟨g_36, rfl, oa116, hb115⟩)
      have hw115 := bon (hA109) hb115
      have sc0_117 := cell_next (show (w3.alloc (.cells #[.slice none 0 0, .slice none 0 0, .slice none 0 0, .int .i64 0] 44)).drew.cell? _ = _ from sc0_110) hb115
      have sc1_118 := cell_next (show (w3.alloc (.cells #[.slice none 0 0, .slice none 0 0, .slice none 0 0, .int .i64 0] 44)).drew.cell? _ = _ from sc1_111) hb115
      have sc2_119 := cell_next (show (w3.alloc (.cells #[.slice none 0 0, .slice none 0 0, .slice none 0 0, .int .i64 0] 44)).drew.cell? _ = _ from sc2_112) hb115
      have sc3_120 := cell_next (show (w3.alloc (.cells #[.slice none 0 0, .slice none 0 0, .slice none 0 0, .int .i64 0] 44)).drew.cell? _ = _ from sc3_113) hb115
      have bk121 := hA109b.next hb115
      refine hK.out _ _ ⟨sc0_117, sc1_118, sc2_119, sc3_120⟩ (fun hHeld122 => ?_)
      clear hK K hHeld114
      set_option linter.unusedSimpArgs false in try simp only [Act.put, List.getElem_toArray, List.getElem_cons_succ, List.getElem_cons_zero, List.setIfInBounds_toArray, List.set_cons_zero, List.set_cons_succ]
      refine wpAnyH_ready (rs := [3]) (by kernel_rfl) (by simp) ?_
      refine AllReadyH.cons rfl (fun K hK => ?_) AllReadyH.nil
      go_simp
      go_wp2_with (go_at_call 23; refine (HT_38.out _ (hw115)).mono ?_; rintro e v123 ⟨g_41, g_42, g_43, mz0, mz1, rfl, oa124, oa125, oa126, mdz, hb123⟩)
      have hw123 := bon (hw115) hb123
      have sc0_127 := cell_next (show v115.cell? _ = _ from sc0_117) hb123
      have sc1_128 := cell_next (show v115.cell? _ = _ from sc1_118) hb123
      have sc2_129 := cell_next (show v115.cell? _ = _ from sc2_119) hb123
      have sc3_130 := cell_next (show v115.cell? _ = _ from sc3_120) hb123
      have oa116_131 := oa116.next hb123
      have bk132 := bk121.next hb123
      refine hK.out _ _ ⟨sc0_127, sc1_128, sc2_129, sc3_130⟩ (fun hHeld133 => ?_)
      clear hK K hHeld122
      set_option linter.unusedSimpArgs false in try simp only [Act.put, List.getElem_toArray, List.getElem_cons_succ, List.getElem_cons_zero, List.setIfInBounds_toArray, List.set_cons_zero, List.set_cons_succ]
      refine wpAnyH_ready (rs := [4]) (by kernel_rfl) (by simp) ?_
      refine AllReadyH.cons rfl (fun K hK => ?_) AllReadyH.nil
      go_simp
      go_wp2_with (go_at_call 26; refine (HS.out _ _ _ _ _ _ _ _ _ oa116_131.all oa124.all (Nat.le_refl _) oa125.all (Nat.le_refl _) oa126.all (Nat.le_refl _)).mono ?_; rintro e v134 ⟨R_10, d_11, R_12, d_13, R_14, d_15, rfl, op135, op136, op137, hb134⟩)
      have hw134 := bon (hw123) hb134
      have sc0_138 := cell_next (show v123.cell? _ = _ from sc0_127) hb134
      have sc1_139 := cell_next (show v123.cell? _ = _ from sc1_128) hb134
      have sc2_140 := cell_next (show v123.cell? _ = _ from sc2_129) hb134
      have sc3_141 := cell_next (show v123.cell? _ = _ from sc3_130) hb134
      have oa116_131_142 := oa116_131.next hb134
      have oa124_143 := oa124.next hb134
      have oa125_144 := oa125.next hb134
      have oa126_145 := oa126.next hb134
      have bk146 := bk132.next hb134
      refine hK.out _ _ ⟨sc0_138, sc1_139, sc2_140, sc3_141⟩ (fun hHeld147 => ?_)
      clear hK K hHeld133
      set_option linter.unusedSimpArgs false in try simp only [Act.put, List.getElem_toArray, List.getElem_cons_succ, List.getElem_cons_zero, List.setIfInBounds_toArray, List.set_cons_zero, List.set_cons_succ]
      refine wpAnyH_take (i := 5) (v := ?_) rfl (by kernel_rfl) (by kernel_rfl) (by kernel_rfl) (fun _ _ _ h => h) (Or.inl ⟨by kernel_rfl, ?_⟩) (by assumption) ?_
      rotate_left
      · intro w9 hS9; (try dsimp only at hS9); go_simp; (try with_reducible rfl)
      set_option linter.unusedSimpArgs false in try simp only [Act.put, List.getElem_toArray, List.getElem_cons_succ, List.getElem_cons_zero, List.setIfInBounds_toArray, List.set_cons_zero, List.set_cons_succ]
      refine wpAnyH_take (i := 6) (v := ?_) rfl (by kernel_rfl) (by kernel_rfl) (by kernel_rfl) (fun _ _ _ h => h) (Or.inl ⟨by kernel_rfl, ?_⟩) (by assumption) ?_
      rotate_left
      · intro w9 hS9; (try dsimp only at hS9); go_simp; (try with_reducible rfl)
      set_option linter.unusedSimpArgs false in try simp only [Act.put, List.getElem_toArray, List.getElem_cons_succ, List.getElem_cons_zero, List.setIfInBounds_toArray, List.set_cons_zero, List.set_cons_succ]
      refine wpAnyH_take (i := 7) (v := ?_) rfl (by kernel_rfl) (by kernel_rfl) (by kernel_rfl) (fun _ _ _ h => h) (Or.inl ⟨by kernel_rfl, ?_⟩) (by assumption) ?_
      rotate_left
      · intro w9 hS9; (try dsimp only at hS9); go_simp; (try with_reducible rfl)
      set_option linter.unusedSimpArgs false in try simp only [Act.put, List.getElem_toArray, List.getElem_cons_succ, List.getElem_cons_zero, List.setIfInBounds_toArray, List.set_cons_zero, List.set_cons_succ]
      refine wpAnyH_take (i := 8) (v := ?_) rfl (by kernel_rfl) (by kernel_rfl) (by kernel_rfl) (fun _ _ _ h => h) (Or.inl ⟨by kernel_rfl, ?_⟩) (by assumption) ?_
      rotate_left
      · intro w9 hS9; (try dsimp only at hS9); go_simp; (try with_reducible rfl)
      set_option linter.unusedSimpArgs false in try simp only [Act.put, List.getElem_toArray, List.getElem_cons_succ, List.getElem_cons_zero, List.setIfInBounds_toArray, List.set_cons_zero, List.set_cons_succ]
      have z0 := bk146.cell 0
      have f0 := bk146.frozen 0
      have z1 := bk146.cell 1
      have f1 := bk146.frozen 1
      have z2 := bk146.cell 2
      have f2 := bk146.frozen 2
      have z3 := bk146.cell 3
      have f3 := bk146.frozen 3
      simp at z0 z1 z2 z3
      have ho148 : Out (w3.heap.size) (w3.heap.size + 1) v134 ((((v134.setCell ⟨w3.heap.size, 0, none⟩ (.slice R_10 l00 d_11)).setCell ⟨w3.heap.size, 1, none⟩ (.slice R_12 l01 d_13)).setCell ⟨w3.heap.size, 2, none⟩ (.slice R_14 l02 d_15)).setCell ⟨w3.heap.size, 3, none⟩ (.int .i64 r0)) := out_set (out_set (out_set (out_set (Out.refl _ _ _) (by omega)) (by omega)) (by omega)) (by omega)
      have sc0_149 := ho148.cell sc0_138 (by omega)
      have sc1_150 := ho148.cell sc1_139 (by omega)
      have sc2_151 := ho148.cell sc2_140 (by omega)
      have sc3_152 := ho148.cell sc3_141 (by omega)
      refine wpAnyH_ready (rs := [10]) (by kernel_rfl) (by simp) ?_
      refine AllReadyH.cons rfl (fun K hK => ?_) AllReadyH.nil
      go_simp
      refine hK.out _ _ ⟨sc0_149, sc1_150, sc2_151, sc3_152⟩ (fun hHeld153 => ?_)
      clear hK K hHeld147
      set_option linter.unusedSimpArgs false in try simp only [Act.put, List.getElem_toArray, List.getElem_cons_succ, List.getElem_cons_zero, List.setIfInBounds_toArray, List.set_cons_zero, List.set_cons_succ]
      refine wpAnyH_take (i := 11) (v := ?_) rfl (by kernel_rfl) (by kernel_rfl) (by kernel_rfl) (fun _ _ _ h => h) (Or.inl ⟨by kernel_rfl, ?_⟩) (by assumption) ?_
      rotate_left
      · intro w9 hS9; (try dsimp only at hS9); go_simp; (try with_reducible rfl)
      set_option linter.unusedSimpArgs false in try simp only [Act.put, List.getElem_toArray, List.getElem_cons_succ, List.getElem_cons_zero, List.setIfInBounds_toArray, List.set_cons_zero, List.set_cons_succ]
      refine wpAnyH_take (i := 12) (v := ?_) rfl (by kernel_rfl) (by kernel_rfl) (by kernel_rfl) (fun _ _ _ h => h) (Or.inl ⟨by kernel_rfl, ?_⟩) (by assumption) ?_
      rotate_left
      · intro w9 hS9; (try dsimp only at hS9); go_simp; (try with_reducible rfl)
      set_option linter.unusedSimpArgs false in try simp only [Act.put, List.getElem_toArray, List.getElem_cons_succ, List.getElem_cons_zero, List.setIfInBounds_toArray, List.set_cons_zero, List.set_cons_succ]
      refine wpAnyH_done (by kernel_rfl) ?_ _
      go_wp2_with fail
      go_meet
      exact ⟨_, _, _, _, _, _, _, _, _, _, _, _, _, rfl, rfl, rfl, fin_box4 (bstep (hw123)) ⟨bk146, bk132.lt, hA109g⟩ hb134 op135 (by have := hb134.size; omega) op136 (by have := hb134.size; omega) op137 (by have := hb134.size; omega)⟩
  case rest =>
    obtain ⟨R_10, d_11, R_12, d_13, R_14, d_15, bx_18, lo_21, hi_22, lo_25, hi_26, lo_29, hi_30, rfl, rfl, rfl, w0_0, w0_1, w0_2, w0_3, w0_l, sz_19, own_20, sz_23, own_24, sz_27, own_28, sz_31, hb_32⟩ := hcut
    obtain ⟨w4, hwx⟩ : ∃ x, x = wc := ⟨_, rfl⟩
    subst hwx
    have sz_57 := w0_l
    replace in0 := in0.next hb_32 (by omega)
    replace in1a := in1a.next hb_32 (by omega)
    replace in1b := in1b.next hb_32 (by omega)
    replace in1c := in1c.next hb_32 (by omega)
    replace a1_0 := cell_next a1_0 hb_32
    replace a1_1 := cell_next a1_1 hb_32
    replace a1_2 := cell_next a1_2 hb_32
    replace a1_3 := cell_next a1_3 hb_32
    replace a1_l := Nat.lt_of_lt_of_le a1_l hb_32.size
    replace hB := hB.trans (hb_32.mono hB.size)
    have sz_58 := hb_32.size
    go_wp2_with fail
    refine (toInstrS_k A0 n0 cap0 _ t0 _ in0 (by omega) h0ok).mono ?_
    rintro e w5 ⟨g_59, rfl, own_60, hb_61⟩
    replace in0 := in0.next hb_61 (by omega)
    replace in1a := in1a.next hb_61 (by omega)
    replace in1b := in1b.next hb_61 (by omega)
    replace in1c := in1c.next hb_61 (by omega)
    replace a1_0 := cell_next a1_0 hb_61
    replace a1_1 := cell_next a1_1 hb_61
    replace a1_2 := cell_next a1_2 hb_61
    replace a1_3 := cell_next a1_3 hb_61
    replace a1_l := Nat.lt_of_lt_of_le a1_l hb_61.size
    replace w0_0 := cell_next w0_0 hb_61
    replace w0_1 := cell_next w0_1 hb_61
    replace w0_2 := cell_next w0_2 hb_61
    replace w0_3 := cell_next w0_3 hb_61
    replace w0_l := Nat.lt_of_lt_of_le w0_l hb_61.size
    replace own_20 := own_20.next hb_61
    replace own_24 := own_24.next hb_61
    replace own_28 := own_28.next hb_61
    replace hB := hB.trans (hb_61.mono hB.size)
    have sz_62 := hb_61.size
    go_wp2_with fail
    refine (toConfig_k A1 n1 cap1 _ z1 B1 m1 cbp1 y1 D1 o1 dap1 x1 pl1 _ in1a in1b in1c (by omega) h1ok h1gok h1sok).mono ?_
    rintro e w6 ⟨g_63, g_64, g_65, mid_70, mid_71, rfl, own_66, own_67, own_68, md_72, hb_69⟩
    replace in0 := in0.next hb_69 (by omega)
    replace in1a := in1a.next hb_69 (by omega)
    replace in1b := in1b.next hb_69 (by omega)
    replace in1c := in1c.next hb_69 (by omega)
    replace a1_0 := cell_next a1_0 hb_69
    replace a1_1 := cell_next a1_1 hb_69
    replace a1_2 := cell_next a1_2 hb_69
    replace a1_3 := cell_next a1_3 hb_69
    replace a1_l := Nat.lt_of_lt_of_le a1_l hb_69.size
    replace w0_0 := cell_next w0_0 hb_69
    replace w0_1 := cell_next w0_1 hb_69
    replace w0_2 := cell_next w0_2 hb_69
    replace w0_3 := cell_next w0_3 hb_69
    replace w0_l := Nat.lt_of_lt_of_le w0_l hb_69.size
    replace own_20 := own_20.next hb_69
    replace own_24 := own_24.next hb_69
    replace own_28 := own_28.next hb_69
    replace own_60 := own_60.next hb_69
    replace hB := hB.trans (hb_69.mono hB.size)
    have sz_73 := hb_69.size
    go_wp2_with fail
    have hb_74 : Below w6.heap.size w6 (w6.alloc (.cells #[.slice (some ⟨g_63, 0, none⟩) n1 n1, .slice (some ⟨g_64, 0, none⟩) m1 m1, .slice (some ⟨g_65, 0, none⟩) o1 o1, .int .i64 pl1] 44)) := bnew _ _
    have sz_75 : w6.heap.size < (w6.alloc (.cells #[.slice (some ⟨g_63, 0, none⟩) n1 n1, .slice (some ⟨g_64, 0, none⟩) m1 m1, .slice (some ⟨g_65, 0, none⟩) o1 o1, .int .i64 pl1] 44)).heap.size := by simp
    have x1_0 : (w6.alloc (.cells #[.slice (some ⟨g_63, 0, none⟩) n1 n1, .slice (some ⟨g_64, 0, none⟩) m1 m1, .slice (some ⟨g_65, 0, none⟩) o1 o1, .int .i64 pl1] 44)).cell? ⟨w6.heap.size, 0, none⟩ = some (.slice (some ⟨g_63, 0, none⟩) n1 n1) := by simp
    have x1_1 : (w6.alloc (.cells #[.slice (some ⟨g_63, 0, none⟩) n1 n1, .slice (some ⟨g_64, 0, none⟩) m1 m1, .slice (some ⟨g_65, 0, none⟩) o1 o1, .int .i64 pl1] 44)).cell? ⟨w6.heap.size, 1, none⟩ = some (.slice (some ⟨g_64, 0, none⟩) m1 m1) := by simp
    have x1_2 : (w6.alloc (.cells #[.slice (some ⟨g_63, 0, none⟩) n1 n1, .slice (some ⟨g_64, 0, none⟩) m1 m1, .slice (some ⟨g_65, 0, none⟩) o1 o1, .int .i64 pl1] 44)).cell? ⟨w6.heap.size, 2, none⟩ = some (.slice (some ⟨g_65, 0, none⟩) o1 o1) := by simp
    have x1_3 : (w6.alloc (.cells #[.slice (some ⟨g_63, 0, none⟩) n1 n1, .slice (some ⟨g_64, 0, none⟩) m1 m1, .slice (some ⟨g_65, 0, none⟩) o1 o1, .int .i64 pl1] 44)).cell? ⟨w6.heap.size, 3, none⟩ = some (.int .i64 pl1) := by simp
    have x1_l := sz_75
    generalize w6.alloc (.cells #[.slice (some ⟨g_63, 0, none⟩) n1 n1, .slice (some ⟨g_64, 0, none⟩) m1 m1, .slice (some ⟨g_65, 0, none⟩) o1 o1, .int .i64 pl1] 44) = w7 at hb_74 x1_0 x1_1 x1_2 x1_3 sz_75 x1_l ⊢
    replace in0 := in0.next hb_74 (by omega)
    replace in1a := in1a.next hb_74 (by omega)
    replace in1b := in1b.next hb_74 (by omega)
    replace in1c := in1c.next hb_74 (by omega)
    replace a1_0 := cell_next a1_0 hb_74
    replace a1_1 := cell_next a1_1 hb_74
    replace a1_2 := cell_next a1_2 hb_74
    replace a1_3 := cell_next a1_3 hb_74
    replace a1_l := Nat.lt_of_lt_of_le a1_l hb_74.size
    replace w0_0 := cell_next w0_0 hb_74
    replace w0_1 := cell_next w0_1 hb_74
    replace w0_2 := cell_next w0_2 hb_74
    replace w0_3 := cell_next w0_3 hb_74
    replace w0_l := Nat.lt_of_lt_of_le w0_l hb_74.size
    replace own_20 := own_20.next hb_74
    replace own_24 := own_24.next hb_74
    replace own_28 := own_28.next hb_74
    replace own_60 := own_60.next hb_74
    replace own_66 := own_66.next hb_74
    replace own_67 := own_67.next hb_74
    replace own_68 := own_68.next hb_74
    replace hB := hB.trans (hb_74.mono hB.size)
    have sz_76 := hb_74.size
    refine (HI.out w7 _ _ _ _ _ _ _ _ ((own_60.inn).more (by omega)) ((own_66.inn).more (by omega)) (Nat.le_refl _) ((own_67.inn).more (by omega)) (Nat.le_refl _) ((own_68.inn).more (by omega)) (Nat.le_refl _)).mono ?_
    rintro e w8 ⟨R_78, d_79, R_80, d_81, R_82, d_83, mid_84, mid_85, rfl, own_87, own_88, own_89, md_86, hb_77⟩
    replace in0 := in0.next hb_77 (by omega)
    replace in1a := in1a.next hb_77 (by omega)
    replace in1b := in1b.next hb_77 (by omega)
    replace in1c := in1c.next hb_77 (by omega)
    replace a1_0 := cell_next a1_0 hb_77
    replace a1_1 := cell_next a1_1 hb_77
    replace a1_2 := cell_next a1_2 hb_77
    replace a1_3 := cell_next a1_3 hb_77
    replace a1_l := Nat.lt_of_lt_of_le a1_l hb_77.size
    replace w0_0 := cell_next w0_0 hb_77
    replace w0_1 := cell_next w0_1 hb_77
    replace w0_2 := cell_next w0_2 hb_77
    replace w0_3 := cell_next w0_3 hb_77
    replace w0_l := Nat.lt_of_lt_of_le w0_l hb_77.size
    replace own_20 := own_20.next hb_77
    replace own_24 := own_24.next hb_77
    replace own_28 := own_28.next hb_77
    replace own_60 := own_60.next hb_77
    replace own_66 := own_66.next hb_77
    replace own_67 := own_67.next hb_77
    replace own_68 := own_68.next hb_77
    replace x1_0 := cell_next x1_0 hb_77
    replace x1_1 := cell_next x1_1 hb_77
    replace x1_2 := cell_next x1_2 hb_77
    replace x1_3 := cell_next x1_3 hb_77
    replace x1_l := Nat.lt_of_lt_of_le x1_l hb_77.size
    replace hB := hB.trans (hb_77.mono hB.size)
    have sz_90 := hb_77.size
    go_wp2_with fail
    have hb_91 : Below w8.heap.size w8 (w8.alloc (.cells #[.slice R_78 l00 d_79, .slice R_80 l01 d_81, .slice R_82 l02 d_83, .int .i64 r0] 44)) := bnew _ _
    have sz_92 : w8.heap.size < (w8.alloc (.cells #[.slice R_78 l00 d_79, .slice R_80 l01 d_81, .slice R_82 l02 d_83, .int .i64 r0] 44)).heap.size := by simp
    have g0_0 : (w8.alloc (.cells #[.slice R_78 l00 d_79, .slice R_80 l01 d_81, .slice R_82 l02 d_83, .int .i64 r0] 44)).cell? ⟨w8.heap.size, 0, none⟩ = some (.slice R_78 l00 d_79) := by simp
    have g0_1 : (w8.alloc (.cells #[.slice R_78 l00 d_79, .slice R_80 l01 d_81, .slice R_82 l02 d_83, .int .i64 r0] 44)).cell? ⟨w8.heap.size, 1, none⟩ = some (.slice R_80 l01 d_81) := by simp
    have g0_2 : (w8.alloc (.cells #[.slice R_78 l00 d_79, .slice R_80 l01 d_81, .slice R_82 l02 d_83, .int .i64 r0] 44)).cell? ⟨w8.heap.size, 2, none⟩ = some (.slice R_82 l02 d_83) := by simp
    have g0_3 : (w8.alloc (.cells #[.slice R_78 l00 d_79, .slice R_80 l01 d_81, .slice R_82 l02 d_83, .int .i64 r0] 44)).cell? ⟨w8.heap.size, 3, none⟩ = some (.int .i64 r0) := by simp
    have g0_l := sz_92
    generalize w8.alloc (.cells #[.slice R_78 l00 d_79, .slice R_80 l01 d_81, .slice R_82 l02 d_83, .int .i64 r0] 44) = w9 at hb_91 g0_0 g0_1 g0_2 g0_3 sz_92 g0_l ⊢
    replace in0 := in0.next hb_91 (by omega)
    replace in1a := in1a.next hb_91 (by omega)
    replace in1b := in1b.next hb_91 (by omega)
    replace in1c := in1c.next hb_91 (by omega)
    replace a1_0 := cell_next a1_0 hb_91
    replace a1_1 := cell_next a1_1 hb_91
    replace a1_2 := cell_next a1_2 hb_91
    replace a1_3 := cell_next a1_3 hb_91
    replace a1_l := Nat.lt_of_lt_of_le a1_l hb_91.size
    replace w0_0 := cell_next w0_0 hb_91
    replace w0_1 := cell_next w0_1 hb_91
    replace w0_2 := cell_next w0_2 hb_91
    replace w0_3 := cell_next w0_3 hb_91
    replace w0_l := Nat.lt_of_lt_of_le w0_l hb_91.size
    replace own_20 := own_20.next hb_91
    replace own_24 := own_24.next hb_91
    replace own_28 := own_28.next hb_91
    replace own_60 := own_60.next hb_91
    replace own_66 := own_66.next hb_91
    replace own_67 := own_67.next hb_91
    replace own_68 := own_68.next hb_91
    replace x1_0 := cell_next x1_0 hb_91
    replace x1_1 := cell_next x1_1 hb_91
    replace x1_2 := cell_next x1_2 hb_91
    replace x1_3 := cell_next x1_3 hb_91
    replace x1_l := Nat.lt_of_lt_of_le x1_l hb_91.size
    replace own_87 := own_87.next hb_91
    replace own_88 := own_88.next hb_91
    replace own_89 := own_89.next hb_91
    replace hB := hB.trans (hb_91.mono hB.size)
    have sz_93 := hb_91.size
    -- if !eqConfig(g0, w0) || g1 != w1 || g2 != w2 {
    refine (eqConfig_k R_78 R_10 l00 d_79 d_11 y00 R_80 R_12 l01 d_81 d_13 y01 R_82 R_14 l02 d_83 d_15 y02 r0 (w9.heap.size) (w9.heap.size) w9 (own_87.inn.more (by omega)) (own_88.inn.more (by omega)) (own_89.inn.more (by omega)) (own_20.inn.more (by omega)) (own_24.inn.more (by omega)) (own_28.inn.more (by omega)) (by omega) (by omega) (by omega) (by omega) (by omega)).mono ?_
    rintro e w10 ⟨rfl, hb_94⟩
    replace in0 := in0.next hb_94 (by omega)
    replace in1a := in1a.next hb_94 (by omega)
    replace in1b := in1b.next hb_94 (by omega)
    replace in1c := in1c.next hb_94 (by omega)
    replace a1_0 := cell_next a1_0 hb_94
    replace a1_1 := cell_next a1_1 hb_94
    replace a1_2 := cell_next a1_2 hb_94
    replace a1_3 := cell_next a1_3 hb_94
    replace a1_l := Nat.lt_of_lt_of_le a1_l hb_94.size
    replace w0_0 := cell_next w0_0 hb_94
    replace w0_1 := cell_next w0_1 hb_94
    replace w0_2 := cell_next w0_2 hb_94
    replace w0_3 := cell_next w0_3 hb_94
    replace w0_l := Nat.lt_of_lt_of_le w0_l hb_94.size
    replace own_20 := own_20.next hb_94
    replace own_24 := own_24.next hb_94
    replace own_28 := own_28.next hb_94
    replace own_60 := own_60.next hb_94
    replace own_66 := own_66.next hb_94
    replace own_67 := own_67.next hb_94
    replace own_68 := own_68.next hb_94
    replace x1_0 := cell_next x1_0 hb_94
    replace x1_1 := cell_next x1_1 hb_94
    replace x1_2 := cell_next x1_2 hb_94
    replace x1_3 := cell_next x1_3 hb_94
    replace x1_l := Nat.lt_of_lt_of_le x1_l hb_94.size
    replace own_87 := own_87.next hb_94
    replace own_88 := own_88.next hb_94
    replace own_89 := own_89.next hb_94
    replace g0_0 := cell_next g0_0 hb_94
    replace g0_1 := cell_next g0_1 hb_94
    replace g0_2 := cell_next g0_2 hb_94
    replace g0_3 := cell_next g0_3 hb_94
    replace g0_l := Nat.lt_of_lt_of_le g0_l hb_94.size
    replace hB := hB.trans (hb_94.mono hB.size)
    have sz_95 := hb_94.size
    go_wp2_with fail
    refine (toInstrS_k A0 n0 cap0 _ t0 _ in0 (by omega) h0ok).mono ?_
    rintro e w11 ⟨g_96, rfl, own_97, hb_98⟩
    replace in0 := in0.next hb_98 (by omega)
    replace in1a := in1a.next hb_98 (by omega)
    replace in1b := in1b.next hb_98 (by omega)
    replace in1c := in1c.next hb_98 (by omega)
    replace a1_0 := cell_next a1_0 hb_98
    replace a1_1 := cell_next a1_1 hb_98
    replace a1_2 := cell_next a1_2 hb_98
    replace a1_3 := cell_next a1_3 hb_98
    replace a1_l := Nat.lt_of_lt_of_le a1_l hb_98.size
    replace w0_0 := cell_next w0_0 hb_98
    replace w0_1 := cell_next w0_1 hb_98
    replace w0_2 := cell_next w0_2 hb_98
    replace w0_3 := cell_next w0_3 hb_98
    replace w0_l := Nat.lt_of_lt_of_le w0_l hb_98.size
    replace own_20 := own_20.next hb_98
    replace own_24 := own_24.next hb_98
    replace own_28 := own_28.next hb_98
    replace own_60 := own_60.next hb_98
    replace own_66 := own_66.next hb_98
    replace own_67 := own_67.next hb_98
    replace own_68 := own_68.next hb_98
    replace x1_0 := cell_next x1_0 hb_98
    replace x1_1 := cell_next x1_1 hb_98
    replace x1_2 := cell_next x1_2 hb_98
    replace x1_3 := cell_next x1_3 hb_98
    replace x1_l := Nat.lt_of_lt_of_le x1_l hb_98.size
    replace own_87 := own_87.next hb_98
    replace own_88 := own_88.next hb_98
    replace own_89 := own_89.next hb_98
    replace g0_0 := cell_next g0_0 hb_98
    replace g0_1 := cell_next g0_1 hb_98
    replace g0_2 := cell_next g0_2 hb_98
    replace g0_3 := cell_next g0_3 hb_98
    replace g0_l := Nat.lt_of_lt_of_le g0_l hb_98.size
    replace hB := hB.trans (hb_98.mono hB.size)
    have sz_99 := hb_98.size
    go_wp2_with fail
    refine (eqInstrS_k (some ⟨g_59, 0, none⟩) (some ⟨g_96, 0, none⟩) n0 n0 n0 _ _ t0 _ own_60.inn own_97.inn (by omega) (by omega) h0ok).mono ?_
    rintro e w12 ⟨rfl, hb_100⟩
    clear own_97
    replace in0 := in0.next hb_100 (by omega)
    replace in1a := in1a.next hb_100 (by omega)
    replace in1b := in1b.next hb_100 (by omega)
    replace in1c := in1c.next hb_100 (by omega)
    replace a1_0 := cell_next a1_0 hb_100
    replace a1_1 := cell_next a1_1 hb_100
    replace a1_2 := cell_next a1_2 hb_100
    replace a1_3 := cell_next a1_3 hb_100
    replace a1_l := Nat.lt_of_lt_of_le a1_l hb_100.size
    replace w0_0 := cell_next w0_0 hb_100
    replace w0_1 := cell_next w0_1 hb_100
    replace w0_2 := cell_next w0_2 hb_100
    replace w0_3 := cell_next w0_3 hb_100
    replace w0_l := Nat.lt_of_lt_of_le w0_l hb_100.size
    replace own_20 := own_20.next hb_100
    replace own_24 := own_24.next hb_100
    replace own_28 := own_28.next hb_100
    replace own_60 := own_60.next hb_100
    replace own_66 := own_66.next hb_100
    replace own_67 := own_67.next hb_100
    replace own_68 := own_68.next hb_100
    replace x1_0 := cell_next x1_0 hb_100
    replace x1_1 := cell_next x1_1 hb_100
    replace x1_2 := cell_next x1_2 hb_100
    replace x1_3 := cell_next x1_3 hb_100
    replace x1_l := Nat.lt_of_lt_of_le x1_l hb_100.size
    replace own_87 := own_87.next hb_100
    replace own_88 := own_88.next hb_100
    replace own_89 := own_89.next hb_100
    replace g0_0 := cell_next g0_0 hb_100
    replace g0_1 := cell_next g0_1 hb_100
    replace g0_2 := cell_next g0_2 hb_100
    replace g0_3 := cell_next g0_3 hb_100
    replace g0_l := Nat.lt_of_lt_of_le g0_l hb_100.size
    replace hB := hB.trans (hb_100.mono hB.size)
    have sz_101 := hb_100.size
    go_wp2_with fail
    have HT_102 := Lib.hid (toConfig_k A1 n1 cap1 _ z1 B1 m1 cbp1 y1 D1 o1 dap1 x1 pl1 w12.drew in1a.drew in1b.drew in1c.drew (by show _ ≤ w12.heap.size; omega) h1ok h1gok h1sok)
    have HE_103 : Hid (∀ w13 g_104 g_105 g_106 mid_111 mid_112, Below w12.drew.heap.size w12.drew w13 → OwnL w13 w12.drew.heap.size mid_111 (some ⟨g_104, 0, none⟩) n1 n1 z1 → OwnL w13 mid_111 mid_112 (some ⟨g_105, 0, none⟩) m1 m1 y1 → OwnL w13 mid_112 w13.heap.size (some ⟨g_106, 0, none⟩) o1 o1 x1 → w12.drew.heap.size ≤ mid_111 ∧ mid_111 ≤ mid_112 ∧ mid_112 ≤ w13.heap.size → Calls Try.prog 25 #[.agg #[.slice (some ⟨g_63, 0, none⟩) n1 n1, .slice (some ⟨g_64, 0, none⟩) m1 m1, .slice (some ⟨g_65, 0, none⟩) o1 o1, .int .i64 pl1], .agg #[.slice (some ⟨g_104, 0, none⟩) n1 n1, .slice (some ⟨g_105, 0, none⟩) m1 m1, .slice (some ⟨g_106, 0, none⟩) o1 o1, .int .i64 pl1]] w13 fun e w' => e = .returned (.bool true) ∧ Below w13.heap.size w13 w') := fun w13 g_104 g_105 g_106 mid_111 mid_112 hb_110 own_107 own_108 own_109 md_113 => eqConfig_k (some ⟨g_63, 0, none⟩) (some ⟨g_104, 0, none⟩) n1 n1 n1 z1 (some ⟨g_64, 0, none⟩) (some ⟨g_105, 0, none⟩) m1 m1 m1 y1 (some ⟨g_65, 0, none⟩) (some ⟨g_106, 0, none⟩) o1 o1 o1 x1 pl1 (w13.heap.size) (w13.heap.size) w13 (((own_66.inn).call (by omega) hb_110).more (le_call (by omega) hb_110)) (((own_67.inn).call (by omega) hb_110).more (le_call (by omega) hb_110)) (((own_68.inn).call (by omega) hb_110).more (le_call (by omega) hb_110)) ((own_107.inn).more (by omega)) ((own_108.inn).more (by omega)) ((own_109.inn).more (by omega)) (Nat.le_refl _) (Nat.le_refl _) h1ok h1gok h1sok
    go_region_held3 (fun w' => w'.cell? ⟨w.heap.size, 0, none⟩ = some (.slice A1 n1 cap1) ∧ w'.cell? ⟨w.heap.size, 1, none⟩ = some (.slice B1 m1 cbp1) ∧ w'.cell? ⟨w.heap.size, 2, none⟩ = some (.slice D1 o1 dap1) ∧ w'.cell? ⟨w.heap.size, 3, none⟩ = some (.int .i64 pl1) ∧ w'.cell? ⟨w6.heap.size, 0, none⟩ = some (.slice (some ⟨g_63, 0, none⟩) n1 n1) ∧ w'.cell? ⟨w6.heap.size, 1, none⟩ = some (.slice (some ⟨g_64, 0, none⟩) m1 m1) ∧ w'.cell? ⟨w6.heap.size, 2, none⟩ = some (.slice (some ⟨g_65, 0, none⟩) o1 o1) ∧ w'.cell? ⟨w6.heap.size, 3, none⟩ = some (.int .i64 pl1))
      (first | go_keep | exact ⟨cell_on a1_0 hb_110, cell_on a1_1 hb_110, cell_on a1_2 hb_110, cell_on a1_3 hb_110, cell_on x1_0 hb_110, cell_on x1_1 hb_110, cell_on x1_2 hb_110, cell_on x1_3 hb_110⟩ | exact ⟨cell_on2 a1_0 hb_110 hb_115, cell_on2 a1_1 hb_110 hb_115, cell_on2 a1_2 hb_110 hb_115, cell_on2 a1_3 hb_110 hb_115, cell_on2 x1_0 hb_110 hb_115, cell_on2 x1_1 hb_110 hb_115, cell_on2 x1_2 hb_110 hb_115, cell_on2 x1_3 hb_110 hb_115⟩)
      (first | (go_at_call 23; refine HT_102.out.mono ?_; rintro e w13 ⟨g_104, g_105, g_106, mid_111, mid_112, rfl, own_107, own_108, own_109, md_113, hb_110⟩) | (go_at_call 25; refine (HE_103.out _ _ _ _ _ _ hb_110 own_107 own_108 own_109 md_113).mono ?_; rintro e w14 ⟨rfl, hb_115⟩))
    replace hb_110 := (bstep hb_110)
    replace in0 := in0.next hb_110 (by omega)
    replace in1a := in1a.next hb_110 (by omega)
    replace in1b := in1b.next hb_110 (by omega)
    replace in1c := in1c.next hb_110 (by omega)
    replace a1_0 := cell_next a1_0 hb_110
    replace a1_1 := cell_next a1_1 hb_110
    replace a1_2 := cell_next a1_2 hb_110
    replace a1_3 := cell_next a1_3 hb_110
    replace a1_l := Nat.lt_of_lt_of_le a1_l hb_110.size
    replace w0_0 := cell_next w0_0 hb_110
    replace w0_1 := cell_next w0_1 hb_110
    replace w0_2 := cell_next w0_2 hb_110
    replace w0_3 := cell_next w0_3 hb_110
    replace w0_l := Nat.lt_of_lt_of_le w0_l hb_110.size
    replace own_20 := own_20.next hb_110
    replace own_24 := own_24.next hb_110
    replace own_28 := own_28.next hb_110
    replace own_60 := own_60.next hb_110
    replace own_66 := own_66.next hb_110
    replace own_67 := own_67.next hb_110
    replace own_68 := own_68.next hb_110
    replace x1_0 := cell_next x1_0 hb_110
    replace x1_1 := cell_next x1_1 hb_110
    replace x1_2 := cell_next x1_2 hb_110
    replace x1_3 := cell_next x1_3 hb_110
    replace x1_l := Nat.lt_of_lt_of_le x1_l hb_110.size
    replace own_87 := own_87.next hb_110
    replace own_88 := own_88.next hb_110
    replace own_89 := own_89.next hb_110
    replace g0_0 := cell_next g0_0 hb_110
    replace g0_1 := cell_next g0_1 hb_110
    replace g0_2 := cell_next g0_2 hb_110
    replace g0_3 := cell_next g0_3 hb_110
    replace g0_l := Nat.lt_of_lt_of_le g0_l hb_110.size
    replace hB := hB.trans (hb_110.mono hB.size)
    have sz_116 := hb_110.size
    replace in0 := in0.next hb_115 (by omega)
    replace in1a := in1a.next hb_115 (by omega)
    replace in1b := in1b.next hb_115 (by omega)
    replace in1c := in1c.next hb_115 (by omega)
    replace a1_0 := cell_next a1_0 hb_115
    replace a1_1 := cell_next a1_1 hb_115
    replace a1_2 := cell_next a1_2 hb_115
    replace a1_3 := cell_next a1_3 hb_115
    replace a1_l := Nat.lt_of_lt_of_le a1_l hb_115.size
    replace w0_0 := cell_next w0_0 hb_115
    replace w0_1 := cell_next w0_1 hb_115
    replace w0_2 := cell_next w0_2 hb_115
    replace w0_3 := cell_next w0_3 hb_115
    replace w0_l := Nat.lt_of_lt_of_le w0_l hb_115.size
    replace own_20 := own_20.next hb_115
    replace own_24 := own_24.next hb_115
    replace own_28 := own_28.next hb_115
    replace own_60 := own_60.next hb_115
    replace own_66 := own_66.next hb_115
    replace own_67 := own_67.next hb_115
    replace own_68 := own_68.next hb_115
    replace x1_0 := cell_next x1_0 hb_115
    replace x1_1 := cell_next x1_1 hb_115
    replace x1_2 := cell_next x1_2 hb_115
    replace x1_3 := cell_next x1_3 hb_115
    replace x1_l := Nat.lt_of_lt_of_le x1_l hb_115.size
    replace own_87 := own_87.next hb_115
    replace own_88 := own_88.next hb_115
    replace own_89 := own_89.next hb_115
    replace g0_0 := cell_next g0_0 hb_115
    replace g0_1 := cell_next g0_1 hb_115
    replace g0_2 := cell_next g0_2 hb_115
    replace g0_3 := cell_next g0_3 hb_115
    replace g0_l := Nat.lt_of_lt_of_le g0_l hb_115.size
    replace hB := hB.trans (hb_115.mono hB.size)
    have sz_117 := hb_115.size
    clear HT_102 HE_103 own_107 own_108 own_109
    go_wp2_with fail
    refine (markInstrS_k w4.heap.size w5.heap.size (some ⟨g_59, 0, none⟩) n0 n0 t0 1 _ own_60 (by omega) (by omega) (by omega)).mono ?_
    rintro e w15 ⟨rfl, own_119, ho_118⟩
    replace in0 := in0.out ho_118 (by omega) (by omega)
    replace in1a := in1a.out ho_118 (by omega) (by omega)
    replace in1b := in1b.out ho_118 (by omega) (by omega)
    replace in1c := in1c.out ho_118 (by omega) (by omega)
    replace a1_0 := ho_118.cell a1_0 (by omega)
    replace a1_1 := ho_118.cell a1_1 (by omega)
    replace a1_2 := ho_118.cell a1_2 (by omega)
    replace a1_3 := ho_118.cell a1_3 (by omega)
    replace a1_l := Nat.lt_of_lt_of_le a1_l ho_118.size
    replace w0_0 := ho_118.cell w0_0 (by omega)
    replace w0_1 := ho_118.cell w0_1 (by omega)
    replace w0_2 := ho_118.cell w0_2 (by omega)
    replace w0_3 := ho_118.cell w0_3 (by omega)
    replace w0_l := Nat.lt_of_lt_of_le w0_l ho_118.size
    replace own_20 := own_20.out ho_118 (by omega)
    replace own_24 := own_24.out ho_118 (by omega)
    replace own_28 := own_28.out ho_118 (by omega)
    replace own_66 := own_66.out ho_118 (by omega)
    replace own_67 := own_67.out ho_118 (by omega)
    replace own_68 := own_68.out ho_118 (by omega)
    replace x1_0 := ho_118.cell x1_0 (by omega)
    replace x1_1 := ho_118.cell x1_1 (by omega)
    replace x1_2 := ho_118.cell x1_2 (by omega)
    replace x1_3 := ho_118.cell x1_3 (by omega)
    replace x1_l := Nat.lt_of_lt_of_le x1_l ho_118.size
    replace own_87 := own_87.out ho_118 (by omega)
    replace own_88 := own_88.out ho_118 (by omega)
    replace own_89 := own_89.out ho_118 (by omega)
    replace g0_0 := ho_118.cell g0_0 (by omega)
    replace g0_1 := ho_118.cell g0_1 (by omega)
    replace g0_2 := ho_118.cell g0_2 (by omega)
    replace g0_3 := ho_118.cell g0_3 (by omega)
    replace g0_l := Nat.lt_of_lt_of_le g0_l ho_118.size
    replace hB := hB.trans (ho_118.below (by omega) (by omega))
    have sz_120 := ho_118.size
    clear own_60
    have mk_121 : (0 : Int) ≤ 1 + 2 * (n0 : Int) := by omega
    clear own_119
    go_wp2_with fail
    refine (markConfig_k w5.heap.size mid_70 mid_71 w6.heap.size (some ⟨g_63, 0, none⟩) n1 n1 z1 (some ⟨g_64, 0, none⟩) m1 m1 y1 (some ⟨g_65, 0, none⟩) o1 o1 x1 pl1 (1 + 2 * (n0 : Int)) _ own_66 own_67 own_68 (by omega) (by omega) (by omega) (by omega) (by omega) (by omega) (by omega) (by omega)).mono ?_
    rintro e w16 ⟨rfl, own_123, own_124, own_125, ho_122⟩
    replace in0 := in0.out ho_122 (by omega) (by omega)
    replace in1a := in1a.out ho_122 (by omega) (by omega)
    replace in1b := in1b.out ho_122 (by omega) (by omega)
    replace in1c := in1c.out ho_122 (by omega) (by omega)
    replace a1_0 := ho_122.cell a1_0 (by omega)
    replace a1_1 := ho_122.cell a1_1 (by omega)
    replace a1_2 := ho_122.cell a1_2 (by omega)
    replace a1_3 := ho_122.cell a1_3 (by omega)
    replace a1_l := Nat.lt_of_lt_of_le a1_l ho_122.size
    replace w0_0 := ho_122.cell w0_0 (by omega)
    replace w0_1 := ho_122.cell w0_1 (by omega)
    replace w0_2 := ho_122.cell w0_2 (by omega)
    replace w0_3 := ho_122.cell w0_3 (by omega)
    replace w0_l := Nat.lt_of_lt_of_le w0_l ho_122.size
    replace own_20 := own_20.out ho_122 (by omega)
    replace own_24 := own_24.out ho_122 (by omega)
    replace own_28 := own_28.out ho_122 (by omega)
    replace x1_0 := ho_122.cell x1_0 (by omega)
    replace x1_1 := ho_122.cell x1_1 (by omega)
    replace x1_2 := ho_122.cell x1_2 (by omega)
    replace x1_3 := ho_122.cell x1_3 (by omega)
    replace x1_l := Nat.lt_of_lt_of_le x1_l ho_122.size
    replace own_87 := own_87.out ho_122 (by omega)
    replace own_88 := own_88.out ho_122 (by omega)
    replace own_89 := own_89.out ho_122 (by omega)
    replace g0_0 := ho_122.cell g0_0 (by omega)
    replace g0_1 := ho_122.cell g0_1 (by omega)
    replace g0_2 := ho_122.cell g0_2 (by omega)
    replace g0_3 := ho_122.cell g0_3 (by omega)
    replace g0_l := Nat.lt_of_lt_of_le g0_l ho_122.size
    replace hB := hB.trans (ho_122.below (by omega) (by omega))
    have sz_126 := ho_122.size
    clear own_66 own_67 own_68
    have mk_127 : (0 : Int) ≤ 1 + 2 * (n0 : Int) + (n1 : Int) + (m1 : Int) + (o1 : Int) := by omega
    clear x1_0 x1_1 x1_2 x1_3 x1_l
    clear own_123 own_124 own_125
    go_wp2_with fail
    -- if k < 0 || !eqConfig(g0, w0) || g1 != w1 || g2 != w2 {
    refine (eqConfig_k R_78 R_10 l00 d_79 d_11 y00 R_80 R_12 l01 d_81 d_13 y01 R_82 R_14 l02 d_83 d_15 y02 r0 (w16.heap.size) (w16.heap.size) w16 (own_87.inn.more (by omega)) (own_88.inn.more (by omega)) (own_89.inn.more (by omega)) (own_20.inn.more (by omega)) (own_24.inn.more (by omega)) (own_28.inn.more (by omega)) (by omega) (by omega) (by omega) (by omega) (by omega)).mono ?_
    rintro e w17 ⟨rfl, hb_128⟩
    replace in0 := in0.next hb_128 (by omega)
    replace in1a := in1a.next hb_128 (by omega)
    replace in1b := in1b.next hb_128 (by omega)
    replace in1c := in1c.next hb_128 (by omega)
    replace a1_0 := cell_next a1_0 hb_128
    replace a1_1 := cell_next a1_1 hb_128
    replace a1_2 := cell_next a1_2 hb_128
    replace a1_3 := cell_next a1_3 hb_128
    replace a1_l := Nat.lt_of_lt_of_le a1_l hb_128.size
    replace w0_0 := cell_next w0_0 hb_128
    replace w0_1 := cell_next w0_1 hb_128
    replace w0_2 := cell_next w0_2 hb_128
    replace w0_3 := cell_next w0_3 hb_128
    replace w0_l := Nat.lt_of_lt_of_le w0_l hb_128.size
    replace own_20 := own_20.next hb_128
    replace own_24 := own_24.next hb_128
    replace own_28 := own_28.next hb_128
    replace own_87 := own_87.next hb_128
    replace own_88 := own_88.next hb_128
    replace own_89 := own_89.next hb_128
    replace g0_0 := cell_next g0_0 hb_128
    replace g0_1 := cell_next g0_1 hb_128
    replace g0_2 := cell_next g0_2 hb_128
    replace g0_3 := cell_next g0_3 hb_128
    replace g0_l := Nat.lt_of_lt_of_le g0_l hb_128.size
    replace hB := hB.trans (hb_128.mono hB.size)
    have sz_129 := hb_128.size
    go_wp2_with fail
    refine (markConfig_k w7.heap.size mid_84 mid_85 w8.heap.size R_78 l00 d_79 y00 R_80 l01 d_81 y01 R_82 l02 d_83 y02 r0 1 _ own_87 own_88 own_89 (by omega) (by omega) (by omega) (by omega) (by omega) (by omega) (by omega) (by omega)).mono ?_
    rintro e w18 ⟨rfl, own_131, own_132, own_133, ho_130⟩
    replace in0 := in0.out ho_130 (by omega) (by omega)
    replace in1a := in1a.out ho_130 (by omega) (by omega)
    replace in1b := in1b.out ho_130 (by omega) (by omega)
    replace in1c := in1c.out ho_130 (by omega) (by omega)
    replace a1_0 := ho_130.cell a1_0 (by omega)
    replace a1_1 := ho_130.cell a1_1 (by omega)
    replace a1_2 := ho_130.cell a1_2 (by omega)
    replace a1_3 := ho_130.cell a1_3 (by omega)
    replace a1_l := Nat.lt_of_lt_of_le a1_l ho_130.size
    replace w0_0 := ho_130.cell w0_0 (by omega)
    replace w0_1 := ho_130.cell w0_1 (by omega)
    replace w0_2 := ho_130.cell w0_2 (by omega)
    replace w0_3 := ho_130.cell w0_3 (by omega)
    replace w0_l := Nat.lt_of_lt_of_le w0_l ho_130.size
    replace own_20 := own_20.out ho_130 (by omega)
    replace own_24 := own_24.out ho_130 (by omega)
    replace own_28 := own_28.out ho_130 (by omega)
    replace g0_0 := ho_130.cell g0_0 (by omega)
    replace g0_1 := ho_130.cell g0_1 (by omega)
    replace g0_2 := ho_130.cell g0_2 (by omega)
    replace g0_3 := ho_130.cell g0_3 (by omega)
    replace g0_l := Nat.lt_of_lt_of_le g0_l ho_130.size
    replace hB := hB.trans (ho_130.below (by omega) (by omega))
    have sz_134 := ho_130.size
    clear own_87 own_88 own_89
    have mk_135 : (0 : Int) ≤ 1 + (l00 : Int) + (l01 : Int) + (l02 : Int) := by omega
    go_wp2_with fail
    refine (heldConfig_k R_78 l00 d_79 R_80 l01 d_81 R_82 l02 d_83 _ r0 1 _ own_131.all own_132.all own_133.all (Nat.le_refl _) (by omega) (by omega) (by omega) (by omega) (by omega)).mono ?_
    rintro e w19 ⟨rfl, hb_136⟩
    replace in0 := in0.next hb_136 (by omega)
    replace in1a := in1a.next hb_136 (by omega)
    replace in1b := in1b.next hb_136 (by omega)
    replace in1c := in1c.next hb_136 (by omega)
    replace a1_0 := cell_next a1_0 hb_136
    replace a1_1 := cell_next a1_1 hb_136
    replace a1_2 := cell_next a1_2 hb_136
    replace a1_3 := cell_next a1_3 hb_136
    replace a1_l := Nat.lt_of_lt_of_le a1_l hb_136.size
    replace w0_0 := cell_next w0_0 hb_136
    replace w0_1 := cell_next w0_1 hb_136
    replace w0_2 := cell_next w0_2 hb_136
    replace w0_3 := cell_next w0_3 hb_136
    replace w0_l := Nat.lt_of_lt_of_le w0_l hb_136.size
    replace own_20 := own_20.next hb_136
    replace own_24 := own_24.next hb_136
    replace own_28 := own_28.next hb_136
    replace g0_0 := cell_next g0_0 hb_136
    replace g0_1 := cell_next g0_1 hb_136
    replace g0_2 := cell_next g0_2 hb_136
    replace g0_3 := cell_next g0_3 hb_136
    replace g0_l := Nat.lt_of_lt_of_le g0_l hb_136.size
    replace own_131 := own_131.next hb_136
    replace own_132 := own_132.next hb_136
    replace own_133 := own_133.next hb_136
    replace hB := hB.trans (hb_136.mono hB.size)
    have sz_137 := hb_136.size
    have mk_138 : (0 : Int) ≤ 1 + (l00 : Int) + (l01 : Int) + (l02 : Int) := by omega
    go_wp2_with fail
    go_cut [17, 18, 19] (fun s17 s18 s19 wx => ∃ (R_139 : Option Addr) (d_140 : Nat) (R_141 : Option Addr) (d_142 : Nat) (R_143 : Option Addr) (d_144 : Nat) (bx_147 : Nat) (lo_150 hi_151 : Nat) (lo_154 hi_155 : Nat) (lo_158 hi_159 : Nat), s17 = .pointer (some ⟨bx_147, 0, none⟩) ∧ s18 = .int .i64 r1 ∧ s19 = .bool r2 ∧ wx.cell? ⟨bx_147, 0, none⟩ = some (.slice R_139 l00 d_140) ∧ wx.cell? ⟨bx_147, 1, none⟩ = some (.slice R_141 l01 d_142) ∧ wx.cell? ⟨bx_147, 2, none⟩ = some (.slice R_143 l02 d_144) ∧ wx.cell? ⟨bx_147, 3, none⟩ = some (.int .i64 r0) ∧ bx_147 < wx.heap.size ∧ w19.heap.size ≤ bx_147 ∧ OwnL wx lo_150 hi_151 R_139 l00 d_140 y00 ∧ (w19.heap.size ≤ lo_150 ∧ lo_150 ≤ hi_151 ∧ hi_151 ≤ wx.heap.size) ∧ OwnL wx lo_154 hi_155 R_141 l01 d_142 y01 ∧ (w19.heap.size ≤ lo_154 ∧ lo_154 ≤ hi_155 ∧ hi_155 ≤ wx.heap.size) ∧ OwnL wx lo_158 hi_159 R_143 l02 d_144 y02 ∧ (w19.heap.size ≤ lo_158 ∧ lo_158 ≤ hi_159 ∧ hi_159 ≤ wx.heap.size) ∧ Below w19.heap.size w19 wx)
    case first =>
      have HT_162 := Lib.hid (fun (x : World) (h : Below w19.drew.heap.size w19.drew x) => toInstrS_k A0 n0 cap0 _ t0 x (in0.call (by omega) h) (le_call (by omega) h) h0ok)
      have HT_167 := Lib.hid (fun (x : World) (h : Below w19.drew.heap.size w19.drew x) => toConfig_k A1 n1 cap1 _ z1 B1 m1 cbp1 y1 D1 o1 dap1 x1 pl1 x (in1a.call (by omega) h) (in1b.call (by omega) h) (in1c.call (by omega) h) (le_call (by omega) h) h1ok h1gok h1sok)
      have hD0 : Below w19.drew.heap.size w19.drew w19.drew := Below.refl _ _
      have sc0_0 : w19.drew.cell? ⟨w.heap.size, 0, none⟩ = some (.slice A1 n1 cap1) := a1_0
      have sc1_0 : w19.drew.cell? ⟨w.heap.size, 1, none⟩ = some (.slice B1 m1 cbp1) := a1_1
      have sc2_0 : w19.drew.cell? ⟨w.heap.size, 2, none⟩ = some (.slice D1 o1 dap1) := a1_2
      have sc3_0 : w19.drew.cell? ⟨w.heap.size, 3, none⟩ = some (.int .i64 pl1) := a1_3
      refine wp_region_held_drew (S := fun w' => w'.cell? ⟨w.heap.size, 0, none⟩ = some (.slice A1 n1 cap1) ∧ w'.cell? ⟨w.heap.size, 1, none⟩ = some (.slice B1 m1 cbp1) ∧ w'.cell? ⟨w.heap.size, 2, none⟩ = some (.slice D1 o1 dap1) ∧ w'.cell? ⟨w.heap.size, 3, none⟩ = some (.int .i64 pl1)) (by kernel_rfl) ⟨sc0_0, sc1_0, sc2_0, sc3_0⟩ ?_
      intro hHeld0
      refine wpAnyH_take (i := 0) (v := ?_) rfl (by kernel_rfl) (by kernel_rfl) (by kernel_rfl) (fun _ _ _ h => h) (Or.inl ⟨by kernel_rfl, ?_⟩) (by assumption) ?_
      rotate_left
      · intro w9 hS9; (try dsimp only at hS9); go_simp; (try with_reducible rfl)
      set_option linter.unusedSimpArgs false in try simp only [Act.put, List.getElem_toArray, List.getElem_cons_succ, List.getElem_cons_zero, List.setIfInBounds_toArray, List.set_cons_zero, List.set_cons_succ]
      refine wpAnyH_take (i := 2) (v := ?_) rfl (by kernel_rfl) (by kernel_rfl) (by kernel_rfl) (fun _ _ _ h => h) (Or.inl ⟨by kernel_rfl, ?_⟩) (by assumption) ?_
      rotate_left
      · intro w9 hS9; (try dsimp only at hS9); go_simp; (try with_reducible rfl)
      set_option linter.unusedSimpArgs false in try simp only [Act.put, List.getElem_toArray, List.getElem_cons_succ, List.getElem_cons_zero, List.setIfInBounds_toArray, List.set_cons_zero, List.set_cons_succ]
      refine wpAnyH_ready (rs := [1, 9]) (by kernel_rfl) (by simp) ?_
      refine AllReadyH.cons rfl (fun K hK => ?_) (AllReadyH.cons rfl (fun K hK => ?_) AllReadyH.nil)
      · go_simp
        go_wp2_with (go_at_call 18; refine (HT_162.out _ (hD0)).mono ?_; rintro e v1 ⟨g_165, rfl, oa2, hb1⟩)
        have hw1 := bon (hD0) hb1
        have sc0_3 := cell_next (show w19.drew.cell? _ = _ from sc0_0) hb1
        have sc1_4 := cell_next (show w19.drew.cell? _ = _ from sc1_0) hb1
        have sc2_5 := cell_next (show w19.drew.cell? _ = _ from sc2_0) hb1
        have sc3_6 := cell_next (show w19.drew.cell? _ = _ from sc3_0) hb1
        refine hK.out _ _ ⟨sc0_3, sc1_4, sc2_5, sc3_6⟩ (fun hHeld7 => ?_)
        clear hK K hHeld0
        set_option linter.unusedSimpArgs false in try simp only [Act.put, List.getElem_toArray, List.getElem_cons_succ, List.getElem_cons_zero, List.setIfInBounds_toArray, List.set_cons_zero, List.set_cons_succ]
        refine wpAnyH_ready (rs := [3, 9]) (by kernel_rfl) (by simp) ?_
        refine AllReadyH.cons rfl (fun K hK => ?_) (AllReadyH.cons rfl (fun K hK => ?_) AllReadyH.nil)
        · go_simp
          go_wp2_with (go_at_call 23; refine (HT_167.out _ (hw1)).mono ?_; rintro e v8 ⟨g_170, g_171, g_172, mz0, mz1, rfl, oa9, oa10, oa11, mdz, hb8⟩)
          have hw8 := bon (hw1) hb8
          have sc0_12 := cell_next (show v1.cell? _ = _ from sc0_3) hb8
          have sc1_13 := cell_next (show v1.cell? _ = _ from sc1_4) hb8
          have sc2_14 := cell_next (show v1.cell? _ = _ from sc2_5) hb8
          have sc3_15 := cell_next (show v1.cell? _ = _ from sc3_6) hb8
          have oa2_16 := oa2.next hb8
          refine hK.out _ _ ⟨sc0_12, sc1_13, sc2_14, sc3_15⟩ (fun hHeld17 => ?_)
          clear hK K hHeld7
          set_option linter.unusedSimpArgs false in try simp only [Act.put, List.getElem_toArray, List.getElem_cons_succ, List.getElem_cons_zero, List.setIfInBounds_toArray, List.set_cons_zero, List.set_cons_succ]
          refine wpAnyH_ready (rs := [4, 9]) (by kernel_rfl) (by simp) ?_
          refine AllReadyH.cons rfl (fun K hK => ?_) (AllReadyH.cons rfl (fun K hK => ?_) AllReadyH.nil)
          · go_simp
            go_wp2_with (go_at_call 27; refine (HI.out _ _ _ _ _ _ _ _ _ oa2_16.all oa9.all (Nat.le_refl _) oa10.all (Nat.le_refl _) oa11.all (Nat.le_refl _)).mono ?_; rintro e v18 ⟨R_139, d_140, R_141, d_142, R_143, d_144, mx0, mx1, rfl, op19, op20, op21, mdx, hb18⟩)
            have hw18 := bon (hw8) hb18
            have sc0_22 := cell_next (show v8.cell? _ = _ from sc0_12) hb18
            have sc1_23 := cell_next (show v8.cell? _ = _ from sc1_13) hb18
            have sc2_24 := cell_next (show v8.cell? _ = _ from sc2_14) hb18
            have sc3_25 := cell_next (show v8.cell? _ = _ from sc3_15) hb18
            have oa2_16_26 := oa2_16.next hb18
            have oa9_27 := oa9.next hb18
            have oa10_28 := oa10.next hb18
            have oa11_29 := oa11.next hb18
            refine hK.out _ _ ⟨sc0_22, sc1_23, sc2_24, sc3_25⟩ (fun hHeld30 => ?_)
            clear hK K hHeld17
            set_option linter.unusedSimpArgs false in try simp only [Act.put, List.getElem_toArray, List.getElem_cons_succ, List.getElem_cons_zero, List.setIfInBounds_toArray, List.set_cons_zero, List.set_cons_succ]
            refine wpAnyH_take (i := 5) (v := ?_) rfl (by kernel_rfl) (by kernel_rfl) (by kernel_rfl) (fun _ _ _ h => h) (Or.inl ⟨by kernel_rfl, ?_⟩) (by assumption) ?_
            rotate_left
            · intro w9 hS9; (try dsimp only at hS9); go_simp; (try with_reducible rfl)
            set_option linter.unusedSimpArgs false in try simp only [Act.put, List.getElem_toArray, List.getElem_cons_succ, List.getElem_cons_zero, List.setIfInBounds_toArray, List.set_cons_zero, List.set_cons_succ]
            refine wpAnyH_take (i := 6) (v := ?_) rfl (by kernel_rfl) (by kernel_rfl) (by kernel_rfl) (fun _ _ _ h => h) (Or.inl ⟨by kernel_rfl, ?_⟩) (by assumption) ?_
            rotate_left
            · intro w9 hS9; (try dsimp only at hS9); go_simp; (try with_reducible rfl)
            set_option linter.unusedSimpArgs false in try simp only [Act.put, List.getElem_toArray, List.getElem_cons_succ, List.getElem_cons_zero, List.setIfInBounds_toArray, List.set_cons_zero, List.set_cons_succ]
            refine wpAnyH_take (i := 7) (v := ?_) rfl (by kernel_rfl) (by kernel_rfl) (by kernel_rfl) (fun _ _ _ h => h) (Or.inl ⟨by kernel_rfl, ?_⟩) (by assumption) ?_
            rotate_left
            · intro w9 hS9; (try dsimp only at hS9); go_simp; (try with_reducible rfl)
            set_option linter.unusedSimpArgs false in try simp only [Act.put, List.getElem_toArray, List.getElem_cons_succ, List.getElem_cons_zero, List.setIfInBounds_toArray, List.set_cons_zero, List.set_cons_succ]
            refine wpAnyH_take (i := 8) (v := ?_) rfl (by kernel_rfl) (by kernel_rfl) (by kernel_rfl) (fun _ _ _ h => h) (Or.inl ⟨by kernel_rfl, ?_⟩) (by assumption) ?_
            rotate_left
            · intro w9 hS9; (try dsimp only at hS9); go_simp; (try with_reducible rfl)
            set_option linter.unusedSimpArgs false in try simp only [Act.put, List.getElem_toArray, List.getElem_cons_succ, List.getElem_cons_zero, List.setIfInBounds_toArray, List.set_cons_zero, List.set_cons_succ]
            refine wpAnyH_ready (rs := [9]) (by kernel_rfl) (by simp) ?_
            refine AllReadyH.cons rfl (fun K hK => ?_) AllReadyH.nil
            go_simp
            have sc0_31 := cell_next sc0_22 (bnew v18 (.cells #[.slice none 0 0, .slice none 0 0, .slice none 0 0, .int .i64 0] 44))
            have sc1_32 := cell_next sc1_23 (bnew v18 (.cells #[.slice none 0 0, .slice none 0 0, .slice none 0 0, .int .i64 0] 44))
            have sc2_33 := cell_next sc2_24 (bnew v18 (.cells #[.slice none 0 0, .slice none 0 0, .slice none 0 0, .int .i64 0] 44))
            have sc3_34 := cell_next sc3_25 (bnew v18 (.cells #[.slice none 0 0, .slice none 0 0, .slice none 0 0, .int .i64 0] 44))
            refine hK.out _ _ ⟨sc0_31, sc1_32, sc2_33, sc3_34⟩ (fun hHeld35 => ?_)
            clear hK K hHeld30
            set_option linter.unusedSimpArgs false in try simp only [Act.put, List.getElem_toArray, List.getElem_cons_succ, List.getElem_cons_zero, List.setIfInBounds_toArray, List.set_cons_zero, List.set_cons_succ]
            refine wpAnyH_ready (rs := [10]) (by kernel_rfl) (by simp) ?_
            refine AllReadyH.cons rfl (fun K hK => ?_) AllReadyH.nil
            go_simp
            have sc0_36 := cell_next sc0_22 (bnew v18 (.cells #[.slice R_139 l00 d_140, .slice R_141 l01 d_142, .slice R_143 l02 d_144, .int .i64 r0] 44))
            have sc1_37 := cell_next sc1_23 (bnew v18 (.cells #[.slice R_139 l00 d_140, .slice R_141 l01 d_142, .slice R_143 l02 d_144, .int .i64 r0] 44))
            have sc2_38 := cell_next sc2_24 (bnew v18 (.cells #[.slice R_139 l00 d_140, .slice R_141 l01 d_142, .slice R_143 l02 d_144, .int .i64 r0] 44))
            have sc3_39 := cell_next sc3_25 (bnew v18 (.cells #[.slice R_139 l00 d_140, .slice R_141 l01 d_142, .slice R_143 l02 d_144, .int .i64 r0] 44))
            refine hK.out _ _ ⟨sc0_36, sc1_37, sc2_38, sc3_39⟩ (fun hHeld40 => ?_)
            clear hK K hHeld35
            set_option linter.unusedSimpArgs false in try simp only [Act.put, List.getElem_toArray, List.getElem_cons_succ, List.getElem_cons_zero, List.setIfInBounds_toArray, List.set_cons_zero, List.set_cons_succ]
            refine wpAnyH_take (i := 11) (v := ?_) rfl (by kernel_rfl) (by kernel_rfl) (by kernel_rfl) (fun _ _ _ h => h) (Or.inl ⟨by kernel_rfl, ?_⟩) (by assumption) ?_
            rotate_left
            · intro w9 hS9; (try dsimp only at hS9); go_simp; (try with_reducible rfl)
            set_option linter.unusedSimpArgs false in try simp only [Act.put, List.getElem_toArray, List.getElem_cons_succ, List.getElem_cons_zero, List.setIfInBounds_toArray, List.set_cons_zero, List.set_cons_succ]
            refine wpAnyH_take (i := 12) (v := ?_) rfl (by kernel_rfl) (by kernel_rfl) (by kernel_rfl) (fun _ _ _ h => h) (Or.inl ⟨by kernel_rfl, ?_⟩) (by assumption) ?_
            rotate_left
            · intro w9 hS9; (try dsimp only at hS9); go_simp; (try with_reducible rfl)
            set_option linter.unusedSimpArgs false in try simp only [Act.put, List.getElem_toArray, List.getElem_cons_succ, List.getElem_cons_zero, List.setIfInBounds_toArray, List.set_cons_zero, List.set_cons_succ]
            refine wpAnyH_done (by kernel_rfl) ?_ _
            go_wp2_with fail
            go_meet
            exact ⟨_, _, _, _, _, _, _, _, _, _, _, _, _, rfl, rfl, rfl, fin_new4 (bstep (hw8)) hb18 op19 (by have := hb18.size; omega) op20 (by have := hb18.size; omega) op21 (by have := hb18.size; omega)⟩
          · go_simp
            have hA41 : Below w19.drew.heap.size w19.drew (v8.alloc (.cells #[.slice none 0 0, .slice none 0 0, .slice none 0 0, .int .i64 0] 44)) := bon (hw8) (bnew v8 _)
            have hA41b0 : BlkIs (v8.alloc (.cells #[.slice none 0 0, .slice none 0 0, .slice none 0 0, .int .i64 0] 44)) v8.heap.size 44 #[.slice none 0 0, .slice none 0 0, .slice none 0 0, .int .i64 0] := blk_new _ _ _ _ rfl
            have hA41b : BlkIs (v8.alloc (.cells #[.slice none 0 0, .slice none 0 0, .slice none 0 0, .int .i64 0] 44)) v8.heap.size 44 #[.slice none 0 0, .slice none 0 0, .slice none 0 0, .int .i64 0] := hA41b0
            have hA41g : w19.heap.size ≤ v8.heap.size := (bstep (hw8)).size
            have sc0_42 : (v8.alloc (.cells #[.slice none 0 0, .slice none 0 0, .slice none 0 0, .int .i64 0] 44)).cell? ⟨w.heap.size, 0, none⟩ = some (.slice A1 n1 cap1) := cell_next (w1 := v8.alloc (.cells #[.slice none 0 0, .slice none 0 0, .slice none 0 0, .int .i64 0] 44)) (show v8.cell? _ = _ from sc0_12) (bnew v8 _)
            have sc1_43 : (v8.alloc (.cells #[.slice none 0 0, .slice none 0 0, .slice none 0 0, .int .i64 0] 44)).cell? ⟨w.heap.size, 1, none⟩ = some (.slice B1 m1 cbp1) := cell_next (w1 := v8.alloc (.cells #[.slice none 0 0, .slice none 0 0, .slice none 0 0, .int .i64 0] 44)) (show v8.cell? _ = _ from sc1_13) (bnew v8 _)
            have sc2_44 : (v8.alloc (.cells #[.slice none 0 0, .slice none 0 0, .slice none 0 0, .int .i64 0] 44)).cell? ⟨w.heap.size, 2, none⟩ = some (.slice D1 o1 dap1) := cell_next (w1 := v8.alloc (.cells #[.slice none 0 0, .slice none 0 0, .slice none 0 0, .int .i64 0] 44)) (show v8.cell? _ = _ from sc2_14) (bnew v8 _)
            have sc3_45 : (v8.alloc (.cells #[.slice none 0 0, .slice none 0 0, .slice none 0 0, .int .i64 0] 44)).cell? ⟨w.heap.size, 3, none⟩ = some (.int .i64 pl1) := cell_next (w1 := v8.alloc (.cells #[.slice none 0 0, .slice none 0 0, .slice none 0 0, .int .i64 0] 44)) (show v8.cell? _ = _ from sc3_15) (bnew v8 _)
            have oa2_16_46 := oa2_16.next (bnew v8 (.cells #[.slice none 0 0, .slice none 0 0, .slice none 0 0, .int .i64 0] 44))
            have oa9_47 := oa9.next (bnew v8 (.cells #[.slice none 0 0, .slice none 0 0, .slice none 0 0, .int .i64 0] 44))
            have oa10_48 := oa10.next (bnew v8 (.cells #[.slice none 0 0, .slice none 0 0, .slice none 0 0, .int .i64 0] 44))
            have oa11_49 := oa11.next (bnew v8 (.cells #[.slice none 0 0, .slice none 0 0, .slice none 0 0, .int .i64 0] 44))
            refine hK.out _ _ ⟨sc0_42, sc1_43, sc2_44, sc3_45⟩ (fun hHeld50 => ?_)
            clear hK K hHeld17
            set_option linter.unusedSimpArgs false in try simp only [Act.put, List.getElem_toArray, List.getElem_cons_succ, List.getElem_cons_zero, List.setIfInBounds_toArray, List.set_cons_zero, List.set_cons_succ]
            refine wpAnyH_ready (rs := [4]) (by kernel_rfl) (by simp) ?_
            refine AllReadyH.cons rfl (fun K hK => ?_) AllReadyH.nil
            go_simp
            go_wp2_with (go_at_call 27; refine (HI.out _ _ _ _ _ _ _ _ _ oa2_16_46.all oa9_47.all (Nat.le_refl _) oa10_48.all (Nat.le_refl _) oa11_49.all (Nat.le_refl _)).mono ?_; rintro e v51 ⟨R_139, d_140, R_141, d_142, R_143, d_144, mx0, mx1, rfl, op52, op53, op54, mdx, hb51⟩)
            have hw51 := bon (hA41) hb51
            have sc0_55 := cell_next (show (v8.alloc (.cells #[.slice none 0 0, .slice none 0 0, .slice none 0 0, .int .i64 0] 44)).cell? _ = _ from sc0_42) hb51
            have sc1_56 := cell_next (show (v8.alloc (.cells #[.slice none 0 0, .slice none 0 0, .slice none 0 0, .int .i64 0] 44)).cell? _ = _ from sc1_43) hb51
            have sc2_57 := cell_next (show (v8.alloc (.cells #[.slice none 0 0, .slice none 0 0, .slice none 0 0, .int .i64 0] 44)).cell? _ = _ from sc2_44) hb51
            have sc3_58 := cell_next (show (v8.alloc (.cells #[.slice none 0 0, .slice none 0 0, .slice none 0 0, .int .i64 0] 44)).cell? _ = _ from sc3_45) hb51
            have oa2_16_46_59 := oa2_16_46.next hb51
            have oa9_47_60 := oa9_47.next hb51
            have oa10_48_61 := oa10_48.next hb51
            have oa11_49_62 := oa11_49.next hb51
            have bk63 := hA41b.next hb51
            refine hK.out _ _ ⟨sc0_55, sc1_56, sc2_57, sc3_58⟩ (fun hHeld64 => ?_)
            clear hK K hHeld50
            set_option linter.unusedSimpArgs false in try simp only [Act.put, List.getElem_toArray, List.getElem_cons_succ, List.getElem_cons_zero, List.setIfInBounds_toArray, List.set_cons_zero, List.set_cons_succ]
            refine wpAnyH_take (i := 5) (v := ?_) rfl (by kernel_rfl) (by kernel_rfl) (by kernel_rfl) (fun _ _ _ h => h) (Or.inl ⟨by kernel_rfl, ?_⟩) (by assumption) ?_
            rotate_left
            · intro w9 hS9; (try dsimp only at hS9); go_simp; (try with_reducible rfl)
            set_option linter.unusedSimpArgs false in try simp only [Act.put, List.getElem_toArray, List.getElem_cons_succ, List.getElem_cons_zero, List.setIfInBounds_toArray, List.set_cons_zero, List.set_cons_succ]
            refine wpAnyH_take (i := 6) (v := ?_) rfl (by kernel_rfl) (by kernel_rfl) (by kernel_rfl) (fun _ _ _ h => h) (Or.inl ⟨by kernel_rfl, ?_⟩) (by assumption) ?_
            rotate_left
            · intro w9 hS9; (try dsimp only at hS9); go_simp; (try with_reducible rfl)
            set_option linter.unusedSimpArgs false in try simp only [Act.put, List.getElem_toArray, List.getElem_cons_succ, List.getElem_cons_zero, List.setIfInBounds_toArray, List.set_cons_zero, List.set_cons_succ]
            refine wpAnyH_take (i := 7) (v := ?_) rfl (by kernel_rfl) (by kernel_rfl) (by kernel_rfl) (fun _ _ _ h => h) (Or.inl ⟨by kernel_rfl, ?_⟩) (by assumption) ?_
            rotate_left
            · intro w9 hS9; (try dsimp only at hS9); go_simp; (try with_reducible rfl)
            set_option linter.unusedSimpArgs false in try simp only [Act.put, List.getElem_toArray, List.getElem_cons_succ, List.getElem_cons_zero, List.setIfInBounds_toArray, List.set_cons_zero, List.set_cons_succ]
            refine wpAnyH_take (i := 8) (v := ?_) rfl (by kernel_rfl) (by kernel_rfl) (by kernel_rfl) (fun _ _ _ h => h) (Or.inl ⟨by kernel_rfl, ?_⟩) (by assumption) ?_
            rotate_left
            · intro w9 hS9; (try dsimp only at hS9); go_simp; (try with_reducible rfl)
            set_option linter.unusedSimpArgs false in try simp only [Act.put, List.getElem_toArray, List.getElem_cons_succ, List.getElem_cons_zero, List.setIfInBounds_toArray, List.set_cons_zero, List.set_cons_succ]
            have z0 := bk63.cell 0
            have f0 := bk63.frozen 0
            have z1 := bk63.cell 1
            have f1 := bk63.frozen 1
            have z2 := bk63.cell 2
            have f2 := bk63.frozen 2
            have z3 := bk63.cell 3
            have f3 := bk63.frozen 3
            simp at z0 z1 z2 z3
            have ho65 : Out (v8.heap.size) (v8.heap.size + 1) v51 ((((v51.setCell ⟨v8.heap.size, 0, none⟩ (.slice R_139 l00 d_140)).setCell ⟨v8.heap.size, 1, none⟩ (.slice R_141 l01 d_142)).setCell ⟨v8.heap.size, 2, none⟩ (.slice R_143 l02 d_144)).setCell ⟨v8.heap.size, 3, none⟩ (.int .i64 r0)) := out_set (out_set (out_set (out_set (Out.refl _ _ _) (by omega)) (by omega)) (by omega)) (by omega)
            have sc0_66 := ho65.cell sc0_55 (by omega)
            have sc1_67 := ho65.cell sc1_56 (by omega)
            have sc2_68 := ho65.cell sc2_57 (by omega)
            have sc3_69 := ho65.cell sc3_58 (by omega)
            refine wpAnyH_ready (rs := [10]) (by kernel_rfl) (by simp) ?_
            refine AllReadyH.cons rfl (fun K hK => ?_) AllReadyH.nil
            go_simp
            refine hK.out _ _ ⟨sc0_66, sc1_67, sc2_68, sc3_69⟩ (fun hHeld70 => ?_)
            clear hK K hHeld64
            set_option linter.unusedSimpArgs false in try simp only [Act.put, List.getElem_toArray, List.getElem_cons_succ, List.getElem_cons_zero, List.setIfInBounds_toArray, List.set_cons_zero, List.set_cons_succ]
            refine wpAnyH_take (i := 11) (v := ?_) rfl (by kernel_rfl) (by kernel_rfl) (by kernel_rfl) (fun _ _ _ h => h) (Or.inl ⟨by kernel_rfl, ?_⟩) (by assumption) ?_
            rotate_left
            · intro w9 hS9; (try dsimp only at hS9); go_simp; (try with_reducible rfl)
            set_option linter.unusedSimpArgs false in try simp only [Act.put, List.getElem_toArray, List.getElem_cons_succ, List.getElem_cons_zero, List.setIfInBounds_toArray, List.set_cons_zero, List.set_cons_succ]
            refine wpAnyH_take (i := 12) (v := ?_) rfl (by kernel_rfl) (by kernel_rfl) (by kernel_rfl) (fun _ _ _ h => h) (Or.inl ⟨by kernel_rfl, ?_⟩) (by assumption) ?_
            rotate_left
            · intro w9 hS9; (try dsimp only at hS9); go_simp; (try with_reducible rfl)
            set_option linter.unusedSimpArgs false in try simp only [Act.put, List.getElem_toArray, List.getElem_cons_succ, List.getElem_cons_zero, List.setIfInBounds_toArray, List.set_cons_zero, List.set_cons_succ]
            refine wpAnyH_done (by kernel_rfl) ?_ _
            go_wp2_with fail
            go_meet
            exact ⟨_, _, _, _, _, _, _, _, _, _, _, _, _, rfl, rfl, rfl, fin_box4 (bstep (hA41)) ⟨bk63, hA41b.lt, hA41g⟩ hb51 op52 (by have := hb51.size; omega) op53 (by have := hb51.size; omega) op54 (by have := hb51.size; omega)⟩
        · go_simp
          have hA71 : Below w19.drew.heap.size w19.drew (v1.alloc (.cells #[.slice none 0 0, .slice none 0 0, .slice none 0 0, .int .i64 0] 44)) := bon (hw1) (bnew v1 _)
          have hA71b0 : BlkIs (v1.alloc (.cells #[.slice none 0 0, .slice none 0 0, .slice none 0 0, .int .i64 0] 44)) v1.heap.size 44 #[.slice none 0 0, .slice none 0 0, .slice none 0 0, .int .i64 0] := blk_new _ _ _ _ rfl
          have hA71b : BlkIs (v1.alloc (.cells #[.slice none 0 0, .slice none 0 0, .slice none 0 0, .int .i64 0] 44)) v1.heap.size 44 #[.slice none 0 0, .slice none 0 0, .slice none 0 0, .int .i64 0] := hA71b0
          have hA71g : w19.heap.size ≤ v1.heap.size := (bstep (hw1)).size
          have sc0_72 : (v1.alloc (.cells #[.slice none 0 0, .slice none 0 0, .slice none 0 0, .int .i64 0] 44)).cell? ⟨w.heap.size, 0, none⟩ = some (.slice A1 n1 cap1) := cell_next (w1 := v1.alloc (.cells #[.slice none 0 0, .slice none 0 0, .slice none 0 0, .int .i64 0] 44)) (show v1.cell? _ = _ from sc0_3) (bnew v1 _)
          have sc1_73 : (v1.alloc (.cells #[.slice none 0 0, .slice none 0 0, .slice none 0 0, .int .i64 0] 44)).cell? ⟨w.heap.size, 1, none⟩ = some (.slice B1 m1 cbp1) := cell_next (w1 := v1.alloc (.cells #[.slice none 0 0, .slice none 0 0, .slice none 0 0, .int .i64 0] 44)) (show v1.cell? _ = _ from sc1_4) (bnew v1 _)
          have sc2_74 : (v1.alloc (.cells #[.slice none 0 0, .slice none 0 0, .slice none 0 0, .int .i64 0] 44)).cell? ⟨w.heap.size, 2, none⟩ = some (.slice D1 o1 dap1) := cell_next (w1 := v1.alloc (.cells #[.slice none 0 0, .slice none 0 0, .slice none 0 0, .int .i64 0] 44)) (show v1.cell? _ = _ from sc2_5) (bnew v1 _)
          have sc3_75 : (v1.alloc (.cells #[.slice none 0 0, .slice none 0 0, .slice none 0 0, .int .i64 0] 44)).cell? ⟨w.heap.size, 3, none⟩ = some (.int .i64 pl1) := cell_next (w1 := v1.alloc (.cells #[.slice none 0 0, .slice none 0 0, .slice none 0 0, .int .i64 0] 44)) (show v1.cell? _ = _ from sc3_6) (bnew v1 _)
          have oa2_76 := oa2.next (bnew v1 (.cells #[.slice none 0 0, .slice none 0 0, .slice none 0 0, .int .i64 0] 44))
          refine hK.out _ _ ⟨sc0_72, sc1_73, sc2_74, sc3_75⟩ (fun hHeld77 => ?_)
          clear hK K hHeld7
          set_option linter.unusedSimpArgs false in try simp only [Act.put, List.getElem_toArray, List.getElem_cons_succ, List.getElem_cons_zero, List.setIfInBounds_toArray, List.set_cons_zero, List.set_cons_succ]
          refine wpAnyH_ready (rs := [3]) (by kernel_rfl) (by simp) ?_
          refine AllReadyH.cons rfl (fun K hK => ?_) AllReadyH.nil
          go_simp
          go_wp2_with (go_at_call 23; refine (HT_167.out _ (hA71)).mono ?_; rintro e v78 ⟨g_170, g_171, g_172, mz0, mz1, rfl, oa79, oa80, oa81, mdz, hb78⟩)
          have hw78 := bon (hA71) hb78
          have sc0_82 := cell_next (show (v1.alloc (.cells #[.slice none 0 0, .slice none 0 0, .slice none 0 0, .int .i64 0] 44)).cell? _ = _ from sc0_72) hb78
          have sc1_83 := cell_next (show (v1.alloc (.cells #[.slice none 0 0, .slice none 0 0, .slice none 0 0, .int .i64 0] 44)).cell? _ = _ from sc1_73) hb78
          have sc2_84 := cell_next (show (v1.alloc (.cells #[.slice none 0 0, .slice none 0 0, .slice none 0 0, .int .i64 0] 44)).cell? _ = _ from sc2_74) hb78
          have sc3_85 := cell_next (show (v1.alloc (.cells #[.slice none 0 0, .slice none 0 0, .slice none 0 0, .int .i64 0] 44)).cell? _ = _ from sc3_75) hb78
          have oa2_76_86 := oa2_76.next hb78
          have bk87 := hA71b.next hb78
          refine hK.out _ _ ⟨sc0_82, sc1_83, sc2_84, sc3_85⟩ (fun hHeld88 => ?_)
          clear hK K hHeld77
          set_option linter.unusedSimpArgs false in try simp only [Act.put, List.getElem_toArray, List.getElem_cons_succ, List.getElem_cons_zero, List.setIfInBounds_toArray, List.set_cons_zero, List.set_cons_succ]
          refine wpAnyH_ready (rs := [4]) (by kernel_rfl) (by simp) ?_
          refine AllReadyH.cons rfl (fun K hK => ?_) AllReadyH.nil
          go_simp
          go_wp2_with (go_at_call 27; refine (HI.out _ _ _ _ _ _ _ _ _ oa2_76_86.all oa79.all (Nat.le_refl _) oa80.all (Nat.le_refl _) oa81.all (Nat.le_refl _)).mono ?_; rintro e v89 ⟨R_139, d_140, R_141, d_142, R_143, d_144, mx0, mx1, rfl, op90, op91, op92, mdx, hb89⟩)
          have hw89 := bon (hw78) hb89
          have sc0_93 := cell_next (show v78.cell? _ = _ from sc0_82) hb89
          have sc1_94 := cell_next (show v78.cell? _ = _ from sc1_83) hb89
          have sc2_95 := cell_next (show v78.cell? _ = _ from sc2_84) hb89
          have sc3_96 := cell_next (show v78.cell? _ = _ from sc3_85) hb89
          have oa2_76_86_97 := oa2_76_86.next hb89
          have oa79_98 := oa79.next hb89
          have oa80_99 := oa80.next hb89
          have oa81_100 := oa81.next hb89
          have bk101 := bk87.next hb89
          refine hK.out _ _ ⟨sc0_93, sc1_94, sc2_95, sc3_96⟩ (fun hHeld102 => ?_)
          clear hK K hHeld88
          set_option linter.unusedSimpArgs false in try simp only [Act.put, List.getElem_toArray, List.getElem_cons_succ, List.getElem_cons_zero, List.setIfInBounds_toArray, List.set_cons_zero, List.set_cons_succ]
          refine wpAnyH_take (i := 5) (v := ?_) rfl (by kernel_rfl) (by kernel_rfl) (by kernel_rfl) (fun _ _ _ h => h) (Or.inl ⟨by kernel_rfl, ?_⟩) (by assumption) ?_
          rotate_left
          · intro w9 hS9; (try dsimp only at hS9); go_simp; (try with_reducible rfl)
          set_option linter.unusedSimpArgs false in try simp only [Act.put, List.getElem_toArray, List.getElem_cons_succ, List.getElem_cons_zero, List.setIfInBounds_toArray, List.set_cons_zero, List.set_cons_succ]
          refine wpAnyH_take (i := 6) (v := ?_) rfl (by kernel_rfl) (by kernel_rfl) (by kernel_rfl) (fun _ _ _ h => h) (Or.inl ⟨by kernel_rfl, ?_⟩) (by assumption) ?_
          rotate_left
          · intro w9 hS9; (try dsimp only at hS9); go_simp; (try with_reducible rfl)
          set_option linter.unusedSimpArgs false in try simp only [Act.put, List.getElem_toArray, List.getElem_cons_succ, List.getElem_cons_zero, List.setIfInBounds_toArray, List.set_cons_zero, List.set_cons_succ]
          refine wpAnyH_take (i := 7) (v := ?_) rfl (by kernel_rfl) (by kernel_rfl) (by kernel_rfl) (fun _ _ _ h => h) (Or.inl ⟨by kernel_rfl, ?_⟩) (by assumption) ?_
          rotate_left
          · intro w9 hS9; (try dsimp only at hS9); go_simp; (try with_reducible rfl)
          set_option linter.unusedSimpArgs false in try simp only [Act.put, List.getElem_toArray, List.getElem_cons_succ, List.getElem_cons_zero, List.setIfInBounds_toArray, List.set_cons_zero, List.set_cons_succ]
          refine wpAnyH_take (i := 8) (v := ?_) rfl (by kernel_rfl) (by kernel_rfl) (by kernel_rfl) (fun _ _ _ h => h) (Or.inl ⟨by kernel_rfl, ?_⟩) (by assumption) ?_
          rotate_left
          · intro w9 hS9; (try dsimp only at hS9); go_simp; (try with_reducible rfl)
          set_option linter.unusedSimpArgs false in try simp only [Act.put, List.getElem_toArray, List.getElem_cons_succ, List.getElem_cons_zero, List.setIfInBounds_toArray, List.set_cons_zero, List.set_cons_succ]
          have z0 := bk101.cell 0
          have f0 := bk101.frozen 0
          have z1 := bk101.cell 1
          have f1 := bk101.frozen 1
          have z2 := bk101.cell 2
          have f2 := bk101.frozen 2
          have z3 := bk101.cell 3
          have f3 := bk101.frozen 3
          simp at z0 z1 z2 z3
          have ho103 : Out (v1.heap.size) (v1.heap.size + 1) v89 ((((v89.setCell ⟨v1.heap.size, 0, none⟩ (.slice R_139 l00 d_140)).setCell ⟨v1.heap.size, 1, none⟩ (.slice R_141 l01 d_142)).setCell ⟨v1.heap.size, 2, none⟩ (.slice R_143 l02 d_144)).setCell ⟨v1.heap.size, 3, none⟩ (.int .i64 r0)) := out_set (out_set (out_set (out_set (Out.refl _ _ _) (by omega)) (by omega)) (by omega)) (by omega)
          have sc0_104 := ho103.cell sc0_93 (by omega)
          have sc1_105 := ho103.cell sc1_94 (by omega)
          have sc2_106 := ho103.cell sc2_95 (by omega)
          have sc3_107 := ho103.cell sc3_96 (by omega)
          refine wpAnyH_ready (rs := [10]) (by kernel_rfl) (by simp) ?_
          refine AllReadyH.cons rfl (fun K hK => ?_) AllReadyH.nil
          go_simp
          refine hK.out _ _ ⟨sc0_104, sc1_105, sc2_106, sc3_107⟩ (fun hHeld108 => ?_)
          clear hK K hHeld102
          set_option linter.unusedSimpArgs false in try simp only [Act.put, List.getElem_toArray, List.getElem_cons_succ, List.getElem_cons_zero, List.setIfInBounds_toArray, List.set_cons_zero, List.set_cons_succ]
          refine wpAnyH_take (i := 11) (v := ?_) rfl (by kernel_rfl) (by kernel_rfl) (by kernel_rfl) (fun _ _ _ h => h) (Or.inl ⟨by kernel_rfl, ?_⟩) (by assumption) ?_
          rotate_left
          · intro w9 hS9; (try dsimp only at hS9); go_simp; (try with_reducible rfl)
          set_option linter.unusedSimpArgs false in try simp only [Act.put, List.getElem_toArray, List.getElem_cons_succ, List.getElem_cons_zero, List.setIfInBounds_toArray, List.set_cons_zero, List.set_cons_succ]
          refine wpAnyH_take (i := 12) (v := ?_) rfl (by kernel_rfl) (by kernel_rfl) (by kernel_rfl) (fun _ _ _ h => h) (Or.inl ⟨by kernel_rfl, ?_⟩) (by assumption) ?_
          rotate_left
          · intro w9 hS9; (try dsimp only at hS9); go_simp; (try with_reducible rfl)
          set_option linter.unusedSimpArgs false in try simp only [Act.put, List.getElem_toArray, List.getElem_cons_succ, List.getElem_cons_zero, List.setIfInBounds_toArray, List.set_cons_zero, List.set_cons_succ]
          refine wpAnyH_done (by kernel_rfl) ?_ _
          go_wp2_with fail
          go_meet
          exact ⟨_, _, _, _, _, _, _, _, _, _, _, _, _, rfl, rfl, rfl, fin_box4 (bstep (hw78)) ⟨bk101, bk87.lt, hA71g⟩ hb89 op90 (by have := hb89.size; omega) op91 (by have := hb89.size; omega) op92 (by have := hb89.size; omega)⟩
      · go_simp
        have hA109 : Below w19.drew.heap.size w19.drew (w19.alloc (.cells #[.slice none 0 0, .slice none 0 0, .slice none 0 0, .int .i64 0] 44)).drew := bel_ad w19 _
        have hA109b0 : BlkIs (w19.alloc (.cells #[.slice none 0 0, .slice none 0 0, .slice none 0 0, .int .i64 0] 44)) w19.heap.size 44 #[.slice none 0 0, .slice none 0 0, .slice none 0 0, .int .i64 0] := blk_new _ _ _ _ rfl
        have hA109b : BlkIs (w19.alloc (.cells #[.slice none 0 0, .slice none 0 0, .slice none 0 0, .int .i64 0] 44)).drew w19.heap.size 44 #[.slice none 0 0, .slice none 0 0, .slice none 0 0, .int .i64 0] := hA109b0
        have hA109g : w19.heap.size ≤ w19.heap.size := Nat.le_refl _
        have sc0_110 : (w19.alloc (.cells #[.slice none 0 0, .slice none 0 0, .slice none 0 0, .int .i64 0] 44)).drew.cell? ⟨w.heap.size, 0, none⟩ = some (.slice A1 n1 cap1) := cell_next (w1 := w19.alloc (.cells #[.slice none 0 0, .slice none 0 0, .slice none 0 0, .int .i64 0] 44)) (show w19.cell? _ = _ from sc0_0) (bnew w19 _)
        have sc1_111 : (w19.alloc (.cells #[.slice none 0 0, .slice none 0 0, .slice none 0 0, .int .i64 0] 44)).drew.cell? ⟨w.heap.size, 1, none⟩ = some (.slice B1 m1 cbp1) := cell_next (w1 := w19.alloc (.cells #[.slice none 0 0, .slice none 0 0, .slice none 0 0, .int .i64 0] 44)) (show w19.cell? _ = _ from sc1_0) (bnew w19 _)
        have sc2_112 : (w19.alloc (.cells #[.slice none 0 0, .slice none 0 0, .slice none 0 0, .int .i64 0] 44)).drew.cell? ⟨w.heap.size, 2, none⟩ = some (.slice D1 o1 dap1) := cell_next (w1 := w19.alloc (.cells #[.slice none 0 0, .slice none 0 0, .slice none 0 0, .int .i64 0] 44)) (show w19.cell? _ = _ from sc2_0) (bnew w19 _)
        have sc3_113 : (w19.alloc (.cells #[.slice none 0 0, .slice none 0 0, .slice none 0 0, .int .i64 0] 44)).drew.cell? ⟨w.heap.size, 3, none⟩ = some (.int .i64 pl1) := cell_next (w1 := w19.alloc (.cells #[.slice none 0 0, .slice none 0 0, .slice none 0 0, .int .i64 0] 44)) (show w19.cell? _ = _ from sc3_0) (bnew w19 _)
        refine hK.out _ _ ⟨sc0_110, sc1_111, sc2_112, sc3_113⟩ (fun hHeld114 => ?_)
        clear hK K hHeld0
        set_option linter.unusedSimpArgs false in try simp only [Act.put, List.getElem_toArray, List.getElem_cons_succ, List.getElem_cons_zero, List.setIfInBounds_toArray, List.set_cons_zero, List.set_cons_succ]
        refine wpAnyH_ready (rs := [1]) (by kernel_rfl) (by simp) ?_
        refine AllReadyH.cons rfl (fun K hK => ?_) AllReadyH.nil
        go_simp
        go_wp2_with (go_at_call 18; refine (HT_162.out _ (hA109)).mono ?_; rintro e v115 ⟨g_165, rfl, oa116, hb115⟩)
        have hw115 := bon (hA109) hb115
        have sc0_117 := cell_next (show (w19.alloc (.cells #[.slice none 0 0, .slice none 0 0, .slice none 0 0, .int .i64 0] 44)).drew.cell? _ = _ from sc0_110) hb115
        have sc1_118 := cell_next (show (w19.alloc (.cells #[.slice none 0 0, .slice none 0 0, .slice none 0 0, .int .i64 0] 44)).drew.cell? _ = _ from sc1_111) hb115
        have sc2_119 := cell_next (show (w19.alloc (.cells #[.slice none 0 0, .slice none 0 0, .slice none 0 0, .int .i64 0] 44)).drew.cell? _ = _ from sc2_112) hb115
        have sc3_120 := cell_next (show (w19.alloc (.cells #[.slice none 0 0, .slice none 0 0, .slice none 0 0, .int .i64 0] 44)).drew.cell? _ = _ from sc3_113) hb115
        have bk121 := hA109b.next hb115
        refine hK.out _ _ ⟨sc0_117, sc1_118, sc2_119, sc3_120⟩ (fun hHeld122 => ?_)
        clear hK K hHeld114
        set_option linter.unusedSimpArgs false in try simp only [Act.put, List.getElem_toArray, List.getElem_cons_succ, List.getElem_cons_zero, List.setIfInBounds_toArray, List.set_cons_zero, List.set_cons_succ]
        refine wpAnyH_ready (rs := [3]) (by kernel_rfl) (by simp) ?_
        refine AllReadyH.cons rfl (fun K hK => ?_) AllReadyH.nil
        go_simp
        go_wp2_with (go_at_call 23; refine (HT_167.out _ (hw115)).mono ?_; rintro e v123 ⟨g_170, g_171, g_172, mz0, mz1, rfl, oa124, oa125, oa126, mdz, hb123⟩)
        have hw123 := bon (hw115) hb123
        have sc0_127 := cell_next (show v115.cell? _ = _ from sc0_117) hb123
        have sc1_128 := cell_next (show v115.cell? _ = _ from sc1_118) hb123
        have sc2_129 := cell_next (show v115.cell? _ = _ from sc2_119) hb123
        have sc3_130 := cell_next (show v115.cell? _ = _ from sc3_120) hb123
        have oa116_131 := oa116.next hb123
        have bk132 := bk121.next hb123
        refine hK.out _ _ ⟨sc0_127, sc1_128, sc2_129, sc3_130⟩ (fun hHeld133 => ?_)
        clear hK K hHeld122
        set_option linter.unusedSimpArgs false in try simp only [Act.put, List.getElem_toArray, List.getElem_cons_succ, List.getElem_cons_zero, List.setIfInBounds_toArray, List.set_cons_zero, List.set_cons_succ]
        refine wpAnyH_ready (rs := [4]) (by kernel_rfl) (by simp) ?_
        refine AllReadyH.cons rfl (fun K hK => ?_) AllReadyH.nil
        go_simp
        go_wp2_with (go_at_call 27; refine (HI.out _ _ _ _ _ _ _ _ _ oa116_131.all oa124.all (Nat.le_refl _) oa125.all (Nat.le_refl _) oa126.all (Nat.le_refl _)).mono ?_; rintro e v134 ⟨R_139, d_140, R_141, d_142, R_143, d_144, mx0, mx1, rfl, op135, op136, op137, mdx, hb134⟩)
        have hw134 := bon (hw123) hb134
        have sc0_138 := cell_next (show v123.cell? _ = _ from sc0_127) hb134
        have sc1_139 := cell_next (show v123.cell? _ = _ from sc1_128) hb134
        have sc2_140 := cell_next (show v123.cell? _ = _ from sc2_129) hb134
        have sc3_141 := cell_next (show v123.cell? _ = _ from sc3_130) hb134
        have oa116_131_142 := oa116_131.next hb134
        have oa124_143 := oa124.next hb134
        have oa125_144 := oa125.next hb134
        have oa126_145 := oa126.next hb134
        have bk146 := bk132.next hb134
        refine hK.out _ _ ⟨sc0_138, sc1_139, sc2_140, sc3_141⟩ (fun hHeld147 => ?_)
        clear hK K hHeld133
        set_option linter.unusedSimpArgs false in try simp only [Act.put, List.getElem_toArray, List.getElem_cons_succ, List.getElem_cons_zero, List.setIfInBounds_toArray, List.set_cons_zero, List.set_cons_succ]
        refine wpAnyH_take (i := 5) (v := ?_) rfl (by kernel_rfl) (by kernel_rfl) (by kernel_rfl) (fun _ _ _ h => h) (Or.inl ⟨by kernel_rfl, ?_⟩) (by assumption) ?_
        rotate_left
        · intro w9 hS9; (try dsimp only at hS9); go_simp; (try with_reducible rfl)
        set_option linter.unusedSimpArgs false in try simp only [Act.put, List.getElem_toArray, List.getElem_cons_succ, List.getElem_cons_zero, List.setIfInBounds_toArray, List.set_cons_zero, List.set_cons_succ]
        refine wpAnyH_take (i := 6) (v := ?_) rfl (by kernel_rfl) (by kernel_rfl) (by kernel_rfl) (fun _ _ _ h => h) (Or.inl ⟨by kernel_rfl, ?_⟩) (by assumption) ?_
        rotate_left
        · intro w9 hS9; (try dsimp only at hS9); go_simp; (try with_reducible rfl)
        set_option linter.unusedSimpArgs false in try simp only [Act.put, List.getElem_toArray, List.getElem_cons_succ, List.getElem_cons_zero, List.setIfInBounds_toArray, List.set_cons_zero, List.set_cons_succ]
        refine wpAnyH_take (i := 7) (v := ?_) rfl (by kernel_rfl) (by kernel_rfl) (by kernel_rfl) (fun _ _ _ h => h) (Or.inl ⟨by kernel_rfl, ?_⟩) (by assumption) ?_
        rotate_left
        · intro w9 hS9; (try dsimp only at hS9); go_simp; (try with_reducible rfl)
        set_option linter.unusedSimpArgs false in try simp only [Act.put, List.getElem_toArray, List.getElem_cons_succ, List.getElem_cons_zero, List.setIfInBounds_toArray, List.set_cons_zero, List.set_cons_succ]
        refine wpAnyH_take (i := 8) (v := ?_) rfl (by kernel_rfl) (by kernel_rfl) (by kernel_rfl) (fun _ _ _ h => h) (Or.inl ⟨by kernel_rfl, ?_⟩) (by assumption) ?_
        rotate_left
        · intro w9 hS9; (try dsimp only at hS9); go_simp; (try with_reducible rfl)
        set_option linter.unusedSimpArgs false in try simp only [Act.put, List.getElem_toArray, List.getElem_cons_succ, List.getElem_cons_zero, List.setIfInBounds_toArray, List.set_cons_zero, List.set_cons_succ]
        have z0 := bk146.cell 0
        have f0 := bk146.frozen 0
        have z1 := bk146.cell 1
        have f1 := bk146.frozen 1
        have z2 := bk146.cell 2
        have f2 := bk146.frozen 2
        have z3 := bk146.cell 3
        have f3 := bk146.frozen 3
        simp at z0 z1 z2 z3
        have ho148 : Out (w19.heap.size) (w19.heap.size + 1) v134 ((((v134.setCell ⟨w19.heap.size, 0, none⟩ (.slice R_139 l00 d_140)).setCell ⟨w19.heap.size, 1, none⟩ (.slice R_141 l01 d_142)).setCell ⟨w19.heap.size, 2, none⟩ (.slice R_143 l02 d_144)).setCell ⟨w19.heap.size, 3, none⟩ (.int .i64 r0)) := out_set (out_set (out_set (out_set (Out.refl _ _ _) (by omega)) (by omega)) (by omega)) (by omega)
        have sc0_149 := ho148.cell sc0_138 (by omega)
        have sc1_150 := ho148.cell sc1_139 (by omega)
        have sc2_151 := ho148.cell sc2_140 (by omega)
        have sc3_152 := ho148.cell sc3_141 (by omega)
        refine wpAnyH_ready (rs := [10]) (by kernel_rfl) (by simp) ?_
        refine AllReadyH.cons rfl (fun K hK => ?_) AllReadyH.nil
        go_simp
        refine hK.out _ _ ⟨sc0_149, sc1_150, sc2_151, sc3_152⟩ (fun hHeld153 => ?_)
        clear hK K hHeld147
        set_option linter.unusedSimpArgs false in try simp only [Act.put, List.getElem_toArray, List.getElem_cons_succ, List.getElem_cons_zero, List.setIfInBounds_toArray, List.set_cons_zero, List.set_cons_succ]
        refine wpAnyH_take (i := 11) (v := ?_) rfl (by kernel_rfl) (by kernel_rfl) (by kernel_rfl) (fun _ _ _ h => h) (Or.inl ⟨by kernel_rfl, ?_⟩) (by assumption) ?_
        rotate_left
        · intro w9 hS9; (try dsimp only at hS9); go_simp; (try with_reducible rfl)
        set_option linter.unusedSimpArgs false in try simp only [Act.put, List.getElem_toArray, List.getElem_cons_succ, List.getElem_cons_zero, List.setIfInBounds_toArray, List.set_cons_zero, List.set_cons_succ]
        refine wpAnyH_take (i := 12) (v := ?_) rfl (by kernel_rfl) (by kernel_rfl) (by kernel_rfl) (fun _ _ _ h => h) (Or.inl ⟨by kernel_rfl, ?_⟩) (by assumption) ?_
        rotate_left
        · intro w9 hS9; (try dsimp only at hS9); go_simp; (try with_reducible rfl)
        set_option linter.unusedSimpArgs false in try simp only [Act.put, List.getElem_toArray, List.getElem_cons_succ, List.getElem_cons_zero, List.setIfInBounds_toArray, List.set_cons_zero, List.set_cons_succ]
        refine wpAnyH_done (by kernel_rfl) ?_ _
        go_wp2_with fail
        go_meet
        exact ⟨_, _, _, _, _, _, _, _, _, _, _, _, _, rfl, rfl, rfl, fin_box4 (bstep (hw123)) ⟨bk146, bk132.lt, hA109g⟩ hb134 op135 (by have := hb134.size; omega) op136 (by have := hb134.size; omega) op137 (by have := hb134.size; omega)⟩
    case rest =>
      obtain ⟨R_139, d_140, R_141, d_142, R_143, d_144, bx_147, lo_150, hi_151, lo_154, hi_155, lo_158, hi_159, rfl, rfl, rfl, h0_0, h0_1, h0_2, h0_3, h0_l, sz_148, own_149, sz_152, own_153, sz_156, own_157, sz_160, hb_161⟩ := hcut
      obtain ⟨w20, hwx⟩ : ∃ x, x = wc := ⟨_, rfl⟩
      subst hwx
      have sz_188 := h0_l
      replace in0 := in0.next hb_161 (by omega)
      replace in1a := in1a.next hb_161 (by omega)
      replace in1b := in1b.next hb_161 (by omega)
      replace in1c := in1c.next hb_161 (by omega)
      replace a1_0 := cell_next a1_0 hb_161
      replace a1_1 := cell_next a1_1 hb_161
      replace a1_2 := cell_next a1_2 hb_161
      replace a1_3 := cell_next a1_3 hb_161
      replace a1_l := Nat.lt_of_lt_of_le a1_l hb_161.size
      replace w0_0 := cell_next w0_0 hb_161
      replace w0_1 := cell_next w0_1 hb_161
      replace w0_2 := cell_next w0_2 hb_161
      replace w0_3 := cell_next w0_3 hb_161
      replace w0_l := Nat.lt_of_lt_of_le w0_l hb_161.size
      replace own_20 := own_20.next hb_161
      replace own_24 := own_24.next hb_161
      replace own_28 := own_28.next hb_161
      replace g0_0 := cell_next g0_0 hb_161
      replace g0_1 := cell_next g0_1 hb_161
      replace g0_2 := cell_next g0_2 hb_161
      replace g0_3 := cell_next g0_3 hb_161
      replace g0_l := Nat.lt_of_lt_of_le g0_l hb_161.size
      replace own_131 := own_131.next hb_161
      replace own_132 := own_132.next hb_161
      replace own_133 := own_133.next hb_161
      replace hB := hB.trans (hb_161.mono hB.size)
      have sz_189 := hb_161.size
      go_wp2_with fail
      -- if !eqConfig(h0, w0) || h1 != w1 || h2 != w2 {
      refine (eqConfig_k R_139 R_10 l00 d_140 d_11 y00 R_141 R_12 l01 d_142 d_13 y01 R_143 R_14 l02 d_144 d_15 y02 r0 (w20.heap.size) (w20.heap.size) w20 (own_149.inn.more (by omega)) (own_153.inn.more (by omega)) (own_157.inn.more (by omega)) (own_20.inn.more (by omega)) (own_24.inn.more (by omega)) (own_28.inn.more (by omega)) (by omega) (by omega) (by omega) (by omega) (by omega)).mono ?_
      rintro e w21 ⟨rfl, hb_190⟩
      replace in0 := in0.next hb_190 (by omega)
      replace in1a := in1a.next hb_190 (by omega)
      replace in1b := in1b.next hb_190 (by omega)
      replace in1c := in1c.next hb_190 (by omega)
      replace a1_0 := cell_next a1_0 hb_190
      replace a1_1 := cell_next a1_1 hb_190
      replace a1_2 := cell_next a1_2 hb_190
      replace a1_3 := cell_next a1_3 hb_190
      replace a1_l := Nat.lt_of_lt_of_le a1_l hb_190.size
      replace w0_0 := cell_next w0_0 hb_190
      replace w0_1 := cell_next w0_1 hb_190
      replace w0_2 := cell_next w0_2 hb_190
      replace w0_3 := cell_next w0_3 hb_190
      replace w0_l := Nat.lt_of_lt_of_le w0_l hb_190.size
      replace own_20 := own_20.next hb_190
      replace own_24 := own_24.next hb_190
      replace own_28 := own_28.next hb_190
      replace g0_0 := cell_next g0_0 hb_190
      replace g0_1 := cell_next g0_1 hb_190
      replace g0_2 := cell_next g0_2 hb_190
      replace g0_3 := cell_next g0_3 hb_190
      replace g0_l := Nat.lt_of_lt_of_le g0_l hb_190.size
      replace own_131 := own_131.next hb_190
      replace own_132 := own_132.next hb_190
      replace own_133 := own_133.next hb_190
      replace h0_0 := cell_next h0_0 hb_190
      replace h0_1 := cell_next h0_1 hb_190
      replace h0_2 := cell_next h0_2 hb_190
      replace h0_3 := cell_next h0_3 hb_190
      replace h0_l := Nat.lt_of_lt_of_le h0_l hb_190.size
      replace own_149 := own_149.next hb_190
      replace own_153 := own_153.next hb_190
      replace own_157 := own_157.next hb_190
      replace hB := hB.trans (hb_190.mono hB.size)
      have sz_191 := hb_190.size
      go_wp2_with fail
      clear own_149 own_153 own_157
      clear h0_0 h0_1 h0_2 h0_3 h0_l
      refine (heldConfig_k R_78 l00 d_79 R_80 l01 d_81 R_82 l02 d_83 _ r0 1 _ own_131.all own_132.all own_133.all (Nat.le_refl _) (by omega) (by omega) (by omega) (by omega) (by omega)).mono ?_
      rintro e w22 ⟨rfl, hb_192⟩
      replace in0 := in0.next hb_192 (by omega)
      replace in1a := in1a.next hb_192 (by omega)
      replace in1b := in1b.next hb_192 (by omega)
      replace in1c := in1c.next hb_192 (by omega)
      replace a1_0 := cell_next a1_0 hb_192
      replace a1_1 := cell_next a1_1 hb_192
      replace a1_2 := cell_next a1_2 hb_192
      replace a1_3 := cell_next a1_3 hb_192
      replace a1_l := Nat.lt_of_lt_of_le a1_l hb_192.size
      replace w0_0 := cell_next w0_0 hb_192
      replace w0_1 := cell_next w0_1 hb_192
      replace w0_2 := cell_next w0_2 hb_192
      replace w0_3 := cell_next w0_3 hb_192
      replace w0_l := Nat.lt_of_lt_of_le w0_l hb_192.size
      replace own_20 := own_20.next hb_192
      replace own_24 := own_24.next hb_192
      replace own_28 := own_28.next hb_192
      replace g0_0 := cell_next g0_0 hb_192
      replace g0_1 := cell_next g0_1 hb_192
      replace g0_2 := cell_next g0_2 hb_192
      replace g0_3 := cell_next g0_3 hb_192
      replace g0_l := Nat.lt_of_lt_of_le g0_l hb_192.size
      replace own_131 := own_131.next hb_192
      replace own_132 := own_132.next hb_192
      replace own_133 := own_133.next hb_192
      replace hB := hB.trans (hb_192.mono hB.size)
      have sz_193 := hb_192.size
      have mk_194 : (0 : Int) ≤ 1 + (l00 : Int) + (l01 : Int) + (l02 : Int) := by omega
      go_wp2_with fail
      go_ret
      exact ⟨rfl, hB⟩

set_option maxRecDepth 100000 in
set_option maxHeartbeats 4000000 in
theorem walk (A0 : Option Addr) (n0 cap0 : Nat) (t0 : List (Int × Int)) (A1 : Option Addr) (n1 cap1 : Nat) (z1 : List Int) (B1 : Option Addr) (m1 cbp1 : Nat) (y1 : List Int) (D1 : Option Addr) (o1 dap1 : Nat) (x1 : List Int) (pl1 : Int) (w : World) (h0in : InC w w.heap.size A0 n0 t0) (h0max : n0 ≤ maxLen) (h0each : ∀ y ∈ t0, (Lit.int .i64 y.1).wf = true ∧ (Lit.int .i64 y.2).wf = true) (h1row : Row w w.heap.size A1 (z1.map ic)) (h1len : z1.length = n1) (h1max : n1 ≤ maxLen) (h1glen : y1.length = m1) (h1gmax : m1 ≤ maxLen) (h1grow : Row w w.heap.size B1 (y1.map ic)) (h1slen : x1.length = o1) (h1smax : o1 ≤ maxLen) (h1srow : Row w w.heap.size D1 (x1.map ic)) :
    Calls Try.prog 6 #[.slice A0 n0 cap0, .agg #[.slice A1 n1 cap1, .slice B1 m1 cbp1, .slice D1 o1 dap1, .int .i64 pl1]] w fun e w' => e = .returned (.bool true) ∧ Below w.heap.size w w' := by
  by_cases hn : n0 ≤ 1048576
  · by_cases hm : n0 + (n1 + m1 + o1) ≤ 1048576
    · have hl := stepR_len t0 z1 y1 x1 pl1
      have hs := specStep_c (p := pl1) (cs := t0) (vs := z1) (zs := y1) (st := x1)
      have hi := implStep_c (p := pl1) (cs := t0) (vs := z1) (zs := y1) (st := x1)
      generalize stepR t0 z1 y1 x1 pl1 = R at hl hs hi
      exact road A0 n0 cap0 t0 pl1 A1 n1 cap1 z1 B1 m1 cbp1 y1 D1 o1 dap1 x1 w h0in (by omega) ⟨h1len, h1row⟩ ⟨h1glen, h1grow⟩ ⟨h1slen, h1srow⟩ (by omega) (by omega) (by omega) (by omega) (by omega)
        R.1.2.2.2 R.1.1 R.1.1.length R.1.2.1 R.1.2.1.length R.1.2.2.1 R.1.2.2.1.length R.2.1 R.2.2 hl.1 hl.2.1 hl.2.2
        (fun w0 a00 u00 a10 u10 a11 u11 a12 u12 h g0 k0 g1 k1 g2 k2 => hs a00 n0 u00 a10 n1 u10 a11 m1 u11 a12 o1 u12 w0 h g0 g1 g2 (by omega) (by omega) (by omega) (by omega) k2)
        (fun w0 a00 u00 a10 u10 a11 u11 a12 u12 h g0 k0 g1 k1 g2 k2 => hi a00 n0 u00 a10 n1 u10 a11 m1 u11 a12 o1 u12 w0 h g0 g1 g2 (by omega) (by omega) (by omega) (by omega))
    · exact early1 A0 n0 cap0 t0 pl1 A1 n1 cap1 z1 B1 m1 cbp1 y1 D1 o1 dap1 x1 w h0in ⟨h1len, h1row⟩ ⟨h1glen, h1grow⟩ ⟨h1slen, h1srow⟩ (by omega) (by omega) h0max h1max h1gmax h1smax
  · exact early0 A0 n0 cap0 t0 pl1 A1 n1 cap1 z1 B1 m1 cbp1 y1 D1 o1 dap1 x1 w h0in ⟨h1len, h1row⟩ ⟨h1glen, h1grow⟩ ⟨h1slen, h1srow⟩ (by omega) h0max h1max h1gmax h1smax

set_option maxRecDepth 100000 in
set_option maxHeartbeats 4000000 in
theorem lifted (os : Os) (started : os.Started) (H : Type) (enc : TypeId × Value → H) :
    ReturnsInHanded {} Try.checked os 6 .any (Rows.fnExactStepCodeSpec.pre6 enc Try.prog Try.f6 Rows.fnExactStepCodeRow.domain false) (Rows.fnExactStepCodeSpec.post enc Try.prog Try.f6 false true false false) := by
  refine returnsInHanded_of_change (C := Try.checked) own started (by kernel_rfl) Try.func6
    (ChangeSpec.witness6 (enc := enc) (C := Try.checked) false ⟨#[], #[.slice none 0 0, .agg #[.slice none 0 0, .slice none 0 0, .slice none 0 0, .int .i64 0]], []⟩ 8 (by kernel_rfl) (by kernel_rfl) (by kernel_rfl) (by kernel_rfl)) ?_
  intro W base args ds gs before hval0 hW hcnd _
  have hval : ∀ (j : Nat) t v, Try.f6.params[j]? = some t → args[j]? = some v → Value.okWide Try.prog W .any base t v := hval0
  have hW' := hW
  obtain ⟨p, q, hA0, hV, rfl, hfz, hnd⟩ := hW
  have hA : DataW.TrodAll enc Try.prog W 0 (fun _ => true) true Try.f6.params.toList args.toList ds p := hA0
  rw [Try.params6] at hA hval
  obtain ⟨v0, vs0, d0, ds0, p0, q0, hargs, rfl, rfl, g0, r0⟩ := trodAll_cons hA
  obtain ⟨v1, vs1, d1, ds1, p1, q1, rfl, rfl, rfl, g1, r1⟩ := trodAll_cons r0
  obtain ⟨rfl, rfl, rfl⟩ := trodAll_nil r1
  obtain rfl : args = #[v0, v1] := by cases args; simp_all
  obtain ⟨rfl, rfl⟩ := trodVars_none hV
  have k0 := g0
  have lt0 : ∀ x ∈ p0, x.block < W.heap.size := by obtain ⟨m, hm⟩ := k0; exact DataW.trod_lt m _ _ _ hm
  have k1 := g1
  have lt1 : ∀ x ∈ p1, x.block < W.heap.size := by obtain ⟨m, hm⟩ := k1; exact DataW.trod_lt m _ _ _ hm
  obtain ⟨a0, b0, e0, rfl⟩ := okWide_slice Try.underlying28 (hval 0 28 v0 rfl rfl)
  obtain ⟨A0, n0, cap0, t0, q0, h0max, h0in, h0each⟩ := (fun (h : ∃ fuel, DataW.trod enc Try.prog W 0 (fun _ => true) true fuel 28 [.slice a0 b0 e0] = some _) => instrs_in h.choose_spec) (by obtain ⟨m, hm⟩ := g0; exact ⟨m, by simpa [Value.cells] using hm⟩)
  obtain ⟨rfl, rfl, rfl⟩ : a0 = A0 ∧ b0 = n0 ∧ e0 = cap0 := by simpa using q0
  obtain ⟨A1, n1, cap1, z1, B1, m1, cbp1, y1, D1, o1, dap1, x1, pl1, rfl, h1len, h1max, h1row, h1glen, h1gmax, h1grow, h1slen, h1smax, h1srow⟩ := config_in (hval 1 39 v1 rfl rfl) g1
  clear hA0 hval0
  simp only [List.append_nil] at hW'
  refine (walk _ _ _ t0 A1 n1 cap1 z1 B1 m1 cbp1 y1 D1 o1 dap1 x1 pl1 W h0in h0max h0each h1row h1len h1max h1glen h1gmax h1grow h1slen h1smax h1srow).mono fun e W' ⟨he, bel⟩ => ?_
  subst he
  exact ⟨_, rfl, _, _, _, [], _, [], hW', trodAll_mk1 (shut_bool Try.underlying4 _), (trodAll_cons_mk (Below.trod laidOut (by kernel_rfl) (of_decide_eq_true (by kernel_rfl)) k0 bel lt0) (trodAll_cons_mk (Below.trod laidOut (by kernel_rfl) (of_decide_eq_true (by kernel_rfl)) k1 bel lt1) trodAll_mk0)), rfl, bel.frame _, fun h => by cases h⟩

theorem over : Rows.fnExactStepCodeRow.holds Try.pinned (OpenSpec.ofChange Rows.fnExactStepCodeSpec) :=
  OpenClaim.holds_of_wide 6 Try.f6 rfl rfl rfl rfl rfl rfl rfl ⟨rfl, rfl, rfl, rfl, rfl⟩ rfl rfl rfl rfl rfl (by kernel_rfl) Try.func6 (by kernel_rfl)
    (of_decide_eq_true (by kernel_rfl)) (by unfold Func.isWrapper; first | (rw [if_pos (by decide +kernel)]; kernel_rfl) | (rw [if_neg (by decide +kernel)]; exact ⟨rfl, rfl⟩))
    (fun os started H enc _ => lifted os started H enc)

/-- The statement. -/
theorem proved : Rows.FnExactStepCodeSaid := over
#print axioms proved
end Go.Proofs.Ytnfapodeifpeoaa.fnExactStepCode
