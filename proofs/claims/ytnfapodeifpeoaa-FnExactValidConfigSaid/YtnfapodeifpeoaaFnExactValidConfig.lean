/-
  For every list of instructions and config the program's ValidConfig answers as the model's, and leaves both as they were.
  Conditions: none but those that the statement itself bears.
-/
import Derived.Test.YtnfapodeifpeoaaRows
import Derived.WalkKit
import Derived.ProofKit
import Derived.OpenShut
import Derived.ShutString
import Derived.ChangeOld
import Derived.Below
import Derived.WalkSmall
import Derived.Test.YtnfapodeifpeoaaTms
import Derived.Test.YtnfapodeifpeoaaCfgV
namespace Go.Proofs.Ytnfapodeifpeoaa.fnExactValidConfig
open Go.ChangeShapes Go.WideShapes Go.ChangeAt Go.RowKit
open Go.ChangeMaps (open_string shut_string)
set_option linter.unusedVariables false

theorem own : ownKnob Try.prog.godebug = none := by kernel_rfl
theorem laidOut : laidOutB Try.prog = true := by kernel_rfl
set_option maxRecDepth 100000 in
set_option maxHeartbeats 8000000 in
theorem early0 (A0 : Option Addr) (n0 cap0 : Nat) (t0 : List (Int × Int)) (pl1 : Int) (A1 : Option Addr) (n1 cap1 : Nat) (z1 : List Int) (B1 : Option Addr) (m1 cbp1 : Nat) (y1 : List Int) (D1 : Option Addr) (o1 dap1 : Nat) (x1 : List Int) (w : World) (in0 : InC w w.heap.size A0 n0 t0) (in1a : InL w w.heap.size A1 n1 z1) (in1b : InL w w.heap.size B1 m1 y1) (in1c : InL w w.heap.size D1 o1 x1) (q0 : 1048576 < (n0)) (vn0 : n0 ≤ maxLen) (vn1 : n1 ≤ maxLen) (vm1 : m1 ≤ maxLen) (vo1 : o1 ≤ maxLen) :
    Calls Try.prog 5 #[.slice A0 n0 cap0, .agg #[.slice A1 n1 cap1, .slice B1 m1 cbp1, .slice D1 o1 dap1, .int .i64 pl1]] w fun e w' => e = .returned (.bool true) ∧ Below w.heap.size w w' := by
  have hB := Below.refl w.heap.size w
  go_enter Try.func5, Try.ntmps5
  go_wp2_with fail
  have hb_1 : Below w.heap.size w (w.alloc (.cells #[.slice A1 n1 cap1, .slice B1 m1 cbp1, .slice D1 o1 dap1, .int .i64 pl1] 39)) := bnew _ _
  have sz_2 : w.heap.size < (w.alloc (.cells #[.slice A1 n1 cap1, .slice B1 m1 cbp1, .slice D1 o1 dap1, .int .i64 pl1] 39)).heap.size := by simp
  have a1_0 : (w.alloc (.cells #[.slice A1 n1 cap1, .slice B1 m1 cbp1, .slice D1 o1 dap1, .int .i64 pl1] 39)).cell? ⟨w.heap.size, 0, none⟩ = some (.slice A1 n1 cap1) := by simp
  have a1_1 : (w.alloc (.cells #[.slice A1 n1 cap1, .slice B1 m1 cbp1, .slice D1 o1 dap1, .int .i64 pl1] 39)).cell? ⟨w.heap.size, 1, none⟩ = some (.slice B1 m1 cbp1) := by simp
  have a1_2 : (w.alloc (.cells #[.slice A1 n1 cap1, .slice B1 m1 cbp1, .slice D1 o1 dap1, .int .i64 pl1] 39)).cell? ⟨w.heap.size, 2, none⟩ = some (.slice D1 o1 dap1) := by simp
  have a1_3 : (w.alloc (.cells #[.slice A1 n1 cap1, .slice B1 m1 cbp1, .slice D1 o1 dap1, .int .i64 pl1] 39)).cell? ⟨w.heap.size, 3, none⟩ = some (.int .i64 pl1) := by simp
  have a1_l := sz_2
  generalize w.alloc (.cells #[.slice A1 n1 cap1, .slice B1 m1 cbp1, .slice D1 o1 dap1, .int .i64 pl1] 39) = w1 at hb_1 a1_0 a1_1 a1_2 a1_3 sz_2 a1_l ⊢
  replace in0 := in0.next hb_1 (by omega)
  replace in1a := in1a.next hb_1 (by omega)
  replace in1b := in1b.next hb_1 (by omega)
  replace in1c := in1c.next hb_1 (by omega)
  replace hB := hB.trans (hb_1.mono hB.size)
  have sz_3 := hb_1.size
  refine (szInstrS_k A0 n0 cap0 _ _ (by omega) (by omega) (by first | assumption | (unfold maxLen; omega))).mono ?_
  rintro e w2 ⟨rfl, hb_4⟩
  rw [szv_no (by omega)]
  replace in0 := in0.next hb_4 (by omega)
  replace in1a := in1a.next hb_4 (by omega)
  replace in1b := in1b.next hb_4 (by omega)
  replace in1c := in1c.next hb_4 (by omega)
  replace a1_0 := cell_next a1_0 hb_4
  replace a1_1 := cell_next a1_1 hb_4
  replace a1_2 := cell_next a1_2 hb_4
  replace a1_3 := cell_next a1_3 hb_4
  replace a1_l := Nat.lt_of_lt_of_le a1_l hb_4.size
  replace hB := hB.trans (hb_4.mono hB.size)
  have sz_5 := hb_4.size
  go_wp2_with fail
  go_ret
  exact ⟨rfl, hB⟩

set_option maxRecDepth 100000 in
set_option maxHeartbeats 8000000 in
theorem early1 (A0 : Option Addr) (n0 cap0 : Nat) (t0 : List (Int × Int)) (pl1 : Int) (A1 : Option Addr) (n1 cap1 : Nat) (z1 : List Int) (B1 : Option Addr) (m1 cbp1 : Nat) (y1 : List Int) (D1 : Option Addr) (o1 dap1 : Nat) (x1 : List Int) (w : World) (in0 : InC w w.heap.size A0 n0 t0) (in1a : InL w w.heap.size A1 n1 z1) (in1b : InL w w.heap.size B1 m1 y1) (in1c : InL w w.heap.size D1 o1 x1) (q0 : (n0) ≤ 1048576) (q1 : 1048576 < (n0) + (n1 + m1 + o1)) (vn0 : n0 ≤ maxLen) (vn1 : n1 ≤ maxLen) (vm1 : m1 ≤ maxLen) (vo1 : o1 ≤ maxLen) :
    Calls Try.prog 5 #[.slice A0 n0 cap0, .agg #[.slice A1 n1 cap1, .slice B1 m1 cbp1, .slice D1 o1 dap1, .int .i64 pl1]] w fun e w' => e = .returned (.bool true) ∧ Below w.heap.size w w' := by
  have hB := Below.refl w.heap.size w
  have hl_5 : (0 : Int) ≤ 1048576 - (n0 : Int) := by omega
  go_enter Try.func5, Try.ntmps5
  go_wp2_with fail
  have hb_1 : Below w.heap.size w (w.alloc (.cells #[.slice A1 n1 cap1, .slice B1 m1 cbp1, .slice D1 o1 dap1, .int .i64 pl1] 39)) := bnew _ _
  have sz_2 : w.heap.size < (w.alloc (.cells #[.slice A1 n1 cap1, .slice B1 m1 cbp1, .slice D1 o1 dap1, .int .i64 pl1] 39)).heap.size := by simp
  have a1_0 : (w.alloc (.cells #[.slice A1 n1 cap1, .slice B1 m1 cbp1, .slice D1 o1 dap1, .int .i64 pl1] 39)).cell? ⟨w.heap.size, 0, none⟩ = some (.slice A1 n1 cap1) := by simp
  have a1_1 : (w.alloc (.cells #[.slice A1 n1 cap1, .slice B1 m1 cbp1, .slice D1 o1 dap1, .int .i64 pl1] 39)).cell? ⟨w.heap.size, 1, none⟩ = some (.slice B1 m1 cbp1) := by simp
  have a1_2 : (w.alloc (.cells #[.slice A1 n1 cap1, .slice B1 m1 cbp1, .slice D1 o1 dap1, .int .i64 pl1] 39)).cell? ⟨w.heap.size, 2, none⟩ = some (.slice D1 o1 dap1) := by simp
  have a1_3 : (w.alloc (.cells #[.slice A1 n1 cap1, .slice B1 m1 cbp1, .slice D1 o1 dap1, .int .i64 pl1] 39)).cell? ⟨w.heap.size, 3, none⟩ = some (.int .i64 pl1) := by simp
  have a1_l := sz_2
  generalize w.alloc (.cells #[.slice A1 n1 cap1, .slice B1 m1 cbp1, .slice D1 o1 dap1, .int .i64 pl1] 39) = w1 at hb_1 a1_0 a1_1 a1_2 a1_3 sz_2 a1_l ⊢
  replace in0 := in0.next hb_1 (by omega)
  replace in1a := in1a.next hb_1 (by omega)
  replace in1b := in1b.next hb_1 (by omega)
  replace in1c := in1c.next hb_1 (by omega)
  replace hB := hB.trans (hb_1.mono hB.size)
  have sz_3 := hb_1.size
  refine (szInstrS_k A0 n0 cap0 _ _ (by omega) (by omega) (by first | assumption | (unfold maxLen; omega))).mono ?_
  rintro e w2 ⟨rfl, hb_4⟩
  rw [szv_yes (by omega)]
  replace in0 := in0.next hb_4 (by omega)
  replace in1a := in1a.next hb_4 (by omega)
  replace in1b := in1b.next hb_4 (by omega)
  replace in1c := in1c.next hb_4 (by omega)
  replace a1_0 := cell_next a1_0 hb_4
  replace a1_1 := cell_next a1_1 hb_4
  replace a1_2 := cell_next a1_2 hb_4
  replace a1_3 := cell_next a1_3 hb_4
  replace a1_l := Nat.lt_of_lt_of_le a1_l hb_4.size
  replace hB := hB.trans (hb_4.mono hB.size)
  have sz_6 := hb_4.size
  go_wp2_with fail
  refine (szConfig_k A1 n1 cap1 B1 m1 cbp1 D1 o1 dap1 pl1 _ _ (by omega) (by omega) (by first | assumption | (unfold maxLen; omega)) (by first | assumption | (unfold maxLen; omega)) (by first | assumption | (unfold maxLen; omega))).mono ?_
  rintro e w3 ⟨rfl, hb_7⟩
  rw [szv_no (by omega)]
  replace in0 := in0.next hb_7 (by omega)
  replace in1a := in1a.next hb_7 (by omega)
  replace in1b := in1b.next hb_7 (by omega)
  replace in1c := in1c.next hb_7 (by omega)
  replace a1_0 := cell_next a1_0 hb_7
  replace a1_1 := cell_next a1_1 hb_7
  replace a1_2 := cell_next a1_2 hb_7
  replace a1_3 := cell_next a1_3 hb_7
  replace a1_l := Nat.lt_of_lt_of_le a1_l hb_7.size
  replace hB := hB.trans (hb_7.mono hB.size)
  have sz_8 := hb_7.size
  go_wp2_with fail
  go_ret
  exact ⟨rfl, hB⟩

set_option maxRecDepth 100000 in
set_option maxHeartbeats 8000000 in
theorem road (A0 : Option Addr) (n0 cap0 : Nat) (t0 : List (Int × Int)) (pl1 : Int) (A1 : Option Addr) (n1 cap1 : Nat) (z1 : List Int) (B1 : Option Addr) (m1 cbp1 : Nat) (y1 : List Int) (D1 : Option Addr) (o1 dap1 : Nat) (x1 : List Int) (w : World) (in0 : InC w w.heap.size A0 n0 t0) (h0ok : n0 ≤ 1048576) (in1a : InL w w.heap.size A1 n1 z1) (in1b : InL w w.heap.size B1 m1 y1) (in1c : InL w w.heap.size D1 o1 x1) (h1ok : n1 ≤ 1048576) (h1gok : m1 ≤ 1048576) (h1sok : o1 ≤ 1048576) (h1sum : n1 + m1 + o1 ≤ 1048576) (hsum : (n0) + (n1 + m1 + o1) ≤ 1048576) (r0 : Bool) 
    (HS0 : ∀ (w0 : World) (a00 : Option Addr) (u00 : Nat) (a10 : Option Addr) (u10 : Nat) (a11 : Option Addr) (u11 : Nat) (a12 : Option Addr) (u12 : Nat), InC w0 w0.heap.size a00 n0 t0 → InL w0 w0.heap.size a10 n1 z1 → InL w0 w0.heap.size a11 m1 y1 → InL w0 w0.heap.size a12 o1 x1 → Calls Try.prog 22 #[.slice a00 n0 u00, .agg #[.slice a10 n1 u10, .slice a11 m1 u11, .slice a12 o1 u12, .int .i64 pl1]] w0 fun e w1 => e = .returned (.bool r0) ∧ Below w0.heap.size w0 w1)
    (HI0 : ∀ (w0 : World) (a00 : Option Addr) (u00 : Nat) (a10 : Option Addr) (u10 : Nat) (a11 : Option Addr) (u11 : Nat) (a12 : Option Addr) (u12 : Nat), InC w0 w0.heap.size a00 n0 t0 → InL w0 w0.heap.size a10 n1 z1 → InL w0 w0.heap.size a11 m1 y1 → InL w0 w0.heap.size a12 o1 x1 → Calls Try.prog 24 #[.slice a00 n0 u00, .agg #[.slice a10 n1 u10, .slice a11 m1 u11, .slice a12 o1 u12, .int .i64 pl1]] w0 fun e w1 => e = .returned (.bool r0) ∧ Below w0.heap.size w0 w1) :
    Calls Try.prog 5 #[.slice A0 n0 cap0, .agg #[.slice A1 n1 cap1, .slice B1 m1 cbp1, .slice D1 o1 dap1, .int .i64 pl1]] w fun e w' => e = .returned (.bool true) ∧ Below w.heap.size w w' := by
  have HS := Lib.hid HS0
  have HI := Lib.hid HI0
  clear HS0 HI0
  have hB := Below.refl w.heap.size w
  have hl_5 : (0 : Int) ≤ 1048576 - (n0 : Int) := by omega
  have hl_8 : (0 : Int) ≤ 1048576 - (n0 : Int) - ((n1 + m1 + o1 : Nat) : Int) := by omega
  go_enter Try.func5, Try.ntmps5
  go_wp2_with fail
  have hb_1 : Below w.heap.size w (w.alloc (.cells #[.slice A1 n1 cap1, .slice B1 m1 cbp1, .slice D1 o1 dap1, .int .i64 pl1] 39)) := bnew _ _
  have sz_2 : w.heap.size < (w.alloc (.cells #[.slice A1 n1 cap1, .slice B1 m1 cbp1, .slice D1 o1 dap1, .int .i64 pl1] 39)).heap.size := by simp
  have a1_0 : (w.alloc (.cells #[.slice A1 n1 cap1, .slice B1 m1 cbp1, .slice D1 o1 dap1, .int .i64 pl1] 39)).cell? ⟨w.heap.size, 0, none⟩ = some (.slice A1 n1 cap1) := by simp
  have a1_1 : (w.alloc (.cells #[.slice A1 n1 cap1, .slice B1 m1 cbp1, .slice D1 o1 dap1, .int .i64 pl1] 39)).cell? ⟨w.heap.size, 1, none⟩ = some (.slice B1 m1 cbp1) := by simp
  have a1_2 : (w.alloc (.cells #[.slice A1 n1 cap1, .slice B1 m1 cbp1, .slice D1 o1 dap1, .int .i64 pl1] 39)).cell? ⟨w.heap.size, 2, none⟩ = some (.slice D1 o1 dap1) := by simp
  have a1_3 : (w.alloc (.cells #[.slice A1 n1 cap1, .slice B1 m1 cbp1, .slice D1 o1 dap1, .int .i64 pl1] 39)).cell? ⟨w.heap.size, 3, none⟩ = some (.int .i64 pl1) := by simp
  have a1_l := sz_2
  generalize w.alloc (.cells #[.slice A1 n1 cap1, .slice B1 m1 cbp1, .slice D1 o1 dap1, .int .i64 pl1] 39) = w1 at hb_1 a1_0 a1_1 a1_2 a1_3 sz_2 a1_l ⊢
  replace in0 := in0.next hb_1 (by omega)
  replace in1a := in1a.next hb_1 (by omega)
  replace in1b := in1b.next hb_1 (by omega)
  replace in1c := in1c.next hb_1 (by omega)
  replace hB := hB.trans (hb_1.mono hB.size)
  have sz_3 := hb_1.size
  refine (szInstrS_k A0 n0 cap0 _ _ (by omega) (by omega) (by first | assumption | (unfold maxLen; omega))).mono ?_
  rintro e w2 ⟨rfl, hb_4⟩
  rw [szv_yes (by omega)]
  replace in0 := in0.next hb_4 (by omega)
  replace in1a := in1a.next hb_4 (by omega)
  replace in1b := in1b.next hb_4 (by omega)
  replace in1c := in1c.next hb_4 (by omega)
  replace a1_0 := cell_next a1_0 hb_4
  replace a1_1 := cell_next a1_1 hb_4
  replace a1_2 := cell_next a1_2 hb_4
  replace a1_3 := cell_next a1_3 hb_4
  replace a1_l := Nat.lt_of_lt_of_le a1_l hb_4.size
  replace hB := hB.trans (hb_4.mono hB.size)
  have sz_6 := hb_4.size
  go_wp2_with fail
  refine (szConfig_k A1 n1 cap1 B1 m1 cbp1 D1 o1 dap1 pl1 _ _ (by omega) (by omega) (by first | assumption | (unfold maxLen; omega)) (by first | assumption | (unfold maxLen; omega)) (by first | assumption | (unfold maxLen; omega))).mono ?_
  rintro e w3 ⟨rfl, hb_7⟩
  rw [szv_yes (by omega)]
  replace in0 := in0.next hb_7 (by omega)
  replace in1a := in1a.next hb_7 (by omega)
  replace in1b := in1b.next hb_7 (by omega)
  replace in1c := in1c.next hb_7 (by omega)
  replace a1_0 := cell_next a1_0 hb_7
  replace a1_1 := cell_next a1_1 hb_7
  replace a1_2 := cell_next a1_2 hb_7
  replace a1_3 := cell_next a1_3 hb_7
  replace a1_l := Nat.lt_of_lt_of_le a1_l hb_7.size
  replace hB := hB.trans (hb_7.mono hB.size)
  have sz_9 := hb_7.size
  go_wp2_with fail
  go_cut [6] (fun s6 wx => s6 = .bool r0 ∧ Below w3.heap.size w3 wx)
  case first =>
    have HT_13 := Lib.hid (fun (x : World) (h : Below w3.drew.heap.size w3.drew x) => toInstrS_k A0 n0 cap0 _ t0 x (in0.call (by omega) h) (le_call (by omega) h) h0ok)
    have HT_18 := Lib.hid (fun (x : World) (h : Below w3.drew.heap.size w3.drew x) => toConfig_k A1 n1 cap1 _ z1 B1 m1 cbp1 y1 D1 o1 dap1 x1 pl1 x (in1a.call (by omega) h) (in1b.call (by omega) h) (in1c.call (by omega) h) (le_call (by omega) h) h1ok h1gok h1sok)
    go_region_held3 (fun w' => w'.cell? ⟨w.heap.size, 0, none⟩ = some (.slice A1 n1 cap1) ∧ w'.cell? ⟨w.heap.size, 1, none⟩ = some (.slice B1 m1 cbp1) ∧ w'.cell? ⟨w.heap.size, 2, none⟩ = some (.slice D1 o1 dap1) ∧ w'.cell? ⟨w.heap.size, 3, none⟩ = some (.int .i64 pl1))
      (first | go_keep | exact ⟨cell_on a1_0 (by with_reducible repeat' (first | exact Below.refl _ _ | refine bon ?_ hb_15 | refine bon ?_ hb_20 | refine bon ?_ hb_28 | refine bon ?_ (bnew _ _) | fail)), cell_on a1_1 (by with_reducible repeat' (first | exact Below.refl _ _ | refine bon ?_ hb_15 | refine bon ?_ hb_20 | refine bon ?_ hb_28 | refine bon ?_ (bnew _ _) | fail)), cell_on a1_2 (by with_reducible repeat' (first | exact Below.refl _ _ | refine bon ?_ hb_15 | refine bon ?_ hb_20 | refine bon ?_ hb_28 | refine bon ?_ (bnew _ _) | fail)), cell_on a1_3 (by with_reducible repeat' (first | exact Below.refl _ _ | refine bon ?_ hb_15 | refine bon ?_ hb_20 | refine bon ?_ hb_28 | refine bon ?_ (bnew _ _) | fail))⟩ | fail "none keeps")
      (first | (go_at_call_of 18 A0; with_reducible refine (HT_13.out _ (by with_reducible repeat' (first | exact Below.refl _ _ | refine bon ?_ hb_15 | refine bon ?_ hb_20 | refine bon ?_ hb_28 | refine bon ?_ (bnew _ _) | fail))).mono ?_; rintro e v_14 ⟨g_16, rfl, own_17, hb_15⟩) | (go_at_call_of 23 A1; with_reducible refine (HT_18.out _ (by with_reducible repeat' (first | exact Below.refl _ _ | refine bon ?_ hb_15 | refine bon ?_ hb_20 | refine bon ?_ hb_28 | refine bon ?_ (bnew _ _) | fail))).mono ?_; rintro e v_19 ⟨g_21, g_22, g_23, mid_30, mid_31, rfl, own_24, own_25, own_26, md_32, hb_20⟩) | (go_at_call 22; with_reducible refine (HS.out _ _ _ _ _ _ _ _ _ (by with_reducible refine OwnC.all (lo := ?_) (hi := ?_) (c := ?_) ?_; with_reducible repeat' (first | exact own_17 | refine OwnC.next ?_ hb_20 | refine OwnC.next ?_ hb_15 | refine OwnC.next ?_ (bnew _ _) | fail)) (by with_reducible refine OwnL.all (lo := ?_) (hi := ?_) (c := ?_) ?_; with_reducible repeat' (first | exact own_24 | refine OwnL.next ?_ hb_20 | refine OwnL.next ?_ hb_15 | refine OwnL.next ?_ (bnew _ _) | fail)) (by with_reducible refine OwnL.all (lo := ?_) (hi := ?_) (c := ?_) ?_; with_reducible repeat' (first | exact own_25 | refine OwnL.next ?_ hb_20 | refine OwnL.next ?_ hb_15 | refine OwnL.next ?_ (bnew _ _) | fail)) (by with_reducible refine OwnL.all (lo := ?_) (hi := ?_) (c := ?_) ?_; with_reducible repeat' (first | exact own_26 | refine OwnL.next ?_ hb_20 | refine OwnL.next ?_ hb_15 | refine OwnL.next ?_ (bnew _ _) | fail))).mono ?_; rintro e v_27 ⟨rfl, hb_28⟩) | fail "no arm")
    all_goals (go_wp2_with fail; go_meet; first | exact ⟨rfl, bon (bstep (by with_reducible repeat' (first | exact Below.refl _ _ | refine bon ?_ hb_15 | refine bon ?_ hb_20 | refine bon ?_ hb_28 | refine bon ?_ (bnew _ _) | fail))) hb_28⟩ | fail "no end")
  case rest =>
    obtain ⟨rfl, hb_12⟩ := hcut
    obtain ⟨w4, hwx⟩ : ∃ x, x = wc := ⟨_, rfl⟩
    subst hwx
    replace in0 := in0.next hb_12 (by omega)
    replace in1a := in1a.next hb_12 (by omega)
    replace in1b := in1b.next hb_12 (by omega)
    replace in1c := in1c.next hb_12 (by omega)
    replace a1_0 := cell_next a1_0 hb_12
    replace a1_1 := cell_next a1_1 hb_12
    replace a1_2 := cell_next a1_2 hb_12
    replace a1_3 := cell_next a1_3 hb_12
    replace a1_l := Nat.lt_of_lt_of_le a1_l hb_12.size
    replace hB := hB.trans (hb_12.mono hB.size)
    have sz_33 := hb_12.size
    go_wp2_with fail
    refine (toInstrS_k A0 n0 cap0 _ t0 _ in0 (by omega) h0ok).mono ?_
    rintro e w5 ⟨g_34, rfl, own_35, hb_36⟩
    replace in0 := in0.next hb_36 (by omega)
    replace in1a := in1a.next hb_36 (by omega)
    replace in1b := in1b.next hb_36 (by omega)
    replace in1c := in1c.next hb_36 (by omega)
    replace a1_0 := cell_next a1_0 hb_36
    replace a1_1 := cell_next a1_1 hb_36
    replace a1_2 := cell_next a1_2 hb_36
    replace a1_3 := cell_next a1_3 hb_36
    replace a1_l := Nat.lt_of_lt_of_le a1_l hb_36.size
    replace hB := hB.trans (hb_36.mono hB.size)
    have sz_37 := hb_36.size
    go_wp2_with fail
    refine (toConfig_k A1 n1 cap1 _ z1 B1 m1 cbp1 y1 D1 o1 dap1 x1 pl1 _ in1a in1b in1c (by omega) h1ok h1gok h1sok).mono ?_
    rintro e w6 ⟨g_38, g_39, g_40, mid_45, mid_46, rfl, own_41, own_42, own_43, md_47, hb_44⟩
    replace in0 := in0.next hb_44 (by omega)
    replace in1a := in1a.next hb_44 (by omega)
    replace in1b := in1b.next hb_44 (by omega)
    replace in1c := in1c.next hb_44 (by omega)
    replace a1_0 := cell_next a1_0 hb_44
    replace a1_1 := cell_next a1_1 hb_44
    replace a1_2 := cell_next a1_2 hb_44
    replace a1_3 := cell_next a1_3 hb_44
    replace a1_l := Nat.lt_of_lt_of_le a1_l hb_44.size
    replace own_35 := own_35.next hb_44
    replace hB := hB.trans (hb_44.mono hB.size)
    have sz_48 := hb_44.size
    go_wp2_with fail
    have hb_49 : Below w6.heap.size w6 (w6.alloc (.cells #[.slice (some ⟨g_38, 0, none⟩) n1 n1, .slice (some ⟨g_39, 0, none⟩) m1 m1, .slice (some ⟨g_40, 0, none⟩) o1 o1, .int .i64 pl1] 44)) := bnew _ _
    have sz_50 : w6.heap.size < (w6.alloc (.cells #[.slice (some ⟨g_38, 0, none⟩) n1 n1, .slice (some ⟨g_39, 0, none⟩) m1 m1, .slice (some ⟨g_40, 0, none⟩) o1 o1, .int .i64 pl1] 44)).heap.size := by simp
    have x1_0 : (w6.alloc (.cells #[.slice (some ⟨g_38, 0, none⟩) n1 n1, .slice (some ⟨g_39, 0, none⟩) m1 m1, .slice (some ⟨g_40, 0, none⟩) o1 o1, .int .i64 pl1] 44)).cell? ⟨w6.heap.size, 0, none⟩ = some (.slice (some ⟨g_38, 0, none⟩) n1 n1) := by simp
    have x1_1 : (w6.alloc (.cells #[.slice (some ⟨g_38, 0, none⟩) n1 n1, .slice (some ⟨g_39, 0, none⟩) m1 m1, .slice (some ⟨g_40, 0, none⟩) o1 o1, .int .i64 pl1] 44)).cell? ⟨w6.heap.size, 1, none⟩ = some (.slice (some ⟨g_39, 0, none⟩) m1 m1) := by simp
    have x1_2 : (w6.alloc (.cells #[.slice (some ⟨g_38, 0, none⟩) n1 n1, .slice (some ⟨g_39, 0, none⟩) m1 m1, .slice (some ⟨g_40, 0, none⟩) o1 o1, .int .i64 pl1] 44)).cell? ⟨w6.heap.size, 2, none⟩ = some (.slice (some ⟨g_40, 0, none⟩) o1 o1) := by simp
    have x1_3 : (w6.alloc (.cells #[.slice (some ⟨g_38, 0, none⟩) n1 n1, .slice (some ⟨g_39, 0, none⟩) m1 m1, .slice (some ⟨g_40, 0, none⟩) o1 o1, .int .i64 pl1] 44)).cell? ⟨w6.heap.size, 3, none⟩ = some (.int .i64 pl1) := by simp
    have x1_l := sz_50
    generalize w6.alloc (.cells #[.slice (some ⟨g_38, 0, none⟩) n1 n1, .slice (some ⟨g_39, 0, none⟩) m1 m1, .slice (some ⟨g_40, 0, none⟩) o1 o1, .int .i64 pl1] 44) = w7 at hb_49 x1_0 x1_1 x1_2 x1_3 sz_50 x1_l ⊢
    replace in0 := in0.next hb_49 (by omega)
    replace in1a := in1a.next hb_49 (by omega)
    replace in1b := in1b.next hb_49 (by omega)
    replace in1c := in1c.next hb_49 (by omega)
    replace a1_0 := cell_next a1_0 hb_49
    replace a1_1 := cell_next a1_1 hb_49
    replace a1_2 := cell_next a1_2 hb_49
    replace a1_3 := cell_next a1_3 hb_49
    replace a1_l := Nat.lt_of_lt_of_le a1_l hb_49.size
    replace own_35 := own_35.next hb_49
    replace own_41 := own_41.next hb_49
    replace own_42 := own_42.next hb_49
    replace own_43 := own_43.next hb_49
    replace hB := hB.trans (hb_49.mono hB.size)
    have sz_51 := hb_49.size
    refine (HI.out w7 _ _ _ _ _ _ _ _ ((own_35.inn).more (by omega)) ((own_41.inn).more (by omega)) ((own_42.inn).more (by omega)) ((own_43.inn).more (by omega))).mono ?_
    rintro e w8 ⟨rfl, hb_52⟩
    replace in0 := in0.next hb_52 (by omega)
    replace in1a := in1a.next hb_52 (by omega)
    replace in1b := in1b.next hb_52 (by omega)
    replace in1c := in1c.next hb_52 (by omega)
    replace a1_0 := cell_next a1_0 hb_52
    replace a1_1 := cell_next a1_1 hb_52
    replace a1_2 := cell_next a1_2 hb_52
    replace a1_3 := cell_next a1_3 hb_52
    replace a1_l := Nat.lt_of_lt_of_le a1_l hb_52.size
    replace own_35 := own_35.next hb_52
    replace own_41 := own_41.next hb_52
    replace own_42 := own_42.next hb_52
    replace own_43 := own_43.next hb_52
    replace x1_0 := cell_next x1_0 hb_52
    replace x1_1 := cell_next x1_1 hb_52
    replace x1_2 := cell_next x1_2 hb_52
    replace x1_3 := cell_next x1_3 hb_52
    replace x1_l := Nat.lt_of_lt_of_le x1_l hb_52.size
    replace hB := hB.trans (hb_52.mono hB.size)
    have sz_53 := hb_52.size
    go_wp2_with fail
    -- if g0 != w0 {
    refine (toInstrS_k A0 n0 cap0 _ t0 _ in0 (by omega) h0ok).mono ?_
    rintro e w9 ⟨g_54, rfl, own_55, hb_56⟩
    replace in0 := in0.next hb_56 (by omega)
    replace in1a := in1a.next hb_56 (by omega)
    replace in1b := in1b.next hb_56 (by omega)
    replace in1c := in1c.next hb_56 (by omega)
    replace a1_0 := cell_next a1_0 hb_56
    replace a1_1 := cell_next a1_1 hb_56
    replace a1_2 := cell_next a1_2 hb_56
    replace a1_3 := cell_next a1_3 hb_56
    replace a1_l := Nat.lt_of_lt_of_le a1_l hb_56.size
    replace own_35 := own_35.next hb_56
    replace own_41 := own_41.next hb_56
    replace own_42 := own_42.next hb_56
    replace own_43 := own_43.next hb_56
    replace x1_0 := cell_next x1_0 hb_56
    replace x1_1 := cell_next x1_1 hb_56
    replace x1_2 := cell_next x1_2 hb_56
    replace x1_3 := cell_next x1_3 hb_56
    replace x1_l := Nat.lt_of_lt_of_le x1_l hb_56.size
    replace hB := hB.trans (hb_56.mono hB.size)
    have sz_57 := hb_56.size
    go_wp2_with fail
    refine (eqInstrS_k (some ⟨g_34, 0, none⟩) (some ⟨g_54, 0, none⟩) n0 n0 n0 _ _ t0 _ own_35.inn own_55.inn (by omega) (by omega) h0ok).mono ?_
    rintro e w10 ⟨rfl, hb_58⟩
    clear own_55
    replace in0 := in0.next hb_58 (by omega)
    replace in1a := in1a.next hb_58 (by omega)
    replace in1b := in1b.next hb_58 (by omega)
    replace in1c := in1c.next hb_58 (by omega)
    replace a1_0 := cell_next a1_0 hb_58
    replace a1_1 := cell_next a1_1 hb_58
    replace a1_2 := cell_next a1_2 hb_58
    replace a1_3 := cell_next a1_3 hb_58
    replace a1_l := Nat.lt_of_lt_of_le a1_l hb_58.size
    replace own_35 := own_35.next hb_58
    replace own_41 := own_41.next hb_58
    replace own_42 := own_42.next hb_58
    replace own_43 := own_43.next hb_58
    replace x1_0 := cell_next x1_0 hb_58
    replace x1_1 := cell_next x1_1 hb_58
    replace x1_2 := cell_next x1_2 hb_58
    replace x1_3 := cell_next x1_3 hb_58
    replace x1_l := Nat.lt_of_lt_of_le x1_l hb_58.size
    replace hB := hB.trans (hb_58.mono hB.size)
    have sz_59 := hb_58.size
    go_wp2_with fail
    have HT_60 := Lib.hid (toConfig_k A1 n1 cap1 _ z1 B1 m1 cbp1 y1 D1 o1 dap1 x1 pl1 w10.drew in1a.drew in1b.drew in1c.drew (by show _ ≤ w10.heap.size; omega) h1ok h1gok h1sok)
    have HE_61 : Hid (∀ w11 g_62 g_63 g_64 mid_69 mid_70, Below w10.drew.heap.size w10.drew w11 → OwnL w11 w10.drew.heap.size mid_69 (some ⟨g_62, 0, none⟩) n1 n1 z1 → OwnL w11 mid_69 mid_70 (some ⟨g_63, 0, none⟩) m1 m1 y1 → OwnL w11 mid_70 w11.heap.size (some ⟨g_64, 0, none⟩) o1 o1 x1 → w10.drew.heap.size ≤ mid_69 ∧ mid_69 ≤ mid_70 ∧ mid_70 ≤ w11.heap.size → Calls Try.prog 25 #[.agg #[.slice (some ⟨g_38, 0, none⟩) n1 n1, .slice (some ⟨g_39, 0, none⟩) m1 m1, .slice (some ⟨g_40, 0, none⟩) o1 o1, .int .i64 pl1], .agg #[.slice (some ⟨g_62, 0, none⟩) n1 n1, .slice (some ⟨g_63, 0, none⟩) m1 m1, .slice (some ⟨g_64, 0, none⟩) o1 o1, .int .i64 pl1]] w11 fun e w' => e = .returned (.bool true) ∧ Below w11.heap.size w11 w') := fun w11 g_62 g_63 g_64 mid_69 mid_70 hb_68 own_65 own_66 own_67 md_71 => eqConfig_k (some ⟨g_38, 0, none⟩) (some ⟨g_62, 0, none⟩) n1 n1 n1 z1 (some ⟨g_39, 0, none⟩) (some ⟨g_63, 0, none⟩) m1 m1 m1 y1 (some ⟨g_40, 0, none⟩) (some ⟨g_64, 0, none⟩) o1 o1 o1 x1 pl1 (w11.heap.size) (w11.heap.size) w11 (((own_41.inn).call (by omega) hb_68).more (le_call (by omega) hb_68)) (((own_42.inn).call (by omega) hb_68).more (le_call (by omega) hb_68)) (((own_43.inn).call (by omega) hb_68).more (le_call (by omega) hb_68)) ((own_65.inn).more (by omega)) ((own_66.inn).more (by omega)) ((own_67.inn).more (by omega)) (Nat.le_refl _) (Nat.le_refl _) h1ok h1gok h1sok
    go_region_held3 (fun w' => w'.cell? ⟨w.heap.size, 0, none⟩ = some (.slice A1 n1 cap1) ∧ w'.cell? ⟨w.heap.size, 1, none⟩ = some (.slice B1 m1 cbp1) ∧ w'.cell? ⟨w.heap.size, 2, none⟩ = some (.slice D1 o1 dap1) ∧ w'.cell? ⟨w.heap.size, 3, none⟩ = some (.int .i64 pl1) ∧ w'.cell? ⟨w6.heap.size, 0, none⟩ = some (.slice (some ⟨g_38, 0, none⟩) n1 n1) ∧ w'.cell? ⟨w6.heap.size, 1, none⟩ = some (.slice (some ⟨g_39, 0, none⟩) m1 m1) ∧ w'.cell? ⟨w6.heap.size, 2, none⟩ = some (.slice (some ⟨g_40, 0, none⟩) o1 o1) ∧ w'.cell? ⟨w6.heap.size, 3, none⟩ = some (.int .i64 pl1))
      (first | go_keep | exact ⟨cell_on a1_0 hb_68, cell_on a1_1 hb_68, cell_on a1_2 hb_68, cell_on a1_3 hb_68, cell_on x1_0 hb_68, cell_on x1_1 hb_68, cell_on x1_2 hb_68, cell_on x1_3 hb_68⟩ | exact ⟨cell_on2 a1_0 hb_68 hb_73, cell_on2 a1_1 hb_68 hb_73, cell_on2 a1_2 hb_68 hb_73, cell_on2 a1_3 hb_68 hb_73, cell_on2 x1_0 hb_68 hb_73, cell_on2 x1_1 hb_68 hb_73, cell_on2 x1_2 hb_68 hb_73, cell_on2 x1_3 hb_68 hb_73⟩)
      (first | (go_at_call 23; refine HT_60.out.mono ?_; rintro e w11 ⟨g_62, g_63, g_64, mid_69, mid_70, rfl, own_65, own_66, own_67, md_71, hb_68⟩) | (go_at_call 25; refine (HE_61.out _ _ _ _ _ _ hb_68 own_65 own_66 own_67 md_71).mono ?_; rintro e w12 ⟨rfl, hb_73⟩))
    replace hb_68 := (bstep hb_68)
    replace in0 := in0.next hb_68 (by omega)
    replace in1a := in1a.next hb_68 (by omega)
    replace in1b := in1b.next hb_68 (by omega)
    replace in1c := in1c.next hb_68 (by omega)
    replace a1_0 := cell_next a1_0 hb_68
    replace a1_1 := cell_next a1_1 hb_68
    replace a1_2 := cell_next a1_2 hb_68
    replace a1_3 := cell_next a1_3 hb_68
    replace a1_l := Nat.lt_of_lt_of_le a1_l hb_68.size
    replace own_35 := own_35.next hb_68
    replace own_41 := own_41.next hb_68
    replace own_42 := own_42.next hb_68
    replace own_43 := own_43.next hb_68
    replace x1_0 := cell_next x1_0 hb_68
    replace x1_1 := cell_next x1_1 hb_68
    replace x1_2 := cell_next x1_2 hb_68
    replace x1_3 := cell_next x1_3 hb_68
    replace x1_l := Nat.lt_of_lt_of_le x1_l hb_68.size
    replace hB := hB.trans (hb_68.mono hB.size)
    have sz_74 := hb_68.size
    replace in0 := in0.next hb_73 (by omega)
    replace in1a := in1a.next hb_73 (by omega)
    replace in1b := in1b.next hb_73 (by omega)
    replace in1c := in1c.next hb_73 (by omega)
    replace a1_0 := cell_next a1_0 hb_73
    replace a1_1 := cell_next a1_1 hb_73
    replace a1_2 := cell_next a1_2 hb_73
    replace a1_3 := cell_next a1_3 hb_73
    replace a1_l := Nat.lt_of_lt_of_le a1_l hb_73.size
    replace own_35 := own_35.next hb_73
    replace own_41 := own_41.next hb_73
    replace own_42 := own_42.next hb_73
    replace own_43 := own_43.next hb_73
    replace x1_0 := cell_next x1_0 hb_73
    replace x1_1 := cell_next x1_1 hb_73
    replace x1_2 := cell_next x1_2 hb_73
    replace x1_3 := cell_next x1_3 hb_73
    replace x1_l := Nat.lt_of_lt_of_le x1_l hb_73.size
    replace hB := hB.trans (hb_73.mono hB.size)
    have sz_75 := hb_73.size
    clear HT_60 HE_61 own_65 own_66 own_67
    go_wp2_with fail
    go_ret
    exact ⟨rfl, hB⟩

set_option maxRecDepth 100000 in
set_option maxHeartbeats 4000000 in
theorem walk (A0 : Option Addr) (n0 cap0 : Nat) (t0 : List (Int × Int)) (A1 : Option Addr) (n1 cap1 : Nat) (z1 : List Int) (B1 : Option Addr) (m1 cbp1 : Nat) (y1 : List Int) (D1 : Option Addr) (o1 dap1 : Nat) (x1 : List Int) (pl1 : Int) (w : World) (h0in : InC w w.heap.size A0 n0 t0) (h0max : n0 ≤ maxLen) (h0each : ∀ y ∈ t0, (Lit.int .i64 y.1).wf = true ∧ (Lit.int .i64 y.2).wf = true) (h1row : Row w w.heap.size A1 (z1.map ic)) (h1len : z1.length = n1) (h1max : n1 ≤ maxLen) (h1glen : y1.length = m1) (h1gmax : m1 ≤ maxLen) (h1grow : Row w w.heap.size B1 (y1.map ic)) (h1slen : x1.length = o1) (h1smax : o1 ≤ maxLen) (h1srow : Row w w.heap.size D1 (x1.map ic)) :
    Calls Try.prog 5 #[.slice A0 n0 cap0, .agg #[.slice A1 n1 cap1, .slice B1 m1 cbp1, .slice D1 o1 dap1, .int .i64 pl1]] w fun e w' => e = .returned (.bool true) ∧ Below w.heap.size w w' := by
  by_cases hn : n0 ≤ 1048576
  · by_cases hm : n0 + (n1 + m1 + o1) ≤ 1048576
    · exact road A0 n0 cap0 t0 pl1 A1 n1 cap1 z1 B1 m1 cbp1 y1 D1 o1 dap1 x1 w h0in (by omega) ⟨h1len, h1row⟩ ⟨h1glen, h1grow⟩ ⟨h1slen, h1srow⟩ (by omega) (by omega) (by omega) (by omega) (by omega) (vcfB t0 z1 y1 x1 pl1)
        (fun w0 a00 u00 a10 u10 a11 u11 a12 u12 h g0 g1 g2 => specConfig_c a00 n0 u00 t0 a10 n1 u10 z1 a11 m1 u11 y1 a12 o1 u12 x1 pl1 w0 h g0 g1 g2 (by omega) (by omega) (by omega) (by omega))
        (fun w0 a00 u00 a10 u10 a11 u11 a12 u12 h g0 g1 g2 => implConfig_c a00 n0 u00 t0 a10 n1 u10 z1 a11 m1 u11 y1 a12 o1 u12 x1 pl1 w0 h g0 g1 g2 (by omega) (by omega) (by omega) (by omega))
    · exact early1 A0 n0 cap0 t0 pl1 A1 n1 cap1 z1 B1 m1 cbp1 y1 D1 o1 dap1 x1 w h0in ⟨h1len, h1row⟩ ⟨h1glen, h1grow⟩ ⟨h1slen, h1srow⟩ (by omega) (by omega) h0max h1max h1gmax h1smax
  · exact early0 A0 n0 cap0 t0 pl1 A1 n1 cap1 z1 B1 m1 cbp1 y1 D1 o1 dap1 x1 w h0in ⟨h1len, h1row⟩ ⟨h1glen, h1grow⟩ ⟨h1slen, h1srow⟩ (by omega) h0max h1max h1gmax h1smax

set_option maxRecDepth 100000 in
set_option maxHeartbeats 4000000 in
theorem lifted (os : Os) (started : os.Started) (H : Type) (enc : TypeId × Value → H) :
    ReturnsInHanded {} Try.checked os 5 .any (Rows.fnExactValidConfigSpec.pre6 enc Try.prog Try.f5 Rows.fnExactValidConfigRow.domain false) (Rows.fnExactValidConfigSpec.post enc Try.prog Try.f5 false true false false) := by
  refine returnsInHanded_of_change (C := Try.checked) own started (by kernel_rfl) Try.func5
    (ChangeSpec.witness6 (enc := enc) (C := Try.checked) false ⟨#[], #[.slice none 0 0, .agg #[.slice none 0 0, .slice none 0 0, .slice none 0 0, .int .i64 0]], []⟩ 8 (by kernel_rfl) (by kernel_rfl) (by kernel_rfl) (by kernel_rfl)) ?_
  intro W base args ds gs before hval0 hW hcnd _
  have hval : ∀ (j : Nat) t v, Try.f5.params[j]? = some t → args[j]? = some v → Value.okWide Try.prog W .any base t v := hval0
  have hW' := hW
  obtain ⟨p, q, hA0, hV, rfl, hfz, hnd⟩ := hW
  have hA : DataW.TrodAll enc Try.prog W 0 (fun _ => true) true Try.f5.params.toList args.toList ds p := hA0
  rw [Try.params5] at hA hval
  obtain ⟨v0, vs0, d0, ds0, p0, q0, hargs, rfl, rfl, g0, r0⟩ := trodAll_cons hA
  obtain ⟨v1, vs1, d1, ds1, p1, q1, rfl, rfl, rfl, g1, r1⟩ := trodAll_cons r0
  obtain ⟨rfl, rfl, rfl⟩ := trodAll_nil r1
  obtain rfl : args = #[v0, v1] := by cases args; simp_all
  obtain ⟨rfl, rfl⟩ := trodVars_none hV
  have k0 := g0
  have lt0 : ∀ x ∈ p0, x.block < W.heap.size := by obtain ⟨m, hm⟩ := k0; exact DataW.trod_lt m _ _ _ hm
  have k1 := g1
  have lt1 : ∀ x ∈ p1, x.block < W.heap.size := by obtain ⟨m, hm⟩ := k1; exact DataW.trod_lt m _ _ _ hm
  obtain ⟨a0, b0, e0, rfl⟩ := okWide_slice Try.underlying28 (hval 0 28 v0 rfl rfl)
  obtain ⟨A0, n0, cap0, t0, q0, h0max, h0in, h0each⟩ := (fun (h : ∃ fuel, DataW.trod enc Try.prog W 0 (fun _ => true) true fuel 28 [.slice a0 b0 e0] = some _) => instrs_in h.choose_spec) (by obtain ⟨m, hm⟩ := g0; exact ⟨m, by simpa [Value.cells] using hm⟩)
  obtain ⟨rfl, rfl, rfl⟩ : a0 = A0 ∧ b0 = n0 ∧ e0 = cap0 := by simpa using q0
  obtain ⟨A1, n1, cap1, z1, B1, m1, cbp1, y1, D1, o1, dap1, x1, pl1, rfl, h1len, h1max, h1row, h1glen, h1gmax, h1grow, h1slen, h1smax, h1srow⟩ := config_in (hval 1 39 v1 rfl rfl) g1
  clear hA0 hval0
  simp only [List.append_nil] at hW'
  refine (walk _ _ _ t0 A1 n1 cap1 z1 B1 m1 cbp1 y1 D1 o1 dap1 x1 pl1 W h0in h0max h0each h1row h1len h1max h1glen h1gmax h1grow h1slen h1smax h1srow).mono fun e W' ⟨he, bel⟩ => ?_
  subst he
  exact ⟨_, rfl, _, _, _, [], _, [], hW', trodAll_mk1 (shut_bool Try.underlying4 _), (trodAll_cons_mk (Below.trod laidOut (by kernel_rfl) (of_decide_eq_true (by kernel_rfl)) k0 bel lt0) (trodAll_cons_mk (Below.trod laidOut (by kernel_rfl) (of_decide_eq_true (by kernel_rfl)) k1 bel lt1) trodAll_mk0)), rfl, bel.frame _, fun h => by cases h⟩

theorem over : Rows.fnExactValidConfigRow.holds Try.pinned (OpenSpec.ofChange Rows.fnExactValidConfigSpec) :=
  OpenClaim.holds_of_wide 5 Try.f5 rfl rfl rfl rfl rfl rfl rfl ⟨rfl, rfl, rfl, rfl, rfl⟩ rfl rfl rfl rfl rfl (by kernel_rfl) Try.func5 (by kernel_rfl)
    (of_decide_eq_true (by kernel_rfl)) (by unfold Func.isWrapper; first | (rw [if_pos (by decide +kernel)]; kernel_rfl) | (rw [if_neg (by decide +kernel)]; exact ⟨rfl, rfl⟩))
    (fun os started H enc _ => lifted os started H enc)

/-- The statement. -/
theorem proved : Rows.FnExactValidConfigSaid := over
#print axioms proved
end Go.Proofs.Ytnfapodeifpeoaa.fnExactValidConfig
