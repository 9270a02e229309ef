/-
  For every list of terms and every state the program's HoldsIn answers as the model's, and leaves both as they were.
  Conditions: none but those that the statement itself bears.
-/
import Derived.Test.YtjffinlppfbipaaRows
import Derived.WalkKit
import Derived.ProofKit
import Derived.OpenShut
import Derived.ShutString
import Derived.ChangeOld
import Derived.Below
import Derived.WalkSmall
import Derived.Test.YtjffinlppfbipaaTms
import Derived.Test.YtjffinlppfbipaaHold
namespace Go.Proofs.Ytjffinlppfbipaa.fnExactHoldsIn
open Go.ChangeShapes Go.WideShapes Go.ChangeAt Go.RowKit
open Go.ChangeMaps (open_string shut_string)
set_option linter.unusedVariables false

theorem own : ownKnob Try.prog.godebug = none := by kernel_rfl
theorem laidOut : laidOutB Try.prog = true := by kernel_rfl
set_option maxRecDepth 100000 in
set_option maxHeartbeats 8000000 in
theorem early0 (A0 : Option Addr) (n0 cap0 : Nat) (t0 : List (Int × List Int)) (A1 : Option Addr) (n1 cap1 : Nat) (z1 : List Int) (B1 : Option Addr) (m1 cbp1 : Nat) (y1 : List Int) (w : World) (in0 : InTS w w.heap.size A0 n0 t0) (in1a : InL w w.heap.size A1 n1 z1) (in1b : InL w w.heap.size B1 m1 y1) (q0 : 1048576 < (n0 + totT t0)) (vn0 : n0 ≤ maxLen) (en0 : ∀ t ∈ t0, t.2.length ≤ maxLen) (vn1 : n1 ≤ maxLen) (vm1 : m1 ≤ maxLen) :
    Calls Try.prog 4 #[.slice A0 n0 cap0, .agg #[.slice A1 n1 cap1, .slice B1 m1 cbp1]] w fun e w' => e = .returned (.bool true) ∧ Below w.heap.size w w' := by
  have hB := Below.refl w.heap.size w
  go_enter Try.func4, Try.ntmps4
  go_wp2_with fail
  have hb_1 : Below w.heap.size w (w.alloc (.cells #[.slice A1 n1 cap1, .slice B1 m1 cbp1] 24)) := bnew _ _
  have sz_2 : w.heap.size < (w.alloc (.cells #[.slice A1 n1 cap1, .slice B1 m1 cbp1] 24)).heap.size := by simp
  have a1_0 : (w.alloc (.cells #[.slice A1 n1 cap1, .slice B1 m1 cbp1] 24)).cell? ⟨w.heap.size, 0, none⟩ = some (.slice A1 n1 cap1) := by simp
  have a1_1 : (w.alloc (.cells #[.slice A1 n1 cap1, .slice B1 m1 cbp1] 24)).cell? ⟨w.heap.size, 1, none⟩ = some (.slice B1 m1 cbp1) := by simp
  have a1_l := sz_2
  generalize w.alloc (.cells #[.slice A1 n1 cap1, .slice B1 m1 cbp1] 24) = w1 at hb_1 a1_0 a1_1 sz_2 a1_l ⊢
  replace in0 := in0.next hb_1 (by omega)
  replace in1a := in1a.next hb_1 (by omega)
  replace in1b := in1b.next hb_1 (by omega)
  replace hB := hB.trans (hb_1.mono hB.size)
  have sz_3 := hb_1.size
  refine (szTermS_k A0 n0 cap0 _ t0 _ _ in0 (by omega) (by omega) (by omega) (by first | assumption | (unfold maxLen; omega)) (by first | assumption | exact each_of (by omega))).mono ?_
  rintro e w2 ⟨rfl, hb_4⟩
  rw [szv_no (by omega)]
  replace in0 := in0.next hb_4 (by omega)
  replace in1a := in1a.next hb_4 (by omega)
  replace in1b := in1b.next hb_4 (by omega)
  replace a1_0 := cell_next a1_0 hb_4
  replace a1_1 := cell_next a1_1 hb_4
  replace a1_l := Nat.lt_of_lt_of_le a1_l hb_4.size
  replace hB := hB.trans (hb_4.mono hB.size)
  have sz_5 := hb_4.size
  go_wp2_with fail
  go_ret
  exact ⟨rfl, hB⟩

set_option maxRecDepth 100000 in
set_option maxHeartbeats 8000000 in
theorem early1 (A0 : Option Addr) (n0 cap0 : Nat) (t0 : List (Int × List Int)) (A1 : Option Addr) (n1 cap1 : Nat) (z1 : List Int) (B1 : Option Addr) (m1 cbp1 : Nat) (y1 : List Int) (w : World) (in0 : InTS w w.heap.size A0 n0 t0) (in1a : InL w w.heap.size A1 n1 z1) (in1b : InL w w.heap.size B1 m1 y1) (q0 : (n0 + totT t0) ≤ 1048576) (q1 : 1048576 < (n0 + totT t0) + (n1 + m1)) (vn0 : n0 ≤ maxLen) (en0 : ∀ t ∈ t0, t.2.length ≤ maxLen) (vn1 : n1 ≤ maxLen) (vm1 : m1 ≤ maxLen) :
    Calls Try.prog 4 #[.slice A0 n0 cap0, .agg #[.slice A1 n1 cap1, .slice B1 m1 cbp1]] w fun e w' => e = .returned (.bool true) ∧ Below w.heap.size w w' := by
  have hB := Below.refl w.heap.size w
  have hl_5 : (0 : Int) ≤ 1048576 - ((n0 + totT t0 : Nat) : Int) := by omega
  go_enter Try.func4, Try.ntmps4
  go_wp2_with fail
  have hb_1 : Below w.heap.size w (w.alloc (.cells #[.slice A1 n1 cap1, .slice B1 m1 cbp1] 24)) := bnew _ _
  have sz_2 : w.heap.size < (w.alloc (.cells #[.slice A1 n1 cap1, .slice B1 m1 cbp1] 24)).heap.size := by simp
  have a1_0 : (w.alloc (.cells #[.slice A1 n1 cap1, .slice B1 m1 cbp1] 24)).cell? ⟨w.heap.size, 0, none⟩ = some (.slice A1 n1 cap1) := by simp
  have a1_1 : (w.alloc (.cells #[.slice A1 n1 cap1, .slice B1 m1 cbp1] 24)).cell? ⟨w.heap.size, 1, none⟩ = some (.slice B1 m1 cbp1) := by simp
  have a1_l := sz_2
  generalize w.alloc (.cells #[.slice A1 n1 cap1, .slice B1 m1 cbp1] 24) = w1 at hb_1 a1_0 a1_1 sz_2 a1_l ⊢
  replace in0 := in0.next hb_1 (by omega)
  replace in1a := in1a.next hb_1 (by omega)
  replace in1b := in1b.next hb_1 (by omega)
  replace hB := hB.trans (hb_1.mono hB.size)
  have sz_3 := hb_1.size
  refine (szTermS_k A0 n0 cap0 _ t0 _ _ in0 (by omega) (by omega) (by omega) (by first | assumption | (unfold maxLen; omega)) (by first | assumption | exact each_of (by omega))).mono ?_
  rintro e w2 ⟨rfl, hb_4⟩
  rw [szv_yes (by omega)]
  replace in0 := in0.next hb_4 (by omega)
  replace in1a := in1a.next hb_4 (by omega)
  replace in1b := in1b.next hb_4 (by omega)
  replace a1_0 := cell_next a1_0 hb_4
  replace a1_1 := cell_next a1_1 hb_4
  replace a1_l := Nat.lt_of_lt_of_le a1_l hb_4.size
  replace hB := hB.trans (hb_4.mono hB.size)
  have sz_6 := hb_4.size
  go_wp2_with fail
  refine (szState_k A1 n1 cap1 B1 m1 cbp1 _ _ (by omega) (by omega) (by first | assumption | (unfold maxLen; omega)) (by first | assumption | (unfold maxLen; omega))).mono ?_
  rintro e w3 ⟨rfl, hb_7⟩
  rw [szv_no (by omega)]
  replace in0 := in0.next hb_7 (by omega)
  replace in1a := in1a.next hb_7 (by omega)
  replace in1b := in1b.next hb_7 (by omega)
  replace a1_0 := cell_next a1_0 hb_7
  replace a1_1 := cell_next a1_1 hb_7
  replace a1_l := Nat.lt_of_lt_of_le a1_l hb_7.size
  replace hB := hB.trans (hb_7.mono hB.size)
  have sz_8 := hb_7.size
  go_wp2_with fail
  go_ret
  exact ⟨rfl, hB⟩

set_option maxRecDepth 100000 in
set_option maxHeartbeats 8000000 in
theorem road (A0 : Option Addr) (n0 cap0 : Nat) (t0 : List (Int × List Int)) (A1 : Option Addr) (n1 cap1 : Nat) (z1 : List Int) (B1 : Option Addr) (m1 cbp1 : Nat) (y1 : List Int) (w : World) (in0 : InTS w w.heap.size A0 n0 t0) (h0ok : n0 ≤ 1048576) (h0eok : totT t0 ≤ 1048576) (h0sum : n0 + totT t0 ≤ 1048576) (in1a : InL w w.heap.size A1 n1 z1) (in1b : InL w w.heap.size B1 m1 y1) (h1ok : n1 ≤ 1048576) (h1gok : m1 ≤ 1048576) (h1sum : n1 + m1 ≤ 1048576) (hsum : (n0 + totT t0) + (n1 + m1) ≤ 1048576) (r0 : Bool) (r1 : Bool) 
    (HS0 : ∀ (w0 : World) (a00 : Option Addr) (u00 : Nat) (a10 : Option Addr) (u10 : Nat) (a11 : Option Addr) (u11 : Nat), InTS w0 w0.heap.size a00 n0 t0 → InL w0 w0.heap.size a10 n1 z1 → InL w0 w0.heap.size a11 m1 y1 → Calls Try.prog 11 #[.slice a00 n0 u00, .agg #[.slice a10 n1 u10, .slice a11 m1 u11]] w0 fun e w1 => e = .returned (.tuple #[.bool r0, .bool r1]) ∧ Below w0.heap.size w0 w1)
    (HI0 : ∀ (w0 : World) (a00 : Option Addr) (u00 : Nat) (a10 : Option Addr) (u10 : Nat) (a11 : Option Addr) (u11 : Nat), InTS w0 w0.heap.size a00 n0 t0 → InL w0 w0.heap.size a10 n1 z1 → InL w0 w0.heap.size a11 m1 y1 → Calls Try.prog 13 #[.slice a00 n0 u00, .agg #[.slice a10 n1 u10, .slice a11 m1 u11]] w0 fun e w1 => e = .returned (.tuple #[.bool r0, .bool r1]) ∧ Below w0.heap.size w0 w1) :
    Calls Try.prog 4 #[.slice A0 n0 cap0, .agg #[.slice A1 n1 cap1, .slice B1 m1 cbp1]] w fun e w' => e = .returned (.bool true) ∧ Below w.heap.size w w' := by
  have HS := Lib.hid HS0
  have HI := Lib.hid HI0
  clear HS0 HI0
  have hB := Below.refl w.heap.size w
  have hl_5 : (0 : Int) ≤ 1048576 - ((n0 + totT t0 : Nat) : Int) := by omega
  have hl_8 : (0 : Int) ≤ 1048576 - ((n0 + totT t0 : Nat) : Int) - ((n1 + m1 : Nat) : Int) := by omega
  go_enter Try.func4, Try.ntmps4
  go_wp2_with fail
  have hb_1 : Below w.heap.size w (w.alloc (.cells #[.slice A1 n1 cap1, .slice B1 m1 cbp1] 24)) := bnew _ _
  have sz_2 : w.heap.size < (w.alloc (.cells #[.slice A1 n1 cap1, .slice B1 m1 cbp1] 24)).heap.size := by simp
  have a1_0 : (w.alloc (.cells #[.slice A1 n1 cap1, .slice B1 m1 cbp1] 24)).cell? ⟨w.heap.size, 0, none⟩ = some (.slice A1 n1 cap1) := by simp
  have a1_1 : (w.alloc (.cells #[.slice A1 n1 cap1, .slice B1 m1 cbp1] 24)).cell? ⟨w.heap.size, 1, none⟩ = some (.slice B1 m1 cbp1) := by simp
  have a1_l := sz_2
  generalize w.alloc (.cells #[.slice A1 n1 cap1, .slice B1 m1 cbp1] 24) = w1 at hb_1 a1_0 a1_1 sz_2 a1_l ⊢
  replace in0 := in0.next hb_1 (by omega)
  replace in1a := in1a.next hb_1 (by omega)
  replace in1b := in1b.next hb_1 (by omega)
  replace hB := hB.trans (hb_1.mono hB.size)
  have sz_3 := hb_1.size
  refine (szTermS_k A0 n0 cap0 _ t0 _ _ in0 (by omega) (by omega) (by omega) (by first | assumption | (unfold maxLen; omega)) (by first | assumption | exact each_of (by omega))).mono ?_
  rintro e w2 ⟨rfl, hb_4⟩
  rw [szv_yes (by omega)]
  replace in0 := in0.next hb_4 (by omega)
  replace in1a := in1a.next hb_4 (by omega)
  replace in1b := in1b.next hb_4 (by omega)
  replace a1_0 := cell_next a1_0 hb_4
  replace a1_1 := cell_next a1_1 hb_4
  replace a1_l := Nat.lt_of_lt_of_le a1_l hb_4.size
  replace hB := hB.trans (hb_4.mono hB.size)
  have sz_6 := hb_4.size
  go_wp2_with fail
  refine (szState_k A1 n1 cap1 B1 m1 cbp1 _ _ (by omega) (by omega) (by first | assumption | (unfold maxLen; omega)) (by first | assumption | (unfold maxLen; omega))).mono ?_
  rintro e w3 ⟨rfl, hb_7⟩
  rw [szv_yes (by omega)]
  replace in0 := in0.next hb_7 (by omega)
  replace in1a := in1a.next hb_7 (by omega)
  replace in1b := in1b.next hb_7 (by omega)
  replace a1_0 := cell_next a1_0 hb_7
  replace a1_1 := cell_next a1_1 hb_7
  replace a1_l := Nat.lt_of_lt_of_le a1_l hb_7.size
  replace hB := hB.trans (hb_7.mono hB.size)
  have sz_9 := hb_7.size
  go_wp2_with fail
  go_cut [6, 7] (fun s6 s7 wx => s6 = .bool r0 ∧ s7 = .bool r1 ∧ Below w3.heap.size w3 wx)
  case first =>
    have HT_13 := Lib.hid (fun (x : World) (h : Below w3.drew.heap.size w3.drew x) => toTermS_k A0 n0 cap0 _ t0 x (in0.call (by omega) h) (le_call (by omega) h) h0ok h0eok)
    have HT_18 := Lib.hid (fun (x : World) (h : Below w3.drew.heap.size w3.drew x) => toState_k A1 n1 cap1 _ z1 B1 m1 cbp1 y1 x (in1a.call (by omega) h) (in1b.call (by omega) h) (le_call (by omega) h) h1ok h1gok)
    go_region_held3 (fun w' => w'.cell? ⟨w.heap.size, 0, none⟩ = some (.slice A1 n1 cap1) ∧ w'.cell? ⟨w.heap.size, 1, none⟩ = some (.slice B1 m1 cbp1))
      (first | go_keep | exact ⟨cell_on a1_0 (by with_reducible repeat' (first | exact Below.refl _ _ | refine bon ?_ hb_15 | refine bon ?_ hb_20 | refine bon ?_ hb_26 | refine bon ?_ (bnew _ _) | fail)), cell_on a1_1 (by with_reducible repeat' (first | exact Below.refl _ _ | refine bon ?_ hb_15 | refine bon ?_ hb_20 | refine bon ?_ hb_26 | refine bon ?_ (bnew _ _) | fail))⟩ | fail "none keeps")
      (first | (go_at_call_of 12 A0; with_reducible refine (HT_13.out _ (by with_reducible repeat' (first | exact Below.refl _ _ | refine bon ?_ hb_15 | refine bon ?_ hb_20 | refine bon ?_ hb_26 | refine bon ?_ (bnew _ _) | fail))).mono ?_; rintro e v_14 ⟨g_16, rfl, own_17, hb_15⟩) | (go_at_call_of 7 A1; with_reducible refine (HT_18.out _ (by with_reducible repeat' (first | exact Below.refl _ _ | refine bon ?_ hb_15 | refine bon ?_ hb_20 | refine bon ?_ hb_26 | refine bon ?_ (bnew _ _) | fail))).mono ?_; rintro e v_19 ⟨g_21, g_22, mid_28, rfl, own_23, own_24, md_29, hb_20⟩) | (go_at_call 11; with_reducible refine (HS.out _ _ _ _ _ _ _ (by with_reducible refine OwnTS.all (lo := ?_) (hi := ?_) (c := ?_) ?_; with_reducible repeat' (first | exact own_17 | refine OwnTS.next ?_ hb_20 | refine OwnTS.next ?_ hb_15 | refine OwnTS.next ?_ (bnew _ _) | fail)) (by with_reducible refine OwnL.all (lo := ?_) (hi := ?_) (c := ?_) ?_; with_reducible repeat' (first | exact own_23 | refine OwnL.next ?_ hb_20 | refine OwnL.next ?_ hb_15 | refine OwnL.next ?_ (bnew _ _) | fail)) (by with_reducible refine OwnL.all (lo := ?_) (hi := ?_) (c := ?_) ?_; with_reducible repeat' (first | exact own_24 | refine OwnL.next ?_ hb_20 | refine OwnL.next ?_ hb_15 | refine OwnL.next ?_ (bnew _ _) | fail))).mono ?_; rintro e v_25 ⟨rfl, hb_26⟩) | fail "no arm")
    all_goals (go_wp2_with fail; go_meet; first | exact ⟨rfl, rfl, bon (bstep (by with_reducible repeat' (first | exact Below.refl _ _ | refine bon ?_ hb_15 | refine bon ?_ hb_20 | refine bon ?_ hb_26 | refine bon ?_ (bnew _ _) | fail))) hb_26⟩ | fail "no end")
  case rest =>
    obtain ⟨rfl, rfl, hb_12⟩ := hcut
    obtain ⟨w4, hwx⟩ : ∃ x, x = wc := ⟨_, rfl⟩
    subst hwx
    replace in0 := in0.next hb_12 (by omega)
    replace in1a := in1a.next hb_12 (by omega)
    replace in1b := in1b.next hb_12 (by omega)
    replace a1_0 := cell_next a1_0 hb_12
    replace a1_1 := cell_next a1_1 hb_12
    replace a1_l := Nat.lt_of_lt_of_le a1_l hb_12.size
    replace hB := hB.trans (hb_12.mono hB.size)
    have sz_30 := hb_12.size
    go_wp2_with fail
    refine (toTermS_k A0 n0 cap0 _ t0 _ in0 (by omega) h0ok h0eok).mono ?_
    rintro e w5 ⟨g_31, rfl, own_32, hb_33⟩
    replace in0 := in0.next hb_33 (by omega)
    replace in1a := in1a.next hb_33 (by omega)
    replace in1b := in1b.next hb_33 (by omega)
    replace a1_0 := cell_next a1_0 hb_33
    replace a1_1 := cell_next a1_1 hb_33
    replace a1_l := Nat.lt_of_lt_of_le a1_l hb_33.size
    replace hB := hB.trans (hb_33.mono hB.size)
    have sz_34 := hb_33.size
    go_wp2_with fail
    refine (toState_k A1 n1 cap1 _ z1 B1 m1 cbp1 y1 _ in1a in1b (by omega) h1ok h1gok).mono ?_
    rintro e w6 ⟨g_35, g_36, mid_40, rfl, own_37, own_38, md_41, hb_39⟩
    replace in0 := in0.next hb_39 (by omega)
    replace in1a := in1a.next hb_39 (by omega)
    replace in1b := in1b.next hb_39 (by omega)
    replace a1_0 := cell_next a1_0 hb_39
    replace a1_1 := cell_next a1_1 hb_39
    replace a1_l := Nat.lt_of_lt_of_le a1_l hb_39.size
    replace own_32 := own_32.next hb_39
    replace hB := hB.trans (hb_39.mono hB.size)
    have sz_42 := hb_39.size
    go_wp2_with fail
    have hb_43 : Below w6.heap.size w6 (w6.alloc (.cells #[.slice (some ⟨g_35, 0, none⟩) n1 n1, .slice (some ⟨g_36, 0, none⟩) m1 m1] 27)) := bnew _ _
    have sz_44 : w6.heap.size < (w6.alloc (.cells #[.slice (some ⟨g_35, 0, none⟩) n1 n1, .slice (some ⟨g_36, 0, none⟩) m1 m1] 27)).heap.size := by simp
    have x1_0 : (w6.alloc (.cells #[.slice (some ⟨g_35, 0, none⟩) n1 n1, .slice (some ⟨g_36, 0, none⟩) m1 m1] 27)).cell? ⟨w6.heap.size, 0, none⟩ = some (.slice (some ⟨g_35, 0, none⟩) n1 n1) := by simp
    have x1_1 : (w6.alloc (.cells #[.slice (some ⟨g_35, 0, none⟩) n1 n1, .slice (some ⟨g_36, 0, none⟩) m1 m1] 27)).cell? ⟨w6.heap.size, 1, none⟩ = some (.slice (some ⟨g_36, 0, none⟩) m1 m1) := by simp
    have x1_l := sz_44
    generalize w6.alloc (.cells #[.slice (some ⟨g_35, 0, none⟩) n1 n1, .slice (some ⟨g_36, 0, none⟩) m1 m1] 27) = w7 at hb_43 x1_0 x1_1 sz_44 x1_l ⊢
    replace in0 := in0.next hb_43 (by omega)
    replace in1a := in1a.next hb_43 (by omega)
    replace in1b := in1b.next hb_43 (by omega)
    replace a1_0 := cell_next a1_0 hb_43
    replace a1_1 := cell_next a1_1 hb_43
    replace a1_l := Nat.lt_of_lt_of_le a1_l hb_43.size
    replace own_32 := own_32.next hb_43
    replace own_37 := own_37.next hb_43
    replace own_38 := own_38.next hb_43
    replace hB := hB.trans (hb_43.mono hB.size)
    have sz_45 := hb_43.size
    refine (HI.out w7 _ _ _ _ _ _ ((own_32.inn).more (by omega)) ((own_37.inn).more (by omega)) ((own_38.inn).more (by omega))).mono ?_
    rintro e w8 ⟨rfl, hb_46⟩
    replace in0 := in0.next hb_46 (by omega)
    replace in1a := in1a.next hb_46 (by omega)
    replace in1b := in1b.next hb_46 (by omega)
    replace a1_0 := cell_next a1_0 hb_46
    replace a1_1 := cell_next a1_1 hb_46
    replace a1_l := Nat.lt_of_lt_of_le a1_l hb_46.size
    replace own_32 := own_32.next hb_46
    replace own_37 := own_37.next hb_46
    replace own_38 := own_38.next hb_46
    replace x1_0 := cell_next x1_0 hb_46
    replace x1_1 := cell_next x1_1 hb_46
    replace x1_l := Nat.lt_of_lt_of_le x1_l hb_46.size
    replace hB := hB.trans (hb_46.mono hB.size)
    have sz_47 := hb_46.size
    go_wp2_with fail
    -- if g0 != w0 || g1 != w1 {
    refine (toTermS_k A0 n0 cap0 _ t0 _ in0 (by omega) h0ok h0eok).mono ?_
    rintro e w9 ⟨g_48, rfl, own_49, hb_50⟩
    replace in0 := in0.next hb_50 (by omega)
    replace in1a := in1a.next hb_50 (by omega)
    replace in1b := in1b.next hb_50 (by omega)
    replace a1_0 := cell_next a1_0 hb_50
    replace a1_1 := cell_next a1_1 hb_50
    replace a1_l := Nat.lt_of_lt_of_le a1_l hb_50.size
    replace own_32 := own_32.next hb_50
    replace own_37 := own_37.next hb_50
    replace own_38 := own_38.next hb_50
    replace x1_0 := cell_next x1_0 hb_50
    replace x1_1 := cell_next x1_1 hb_50
    replace x1_l := Nat.lt_of_lt_of_le x1_l hb_50.size
    replace hB := hB.trans (hb_50.mono hB.size)
    have sz_51 := hb_50.size
    go_wp2_with fail
    refine (eqTermS_k (some ⟨g_31, 0, none⟩) (some ⟨g_48, 0, none⟩) n0 n0 n0 _ _ t0 _ own_32.inn own_49.inn (by omega) (by omega) h0ok h0eok).mono ?_
    rintro e w10 ⟨rfl, hb_52⟩
    clear own_49
    replace in0 := in0.next hb_52 (by omega)
    replace in1a := in1a.next hb_52 (by omega)
    replace in1b := in1b.next hb_52 (by omega)
    replace a1_0 := cell_next a1_0 hb_52
    replace a1_1 := cell_next a1_1 hb_52
    replace a1_l := Nat.lt_of_lt_of_le a1_l hb_52.size
    replace own_32 := own_32.next hb_52
    replace own_37 := own_37.next hb_52
    replace own_38 := own_38.next hb_52
    replace x1_0 := cell_next x1_0 hb_52
    replace x1_1 := cell_next x1_1 hb_52
    replace x1_l := Nat.lt_of_lt_of_le x1_l hb_52.size
    replace hB := hB.trans (hb_52.mono hB.size)
    have sz_53 := hb_52.size
    go_wp2_with fail
    have HT_54 := Lib.hid (toState_k A1 n1 cap1 _ z1 B1 m1 cbp1 y1 w10.drew in1a.drew in1b.drew (by show _ ≤ w10.heap.size; omega) h1ok h1gok)
    have HE_55 : Hid (∀ w11 g_56 g_57 mid_61, Below w10.drew.heap.size w10.drew w11 → OwnL w11 w10.drew.heap.size mid_61 (some ⟨g_56, 0, none⟩) n1 n1 z1 → OwnL w11 mid_61 w11.heap.size (some ⟨g_57, 0, none⟩) m1 m1 y1 → w10.drew.heap.size ≤ mid_61 ∧ mid_61 ≤ w11.heap.size → Calls Try.prog 9 #[.agg #[.slice (some ⟨g_35, 0, none⟩) n1 n1, .slice (some ⟨g_36, 0, none⟩) m1 m1], .agg #[.slice (some ⟨g_56, 0, none⟩) n1 n1, .slice (some ⟨g_57, 0, none⟩) m1 m1]] w11 fun e w' => e = .returned (.bool true) ∧ Below w11.heap.size w11 w') := fun w11 g_56 g_57 mid_61 hb_60 own_58 own_59 md_62 => eqState_k (some ⟨g_35, 0, none⟩) (some ⟨g_56, 0, none⟩) n1 n1 n1 z1 (some ⟨g_36, 0, none⟩) (some ⟨g_57, 0, none⟩) m1 m1 m1 y1 (w11.heap.size) (w11.heap.size) w11 (((own_37.inn).call (by omega) hb_60).more (le_call (by omega) hb_60)) (((own_38.inn).call (by omega) hb_60).more (le_call (by omega) hb_60)) ((own_58.inn).more (by omega)) ((own_59.inn).more (by omega)) (Nat.le_refl _) (Nat.le_refl _) h1ok h1gok
    go_region_held3 (fun w' => w'.cell? ⟨w.heap.size, 0, none⟩ = some (.slice A1 n1 cap1) ∧ w'.cell? ⟨w.heap.size, 1, none⟩ = some (.slice B1 m1 cbp1) ∧ w'.cell? ⟨w6.heap.size, 0, none⟩ = some (.slice (some ⟨g_35, 0, none⟩) n1 n1) ∧ w'.cell? ⟨w6.heap.size, 1, none⟩ = some (.slice (some ⟨g_36, 0, none⟩) m1 m1))
      (first | go_keep | exact ⟨cell_on a1_0 hb_60, cell_on a1_1 hb_60, cell_on x1_0 hb_60, cell_on x1_1 hb_60⟩ | exact ⟨cell_on2 a1_0 hb_60 hb_64, cell_on2 a1_1 hb_60 hb_64, cell_on2 x1_0 hb_60 hb_64, cell_on2 x1_1 hb_60 hb_64⟩)
      (first | (go_at_call 7; refine HT_54.out.mono ?_; rintro e w11 ⟨g_56, g_57, mid_61, rfl, own_58, own_59, md_62, hb_60⟩) | (go_at_call 9; refine (HE_55.out _ _ _ _ hb_60 own_58 own_59 md_62).mono ?_; rintro e w12 ⟨rfl, hb_64⟩))
    replace hb_60 := (bstep hb_60)
    replace in0 := in0.next hb_60 (by omega)
    replace in1a := in1a.next hb_60 (by omega)
    replace in1b := in1b.next hb_60 (by omega)
    replace a1_0 := cell_next a1_0 hb_60
    replace a1_1 := cell_next a1_1 hb_60
    replace a1_l := Nat.lt_of_lt_of_le a1_l hb_60.size
    replace own_32 := own_32.next hb_60
    replace own_37 := own_37.next hb_60
    replace own_38 := own_38.next hb_60
    replace x1_0 := cell_next x1_0 hb_60
    replace x1_1 := cell_next x1_1 hb_60
    replace x1_l := Nat.lt_of_lt_of_le x1_l hb_60.size
    replace hB := hB.trans (hb_60.mono hB.size)
    have sz_65 := hb_60.size
    replace in0 := in0.next hb_64 (by omega)
    replace in1a := in1a.next hb_64 (by omega)
    replace in1b := in1b.next hb_64 (by omega)
    replace a1_0 := cell_next a1_0 hb_64
    replace a1_1 := cell_next a1_1 hb_64
    replace a1_l := Nat.lt_of_lt_of_le a1_l hb_64.size
    replace own_32 := own_32.next hb_64
    replace own_37 := own_37.next hb_64
    replace own_38 := own_38.next hb_64
    replace x1_0 := cell_next x1_0 hb_64
    replace x1_1 := cell_next x1_1 hb_64
    replace x1_l := Nat.lt_of_lt_of_le x1_l hb_64.size
    replace hB := hB.trans (hb_64.mono hB.size)
    have sz_66 := hb_64.size
    clear HT_54 HE_55 own_58 own_59
    go_wp2_with fail
    go_ret
    exact ⟨rfl, hB⟩

set_option maxRecDepth 100000 in
set_option maxHeartbeats 4000000 in
theorem walk (A0 : Option Addr) (n0 cap0 : Nat) (t0 : List (Int × List Int)) (A1 : Option Addr) (n1 cap1 : Nat) (z1 : List Int) (B1 : Option Addr) (m1 cbp1 : Nat) (y1 : List Int) (w : World) (h0row : TRow w w.heap.size A0 t0) (h0len : t0.length = n0) (h0max : n0 ≤ maxLen) (h0each : ∀ t ∈ t0, t.2.length ≤ maxLen) (h1row : Row w w.heap.size A1 (z1.map ic)) (h1len : z1.length = n1) (h1max : n1 ≤ maxLen) (h1glen : y1.length = m1) (h1gmax : m1 ≤ maxLen) (h1grow : Row w w.heap.size B1 (y1.map ic)) :
    Calls Try.prog 4 #[.slice A0 n0 cap0, .agg #[.slice A1 n1 cap1, .slice B1 m1 cbp1]] w fun e w' => e = .returned (.bool true) ∧ Below w.heap.size w w' := by
  by_cases h0 : n0 + totT t0 ≤ 1048576
  · by_cases h1 : n0 + totT t0 + (n1 + m1) ≤ 1048576
    · exact road A0 n0 cap0 t0 A1 n1 cap1 z1 B1 m1 cbp1 y1 w ⟨h0len, h0row⟩ (by omega) (by omega) (by omega) ⟨h1len, h1row⟩ ⟨h1glen, h1grow⟩ (by omega) (by omega) (by omega) (by omega) (holdR t0 z1 y1).1 (holdR t0 z1 y1).2
        (fun w0 a00 u00 a10 u10 a11 u11 h g g' => specHolds_c a00 n0 u00 t0 a10 n1 u10 z1 a11 m1 u11 y1 w0 h g g' (by omega) (by omega) (by omega) (by omega))
        (fun w0 a00 u00 a10 u10 a11 u11 h g g' => implHolds_c a00 n0 u00 t0 a10 n1 u10 z1 a11 m1 u11 y1 w0 h g g' (by omega) (by omega) (by omega) (by omega))
    · exact early1 A0 n0 cap0 t0 A1 n1 cap1 z1 B1 m1 cbp1 y1 w ⟨h0len, h0row⟩ ⟨h1len, h1row⟩ ⟨h1glen, h1grow⟩ (by omega) (by omega) h0max h0each h1max h1gmax
  · exact early0 A0 n0 cap0 t0 A1 n1 cap1 z1 B1 m1 cbp1 y1 w ⟨h0len, h0row⟩ ⟨h1len, h1row⟩ ⟨h1glen, h1grow⟩ (by omega) h0max h0each h1max h1gmax

set_option maxRecDepth 100000 in
set_option maxHeartbeats 4000000 in
theorem lifted (os : Os) (started : os.Started) (H : Type) (enc : TypeId × Value → H) :
    ReturnsInHanded {} Try.checked os 4 .any (Rows.fnExactHoldsInSpec.pre6 enc Try.prog Try.f4 Rows.fnExactHoldsInRow.domain false) (Rows.fnExactHoldsInSpec.post enc Try.prog Try.f4 false true false false) := by
  refine returnsInHanded_of_change (C := Try.checked) own started (by kernel_rfl) Try.func4
    (ChangeSpec.witness6 (enc := enc) (C := Try.checked) false ⟨#[], #[.slice none 0 0, .agg #[.slice none 0 0, .slice none 0 0]], []⟩ 8 (by kernel_rfl) (by kernel_rfl) (by kernel_rfl) (by kernel_rfl)) ?_
  intro W base args ds gs before hval0 hW hcnd _
  have hval : ∀ (j : Nat) t v, Try.f4.params[j]? = some t → args[j]? = some v → Value.okWide Try.prog W .any base t v := hval0
  have hW' := hW
  obtain ⟨p, q, hA0, hV, rfl, hfz, hnd⟩ := hW
  have hA : DataW.TrodAll enc Try.prog W 0 (fun _ => true) true Try.f4.params.toList args.toList ds p := hA0
  rw [Try.params4] at hA hval
  obtain ⟨v0, vs0, d0, ds0, p0, q0, hargs, rfl, rfl, g0, r0⟩ := trodAll_cons hA
  obtain ⟨v1, vs1, d1, ds1, p1, q1, rfl, rfl, rfl, g1, r1⟩ := trodAll_cons r0
  obtain ⟨rfl, rfl, rfl⟩ := trodAll_nil r1
  obtain rfl : args = #[v0, v1] := by cases args; simp_all
  obtain ⟨rfl, rfl⟩ := trodVars_none hV
  have k0 := g0
  have lt0 : ∀ x ∈ p0, x.block < W.heap.size := by obtain ⟨m, hm⟩ := k0; exact DataW.trod_lt m _ _ _ hm
  have k1 := g1
  have lt1 : ∀ x ∈ p1, x.block < W.heap.size := by obtain ⟨m, hm⟩ := k1; exact DataW.trod_lt m _ _ _ hm
  obtain ⟨a0, b0, e0, rfl⟩ := okWide_slice Try.underlying31 (hval 0 31 v0 rfl rfl)
  obtain ⟨A0, n0, cap0, t0, q0, h0len, h0max, h0row, h0each⟩ := (fun (h : ∃ fuel, DataW.trod enc Try.prog W 0 (fun _ => true) true fuel 31 [.slice a0 b0 e0] = some _) => terms_in h.choose_spec) (by obtain ⟨m, hm⟩ := g0; exact ⟨m, by simpa [Value.cells] using hm⟩)
  obtain ⟨rfl, rfl, rfl⟩ : a0 = A0 ∧ b0 = n0 ∧ e0 = cap0 := by simpa using q0
  obtain ⟨A1, n1, cap1, z1, B1, m1, cbp1, y1, rfl, h1len, h1max, h1row, h1glen, h1gmax, h1grow⟩ := state_in (hval 1 24 v1 rfl rfl) g1
  clear hA0 hval0
  simp only [List.append_nil] at hW'
  refine (walk _ _ _ t0 A1 n1 cap1 z1 B1 m1 cbp1 y1 W h0row h0len h0max h0each h1row h1len h1max h1glen h1gmax h1grow).mono fun e W' ⟨he, bel⟩ => ?_
  subst he
  exact ⟨_, rfl, _, _, _, [], _, [], hW', trodAll_mk1 (shut_bool Try.underlying4 _), (trodAll_cons_mk (Below.trod laidOut (by kernel_rfl) (of_decide_eq_true (by kernel_rfl)) k0 bel lt0) (trodAll_cons_mk (Below.trod laidOut (by kernel_rfl) (of_decide_eq_true (by kernel_rfl)) k1 bel lt1) trodAll_mk0)), rfl, bel.frame _, fun h => by cases h⟩

theorem over : Rows.fnExactHoldsInRow.holds Try.pinned (OpenSpec.ofChange Rows.fnExactHoldsInSpec) :=
  OpenClaim.holds_of_wide 4 Try.f4 rfl rfl rfl rfl rfl rfl rfl ⟨rfl, rfl, rfl, rfl, rfl⟩ rfl rfl rfl rfl rfl (by kernel_rfl) Try.func4 (by kernel_rfl)
    (of_decide_eq_true (by kernel_rfl)) (by unfold Func.isWrapper; first | (rw [if_pos (by decide +kernel)]; kernel_rfl) | (rw [if_neg (by decide +kernel)]; exact ⟨rfl, rfl⟩))
    (fun os started H enc _ => lifted os started H enc)

/-- The statement. -/
theorem proved : Rows.FnExactHoldsInSaid := over
#print axioms proved
end Go.Proofs.Ytjffinlppfbipaa.fnExactHoldsIn
