/-
  For every two policies the program's IsStricter answers as the model's, and leaves them as they were.
  Conditions: none but those that the statement itself bears.
-/
import Derived.Test.YtopijecdhjnipaaRows
import Derived.WalkKit
import Derived.ProofKit
import Derived.OpenShut
import Derived.ShutString
import Derived.ChangeOld
import Derived.Below
import Derived.WalkSmall
import Derived.Test.YtopijecdhjnipaaTms
import Derived.Test.YtopijecdhjnipaaStrA
import Derived.Test.YtopijecdhjnipaaMarkP
namespace Go.Proofs.Ytopijecdhjnipaa.fnExactIsStricter
open Go.ChangeShapes Go.WideShapes Go.ChangeAt Go.RowKit
open Go.ChangeMaps (open_string shut_string)
set_option linter.unusedVariables false

theorem own : ownKnob Try.prog.godebug = none := by kernel_rfl
theorem laidOut : laidOutB Try.prog = true := by kernel_rfl
set_option maxRecDepth 100000 in
set_option maxHeartbeats 8000000 in
theorem early0 (A0 : Option Addr) (n0 cap0 : Nat) (t0 : List (List Int)) (A1 : Option Addr) (n1 cap1 : Nat) (t1 : List (List Int)) (w : World) (in0 : InLL w w.heap.size A0 n0 t0) (in1 : InLL w w.heap.size A1 n1 t1) (q0 : 1048576 < (n0 + totLL t0)) (vn0 : n0 ≤ maxLen) (en0 : ∀ x ∈ t0, x.length ≤ maxLen) (vn1 : n1 ≤ maxLen) (en1 : ∀ x ∈ t1, x.length ≤ maxLen) :
    Calls Try.prog 5 #[.agg #[.slice A0 n0 cap0], .agg #[.slice A1 n1 cap1]] w fun e w' => e = .returned (.bool true) ∧ Below w.heap.size w w' := by
  have hB := Below.refl w.heap.size w
  go_enter Try.func5, Try.ntmps5
  go_wp2_with fail
  have hb_1 : Below w.heap.size w ((w.alloc (.cells #[.slice A0 n0 cap0] 24)).alloc (.cells #[.slice A1 n1 cap1] 24)) := bon (bnew _ _) (bnew _ _)
  have sz_2 : w.heap.size < ((w.alloc (.cells #[.slice A0 n0 cap0] 24)).alloc (.cells #[.slice A1 n1 cap1] 24)).heap.size := by simp <;> omega
  have a0_0 : ((w.alloc (.cells #[.slice A0 n0 cap0] 24)).alloc (.cells #[.slice A1 n1 cap1] 24)).cell? ⟨w.heap.size, 0, none⟩ = some (.slice A0 n0 cap0) := by simp
  have a0_l := sz_2
  have sz_3 : w.heap.size + 1 < ((w.alloc (.cells #[.slice A0 n0 cap0] 24)).alloc (.cells #[.slice A1 n1 cap1] 24)).heap.size := by simp
  have a1_0 : ((w.alloc (.cells #[.slice A0 n0 cap0] 24)).alloc (.cells #[.slice A1 n1 cap1] 24)).cell? ⟨w.heap.size + 1, 0, none⟩ = some (.slice A1 n1 cap1) := by simp
  have a1_l := sz_3
  generalize (w.alloc (.cells #[.slice A0 n0 cap0] 24)).alloc (.cells #[.slice A1 n1 cap1] 24) = w1 at hb_1 a0_0 a1_0 sz_2 a0_l sz_3 a1_l ⊢
  replace in0 := in0.next hb_1 (by omega)
  replace in1 := in1.next hb_1 (by omega)
  replace hB := hB.trans (hb_1.mono hB.size)
  have sz_4 := hb_1.size
  refine (szPolicy_k A0 n0 cap0 _ t0 _ _ in0 (by omega) (by omega) (by omega) (by first | assumption | (unfold maxLen; omega)) (by first | assumption | exact fitsLL_of (by unfold maxLen; omega))).mono ?_
  rintro e w2 ⟨rfl, hb_5⟩
  rw [szv_no (by omega)]
  replace in0 := in0.next hb_5 (by omega)
  replace in1 := in1.next hb_5 (by omega)
  replace a0_0 := cell_next a0_0 hb_5
  replace a1_0 := cell_next a1_0 hb_5
  replace a0_l := Nat.lt_of_lt_of_le a0_l hb_5.size
  replace a1_l := Nat.lt_of_lt_of_le a1_l hb_5.size
  replace hB := hB.trans (hb_5.mono hB.size)
  have sz_6 := hb_5.size
  go_wp2_with fail
  go_ret
  exact ⟨rfl, hB⟩

set_option maxRecDepth 100000 in
set_option maxHeartbeats 8000000 in
theorem early1 (A0 : Option Addr) (n0 cap0 : Nat) (t0 : List (List Int)) (A1 : Option Addr) (n1 cap1 : Nat) (t1 : List (List Int)) (w : World) (in0 : InLL w w.heap.size A0 n0 t0) (in1 : InLL w w.heap.size A1 n1 t1) (q0 : (n0 + totLL t0) ≤ 1048576) (q1 : 1048576 < (n0 + totLL t0) + (n1 + totLL t1)) (vn0 : n0 ≤ maxLen) (en0 : ∀ x ∈ t0, x.length ≤ maxLen) (vn1 : n1 ≤ maxLen) (en1 : ∀ x ∈ t1, x.length ≤ maxLen) :
    Calls Try.prog 5 #[.agg #[.slice A0 n0 cap0], .agg #[.slice A1 n1 cap1]] w fun e w' => e = .returned (.bool true) ∧ Below w.heap.size w w' := by
  have hB := Below.refl w.heap.size w
  have hl_6 : (0 : Int) ≤ 1048576 - ((n0 + totLL t0 : Nat) : Int) := by omega
  go_enter Try.func5, Try.ntmps5
  go_wp2_with fail
  have hb_1 : Below w.heap.size w ((w.alloc (.cells #[.slice A0 n0 cap0] 24)).alloc (.cells #[.slice A1 n1 cap1] 24)) := bon (bnew _ _) (bnew _ _)
  have sz_2 : w.heap.size < ((w.alloc (.cells #[.slice A0 n0 cap0] 24)).alloc (.cells #[.slice A1 n1 cap1] 24)).heap.size := by simp <;> omega
  have a0_0 : ((w.alloc (.cells #[.slice A0 n0 cap0] 24)).alloc (.cells #[.slice A1 n1 cap1] 24)).cell? ⟨w.heap.size, 0, none⟩ = some (.slice A0 n0 cap0) := by simp
  have a0_l := sz_2
  have sz_3 : w.heap.size + 1 < ((w.alloc (.cells #[.slice A0 n0 cap0] 24)).alloc (.cells #[.slice A1 n1 cap1] 24)).heap.size := by simp
  have a1_0 : ((w.alloc (.cells #[.slice A0 n0 cap0] 24)).alloc (.cells #[.slice A1 n1 cap1] 24)).cell? ⟨w.heap.size + 1, 0, none⟩ = some (.slice A1 n1 cap1) := by simp
  have a1_l := sz_3
  generalize (w.alloc (.cells #[.slice A0 n0 cap0] 24)).alloc (.cells #[.slice A1 n1 cap1] 24) = w1 at hb_1 a0_0 a1_0 sz_2 a0_l sz_3 a1_l ⊢
  replace in0 := in0.next hb_1 (by omega)
  replace in1 := in1.next hb_1 (by omega)
  replace hB := hB.trans (hb_1.mono hB.size)
  have sz_4 := hb_1.size
  refine (szPolicy_k A0 n0 cap0 _ t0 _ _ in0 (by omega) (by omega) (by omega) (by first | assumption | (unfold maxLen; omega)) (by first | assumption | exact fitsLL_of (by unfold maxLen; omega))).mono ?_
  rintro e w2 ⟨rfl, hb_5⟩
  rw [szv_yes (by omega)]
  replace in0 := in0.next hb_5 (by omega)
  replace in1 := in1.next hb_5 (by omega)
  replace a0_0 := cell_next a0_0 hb_5
  replace a1_0 := cell_next a1_0 hb_5
  replace a0_l := Nat.lt_of_lt_of_le a0_l hb_5.size
  replace a1_l := Nat.lt_of_lt_of_le a1_l hb_5.size
  replace hB := hB.trans (hb_5.mono hB.size)
  have sz_7 := hb_5.size
  go_wp2_with fail
  refine (szPolicy_k A1 n1 cap1 _ t1 _ _ in1 (by omega) (by omega) (by omega) (by first | assumption | (unfold maxLen; omega)) (by first | assumption | exact fitsLL_of (by unfold maxLen; omega))).mono ?_
  rintro e w3 ⟨rfl, hb_8⟩
  rw [szv_no (by omega)]
  replace in0 := in0.next hb_8 (by omega)
  replace in1 := in1.next hb_8 (by omega)
  replace a0_0 := cell_next a0_0 hb_8
  replace a1_0 := cell_next a1_0 hb_8
  replace a0_l := Nat.lt_of_lt_of_le a0_l hb_8.size
  replace a1_l := Nat.lt_of_lt_of_le a1_l hb_8.size
  replace hB := hB.trans (hb_8.mono hB.size)
  have sz_9 := hb_8.size
  go_wp2_with fail
  go_ret
  exact ⟨rfl, hB⟩

set_option maxRecDepth 100000 in
set_option maxHeartbeats 8000000 in
theorem road (A0 : Option Addr) (n0 cap0 : Nat) (t0 : List (List Int)) (A1 : Option Addr) (n1 cap1 : Nat) (t1 : List (List Int)) (w : World) (in0 : InLL w w.heap.size A0 n0 t0) (h0ok : n0 ≤ 1048576) (h0eok : totLL t0 ≤ 1048576) (h0sum : n0 + totLL t0 ≤ 1048576) (in1 : InLL w w.heap.size A1 n1 t1) (h1ok : n1 ≤ 1048576) (h1eok : totLL t1 ≤ 1048576) (h1sum : n1 + totLL t1 ≤ 1048576) (hsum : (n0 + totLL t0) + (n1 + totLL t1) ≤ 1048576) (r0 : Bool) 
    (HS0 : ∀ (w0 : World) (a00 : Option Addr) (u00 : Nat) (a10 : Option Addr) (u10 : Nat), InLL w0 w0.heap.size a00 n0 t0 → InLL w0 w0.heap.size a10 n1 t1 → Calls Try.prog 16 #[.agg #[.slice a00 n0 u00], .agg #[.slice a10 n1 u10]] w0 fun e w1 => e = .returned (.bool r0) ∧ Below w0.heap.size w0 w1)
    (HI0 : ∀ (w0 : World) (a00 : Option Addr) (u00 : Nat) (a10 : Option Addr) (u10 : Nat), InLL w0 w0.heap.size a00 n0 t0 → InLL w0 w0.heap.size a10 n1 t1 → Calls Try.prog 17 #[.agg #[.slice a00 n0 u00], .agg #[.slice a10 n1 u10]] w0 fun e w1 => e = .returned (.bool r0) ∧ Below w0.heap.size w0 w1) :
    Calls Try.prog 5 #[.agg #[.slice A0 n0 cap0], .agg #[.slice A1 n1 cap1]] w fun e w' => e = .returned (.bool true) ∧ Below w.heap.size w w' := by
  have HS := Lib.hid HS0
  have HI := Lib.hid HI0
  clear HS0 HI0
  have hB := Below.refl w.heap.size w
  have hl_6 : (0 : Int) ≤ 1048576 - ((n0 + totLL t0 : Nat) : Int) := by omega
  have hl_9 : (0 : Int) ≤ 1048576 - ((n0 + totLL t0 : Nat) : Int) - ((n1 + totLL t1 : Nat) : Int) := by omega
  go_enter Try.func5, Try.ntmps5
  go_wp2_with fail
  have hb_1 : Below w.heap.size w ((w.alloc (.cells #[.slice A0 n0 cap0] 24)).alloc (.cells #[.slice A1 n1 cap1] 24)) := bon (bnew _ _) (bnew _ _)
  have sz_2 : w.heap.size < ((w.alloc (.cells #[.slice A0 n0 cap0] 24)).alloc (.cells #[.slice A1 n1 cap1] 24)).heap.size := by simp <;> omega
  have a0_0 : ((w.alloc (.cells #[.slice A0 n0 cap0] 24)).alloc (.cells #[.slice A1 n1 cap1] 24)).cell? ⟨w.heap.size, 0, none⟩ = some (.slice A0 n0 cap0) := by simp
  have a0_l := sz_2
  have sz_3 : w.heap.size + 1 < ((w.alloc (.cells #[.slice A0 n0 cap0] 24)).alloc (.cells #[.slice A1 n1 cap1] 24)).heap.size := by simp
  have a1_0 : ((w.alloc (.cells #[.slice A0 n0 cap0] 24)).alloc (.cells #[.slice A1 n1 cap1] 24)).cell? ⟨w.heap.size + 1, 0, none⟩ = some (.slice A1 n1 cap1) := by simp
  have a1_l := sz_3
  generalize (w.alloc (.cells #[.slice A0 n0 cap0] 24)).alloc (.cells #[.slice A1 n1 cap1] 24) = w1 at hb_1 a0_0 a1_0 sz_2 a0_l sz_3 a1_l ⊢
  replace in0 := in0.next hb_1 (by omega)
  replace in1 := in1.next hb_1 (by omega)
  replace hB := hB.trans (hb_1.mono hB.size)
  have sz_4 := hb_1.size
  refine (szPolicy_k A0 n0 cap0 _ t0 _ _ in0 (by omega) (by omega) (by omega) (by first | assumption | (unfold maxLen; omega)) (by first | assumption | exact fitsLL_of (by unfold maxLen; omega))).mono ?_
  rintro e w2 ⟨rfl, hb_5⟩
  rw [szv_yes (by omega)]
  replace in0 := in0.next hb_5 (by omega)
  replace in1 := in1.next hb_5 (by omega)
  replace a0_0 := cell_next a0_0 hb_5
  replace a1_0 := cell_next a1_0 hb_5
  replace a0_l := Nat.lt_of_lt_of_le a0_l hb_5.size
  replace a1_l := Nat.lt_of_lt_of_le a1_l hb_5.size
  replace hB := hB.trans (hb_5.mono hB.size)
  have sz_7 := hb_5.size
  go_wp2_with fail
  refine (szPolicy_k A1 n1 cap1 _ t1 _ _ in1 (by omega) (by omega) (by omega) (by first | assumption | (unfold maxLen; omega)) (by first | assumption | exact fitsLL_of (by unfold maxLen; omega))).mono ?_
  rintro e w3 ⟨rfl, hb_8⟩
  rw [szv_yes (by omega)]
  replace in0 := in0.next hb_8 (by omega)
  replace in1 := in1.next hb_8 (by omega)
  replace a0_0 := cell_next a0_0 hb_8
  replace a1_0 := cell_next a1_0 hb_8
  replace a0_l := Nat.lt_of_lt_of_le a0_l hb_8.size
  replace a1_l := Nat.lt_of_lt_of_le a1_l hb_8.size
  replace hB := hB.trans (hb_8.mono hB.size)
  have sz_10 := hb_8.size
  go_wp2_with fail
  go_cut [6] (fun s6 wx => s6 = .bool r0 ∧ Below w3.heap.size w3 wx)
  case first =>
    have HT_14 := Lib.hid (fun (x : World) (h : Below w3.drew.heap.size w3.drew x) => toPolicy_k A0 n0 cap0 _ t0 x (in0.call (by omega) h) (le_call (by omega) h) h0ok h0eok)
    have HT_19 := Lib.hid (fun (x : World) (h : Below w3.drew.heap.size w3.drew x) => toPolicy_k A1 n1 cap1 _ t1 x (in1.call (by omega) h) (le_call (by omega) h) h1ok h1eok)
    go_region_held3 (fun w' => w'.cell? ⟨w.heap.size, 0, none⟩ = some (.slice A0 n0 cap0) ∧ w'.cell? ⟨w.heap.size + 1, 0, none⟩ = some (.slice A1 n1 cap1))
      (first | go_keep | exact ⟨cell_on a0_0 (by with_reducible repeat' (first | exact Below.refl _ _ | refine bon ?_ hb_16 | refine bon ?_ hb_21 | refine bon ?_ hb_25 | refine bon ?_ (bnew _ _) | fail)), cell_on a1_0 (by with_reducible repeat' (first | exact Below.refl _ _ | refine bon ?_ hb_16 | refine bon ?_ hb_21 | refine bon ?_ hb_25 | refine bon ?_ (bnew _ _) | fail))⟩ | fail "none keeps")
      (first | (go_at_call_of 9 A0; with_reducible refine (HT_14.out _ (by with_reducible repeat' (first | exact Below.refl _ _ | refine bon ?_ hb_16 | refine bon ?_ hb_21 | refine bon ?_ hb_25 | refine bon ?_ (bnew _ _) | fail))).mono ?_; rintro e v_15 ⟨g_17, rfl, own_18, hb_16⟩) | (go_at_call_of 9 A1; with_reducible refine (HT_19.out _ (by with_reducible repeat' (first | exact Below.refl _ _ | refine bon ?_ hb_16 | refine bon ?_ hb_21 | refine bon ?_ hb_25 | refine bon ?_ (bnew _ _) | fail))).mono ?_; rintro e v_20 ⟨g_22, rfl, own_23, hb_21⟩) | (go_at_call 16; with_reducible refine (HS.out _ _ _ _ _ (by with_reducible refine OwnLL.all (lo := ?_) (hi := ?_) (c := ?_) ?_; with_reducible repeat' (first | exact own_18 | refine OwnLL.next ?_ hb_21 | refine OwnLL.next ?_ hb_16 | refine OwnLL.next ?_ (bnew _ _) | fail)) (by with_reducible refine OwnLL.all (lo := ?_) (hi := ?_) (c := ?_) ?_; with_reducible repeat' (first | exact own_23 | refine OwnLL.next ?_ hb_21 | refine OwnLL.next ?_ hb_16 | refine OwnLL.next ?_ (bnew _ _) | fail))).mono ?_; rintro e v_24 ⟨rfl, hb_25⟩) | fail "no arm")
    all_goals (go_wp2_with fail; go_meet; first | exact ⟨rfl, bon (bstep (by with_reducible repeat' (first | exact Below.refl _ _ | refine bon ?_ hb_16 | refine bon ?_ hb_21 | refine bon ?_ hb_25 | refine bon ?_ (bnew _ _) | fail))) hb_25⟩ | fail "no end")
  case rest =>
    obtain ⟨rfl, hb_13⟩ := hcut
    obtain ⟨w4, hwx⟩ : ∃ x, x = wc := ⟨_, rfl⟩
    subst hwx
    replace in0 := in0.next hb_13 (by omega)
    replace in1 := in1.next hb_13 (by omega)
    replace a0_0 := cell_next a0_0 hb_13
    replace a1_0 := cell_next a1_0 hb_13
    replace a0_l := Nat.lt_of_lt_of_le a0_l hb_13.size
    replace a1_l := Nat.lt_of_lt_of_le a1_l hb_13.size
    replace hB := hB.trans (hb_13.mono hB.size)
    have sz_28 := hb_13.size
    go_wp2_with fail
    refine (toPolicy_k A0 n0 cap0 _ t0 _ in0 (by omega) h0ok h0eok).mono ?_
    rintro e w5 ⟨g_29, rfl, own_30, hb_31⟩
    replace in0 := in0.next hb_31 (by omega)
    replace in1 := in1.next hb_31 (by omega)
    replace a0_0 := cell_next a0_0 hb_31
    replace a1_0 := cell_next a1_0 hb_31
    replace a0_l := Nat.lt_of_lt_of_le a0_l hb_31.size
    replace a1_l := Nat.lt_of_lt_of_le a1_l hb_31.size
    replace hB := hB.trans (hb_31.mono hB.size)
    have sz_32 := hb_31.size
    go_wp2_with fail
    have hb_33 : Below w5.heap.size w5 (w5.alloc (.cells #[.slice (some ⟨g_29, 0, none⟩) n0 n0] 26)) := bnew _ _
    have sz_34 : w5.heap.size < (w5.alloc (.cells #[.slice (some ⟨g_29, 0, none⟩) n0 n0] 26)).heap.size := by simp
    have x0_0 : (w5.alloc (.cells #[.slice (some ⟨g_29, 0, none⟩) n0 n0] 26)).cell? ⟨w5.heap.size, 0, none⟩ = some (.slice (some ⟨g_29, 0, none⟩) n0 n0) := by simp
    have x0_l := sz_34
    generalize w5.alloc (.cells #[.slice (some ⟨g_29, 0, none⟩) n0 n0] 26) = w6 at hb_33 x0_0 sz_34 x0_l ⊢
    replace in0 := in0.next hb_33 (by omega)
    replace in1 := in1.next hb_33 (by omega)
    replace a0_0 := cell_next a0_0 hb_33
    replace a1_0 := cell_next a1_0 hb_33
    replace a0_l := Nat.lt_of_lt_of_le a0_l hb_33.size
    replace a1_l := Nat.lt_of_lt_of_le a1_l hb_33.size
    replace own_30 := own_30.next hb_33
    replace hB := hB.trans (hb_33.mono hB.size)
    have sz_35 := hb_33.size
    refine (toPolicy_k A1 n1 cap1 _ t1 _ in1 (by omega) h1ok h1eok).mono ?_
    rintro e w7 ⟨g_36, rfl, own_37, hb_38⟩
    replace in0 := in0.next hb_38 (by omega)
    replace in1 := in1.next hb_38 (by omega)
    replace a0_0 := cell_next a0_0 hb_38
    replace a1_0 := cell_next a1_0 hb_38
    replace a0_l := Nat.lt_of_lt_of_le a0_l hb_38.size
    replace a1_l := Nat.lt_of_lt_of_le a1_l hb_38.size
    replace own_30 := own_30.next hb_38
    replace x0_0 := cell_next x0_0 hb_38
    replace x0_l := Nat.lt_of_lt_of_le x0_l hb_38.size
    replace hB := hB.trans (hb_38.mono hB.size)
    have sz_39 := hb_38.size
    go_wp2_with fail
    have hb_40 : Below w7.heap.size w7 (w7.alloc (.cells #[.slice (some ⟨g_36, 0, none⟩) n1 n1] 26)) := bnew _ _
    have sz_41 : w7.heap.size < (w7.alloc (.cells #[.slice (some ⟨g_36, 0, none⟩) n1 n1] 26)).heap.size := by simp
    have x1_0 : (w7.alloc (.cells #[.slice (some ⟨g_36, 0, none⟩) n1 n1] 26)).cell? ⟨w7.heap.size, 0, none⟩ = some (.slice (some ⟨g_36, 0, none⟩) n1 n1) := by simp
    have x1_l := sz_41
    generalize w7.alloc (.cells #[.slice (some ⟨g_36, 0, none⟩) n1 n1] 26) = w8 at hb_40 x1_0 sz_41 x1_l ⊢
    replace in0 := in0.next hb_40 (by omega)
    replace in1 := in1.next hb_40 (by omega)
    replace a0_0 := cell_next a0_0 hb_40
    replace a1_0 := cell_next a1_0 hb_40
    replace a0_l := Nat.lt_of_lt_of_le a0_l hb_40.size
    replace a1_l := Nat.lt_of_lt_of_le a1_l hb_40.size
    replace own_30 := own_30.next hb_40
    replace x0_0 := cell_next x0_0 hb_40
    replace x0_l := Nat.lt_of_lt_of_le x0_l hb_40.size
    replace own_37 := own_37.next hb_40
    replace hB := hB.trans (hb_40.mono hB.size)
    have sz_42 := hb_40.size
    refine (HI.out w8 _ _ _ _ ((own_30.inn).more (by omega)) ((own_37.inn).more (by omega))).mono ?_
    rintro e w9 ⟨rfl, hb_43⟩
    replace in0 := in0.next hb_43 (by omega)
    replace in1 := in1.next hb_43 (by omega)
    replace a0_0 := cell_next a0_0 hb_43
    replace a1_0 := cell_next a1_0 hb_43
    replace a0_l := Nat.lt_of_lt_of_le a0_l hb_43.size
    replace a1_l := Nat.lt_of_lt_of_le a1_l hb_43.size
    replace own_30 := own_30.next hb_43
    replace x0_0 := cell_next x0_0 hb_43
    replace x0_l := Nat.lt_of_lt_of_le x0_l hb_43.size
    replace own_37 := own_37.next hb_43
    replace x1_0 := cell_next x1_0 hb_43
    replace x1_l := Nat.lt_of_lt_of_le x1_l hb_43.size
    replace hB := hB.trans (hb_43.mono hB.size)
    have sz_44 := hb_43.size
    go_wp2_with fail
    -- if g0 != w0 {
    have HT_45 := Lib.hid (toPolicy_k A0 n0 cap0 _ t0 w9.drew in0.drew (by show _ ≤ w9.heap.size; omega) h0ok h0eok)
    have HE_46 : Hid (∀ w10 g_47, Below w9.drew.heap.size w9.drew w10 → OwnLL w10 w9.drew.heap.size w10.heap.size (some ⟨g_47, 0, none⟩) n0 n0 t0 → Calls Try.prog 11 #[.agg #[.slice (some ⟨g_29, 0, none⟩) n0 n0], .agg #[.slice (some ⟨g_47, 0, none⟩) n0 n0]] w10 fun e w' => e = .returned (.bool true) ∧ Below w10.heap.size w10 w') := fun w10 g_47 hb_49 own_48 => eqPolicy_k (some ⟨g_29, 0, none⟩) (some ⟨g_47, 0, none⟩) n0 n0 n0 _ _ t0 w10 ((own_30.inn).call (by omega) hb_49) own_48.inn (le_call (by omega) hb_49) (Nat.le_refl _) h0ok h0eok
    go_region_held3 (fun w' => w'.cell? ⟨w.heap.size, 0, none⟩ = some (.slice A0 n0 cap0) ∧ w'.cell? ⟨w5.heap.size, 0, none⟩ = some (.slice (some ⟨g_29, 0, none⟩) n0 n0))
      (first | go_keep | exact ⟨cell_on a0_0 hb_49, cell_on x0_0 hb_49⟩ | exact ⟨cell_on2 a0_0 hb_49 hb_51, cell_on2 x0_0 hb_49 hb_51⟩)
      (first | (go_at_call 9; refine HT_45.out.mono ?_; rintro e w10 ⟨g_47, rfl, own_48, hb_49⟩) | (go_at_call 11; refine (HE_46.out _ _ hb_49 own_48).mono ?_; rintro e w11 ⟨rfl, hb_51⟩))
    replace hb_49 := (bstep hb_49)
    replace in0 := in0.next hb_49 (by omega)
    replace in1 := in1.next hb_49 (by omega)
    replace a0_0 := cell_next a0_0 hb_49
    replace a1_0 := cell_next a1_0 hb_49
    replace a0_l := Nat.lt_of_lt_of_le a0_l hb_49.size
    replace a1_l := Nat.lt_of_lt_of_le a1_l hb_49.size
    replace own_30 := own_30.next hb_49
    replace x0_0 := cell_next x0_0 hb_49
    replace x0_l := Nat.lt_of_lt_of_le x0_l hb_49.size
    replace own_37 := own_37.next hb_49
    replace x1_0 := cell_next x1_0 hb_49
    replace x1_l := Nat.lt_of_lt_of_le x1_l hb_49.size
    replace hB := hB.trans (hb_49.mono hB.size)
    have sz_52 := hb_49.size
    replace in0 := in0.next hb_51 (by omega)
    replace in1 := in1.next hb_51 (by omega)
    replace a0_0 := cell_next a0_0 hb_51
    replace a1_0 := cell_next a1_0 hb_51
    replace a0_l := Nat.lt_of_lt_of_le a0_l hb_51.size
    replace a1_l := Nat.lt_of_lt_of_le a1_l hb_51.size
    replace own_30 := own_30.next hb_51
    replace x0_0 := cell_next x0_0 hb_51
    replace x0_l := Nat.lt_of_lt_of_le x0_l hb_51.size
    replace own_37 := own_37.next hb_51
    replace x1_0 := cell_next x1_0 hb_51
    replace x1_l := Nat.lt_of_lt_of_le x1_l hb_51.size
    replace hB := hB.trans (hb_51.mono hB.size)
    have sz_53 := hb_51.size
    clear HT_45 HE_46 own_48
    go_wp2_with fail
    have HT_54 := Lib.hid (toPolicy_k A1 n1 cap1 _ t1 w11.drew in1.drew (by show _ ≤ w11.heap.size; omega) h1ok h1eok)
    have HE_55 : Hid (∀ w12 g_56, Below w11.drew.heap.size w11.drew w12 → OwnLL w12 w11.drew.heap.size w12.heap.size (some ⟨g_56, 0, none⟩) n1 n1 t1 → Calls Try.prog 11 #[.agg #[.slice (some ⟨g_36, 0, none⟩) n1 n1], .agg #[.slice (some ⟨g_56, 0, none⟩) n1 n1]] w12 fun e w' => e = .returned (.bool true) ∧ Below w12.heap.size w12 w') := fun w12 g_56 hb_58 own_57 => eqPolicy_k (some ⟨g_36, 0, none⟩) (some ⟨g_56, 0, none⟩) n1 n1 n1 _ _ t1 w12 ((own_37.inn).call (by omega) hb_58) own_57.inn (le_call (by omega) hb_58) (Nat.le_refl _) h1ok h1eok
    go_region_held3 (fun w' => w'.cell? ⟨w.heap.size + 1, 0, none⟩ = some (.slice A1 n1 cap1) ∧ w'.cell? ⟨w7.heap.size, 0, none⟩ = some (.slice (some ⟨g_36, 0, none⟩) n1 n1))
      (first | go_keep | exact ⟨cell_on a1_0 hb_58, cell_on x1_0 hb_58⟩ | exact ⟨cell_on2 a1_0 hb_58 hb_60, cell_on2 x1_0 hb_58 hb_60⟩)
      (first | (go_at_call 9; refine HT_54.out.mono ?_; rintro e w12 ⟨g_56, rfl, own_57, hb_58⟩) | (go_at_call 11; refine (HE_55.out _ _ hb_58 own_57).mono ?_; rintro e w13 ⟨rfl, hb_60⟩))
    replace hb_58 := (bstep hb_58)
    replace in0 := in0.next hb_58 (by omega)
    replace in1 := in1.next hb_58 (by omega)
    replace a0_0 := cell_next a0_0 hb_58
    replace a1_0 := cell_next a1_0 hb_58
    replace a0_l := Nat.lt_of_lt_of_le a0_l hb_58.size
    replace a1_l := Nat.lt_of_lt_of_le a1_l hb_58.size
    replace own_30 := own_30.next hb_58
    replace x0_0 := cell_next x0_0 hb_58
    replace x0_l := Nat.lt_of_lt_of_le x0_l hb_58.size
    replace own_37 := own_37.next hb_58
    replace x1_0 := cell_next x1_0 hb_58
    replace x1_l := Nat.lt_of_lt_of_le x1_l hb_58.size
    replace hB := hB.trans (hb_58.mono hB.size)
    have sz_61 := hb_58.size
    replace in0 := in0.next hb_60 (by omega)
    replace in1 := in1.next hb_60 (by omega)
    replace a0_0 := cell_next a0_0 hb_60
    replace a1_0 := cell_next a1_0 hb_60
    replace a0_l := Nat.lt_of_lt_of_le a0_l hb_60.size
    replace a1_l := Nat.lt_of_lt_of_le a1_l hb_60.size
    replace own_30 := own_30.next hb_60
    replace x0_0 := cell_next x0_0 hb_60
    replace x0_l := Nat.lt_of_lt_of_le x0_l hb_60.size
    replace own_37 := own_37.next hb_60
    replace x1_0 := cell_next x1_0 hb_60
    replace x1_l := Nat.lt_of_lt_of_le x1_l hb_60.size
    replace hB := hB.trans (hb_60.mono hB.size)
    have sz_62 := hb_60.size
    clear HT_54 HE_55 own_57
    go_wp2_with fail
    go_ret
    exact ⟨rfl, hB⟩

set_option maxRecDepth 100000 in
set_option maxHeartbeats 4000000 in
theorem walk (A0 : Option Addr) (n0 cap0 : Nat) (t0 : List (List Int)) (A1 : Option Addr) (n1 cap1 : Nat) (t1 : List (List Int)) (w : World) (h0in : InLL w w.heap.size A0 n0 t0) (h0max : n0 ≤ maxLen) (h0each : ∀ y ∈ t0, y.length ≤ maxLen) (h1in : InLL w w.heap.size A1 n1 t1) (h1max : n1 ≤ maxLen) (h1each : ∀ y ∈ t1, y.length ≤ maxLen) :
    Calls Try.prog 5 #[.agg #[.slice A0 n0 cap0], .agg #[.slice A1 n1 cap1]] w fun e w' => e = .returned (.bool true) ∧ Below w.heap.size w w' := by
  by_cases h0 : n0 + totLL t0 ≤ 1048576
  · by_cases h1 : n0 + totLL t0 + (n1 + totLL t1) ≤ 1048576
    · exact road A0 n0 cap0 t0 A1 n1 cap1 t1 w h0in (by omega) (by omega) (by omega) h1in (by omega) (by omega) (by omega) (by omega) (strR t0 t1)
        (fun w0 a b a' b' h h' => specStr_c a n0 b a' n1 b' w0.heap.size t0 t1 w0 h h' (Nat.le_refl _) (by omega) (by omega))
        (fun w0 a b a' b' h h' => implStr_c a n0 b a' n1 b' w0.heap.size t0 t1 w0 h h' (Nat.le_refl _) (by omega) (by omega) (fun x hx => Nat.le_trans (totLL_mem hx) (by omega)) (fun x hx => Nat.le_trans (totLL_mem hx) (by omega)))
    · exact early1 A0 n0 cap0 t0 A1 n1 cap1 t1 w h0in h1in h0 (by omega) h0max h0each h1max h1each
  · exact early0 A0 n0 cap0 t0 A1 n1 cap1 t1 w h0in h1in (by omega) h0max h0each h1max h1each

set_option maxRecDepth 100000 in
set_option maxHeartbeats 4000000 in
theorem lifted (os : Os) (started : os.Started) (H : Type) (enc : TypeId × Value → H) :
    ReturnsInHanded {} Try.checked os 5 .any (Rows.fnExactIsStricterSpec.pre6 enc Try.prog Try.f5 Rows.fnExactIsStricterRow.domain false) (Rows.fnExactIsStricterSpec.post enc Try.prog Try.f5 false true false false) := by
  refine returnsInHanded_of_change (C := Try.checked) own started (by kernel_rfl) Try.func5
    (ChangeSpec.witness6 (enc := enc) (C := Try.checked) false ⟨#[], #[.agg #[.slice none 0 0], .agg #[.slice none 0 0]], []⟩ 8 (by kernel_rfl) (by kernel_rfl) (by kernel_rfl) (by kernel_rfl)) ?_
  intro W base args ds gs before hval0 hW hcnd _
  have hval : ∀ (j : Nat) t v, Try.f5.params[j]? = some t → args[j]? = some v → Value.okWide Try.prog W .any base t v := hval0
  have hW' := hW
  obtain ⟨p, q, hA0, hV, rfl, hfz, hnd⟩ := hW
  have hA : DataW.TrodAll enc Try.prog W 0 (fun _ => true) true Try.f5.params.toList args.toList ds p := hA0
  rw [Try.params5] at hA hval
  obtain ⟨v0, vs0, d0, ds0, p0, q0, hargs, rfl, rfl, g0, r0⟩ := trodAll_cons hA
  obtain ⟨v1, vs1, d1, ds1, p1, q1, rfl, rfl, rfl, g1, r1⟩ := trodAll_cons r0
  obtain ⟨rfl, rfl, rfl⟩ := trodAll_nil r1
  obtain rfl : args = #[v0, v1] := by cases args; simp_all
  obtain ⟨rfl, rfl⟩ := trodVars_none hV
  have k0 := g0
  have lt0 : ∀ x ∈ p0, x.block < W.heap.size := by obtain ⟨m, hm⟩ := k0; exact DataW.trod_lt m _ _ _ hm
  have k1 := g1
  have lt1 : ∀ x ∈ p1, x.block < W.heap.size := by obtain ⟨m, hm⟩ := k1; exact DataW.trod_lt m _ _ _ hm
  obtain ⟨A0, n0, cap0, t0, rfl, h0max, h0in, h0each⟩ := policy_in (hval 0 24 v0 rfl rfl) g0
  obtain ⟨A1, n1, cap1, t1, rfl, h1max, h1in, h1each⟩ := policy_in (hval 1 24 v1 rfl rfl) g1
  clear hA0 hval0
  simp only [List.append_nil] at hW'
  refine (walk A0 n0 cap0 t0 A1 n1 cap1 t1 W h0in h0max h0each h1in h1max h1each).mono fun e W' ⟨he, bel⟩ => ?_
  subst he
  exact ⟨_, rfl, _, _, _, [], _, [], hW', trodAll_mk1 (shut_bool Try.underlying4 _), (trodAll_cons_mk (Below.trod laidOut (by kernel_rfl) (of_decide_eq_true (by kernel_rfl)) k0 bel lt0) (trodAll_cons_mk (Below.trod laidOut (by kernel_rfl) (of_decide_eq_true (by kernel_rfl)) k1 bel lt1) trodAll_mk0)), rfl, bel.frame _, fun h => by cases h⟩

theorem over : Rows.fnExactIsStricterRow.holds Try.pinned (OpenSpec.ofChange Rows.fnExactIsStricterSpec) :=
  OpenClaim.holds_of_wide 5 Try.f5 rfl rfl rfl rfl rfl rfl rfl ⟨rfl, rfl, rfl, rfl, rfl⟩ rfl rfl rfl rfl rfl (by kernel_rfl) Try.func5 (by kernel_rfl)
    (of_decide_eq_true (by kernel_rfl)) (by unfold Func.isWrapper; first | (rw [if_pos (by decide +kernel)]; kernel_rfl) | (rw [if_neg (by decide +kernel)]; exact ⟨rfl, rfl⟩))
    (fun os started H enc _ => lifted os started H enc)

/-- The statement. -/
theorem proved : Rows.FnExactIsStricterSaid := over
#print axioms proved
end Go.Proofs.Ytopijecdhjnipaa.fnExactIsStricter
