/-
  For every two policies the program's DifferenceOf answers as the model's, leaves them as they were, and gives memory of its own.
  Conditions: none but those that the statement itself bears.
-/
import Derived.Test.YtopijecdhjnipaaRows
import Derived.WalkKit
import Derived.ProofKit
import Derived.OpenShut
import Derived.ShutString
import Derived.ChangeOld
import Derived.Below
import Derived.WalkSmall
import Derived.Test.YtopijecdhjnipaaTms
import Derived.Test.YtopijecdhjnipaaDiffA
import Derived.Test.YtopijecdhjnipaaMarkP
namespace Go.Proofs.Ytopijecdhjnipaa.fnExactDifferenceOf
open Go.ChangeShapes Go.WideShapes Go.ChangeAt Go.RowKit
open Go.ChangeMaps (open_string shut_string)
set_option linter.unusedVariables false

theorem own : ownKnob Try.prog.godebug = none := by kernel_rfl
theorem laidOut : laidOutB Try.prog = true := by kernel_rfl
set_option maxRecDepth 100000 in
set_option maxHeartbeats 8000000 in
theorem early0 (A0 : Option Addr) (n0 cap0 : Nat) (t0 : List (List Int)) (A1 : Option Addr) (n1 cap1 : Nat) (t1 : List (List Int)) (w : World) (in0 : InLL w w.heap.size A0 n0 t0) (in1 : InLL w w.heap.size A1 n1 t1) (q0 : 1048576 < (n0 + totLL t0)) (vn0 : n0 ≤ maxLen) (en0 : ∀ x ∈ t0, x.length ≤ maxLen) (vn1 : n1 ≤ maxLen) (en1 : ∀ x ∈ t1, x.length ≤ maxLen) :
    Calls Try.prog 6 #[.agg #[.slice A0 n0 cap0], .agg #[.slice A1 n1 cap1]] w fun e w' => e = .returned (.bool true) ∧ Below w.heap.size w w' := by
  have hB := Below.refl w.heap.size w
  go_enter Try.func6, Try.ntmps6
  go_wp2_with fail
  have hb_1 : Below w.heap.size w ((w.alloc (.cells #[.slice A0 n0 cap0] 24)).alloc (.cells #[.slice A1 n1 cap1] 24)) := bon (bnew _ _) (bnew _ _)
  have sz_2 : w.heap.size < ((w.alloc (.cells #[.slice A0 n0 cap0] 24)).alloc (.cells #[.slice A1 n1 cap1] 24)).heap.size := by simp <;> omega
  have a0_0 : ((w.alloc (.cells #[.slice A0 n0 cap0] 24)).alloc (.cells #[.slice A1 n1 cap1] 24)).cell? ⟨w.heap.size, 0, none⟩ = some (.slice A0 n0 cap0) := by simp
  have a0_l := sz_2
  have sz_3 : w.heap.size + 1 < ((w.alloc (.cells #[.slice A0 n0 cap0] 24)).alloc (.cells #[.slice A1 n1 cap1] 24)).heap.size := by simp
  have a1_0 : ((w.alloc (.cells #[.slice A0 n0 cap0] 24)).alloc (.cells #[.slice A1 n1 cap1] 24)).cell? ⟨w.heap.size + 1, 0, none⟩ = some (.slice A1 n1 cap1) := by simp
  have a1_l := sz_3
  generalize (w.alloc (.cells #[.slice A0 n0 cap0] 24)).alloc (.cells #[.slice A1 n1 cap1] 24) = w1 at hb_1 a0_0 a1_0 sz_2 a0_l sz_3 a1_l ⊢
  replace in0 := in0.next hb_1 (by omega)
  replace in1 := in1.next hb_1 (by omega)
  replace hB := hB.trans (hb_1.mono hB.size)
  have sz_4 := hb_1.size
  refine (szPolicy_k A0 n0 cap0 _ t0 _ _ in0 (by omega) (by omega) (by omega) (by first | assumption | (unfold maxLen; omega)) (by first | assumption | exact fitsLL_of (by unfold maxLen; omega))).mono ?_
  rintro e w2 ⟨rfl, hb_5⟩
  rw [szv_no (by omega)]
  replace in0 := in0.next hb_5 (by omega)
  replace in1 := in1.next hb_5 (by omega)
  replace a0_0 := cell_next a0_0 hb_5
  replace a1_0 := cell_next a1_0 hb_5
  replace a0_l := Nat.lt_of_lt_of_le a0_l hb_5.size
  replace a1_l := Nat.lt_of_lt_of_le a1_l hb_5.size
  replace hB := hB.trans (hb_5.mono hB.size)
  have sz_6 := hb_5.size
  go_wp2_with fail
  go_ret
  exact ⟨rfl, hB⟩

set_option maxRecDepth 100000 in
set_option maxHeartbeats 8000000 in
theorem early1 (A0 : Option Addr) (n0 cap0 : Nat) (t0 : List (List Int)) (A1 : Option Addr) (n1 cap1 : Nat) (t1 : List (List Int)) (w : World) (in0 : InLL w w.heap.size A0 n0 t0) (in1 : InLL w w.heap.size A1 n1 t1) (q0 : (n0 + totLL t0) ≤ 1048576) (q1 : 1048576 < (n0 + totLL t0) + (n1 + totLL t1)) (vn0 : n0 ≤ maxLen) (en0 : ∀ x ∈ t0, x.length ≤ maxLen) (vn1 : n1 ≤ maxLen) (en1 : ∀ x ∈ t1, x.length ≤ maxLen) :
    Calls Try.prog 6 #[.agg #[.slice A0 n0 cap0], .agg #[.slice A1 n1 cap1]] w fun e w' => e = .returned (.bool true) ∧ Below w.heap.size w w' := by
  have hB := Below.refl w.heap.size w
  have hl_6 : (0 : Int) ≤ 1048576 - ((n0 + totLL t0 : Nat) : Int) := by omega
  go_enter Try.func6, Try.ntmps6
  go_wp2_with fail
  have hb_1 : Below w.heap.size w ((w.alloc (.cells #[.slice A0 n0 cap0] 24)).alloc (.cells #[.slice A1 n1 cap1] 24)) := bon (bnew _ _) (bnew _ _)
  have sz_2 : w.heap.size < ((w.alloc (.cells #[.slice A0 n0 cap0] 24)).alloc (.cells #[.slice A1 n1 cap1] 24)).heap.size := by simp <;> omega
  have a0_0 : ((w.alloc (.cells #[.slice A0 n0 cap0] 24)).alloc (.cells #[.slice A1 n1 cap1] 24)).cell? ⟨w.heap.size, 0, none⟩ = some (.slice A0 n0 cap0) := by simp
  have a0_l := sz_2
  have sz_3 : w.heap.size + 1 < ((w.alloc (.cells #[.slice A0 n0 cap0] 24)).alloc (.cells #[.slice A1 n1 cap1] 24)).heap.size := by simp
  have a1_0 : ((w.alloc (.cells #[.slice A0 n0 cap0] 24)).alloc (.cells #[.slice A1 n1 cap1] 24)).cell? ⟨w.heap.size + 1, 0, none⟩ = some (.slice A1 n1 cap1) := by simp
  have a1_l := sz_3
  generalize (w.alloc (.cells #[.slice A0 n0 cap0] 24)).alloc (.cells #[.slice A1 n1 cap1] 24) = w1 at hb_1 a0_0 a1_0 sz_2 a0_l sz_3 a1_l ⊢
  replace in0 := in0.next hb_1 (by omega)
  replace in1 := in1.next hb_1 (by omega)
  replace hB := hB.trans (hb_1.mono hB.size)
  have sz_4 := hb_1.size
  refine (szPolicy_k A0 n0 cap0 _ t0 _ _ in0 (by omega) (by omega) (by omega) (by first | assumption | (unfold maxLen; omega)) (by first | assumption | exact fitsLL_of (by unfold maxLen; omega))).mono ?_
  rintro e w2 ⟨rfl, hb_5⟩
  rw [szv_yes (by omega)]
  replace in0 := in0.next hb_5 (by omega)
  replace in1 := in1.next hb_5 (by omega)
  replace a0_0 := cell_next a0_0 hb_5
  replace a1_0 := cell_next a1_0 hb_5
  replace a0_l := Nat.lt_of_lt_of_le a0_l hb_5.size
  replace a1_l := Nat.lt_of_lt_of_le a1_l hb_5.size
  replace hB := hB.trans (hb_5.mono hB.size)
  have sz_7 := hb_5.size
  go_wp2_with fail
  refine (szPolicy_k A1 n1 cap1 _ t1 _ _ in1 (by omega) (by omega) (by omega) (by first | assumption | (unfold maxLen; omega)) (by first | assumption | exact fitsLL_of (by unfold maxLen; omega))).mono ?_
  rintro e w3 ⟨rfl, hb_8⟩
  rw [szv_no (by omega)]
  replace in0 := in0.next hb_8 (by omega)
  replace in1 := in1.next hb_8 (by omega)
  replace a0_0 := cell_next a0_0 hb_8
  replace a1_0 := cell_next a1_0 hb_8
  replace a0_l := Nat.lt_of_lt_of_le a0_l hb_8.size
  replace a1_l := Nat.lt_of_lt_of_le a1_l hb_8.size
  replace hB := hB.trans (hb_8.mono hB.size)
  have sz_9 := hb_8.size
  go_wp2_with fail
  go_ret
  exact ⟨rfl, hB⟩

set_option maxRecDepth 100000 in
set_option maxHeartbeats 8000000 in
theorem road (A0 : Option Addr) (n0 cap0 : Nat) (t0 : List (List Int)) (A1 : Option Addr) (n1 cap1 : Nat) (t1 : List (List Int)) (w : World) (in0 : InLL w w.heap.size A0 n0 t0) (h0ok : n0 ≤ 1048576) (h0eok : totLL t0 ≤ 1048576) (h0sum : n0 + totLL t0 ≤ 1048576) (in1 : InLL w w.heap.size A1 n1 t1) (h1ok : n1 ≤ 1048576) (h1eok : totLL t1 ≤ 1048576) (h1sum : n1 + totLL t1 ≤ 1048576) (hsum : (n0 + totLL t0) + (n1 + totLL t1) ≤ 1048576) (y00 : List Int) (l00 : Nat) (r1 : Bool) (k00 : l00 ≤ 1000)
    (HS0 : ∀ (w0 : World) (a00 : Option Addr) (u00 : Nat) (a10 : Option Addr) (u10 : Nat), InLL w0 w0.heap.size a00 n0 t0 → InLL w0 w0.heap.size a10 n1 t1 → Calls Try.prog 18 #[.agg #[.slice a00 n0 u00], .agg #[.slice a10 n1 u10]] w0 fun e w1 => ∃ (R00 : Option Addr) (d00 : Nat), e = .returned (.tuple #[.slice R00 l00 d00, .bool r1]) ∧ OwnL w1 w0.heap.size w1.heap.size R00 l00 d00 y00 ∧ Below w0.heap.size w0 w1)
    (HI0 : ∀ (w0 : World) (a00 : Option Addr) (u00 : Nat) (a10 : Option Addr) (u10 : Nat), InLL w0 w0.heap.size a00 n0 t0 → InLL w0 w0.heap.size a10 n1 t1 → Calls Try.prog 19 #[.agg #[.slice a00 n0 u00], .agg #[.slice a10 n1 u10]] w0 fun e w1 => ∃ (R00 : Option Addr) (d00 : Nat), e = .returned (.tuple #[.slice R00 l00 d00, .bool r1]) ∧ OwnL w1 w0.heap.size w1.heap.size R00 l00 d00 y00 ∧ Below w0.heap.size w0 w1) :
    Calls Try.prog 6 #[.agg #[.slice A0 n0 cap0], .agg #[.slice A1 n1 cap1]] w fun e w' => e = .returned (.bool true) ∧ Below w.heap.size w w' := by
  have HS := Lib.hid HS0
  have HI := Lib.hid HI0
  clear HS0 HI0
  have hB := Below.refl w.heap.size w
  have hl_6 : (0 : Int) ≤ 1048576 - ((n0 + totLL t0 : Nat) : Int) := by omega
  have hl_9 : (0 : Int) ≤ 1048576 - ((n0 + totLL t0 : Nat) : Int) - ((n1 + totLL t1 : Nat) : Int) := by omega
  go_enter Try.func6, Try.ntmps6
  go_wp2_with fail
  have hb_1 : Below w.heap.size w ((w.alloc (.cells #[.slice A0 n0 cap0] 24)).alloc (.cells #[.slice A1 n1 cap1] 24)) := bon (bnew _ _) (bnew _ _)
  have sz_2 : w.heap.size < ((w.alloc (.cells #[.slice A0 n0 cap0] 24)).alloc (.cells #[.slice A1 n1 cap1] 24)).heap.size := by simp <;> omega
  have a0_0 : ((w.alloc (.cells #[.slice A0 n0 cap0] 24)).alloc (.cells #[.slice A1 n1 cap1] 24)).cell? ⟨w.heap.size, 0, none⟩ = some (.slice A0 n0 cap0) := by simp
  have a0_l := sz_2
  have sz_3 : w.heap.size + 1 < ((w.alloc (.cells #[.slice A0 n0 cap0] 24)).alloc (.cells #[.slice A1 n1 cap1] 24)).heap.size := by simp
  have a1_0 : ((w.alloc (.cells #[.slice A0 n0 cap0] 24)).alloc (.cells #[.slice A1 n1 cap1] 24)).cell? ⟨w.heap.size + 1, 0, none⟩ = some (.slice A1 n1 cap1) := by simp
  have a1_l := sz_3
  generalize (w.alloc (.cells #[.slice A0 n0 cap0] 24)).alloc (.cells #[.slice A1 n1 cap1] 24) = w1 at hb_1 a0_0 a1_0 sz_2 a0_l sz_3 a1_l ⊢
  replace in0 := in0.next hb_1 (by omega)
  replace in1 := in1.next hb_1 (by omega)
  replace hB := hB.trans (hb_1.mono hB.size)
  have sz_4 := hb_1.size
  refine (szPolicy_k A0 n0 cap0 _ t0 _ _ in0 (by omega) (by omega) (by omega) (by first | assumption | (unfold maxLen; omega)) (by first | assumption | exact fitsLL_of (by unfold maxLen; omega))).mono ?_
  rintro e w2 ⟨rfl, hb_5⟩
  rw [szv_yes (by omega)]
  replace in0 := in0.next hb_5 (by omega)
  replace in1 := in1.next hb_5 (by omega)
  replace a0_0 := cell_next a0_0 hb_5
  replace a1_0 := cell_next a1_0 hb_5
  replace a0_l := Nat.lt_of_lt_of_le a0_l hb_5.size
  replace a1_l := Nat.lt_of_lt_of_le a1_l hb_5.size
  replace hB := hB.trans (hb_5.mono hB.size)
  have sz_7 := hb_5.size
  go_wp2_with fail
  refine (szPolicy_k A1 n1 cap1 _ t1 _ _ in1 (by omega) (by omega) (by omega) (by first | assumption | (unfold maxLen; omega)) (by first | assumption | exact fitsLL_of (by unfold maxLen; omega))).mono ?_
  rintro e w3 ⟨rfl, hb_8⟩
  rw [szv_yes (by omega)]
  replace in0 := in0.next hb_8 (by omega)
  replace in1 := in1.next hb_8 (by omega)
  replace a0_0 := cell_next a0_0 hb_8
  replace a1_0 := cell_next a1_0 hb_8
  replace a0_l := Nat.lt_of_lt_of_le a0_l hb_8.size
  replace a1_l := Nat.lt_of_lt_of_le a1_l hb_8.size
  replace hB := hB.trans (hb_8.mono hB.size)
  have sz_10 := hb_8.size
  go_wp2_with fail
  go_cut [6, 7] (fun s6 s7 wx => ∃ (R_11 : Option Addr) (d_12 : Nat) (lo_16 hi_17 : Nat), s6 = .slice R_11 l00 d_12 ∧ s7 = .bool r1 ∧ OwnL wx lo_16 hi_17 R_11 l00 d_12 y00 ∧ (w3.heap.size ≤ lo_16 ∧ lo_16 ≤ hi_17 ∧ hi_17 ≤ wx.heap.size) ∧ Below w3.heap.size w3 wx)
  case first =>
    have HT_20 := Lib.hid (fun (x : World) (h : Below w3.drew.heap.size w3.drew x) => toPolicy_k A0 n0 cap0 _ t0 x (in0.call (by omega) h) (le_call (by omega) h) h0ok h0eok)
    have HT_25 := Lib.hid (fun (x : World) (h : Below w3.drew.heap.size w3.drew x) => toPolicy_k A1 n1 cap1 _ t1 x (in1.call (by omega) h) (le_call (by omega) h) h1ok h1eok)
    go_region_held3 (fun w' => w'.cell? ⟨w.heap.size, 0, none⟩ = some (.slice A0 n0 cap0) ∧ w'.cell? ⟨w.heap.size + 1, 0, none⟩ = some (.slice A1 n1 cap1))
      (first | go_keep | exact ⟨cell_on a0_0 (by with_reducible repeat' (first | exact Below.refl _ _ | refine bon ?_ hb_22 | refine bon ?_ hb_27 | refine bon ?_ hb_31 | refine bon ?_ (bnew _ _) | fail)), cell_on a1_0 (by with_reducible repeat' (first | exact Below.refl _ _ | refine bon ?_ hb_22 | refine bon ?_ hb_27 | refine bon ?_ hb_31 | refine bon ?_ (bnew _ _) | fail))⟩ | fail "none keeps")
      (first | (go_at_call_of 9 A0; with_reducible refine (HT_20.out _ (by with_reducible repeat' (first | exact Below.refl _ _ | refine bon ?_ hb_22 | refine bon ?_ hb_27 | refine bon ?_ hb_31 | refine bon ?_ (bnew _ _) | fail))).mono ?_; rintro e v_21 ⟨g_23, rfl, own_24, hb_22⟩) | (go_at_call_of 9 A1; with_reducible refine (HT_25.out _ (by with_reducible repeat' (first | exact Below.refl _ _ | refine bon ?_ hb_22 | refine bon ?_ hb_27 | refine bon ?_ hb_31 | refine bon ?_ (bnew _ _) | fail))).mono ?_; rintro e v_26 ⟨g_28, rfl, own_29, hb_27⟩) | (go_at_call 18; with_reducible refine (HS.out _ _ _ _ _ (by with_reducible refine OwnLL.all (lo := ?_) (hi := ?_) (c := ?_) ?_; with_reducible repeat' (first | exact own_24 | refine OwnLL.next ?_ hb_27 | refine OwnLL.next ?_ hb_22 | refine OwnLL.next ?_ (bnew _ _) | fail)) (by with_reducible refine OwnLL.all (lo := ?_) (hi := ?_) (c := ?_) ?_; with_reducible repeat' (first | exact own_29 | refine OwnLL.next ?_ hb_27 | refine OwnLL.next ?_ hb_22 | refine OwnLL.next ?_ (bnew _ _) | fail))).mono ?_; rintro e v_30 ⟨R_11, d_12, rfl, own_34, hb_31⟩) | fail "no arm")
    all_goals (go_wp2_with fail; go_meet; first | exact ⟨_, _, _, _, rfl, rfl, own_34, ⟨(bstep (by with_reducible repeat' (first | exact Below.refl _ _ | refine bon ?_ hb_22 | refine bon ?_ hb_27 | refine bon ?_ hb_31 | refine bon ?_ (bnew _ _) | fail))).size, hb_31.size, Nat.le_refl _⟩, bon (bstep (by with_reducible repeat' (first | exact Below.refl _ _ | refine bon ?_ hb_22 | refine bon ?_ hb_27 | refine bon ?_ hb_31 | refine bon ?_ (bnew _ _) | fail))) hb_31⟩ | fail "no end")
  case rest =>
    obtain ⟨R_11, d_12, lo_16, hi_17, rfl, rfl, own_15, sz_18, hb_19⟩ := hcut
    obtain ⟨w4, hwx⟩ : ∃ x, x = wc := ⟨_, rfl⟩
    subst hwx
    replace in0 := in0.next hb_19 (by omega)
    replace in1 := in1.next hb_19 (by omega)
    replace a0_0 := cell_next a0_0 hb_19
    replace a1_0 := cell_next a1_0 hb_19
    replace a0_l := Nat.lt_of_lt_of_le a0_l hb_19.size
    replace a1_l := Nat.lt_of_lt_of_le a1_l hb_19.size
    replace hB := hB.trans (hb_19.mono hB.size)
    have sz_35 := hb_19.size
    go_wp2_with fail
    refine (toPolicy_k A0 n0 cap0 _ t0 _ in0 (by omega) h0ok h0eok).mono ?_
    rintro e w5 ⟨g_36, rfl, own_37, hb_38⟩
    replace in0 := in0.next hb_38 (by omega)
    replace in1 := in1.next hb_38 (by omega)
    replace a0_0 := cell_next a0_0 hb_38
    replace a1_0 := cell_next a1_0 hb_38
    replace a0_l := Nat.lt_of_lt_of_le a0_l hb_38.size
    replace a1_l := Nat.lt_of_lt_of_le a1_l hb_38.size
    replace own_15 := own_15.next hb_38
    replace hB := hB.trans (hb_38.mono hB.size)
    have sz_39 := hb_38.size
    go_wp2_with fail
    have hb_40 : Below w5.heap.size w5 (w5.alloc (.cells #[.slice (some ⟨g_36, 0, none⟩) n0 n0] 26)) := bnew _ _
    have sz_41 : w5.heap.size < (w5.alloc (.cells #[.slice (some ⟨g_36, 0, none⟩) n0 n0] 26)).heap.size := by simp
    have x0_0 : (w5.alloc (.cells #[.slice (some ⟨g_36, 0, none⟩) n0 n0] 26)).cell? ⟨w5.heap.size, 0, none⟩ = some (.slice (some ⟨g_36, 0, none⟩) n0 n0) := by simp
    have x0_l := sz_41
    generalize w5.alloc (.cells #[.slice (some ⟨g_36, 0, none⟩) n0 n0] 26) = w6 at hb_40 x0_0 sz_41 x0_l ⊢
    replace in0 := in0.next hb_40 (by omega)
    replace in1 := in1.next hb_40 (by omega)
    replace a0_0 := cell_next a0_0 hb_40
    replace a1_0 := cell_next a1_0 hb_40
    replace a0_l := Nat.lt_of_lt_of_le a0_l hb_40.size
    replace a1_l := Nat.lt_of_lt_of_le a1_l hb_40.size
    replace own_15 := own_15.next hb_40
    replace own_37 := own_37.next hb_40
    replace hB := hB.trans (hb_40.mono hB.size)
    have sz_42 := hb_40.size
    refine (toPolicy_k A1 n1 cap1 _ t1 _ in1 (by omega) h1ok h1eok).mono ?_
    rintro e w7 ⟨g_43, rfl, own_44, hb_45⟩
    replace in0 := in0.next hb_45 (by omega)
    replace in1 := in1.next hb_45 (by omega)
    replace a0_0 := cell_next a0_0 hb_45
    replace a1_0 := cell_next a1_0 hb_45
    replace a0_l := Nat.lt_of_lt_of_le a0_l hb_45.size
    replace a1_l := Nat.lt_of_lt_of_le a1_l hb_45.size
    replace own_15 := own_15.next hb_45
    replace own_37 := own_37.next hb_45
    replace x0_0 := cell_next x0_0 hb_45
    replace x0_l := Nat.lt_of_lt_of_le x0_l hb_45.size
    replace hB := hB.trans (hb_45.mono hB.size)
    have sz_46 := hb_45.size
    go_wp2_with fail
    have hb_47 : Below w7.heap.size w7 (w7.alloc (.cells #[.slice (some ⟨g_43, 0, none⟩) n1 n1] 26)) := bnew _ _
    have sz_48 : w7.heap.size < (w7.alloc (.cells #[.slice (some ⟨g_43, 0, none⟩) n1 n1] 26)).heap.size := by simp
    have x1_0 : (w7.alloc (.cells #[.slice (some ⟨g_43, 0, none⟩) n1 n1] 26)).cell? ⟨w7.heap.size, 0, none⟩ = some (.slice (some ⟨g_43, 0, none⟩) n1 n1) := by simp
    have x1_l := sz_48
    generalize w7.alloc (.cells #[.slice (some ⟨g_43, 0, none⟩) n1 n1] 26) = w8 at hb_47 x1_0 sz_48 x1_l ⊢
    replace in0 := in0.next hb_47 (by omega)
    replace in1 := in1.next hb_47 (by omega)
    replace a0_0 := cell_next a0_0 hb_47
    replace a1_0 := cell_next a1_0 hb_47
    replace a0_l := Nat.lt_of_lt_of_le a0_l hb_47.size
    replace a1_l := Nat.lt_of_lt_of_le a1_l hb_47.size
    replace own_15 := own_15.next hb_47
    replace own_37 := own_37.next hb_47
    replace x0_0 := cell_next x0_0 hb_47
    replace x0_l := Nat.lt_of_lt_of_le x0_l hb_47.size
    replace own_44 := own_44.next hb_47
    replace hB := hB.trans (hb_47.mono hB.size)
    have sz_49 := hb_47.size
    refine (HI.out w8 _ _ _ _ ((own_37.inn).more (by omega)) ((own_44.inn).more (by omega))).mono ?_
    rintro e w9 ⟨R_51, d_52, rfl, own_53, hb_50⟩
    replace in0 := in0.next hb_50 (by omega)
    replace in1 := in1.next hb_50 (by omega)
    replace a0_0 := cell_next a0_0 hb_50
    replace a1_0 := cell_next a1_0 hb_50
    replace a0_l := Nat.lt_of_lt_of_le a0_l hb_50.size
    replace a1_l := Nat.lt_of_lt_of_le a1_l hb_50.size
    replace own_15 := own_15.next hb_50
    replace own_37 := own_37.next hb_50
    replace x0_0 := cell_next x0_0 hb_50
    replace x0_l := Nat.lt_of_lt_of_le x0_l hb_50.size
    replace own_44 := own_44.next hb_50
    replace x1_0 := cell_next x1_0 hb_50
    replace x1_l := Nat.lt_of_lt_of_le x1_l hb_50.size
    replace hB := hB.trans (hb_50.mono hB.size)
    have sz_54 := hb_50.size
    go_wp2_with fail
    -- if !eqInt64S(g0, w0) || g1 != w1 {
    refine (eqInt64S_k R_51 R_11 l00 d_52 d_12 _ _ y00 _ own_53.inn own_15.inn (by omega) (by omega) (by omega)).mono ?_
    rintro e w10 ⟨rfl, hb_55⟩
    replace in0 := in0.next hb_55 (by omega)
    replace in1 := in1.next hb_55 (by omega)
    replace a0_0 := cell_next a0_0 hb_55
    replace a1_0 := cell_next a1_0 hb_55
    replace a0_l := Nat.lt_of_lt_of_le a0_l hb_55.size
    replace a1_l := Nat.lt_of_lt_of_le a1_l hb_55.size
    replace own_15 := own_15.next hb_55
    replace own_37 := own_37.next hb_55
    replace x0_0 := cell_next x0_0 hb_55
    replace x0_l := Nat.lt_of_lt_of_le x0_l hb_55.size
    replace own_44 := own_44.next hb_55
    replace x1_0 := cell_next x1_0 hb_55
    replace x1_l := Nat.lt_of_lt_of_le x1_l hb_55.size
    replace own_53 := own_53.next hb_55
    replace hB := hB.trans (hb_55.mono hB.size)
    have sz_56 := hb_55.size
    go_wp2_with fail
    have HT_57 := Lib.hid (toPolicy_k A0 n0 cap0 _ t0 w10.drew in0.drew (by show _ ≤ w10.heap.size; omega) h0ok h0eok)
    have HE_58 : Hid (∀ w11 g_59, Below w10.drew.heap.size w10.drew w11 → OwnLL w11 w10.drew.heap.size w11.heap.size (some ⟨g_59, 0, none⟩) n0 n0 t0 → Calls Try.prog 11 #[.agg #[.slice (some ⟨g_36, 0, none⟩) n0 n0], .agg #[.slice (some ⟨g_59, 0, none⟩) n0 n0]] w11 fun e w' => e = .returned (.bool true) ∧ Below w11.heap.size w11 w') := fun w11 g_59 hb_61 own_60 => eqPolicy_k (some ⟨g_36, 0, none⟩) (some ⟨g_59, 0, none⟩) n0 n0 n0 _ _ t0 w11 ((own_37.inn).call (by omega) hb_61) own_60.inn (le_call (by omega) hb_61) (Nat.le_refl _) h0ok h0eok
    go_region_held3 (fun w' => w'.cell? ⟨w.heap.size, 0, none⟩ = some (.slice A0 n0 cap0) ∧ w'.cell? ⟨w5.heap.size, 0, none⟩ = some (.slice (some ⟨g_36, 0, none⟩) n0 n0))
      (first | go_keep | exact ⟨cell_on a0_0 hb_61, cell_on x0_0 hb_61⟩ | exact ⟨cell_on2 a0_0 hb_61 hb_63, cell_on2 x0_0 hb_61 hb_63⟩)
      (first | (go_at_call 9; refine HT_57.out.mono ?_; rintro e w11 ⟨g_59, rfl, own_60, hb_61⟩) | (go_at_call 11; refine (HE_58.out _ _ hb_61 own_60).mono ?_; rintro e w12 ⟨rfl, hb_63⟩))
    replace hb_61 := (bstep hb_61)
    replace in0 := in0.next hb_61 (by omega)
    replace in1 := in1.next hb_61 (by omega)
    replace a0_0 := cell_next a0_0 hb_61
    replace a1_0 := cell_next a1_0 hb_61
    replace a0_l := Nat.lt_of_lt_of_le a0_l hb_61.size
    replace a1_l := Nat.lt_of_lt_of_le a1_l hb_61.size
    replace own_15 := own_15.next hb_61
    replace own_37 := own_37.next hb_61
    replace x0_0 := cell_next x0_0 hb_61
    replace x0_l := Nat.lt_of_lt_of_le x0_l hb_61.size
    replace own_44 := own_44.next hb_61
    replace x1_0 := cell_next x1_0 hb_61
    replace x1_l := Nat.lt_of_lt_of_le x1_l hb_61.size
    replace own_53 := own_53.next hb_61
    replace hB := hB.trans (hb_61.mono hB.size)
    have sz_64 := hb_61.size
    replace in0 := in0.next hb_63 (by omega)
    replace in1 := in1.next hb_63 (by omega)
    replace a0_0 := cell_next a0_0 hb_63
    replace a1_0 := cell_next a1_0 hb_63
    replace a0_l := Nat.lt_of_lt_of_le a0_l hb_63.size
    replace a1_l := Nat.lt_of_lt_of_le a1_l hb_63.size
    replace own_15 := own_15.next hb_63
    replace own_37 := own_37.next hb_63
    replace x0_0 := cell_next x0_0 hb_63
    replace x0_l := Nat.lt_of_lt_of_le x0_l hb_63.size
    replace own_44 := own_44.next hb_63
    replace x1_0 := cell_next x1_0 hb_63
    replace x1_l := Nat.lt_of_lt_of_le x1_l hb_63.size
    replace own_53 := own_53.next hb_63
    replace hB := hB.trans (hb_63.mono hB.size)
    have sz_65 := hb_63.size
    clear HT_57 HE_58 own_60
    go_wp2_with fail
    have HT_66 := Lib.hid (toPolicy_k A1 n1 cap1 _ t1 w12.drew in1.drew (by show _ ≤ w12.heap.size; omega) h1ok h1eok)
    have HE_67 : Hid (∀ w13 g_68, Below w12.drew.heap.size w12.drew w13 → OwnLL w13 w12.drew.heap.size w13.heap.size (some ⟨g_68, 0, none⟩) n1 n1 t1 → Calls Try.prog 11 #[.agg #[.slice (some ⟨g_43, 0, none⟩) n1 n1], .agg #[.slice (some ⟨g_68, 0, none⟩) n1 n1]] w13 fun e w' => e = .returned (.bool true) ∧ Below w13.heap.size w13 w') := fun w13 g_68 hb_70 own_69 => eqPolicy_k (some ⟨g_43, 0, none⟩) (some ⟨g_68, 0, none⟩) n1 n1 n1 _ _ t1 w13 ((own_44.inn).call (by omega) hb_70) own_69.inn (le_call (by omega) hb_70) (Nat.le_refl _) h1ok h1eok
    go_region_held3 (fun w' => w'.cell? ⟨w.heap.size + 1, 0, none⟩ = some (.slice A1 n1 cap1) ∧ w'.cell? ⟨w7.heap.size, 0, none⟩ = some (.slice (some ⟨g_43, 0, none⟩) n1 n1))
      (first | go_keep | exact ⟨cell_on a1_0 hb_70, cell_on x1_0 hb_70⟩ | exact ⟨cell_on2 a1_0 hb_70 hb_72, cell_on2 x1_0 hb_70 hb_72⟩)
      (first | (go_at_call 9; refine HT_66.out.mono ?_; rintro e w13 ⟨g_68, rfl, own_69, hb_70⟩) | (go_at_call 11; refine (HE_67.out _ _ hb_70 own_69).mono ?_; rintro e w14 ⟨rfl, hb_72⟩))
    replace hb_70 := (bstep hb_70)
    replace in0 := in0.next hb_70 (by omega)
    replace in1 := in1.next hb_70 (by omega)
    replace a0_0 := cell_next a0_0 hb_70
    replace a1_0 := cell_next a1_0 hb_70
    replace a0_l := Nat.lt_of_lt_of_le a0_l hb_70.size
    replace a1_l := Nat.lt_of_lt_of_le a1_l hb_70.size
    replace own_15 := own_15.next hb_70
    replace own_37 := own_37.next hb_70
    replace x0_0 := cell_next x0_0 hb_70
    replace x0_l := Nat.lt_of_lt_of_le x0_l hb_70.size
    replace own_44 := own_44.next hb_70
    replace x1_0 := cell_next x1_0 hb_70
    replace x1_l := Nat.lt_of_lt_of_le x1_l hb_70.size
    replace own_53 := own_53.next hb_70
    replace hB := hB.trans (hb_70.mono hB.size)
    have sz_73 := hb_70.size
    replace in0 := in0.next hb_72 (by omega)
    replace in1 := in1.next hb_72 (by omega)
    replace a0_0 := cell_next a0_0 hb_72
    replace a1_0 := cell_next a1_0 hb_72
    replace a0_l := Nat.lt_of_lt_of_le a0_l hb_72.size
    replace a1_l := Nat.lt_of_lt_of_le a1_l hb_72.size
    replace own_15 := own_15.next hb_72
    replace own_37 := own_37.next hb_72
    replace x0_0 := cell_next x0_0 hb_72
    replace x0_l := Nat.lt_of_lt_of_le x0_l hb_72.size
    replace own_44 := own_44.next hb_72
    replace x1_0 := cell_next x1_0 hb_72
    replace x1_l := Nat.lt_of_lt_of_le x1_l hb_72.size
    replace own_53 := own_53.next hb_72
    replace hB := hB.trans (hb_72.mono hB.size)
    have sz_74 := hb_72.size
    clear HT_66 HE_67 own_69
    go_wp2_with fail
    refine (markPolicy_k w4.heap.size w5.heap.size (some ⟨g_36, 0, none⟩) n0 n0 t0 1 _ own_37 (by omega) (by omega) (by omega) (by omega)).mono ?_
    rintro e w15 ⟨rfl, own_76, ho_75⟩
    replace in0 := in0.out ho_75 (by omega) (by omega)
    replace in1 := in1.out ho_75 (by omega) (by omega)
    replace a0_0 := ho_75.cell a0_0 (by omega)
    replace a1_0 := ho_75.cell a1_0 (by omega)
    replace a0_l := Nat.lt_of_lt_of_le a0_l ho_75.size
    replace a1_l := Nat.lt_of_lt_of_le a1_l ho_75.size
    replace own_15 := own_15.out ho_75 (by omega)
    replace x0_0 := ho_75.cell x0_0 (by omega)
    replace x0_l := Nat.lt_of_lt_of_le x0_l ho_75.size
    replace own_44 := own_44.out ho_75 (by omega)
    replace x1_0 := ho_75.cell x1_0 (by omega)
    replace x1_l := Nat.lt_of_lt_of_le x1_l ho_75.size
    replace own_53 := own_53.out ho_75 (by omega)
    replace hB := hB.trans (ho_75.below (by omega) (by omega))
    have sz_77 := ho_75.size
    clear own_37
    clear x0_0 x0_l
    clear own_76
    go_wp2_with fail
    refine (markPolicy_k w6.heap.size w7.heap.size (some ⟨g_43, 0, none⟩) n1 n1 t1 (1 + ((totLL t0 : Nat) : Int)) _ own_44 (by omega) (by omega) (by omega) (by omega)).mono ?_
    rintro e w16 ⟨rfl, own_79, ho_78⟩
    replace in0 := in0.out ho_78 (by omega) (by omega)
    replace in1 := in1.out ho_78 (by omega) (by omega)
    replace a0_0 := ho_78.cell a0_0 (by omega)
    replace a1_0 := ho_78.cell a1_0 (by omega)
    replace a0_l := Nat.lt_of_lt_of_le a0_l ho_78.size
    replace a1_l := Nat.lt_of_lt_of_le a1_l ho_78.size
    replace own_15 := own_15.out ho_78 (by omega)
    replace x1_0 := ho_78.cell x1_0 (by omega)
    replace x1_l := Nat.lt_of_lt_of_le x1_l ho_78.size
    replace own_53 := own_53.out ho_78 (by omega)
    replace hB := hB.trans (ho_78.below (by omega) (by omega))
    have sz_80 := ho_78.size
    clear own_44
    clear x1_0 x1_l
    clear own_79
    go_wp2_with fail
    -- if k < 0 || !eqInt64S(g0, w0) || g1 != w1 {
    refine (eqInt64S_k R_51 R_11 l00 d_52 d_12 _ _ y00 _ own_53.inn own_15.inn (by omega) (by omega) (by omega)).mono ?_
    rintro e w17 ⟨rfl, hb_81⟩
    replace in0 := in0.next hb_81 (by omega)
    replace in1 := in1.next hb_81 (by omega)
    replace a0_0 := cell_next a0_0 hb_81
    replace a1_0 := cell_next a1_0 hb_81
    replace a0_l := Nat.lt_of_lt_of_le a0_l hb_81.size
    replace a1_l := Nat.lt_of_lt_of_le a1_l hb_81.size
    replace own_15 := own_15.next hb_81
    replace own_53 := own_53.next hb_81
    replace hB := hB.trans (hb_81.mono hB.size)
    have sz_82 := hb_81.size
    go_wp2_with fail
    refine (markInt64S_k w8.heap.size w9.heap.size R_51 l00 d_52 y00 1 _ own_53 (by omega) (by omega) (by omega)).mono ?_
    rintro e w18 ⟨rfl, own_84, ho_83⟩
    replace in0 := in0.out ho_83 (by omega) (by omega)
    replace in1 := in1.out ho_83 (by omega) (by omega)
    replace a0_0 := ho_83.cell a0_0 (by omega)
    replace a1_0 := ho_83.cell a1_0 (by omega)
    replace a0_l := Nat.lt_of_lt_of_le a0_l ho_83.size
    replace a1_l := Nat.lt_of_lt_of_le a1_l ho_83.size
    replace own_15 := own_15.out ho_83 (by omega)
    replace hB := hB.trans (ho_83.below (by omega) (by omega))
    have sz_85 := ho_83.size
    clear own_53
    go_wp2_with fail
    refine (heldInt64S_k R_51 l00 d_52 _ 1 _ own_84.inn (by omega) (by omega) (by omega)).mono ?_
    rintro e w19 ⟨rfl, hb_86⟩
    replace in0 := in0.next hb_86 (by omega)
    replace in1 := in1.next hb_86 (by omega)
    replace a0_0 := cell_next a0_0 hb_86
    replace a1_0 := cell_next a1_0 hb_86
    replace a0_l := Nat.lt_of_lt_of_le a0_l hb_86.size
    replace a1_l := Nat.lt_of_lt_of_le a1_l hb_86.size
    replace own_15 := own_15.next hb_86
    replace own_84 := own_84.next hb_86
    replace hB := hB.trans (hb_86.mono hB.size)
    have sz_87 := hb_86.size
    go_wp2_with fail
    go_cut [15, 16] (fun s15 s16 wx => ∃ (R_88 : Option Addr) (d_89 : Nat) (lo_93 hi_94 : Nat), s15 = .slice R_88 l00 d_89 ∧ s16 = .bool r1 ∧ OwnL wx lo_93 hi_94 R_88 l00 d_89 y00 ∧ (w19.heap.size ≤ lo_93 ∧ lo_93 ≤ hi_94 ∧ hi_94 ≤ wx.heap.size) ∧ Below w19.heap.size w19 wx)
    case first =>
      have HT_97 := Lib.hid (fun (x : World) (h : Below w19.drew.heap.size w19.drew x) => toPolicy_k A0 n0 cap0 _ t0 x (in0.call (by omega) h) (le_call (by omega) h) h0ok h0eok)
      have HT_102 := Lib.hid (fun (x : World) (h : Below w19.drew.heap.size w19.drew x) => toPolicy_k A1 n1 cap1 _ t1 x (in1.call (by omega) h) (le_call (by omega) h) h1ok h1eok)
      go_region_held3 (fun w' => w'.cell? ⟨w.heap.size, 0, none⟩ = some (.slice A0 n0 cap0) ∧ w'.cell? ⟨w.heap.size + 1, 0, none⟩ = some (.slice A1 n1 cap1))
        (first | go_keep | exact ⟨cell_on a0_0 (by with_reducible repeat' (first | exact Below.refl _ _ | refine bon ?_ hb_99 | refine bon ?_ hb_104 | refine bon ?_ hb_108 | refine bon ?_ (bnew _ _) | fail)), cell_on a1_0 (by with_reducible repeat' (first | exact Below.refl _ _ | refine bon ?_ hb_99 | refine bon ?_ hb_104 | refine bon ?_ hb_108 | refine bon ?_ (bnew _ _) | fail))⟩ | fail "none keeps")
        (first | (go_at_call_of 9 A0; with_reducible refine (HT_97.out _ (by with_reducible repeat' (first | exact Below.refl _ _ | refine bon ?_ hb_99 | refine bon ?_ hb_104 | refine bon ?_ hb_108 | refine bon ?_ (bnew _ _) | fail))).mono ?_; rintro e v_98 ⟨g_100, rfl, own_101, hb_99⟩) | (go_at_call_of 9 A1; with_reducible refine (HT_102.out _ (by with_reducible repeat' (first | exact Below.refl _ _ | refine bon ?_ hb_99 | refine bon ?_ hb_104 | refine bon ?_ hb_108 | refine bon ?_ (bnew _ _) | fail))).mono ?_; rintro e v_103 ⟨g_105, rfl, own_106, hb_104⟩) | (go_at_call 19; with_reducible refine (HI.out _ _ _ _ _ (by with_reducible refine OwnLL.all (lo := ?_) (hi := ?_) (c := ?_) ?_; with_reducible repeat' (first | exact own_101 | refine OwnLL.next ?_ hb_104 | refine OwnLL.next ?_ hb_99 | refine OwnLL.next ?_ (bnew _ _) | fail)) (by with_reducible refine OwnLL.all (lo := ?_) (hi := ?_) (c := ?_) ?_; with_reducible repeat' (first | exact own_106 | refine OwnLL.next ?_ hb_104 | refine OwnLL.next ?_ hb_99 | refine OwnLL.next ?_ (bnew _ _) | fail))).mono ?_; rintro e v_107 ⟨R_88, d_89, rfl, own_111, hb_108⟩) | fail "no arm")
      all_goals (go_wp2_with fail; go_meet; first | exact ⟨_, _, _, _, rfl, rfl, own_111, ⟨(bstep (by with_reducible repeat' (first | exact Below.refl _ _ | refine bon ?_ hb_99 | refine bon ?_ hb_104 | refine bon ?_ hb_108 | refine bon ?_ (bnew _ _) | fail))).size, hb_108.size, Nat.le_refl _⟩, bon (bstep (by with_reducible repeat' (first | exact Below.refl _ _ | refine bon ?_ hb_99 | refine bon ?_ hb_104 | refine bon ?_ hb_108 | refine bon ?_ (bnew _ _) | fail))) hb_108⟩ | fail "no end")
    case rest =>
      obtain ⟨R_88, d_89, lo_93, hi_94, rfl, rfl, own_92, sz_95, hb_96⟩ := hcut
      obtain ⟨w20, hwx⟩ : ∃ x, x = wc := ⟨_, rfl⟩
      subst hwx
      replace in0 := in0.next hb_96 (by omega)
      replace in1 := in1.next hb_96 (by omega)
      replace a0_0 := cell_next a0_0 hb_96
      replace a1_0 := cell_next a1_0 hb_96
      replace a0_l := Nat.lt_of_lt_of_le a0_l hb_96.size
      replace a1_l := Nat.lt_of_lt_of_le a1_l hb_96.size
      replace own_15 := own_15.next hb_96
      replace own_84 := own_84.next hb_96
      replace hB := hB.trans (hb_96.mono hB.size)
      have sz_112 := hb_96.size
      go_wp2_with fail
      -- if !eqInt64S(h0, w0) || h1 != w1 {
      refine (eqInt64S_k R_88 R_11 l00 d_89 d_12 _ _ y00 _ own_92.inn own_15.inn (by omega) (by omega) (by omega)).mono ?_
      rintro e w21 ⟨rfl, hb_113⟩
      replace in0 := in0.next hb_113 (by omega)
      replace in1 := in1.next hb_113 (by omega)
      replace a0_0 := cell_next a0_0 hb_113
      replace a1_0 := cell_next a1_0 hb_113
      replace a0_l := Nat.lt_of_lt_of_le a0_l hb_113.size
      replace a1_l := Nat.lt_of_lt_of_le a1_l hb_113.size
      replace own_15 := own_15.next hb_113
      replace own_84 := own_84.next hb_113
      replace own_92 := own_92.next hb_113
      replace hB := hB.trans (hb_113.mono hB.size)
      have sz_114 := hb_113.size
      go_wp2_with fail
      clear own_92
      refine (heldInt64S_k R_51 l00 d_52 _ 1 _ own_84.inn (by omega) (by omega) (by omega)).mono ?_
      rintro e w22 ⟨rfl, hb_115⟩
      replace in0 := in0.next hb_115 (by omega)
      replace in1 := in1.next hb_115 (by omega)
      replace a0_0 := cell_next a0_0 hb_115
      replace a1_0 := cell_next a1_0 hb_115
      replace a0_l := Nat.lt_of_lt_of_le a0_l hb_115.size
      replace a1_l := Nat.lt_of_lt_of_le a1_l hb_115.size
      replace own_15 := own_15.next hb_115
      replace own_84 := own_84.next hb_115
      replace hB := hB.trans (hb_115.mono hB.size)
      have sz_116 := hb_115.size
      go_wp2_with fail
      go_ret
      exact ⟨rfl, hB⟩

set_option maxRecDepth 100000 in
set_option maxHeartbeats 4000000 in
theorem walk (A0 : Option Addr) (n0 cap0 : Nat) (t0 : List (List Int)) (A1 : Option Addr) (n1 cap1 : Nat) (t1 : List (List Int)) (w : World) (h0in : InLL w w.heap.size A0 n0 t0) (h0max : n0 ≤ maxLen) (h0each : ∀ y ∈ t0, y.length ≤ maxLen) (h1in : InLL w w.heap.size A1 n1 t1) (h1max : n1 ≤ maxLen) (h1each : ∀ y ∈ t1, y.length ≤ maxLen) :
    Calls Try.prog 6 #[.agg #[.slice A0 n0 cap0], .agg #[.slice A1 n1 cap1]] w fun e w' => e = .returned (.bool true) ∧ Below w.heap.size w w' := by
  by_cases h0 : n0 + totLL t0 ≤ 1048576
  · by_cases h1 : n0 + totLL t0 + (n1 + totLL t1) ≤ 1048576
    · have hk := diffR_len t0 t1
      exact road A0 n0 cap0 t0 A1 n1 cap1 t1 w h0in (by omega) (by omega) (by omega) h1in (by omega) (by omega) (by omega) (by omega) (diffR t0 t1).1 (diffR t0 t1).1.length (diffR t0 t1).2 (by omega)
        (fun w0 a b a' b' h h' => specDiff_c a n0 b a' n1 b' w0.heap.size t0 t1 w0 h h' (Nat.le_refl _) (by omega) (by omega))
        (fun w0 a b a' b' h h' => implDiff_c a n0 b a' n1 b' w0.heap.size t0 t1 w0 h h' (Nat.le_refl _) (by omega) (by omega) (fun x hx => Nat.le_trans (totLL_mem hx) (by omega)) (fun x hx => Nat.le_trans (totLL_mem hx) (by omega)))
    · exact early1 A0 n0 cap0 t0 A1 n1 cap1 t1 w h0in h1in h0 (by omega) h0max h0each h1max h1each
  · exact early0 A0 n0 cap0 t0 A1 n1 cap1 t1 w h0in h1in (by omega) h0max h0each h1max h1each

set_option maxRecDepth 100000 in
set_option maxHeartbeats 4000000 in
theorem lifted (os : Os) (started : os.Started) (H : Type) (enc : TypeId × Value → H) :
    ReturnsInHanded {} Try.checked os 6 .any (Rows.fnExactDifferenceOfSpec.pre6 enc Try.prog Try.f6 Rows.fnExactDifferenceOfRow.domain false) (Rows.fnExactDifferenceOfSpec.post enc Try.prog Try.f6 false true false false) := by
  refine returnsInHanded_of_change (C := Try.checked) own started (by kernel_rfl) Try.func6
    (ChangeSpec.witness6 (enc := enc) (C := Try.checked) false ⟨#[], #[.agg #[.slice none 0 0], .agg #[.slice none 0 0]], []⟩ 8 (by kernel_rfl) (by kernel_rfl) (by kernel_rfl) (by kernel_rfl)) ?_
  intro W base args ds gs before hval0 hW hcnd _
  have hval : ∀ (j : Nat) t v, Try.f6.params[j]? = some t → args[j]? = some v → Value.okWide Try.prog W .any base t v := hval0
  have hW' := hW
  obtain ⟨p, q, hA0, hV, rfl, hfz, hnd⟩ := hW
  have hA : DataW.TrodAll enc Try.prog W 0 (fun _ => true) true Try.f6.params.toList args.toList ds p := hA0
  rw [Try.params6] at hA hval
  obtain ⟨v0, vs0, d0, ds0, p0, q0, hargs, rfl, rfl, g0, r0⟩ := trodAll_cons hA
  obtain ⟨v1, vs1, d1, ds1, p1, q1, rfl, rfl, rfl, g1, r1⟩ := trodAll_cons r0
  obtain ⟨rfl, rfl, rfl⟩ := trodAll_nil r1
  obtain rfl : args = #[v0, v1] := by cases args; simp_all
  obtain ⟨rfl, rfl⟩ := trodVars_none hV
  have k0 := g0
  have lt0 : ∀ x ∈ p0, x.block < W.heap.size := by obtain ⟨m, hm⟩ := k0; exact DataW.trod_lt m _ _ _ hm
  have k1 := g1
  have lt1 : ∀ x ∈ p1, x.block < W.heap.size := by obtain ⟨m, hm⟩ := k1; exact DataW.trod_lt m _ _ _ hm
  obtain ⟨A0, n0, cap0, t0, rfl, h0max, h0in, h0each⟩ := policy_in (hval 0 24 v0 rfl rfl) g0
  obtain ⟨A1, n1, cap1, t1, rfl, h1max, h1in, h1each⟩ := policy_in (hval 1 24 v1 rfl rfl) g1
  clear hA0 hval0
  simp only [List.append_nil] at hW'
  refine (walk A0 n0 cap0 t0 A1 n1 cap1 t1 W h0in h0max h0each h1in h1max h1each).mono fun e W' ⟨he, bel⟩ => ?_
  subst he
  exact ⟨_, rfl, _, _, _, [], _, [], hW', trodAll_mk1 (shut_bool Try.underlying4 _), (trodAll_cons_mk (Below.trod laidOut (by kernel_rfl) (of_decide_eq_true (by kernel_rfl)) k0 bel lt0) (trodAll_cons_mk (Below.trod laidOut (by kernel_rfl) (of_decide_eq_true (by kernel_rfl)) k1 bel lt1) trodAll_mk0)), rfl, bel.frame _, fun h => by cases h⟩

theorem over : Rows.fnExactDifferenceOfRow.holds Try.pinned (OpenSpec.ofChange Rows.fnExactDifferenceOfSpec) :=
  OpenClaim.holds_of_wide 6 Try.f6 rfl rfl rfl rfl rfl rfl rfl ⟨rfl, rfl, rfl, rfl, rfl⟩ rfl rfl rfl rfl rfl (by kernel_rfl) Try.func6 (by kernel_rfl)
    (of_decide_eq_true (by kernel_rfl)) (by unfold Func.isWrapper; first | (rw [if_pos (by decide +kernel)]; kernel_rfl) | (rw [if_neg (by decide +kernel)]; exact ⟨rfl, rfl⟩))
    (fun os started H enc _ => lifted os started H enc)

/-- The statement. -/
theorem proved : Rows.FnExactDifferenceOfSaid := over
#print axioms proved
end Go.Proofs.Ytopijecdhjnipaa.fnExactDifferenceOf
