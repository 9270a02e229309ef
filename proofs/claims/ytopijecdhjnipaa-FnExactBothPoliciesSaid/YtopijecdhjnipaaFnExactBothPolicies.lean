/-
  For every two policies the program's BothPolicies answers as the model's, leaves them as they were, and gives memory of its own.
  Conditions: none but those that the statement itself bears.
-/
import Derived.Test.YtopijecdhjnipaaRows
import Derived.WalkKit
import Derived.ProofKit
import Derived.OpenShut
import Derived.ShutString
import Derived.ChangeOld
import Derived.Below
import Derived.WalkSmall
import Derived.Test.YtopijecdhjnipaaTms
import Derived.Test.YtopijecdhjnipaaBothA
import Derived.Test.YtopijecdhjnipaaMarkP
import Derived.Test.YtopijecdhjnipaaBoxA
namespace Go.Proofs.Ytopijecdhjnipaa.fnExactBothPolicies
open Go.ChangeShapes Go.WideShapes Go.ChangeAt Go.RowKit
open Go.ChangeMaps (open_string shut_string)
set_option linter.unusedVariables false

theorem own : ownKnob Try.prog.godebug = none := by kernel_rfl
theorem laidOut : laidOutB Try.prog = true := by kernel_rfl
set_option maxRecDepth 100000 in
set_option maxHeartbeats 8000000 in
theorem early0 (A0 : Option Addr) (n0 cap0 : Nat) (t0 : List (List Int)) (A1 : Option Addr) (n1 cap1 : Nat) (t1 : List (List Int)) (w : World) (in0 : InLL w w.heap.size A0 n0 t0) (in1 : InLL w w.heap.size A1 n1 t1) (q0 : 1048576 < (n0 + totLL t0)) (vn0 : n0 ≤ maxLen) (en0 : ∀ x ∈ t0, x.length ≤ maxLen) (vn1 : n1 ≤ maxLen) (en1 : ∀ x ∈ t1, x.length ≤ maxLen) :
    Calls Try.prog 4 #[.agg #[.slice A0 n0 cap0], .agg #[.slice A1 n1 cap1]] w fun e w' => e = .returned (.bool true) ∧ Below w.heap.size w w' := by
  have hB := Below.refl w.heap.size w
  go_enter Try.func4, Try.ntmps4
  go_wp2_with fail
  have hb_1 : Below w.heap.size w ((w.alloc (.cells #[.slice A0 n0 cap0] 24)).alloc (.cells #[.slice A1 n1 cap1] 24)) := bon (bnew _ _) (bnew _ _)
  have sz_2 : w.heap.size < ((w.alloc (.cells #[.slice A0 n0 cap0] 24)).alloc (.cells #[.slice A1 n1 cap1] 24)).heap.size := by simp <;> omega
  have a0_0 : ((w.alloc (.cells #[.slice A0 n0 cap0] 24)).alloc (.cells #[.slice A1 n1 cap1] 24)).cell? ⟨w.heap.size, 0, none⟩ = some (.slice A0 n0 cap0) := by simp
  have a0_l := sz_2
  have sz_3 : w.heap.size + 1 < ((w.alloc (.cells #[.slice A0 n0 cap0] 24)).alloc (.cells #[.slice A1 n1 cap1] 24)).heap.size := by simp
  have a1_0 : ((w.alloc (.cells #[.slice A0 n0 cap0] 24)).alloc (.cells #[.slice A1 n1 cap1] 24)).cell? ⟨w.heap.size + 1, 0, none⟩ = some (.slice A1 n1 cap1) := by simp
  have a1_l := sz_3
  generalize (w.alloc (.cells #[.slice A0 n0 cap0] 24)).alloc (.cells #[.slice A1 n1 cap1] 24) = w1 at hb_1 a0_0 a1_0 sz_2 a0_l sz_3 a1_l ⊢
  replace in0 := in0.next hb_1 (by omega)
  replace in1 := in1.next hb_1 (by omega)
  replace hB := hB.trans (hb_1.mono hB.size)
  have sz_4 := hb_1.size
  refine (szPolicy_k A0 n0 cap0 _ t0 _ _ in0 (by omega) (by omega) (by omega) (by first | assumption | (unfold maxLen; omega)) (by first | assumption | exact fitsLL_of (by unfold maxLen; omega))).mono ?_
  rintro e w2 ⟨rfl, hb_5⟩
  rw [szv_no (by omega)]
  replace in0 := in0.next hb_5 (by omega)
  replace in1 := in1.next hb_5 (by omega)
  replace a0_0 := cell_next a0_0 hb_5
  replace a1_0 := cell_next a1_0 hb_5
  replace a0_l := Nat.lt_of_lt_of_le a0_l hb_5.size
  replace a1_l := Nat.lt_of_lt_of_le a1_l hb_5.size
  replace hB := hB.trans (hb_5.mono hB.size)
  have sz_6 := hb_5.size
  go_wp2_with fail
  go_ret
  exact ⟨rfl, hB⟩

set_option maxRecDepth 100000 in
set_option maxHeartbeats 8000000 in
theorem early1 (A0 : Option Addr) (n0 cap0 : Nat) (t0 : List (List Int)) (A1 : Option Addr) (n1 cap1 : Nat) (t1 : List (List Int)) (w : World) (in0 : InLL w w.heap.size A0 n0 t0) (in1 : InLL w w.heap.size A1 n1 t1) (q0 : (n0 + totLL t0) ≤ 1048576) (q1 : 1048576 < (n0 + totLL t0) + (n1 + totLL t1)) (vn0 : n0 ≤ maxLen) (en0 : ∀ x ∈ t0, x.length ≤ maxLen) (vn1 : n1 ≤ maxLen) (en1 : ∀ x ∈ t1, x.length ≤ maxLen) :
    Calls Try.prog 4 #[.agg #[.slice A0 n0 cap0], .agg #[.slice A1 n1 cap1]] w fun e w' => e = .returned (.bool true) ∧ Below w.heap.size w w' := by
  have hB := Below.refl w.heap.size w
  have hl_6 : (0 : Int) ≤ 1048576 - ((n0 + totLL t0 : Nat) : Int) := by omega
  go_enter Try.func4, Try.ntmps4
  go_wp2_with fail
  have hb_1 : Below w.heap.size w ((w.alloc (.cells #[.slice A0 n0 cap0] 24)).alloc (.cells #[.slice A1 n1 cap1] 24)) := bon (bnew _ _) (bnew _ _)
  have sz_2 : w.heap.size < ((w.alloc (.cells #[.slice A0 n0 cap0] 24)).alloc (.cells #[.slice A1 n1 cap1] 24)).heap.size := by simp <;> omega
  have a0_0 : ((w.alloc (.cells #[.slice A0 n0 cap0] 24)).alloc (.cells #[.slice A1 n1 cap1] 24)).cell? ⟨w.heap.size, 0, none⟩ = some (.slice A0 n0 cap0) := by simp
  have a0_l := sz_2
  have sz_3 : w.heap.size + 1 < ((w.alloc (.cells #[.slice A0 n0 cap0] 24)).alloc (.cells #[.slice A1 n1 cap1] 24)).heap.size := by simp
  have a1_0 : ((w.alloc (.cells #[.slice A0 n0 cap0] 24)).alloc (.cells #[.slice A1 n1 cap1] 24)).cell? ⟨w.heap.size + 1, 0, none⟩ = some (.slice A1 n1 cap1) := by simp
  have a1_l := sz_3
  generalize (w.alloc (.cells #[.slice A0 n0 cap0] 24)).alloc (.cells #[.slice A1 n1 cap1] 24) = w1 at hb_1 a0_0 a1_0 sz_2 a0_l sz_3 a1_l ⊢
  replace in0 := in0.next hb_1 (by omega)
  replace in1 := in1.next hb_1 (by omega)
  replace hB := hB.trans (hb_1.mono hB.size)
  have sz_4 := hb_1.size
  refine (szPolicy_k A0 n0 cap0 _ t0 _ _ in0 (by omega) (by omega) (by omega) (by first | assumption | (unfold maxLen; omega)) (by first | assumption | exact fitsLL_of (by unfold maxLen; omega))).mono ?_
  rintro e w2 ⟨rfl, hb_5⟩
  rw [szv_yes (by omega)]
  replace in0 := in0.next hb_5 (by omega)
  replace in1 := in1.next hb_5 (by omega)
  replace a0_0 := cell_next a0_0 hb_5
  replace a1_0 := cell_next a1_0 hb_5
  replace a0_l := Nat.lt_of_lt_of_le a0_l hb_5.size
  replace a1_l := Nat.lt_of_lt_of_le a1_l hb_5.size
  replace hB := hB.trans (hb_5.mono hB.size)
  have sz_7 := hb_5.size
  go_wp2_with fail
  refine (szPolicy_k A1 n1 cap1 _ t1 _ _ in1 (by omega) (by omega) (by omega) (by first | assumption | (unfold maxLen; omega)) (by first | assumption | exact fitsLL_of (by unfold maxLen; omega))).mono ?_
  rintro e w3 ⟨rfl, hb_8⟩
  rw [szv_no (by omega)]
  replace in0 := in0.next hb_8 (by omega)
  replace in1 := in1.next hb_8 (by omega)
  replace a0_0 := cell_next a0_0 hb_8
  replace a1_0 := cell_next a1_0 hb_8
  replace a0_l := Nat.lt_of_lt_of_le a0_l hb_8.size
  replace a1_l := Nat.lt_of_lt_of_le a1_l hb_8.size
  replace hB := hB.trans (hb_8.mono hB.size)
  have sz_9 := hb_8.size
  go_wp2_with fail
  go_ret
  exact ⟨rfl, hB⟩

set_option maxRecDepth 100000 in
set_option maxHeartbeats 8000000 in
theorem road (A0 : Option Addr) (n0 cap0 : Nat) (t0 : List (List Int)) (A1 : Option Addr) (n1 cap1 : Nat) (t1 : List (List Int)) (w : World) (in0 : InLL w w.heap.size A0 n0 t0) (h0ok : n0 ≤ 1048576) (h0eok : totLL t0 ≤ 1048576) (h0sum : n0 + totLL t0 ≤ 1048576) (in1 : InLL w w.heap.size A1 n1 t1) (h1ok : n1 ≤ 1048576) (h1eok : totLL t1 ≤ 1048576) (h1sum : n1 + totLL t1 ≤ 1048576) (hsum : (n0 + totLL t0) + (n1 + totLL t1) ≤ 1048576) (y00 : List (List Int)) (l00 : Nat) (r1 : Bool) (k00 : l00 ≤ 1000) (k00e : totLL y00 ≤ 100000)
    (HS0 : ∀ (w0 : World) (a00 : Option Addr) (u00 : Nat) (a10 : Option Addr) (u10 : Nat), InLL w0 w0.heap.size a00 n0 t0 → InLL w0 w0.heap.size a10 n1 t1 → Calls Try.prog 14 #[.agg #[.slice a00 n0 u00], .agg #[.slice a10 n1 u10]] w0 fun e w1 => ∃ (R00 : Option Addr) (d00 : Nat), e = .returned (.tuple #[.agg #[.slice R00 l00 d00], .bool r1]) ∧ OwnLO w1 w0.heap.size w1.heap.size R00 l00 d00 y00 ∧ Below w0.heap.size w0 w1)
    (HI0 : ∀ (w0 : World) (a00 : Option Addr) (u00 : Nat) (a10 : Option Addr) (u10 : Nat), InLL w0 w0.heap.size a00 n0 t0 → InLL w0 w0.heap.size a10 n1 t1 → Calls Try.prog 15 #[.agg #[.slice a00 n0 u00], .agg #[.slice a10 n1 u10]] w0 fun e w1 => ∃ (R00 : Option Addr) (d00 : Nat), e = .returned (.tuple #[.agg #[.slice R00 l00 d00], .bool r1]) ∧ OwnLO w1 w0.heap.size w1.heap.size R00 l00 d00 y00 ∧ Below w0.heap.size w0 w1) :
    Calls Try.prog 4 #[.agg #[.slice A0 n0 cap0], .agg #[.slice A1 n1 cap1]] w fun e w' => e = .returned (.bool true) ∧ Below w.heap.size w w' := by
  have HS := Lib.hid HS0
  have HI := Lib.hid HI0
  clear HS0 HI0
  have hB := Below.refl w.heap.size w
  have hl_6 : (0 : Int) ≤ 1048576 - ((n0 + totLL t0 : Nat) : Int) := by omega
  have hl_9 : (0 : Int) ≤ 1048576 - ((n0 + totLL t0 : Nat) : Int) - ((n1 + totLL t1 : Nat) : Int) := by omega
  go_enter Try.func4, Try.ntmps4
  go_wp2_with fail
  have hb_1 : Below w.heap.size w ((w.alloc (.cells #[.slice A0 n0 cap0] 24)).alloc (.cells #[.slice A1 n1 cap1] 24)) := bon (bnew _ _) (bnew _ _)
  have sz_2 : w.heap.size < ((w.alloc (.cells #[.slice A0 n0 cap0] 24)).alloc (.cells #[.slice A1 n1 cap1] 24)).heap.size := by simp <;> omega
  have a0_0 : ((w.alloc (.cells #[.slice A0 n0 cap0] 24)).alloc (.cells #[.slice A1 n1 cap1] 24)).cell? ⟨w.heap.size, 0, none⟩ = some (.slice A0 n0 cap0) := by simp
  have a0_l := sz_2
  have sz_3 : w.heap.size + 1 < ((w.alloc (.cells #[.slice A0 n0 cap0] 24)).alloc (.cells #[.slice A1 n1 cap1] 24)).heap.size := by simp
  have a1_0 : ((w.alloc (.cells #[.slice A0 n0 cap0] 24)).alloc (.cells #[.slice A1 n1 cap1] 24)).cell? ⟨w.heap.size + 1, 0, none⟩ = some (.slice A1 n1 cap1) := by simp
  have a1_l := sz_3
  generalize (w.alloc (.cells #[.slice A0 n0 cap0] 24)).alloc (.cells #[.slice A1 n1 cap1] 24) = w1 at hb_1 a0_0 a1_0 sz_2 a0_l sz_3 a1_l ⊢
  replace in0 := in0.next hb_1 (by omega)
  replace in1 := in1.next hb_1 (by omega)
  replace hB := hB.trans (hb_1.mono hB.size)
  have sz_4 := hb_1.size
  refine (szPolicy_k A0 n0 cap0 _ t0 _ _ in0 (by omega) (by omega) (by omega) (by first | assumption | (unfold maxLen; omega)) (by first | assumption | exact fitsLL_of (by unfold maxLen; omega))).mono ?_
  rintro e w2 ⟨rfl, hb_5⟩
  rw [szv_yes (by omega)]
  replace in0 := in0.next hb_5 (by omega)
  replace in1 := in1.next hb_5 (by omega)
  replace a0_0 := cell_next a0_0 hb_5
  replace a1_0 := cell_next a1_0 hb_5
  replace a0_l := Nat.lt_of_lt_of_le a0_l hb_5.size
  replace a1_l := Nat.lt_of_lt_of_le a1_l hb_5.size
  replace hB := hB.trans (hb_5.mono hB.size)
  have sz_7 := hb_5.size
  go_wp2_with fail
  refine (szPolicy_k A1 n1 cap1 _ t1 _ _ in1 (by omega) (by omega) (by omega) (by first | assumption | (unfold maxLen; omega)) (by first | assumption | exact fitsLL_of (by unfold maxLen; omega))).mono ?_
  rintro e w3 ⟨rfl, hb_8⟩
  rw [szv_yes (by omega)]
  replace in0 := in0.next hb_8 (by omega)
  replace in1 := in1.next hb_8 (by omega)
  replace a0_0 := cell_next a0_0 hb_8
  replace a1_0 := cell_next a1_0 hb_8
  replace a0_l := Nat.lt_of_lt_of_le a0_l hb_8.size
  replace a1_l := Nat.lt_of_lt_of_le a1_l hb_8.size
  replace hB := hB.trans (hb_8.mono hB.size)
  have sz_10 := hb_8.size
  go_wp2_with fail
  go_cut [6, 7] (fun s6 s7 wx => ∃ (R_11 : Option Addr) (d_12 : Nat) (bx_15 : Nat) (lo_18 hi_19 : Nat), s6 = .pointer (some ⟨bx_15, 0, none⟩) ∧ s7 = .bool r1 ∧ wx.cell? ⟨bx_15, 0, none⟩ = some (.slice R_11 l00 d_12) ∧ bx_15 < wx.heap.size ∧ w3.heap.size ≤ bx_15 ∧ OwnLO wx lo_18 hi_19 R_11 l00 d_12 y00 ∧ (w3.heap.size ≤ lo_18 ∧ lo_18 ≤ hi_19 ∧ hi_19 ≤ wx.heap.size) ∧ Below w3.heap.size w3 wx)
  case first =>
    have HT_22 := Lib.hid (fun (x : World) (h : Below w3.drew.heap.size w3.drew x) => toPolicy_k A0 n0 cap0 _ t0 x (in0.call (by omega) h) (le_call (by omega) h) h0ok h0eok)
    have HT_27 := Lib.hid (fun (x : World) (h : Below w3.drew.heap.size w3.drew x) => toPolicy_k A1 n1 cap1 _ t1 x (in1.call (by omega) h) (le_call (by omega) h) h1ok h1eok)
    go_region_held3 (fun w' => w'.cell? ⟨w.heap.size, 0, none⟩ = some (.slice A0 n0 cap0) ∧ w'.cell? ⟨w.heap.size + 1, 0, none⟩ = some (.slice A1 n1 cap1))
      (first | go_keep | exact ⟨cell_on a0_0 (by with_reducible repeat' (first | exact Below.refl _ _ | refine bon ?_ hb_24 | refine bon ?_ hb_29 | refine bon ?_ hb_33 | refine bon ?_ (bnew _ _) | exact bk_34.2.2 | refine below_set ?_ ?_ | exact bel_ad _ _ | fail)), cell_on a1_0 (by with_reducible repeat' (first | exact Below.refl _ _ | refine bon ?_ hb_24 | refine bon ?_ hb_29 | refine bon ?_ hb_33 | refine bon ?_ (bnew _ _) | exact bk_34.2.2 | refine below_set ?_ ?_ | exact bel_ad _ _ | fail))⟩ | fail "none keeps")
      (first | (go_at_call_of 9 A0; with_reducible refine (HT_22.out _ (by with_reducible repeat' (first | exact Below.refl _ _ | refine bon ?_ hb_24 | refine bon ?_ hb_29 | refine bon ?_ hb_33 | refine bon ?_ (bnew _ _) | exact bk_34.2.2 | refine below_set ?_ ?_ | exact bel_ad _ _ | fail))).mono ?_; rintro e v_23 ⟨g_25, rfl, own_26, hb_24⟩; (try have bk_34 := blk_step bk_34 hb_24); (try have bk_34 := blk_call (D := w3.drew) hb_24 (by with_reducible repeat' (first | exact Below.refl _ _ | refine bon ?_ hb_24 | refine bon ?_ hb_29 | refine bon ?_ hb_33 | refine bon ?_ (bnew _ _) | exact bk_34.2.2 | refine below_set ?_ ?_ | exact bel_ad _ _ | fail))); (try have bk_34 := blk_call_d hb_24)) | (go_at_call_of 9 A1; with_reducible refine (HT_27.out _ (by with_reducible repeat' (first | exact Below.refl _ _ | refine bon ?_ hb_24 | refine bon ?_ hb_29 | refine bon ?_ hb_33 | refine bon ?_ (bnew _ _) | exact bk_34.2.2 | refine below_set ?_ ?_ | exact bel_ad _ _ | fail))).mono ?_; rintro e v_28 ⟨g_30, rfl, own_31, hb_29⟩; (try have bk_34 := blk_step bk_34 hb_29); (try have bk_34 := blk_call (D := w3.drew) hb_29 (by with_reducible repeat' (first | exact Below.refl _ _ | refine bon ?_ hb_24 | refine bon ?_ hb_29 | refine bon ?_ hb_33 | refine bon ?_ (bnew _ _) | exact bk_34.2.2 | refine below_set ?_ ?_ | exact bel_ad _ _ | fail))); (try have bk_34 := blk_call_d hb_29)) | (go_at_call 14; with_reducible refine (HS.out _ _ _ _ _ (by with_reducible refine OwnLL.all (lo := ?_) (hi := ?_) (c := ?_) ?_; with_reducible repeat' (first | exact own_26 | refine OwnLL.next ?_ hb_29 | refine OwnLL.next ?_ hb_24 | refine OwnLL.next ?_ (bnew _ _) | fail)) (by with_reducible refine OwnLL.all (lo := ?_) (hi := ?_) (c := ?_) ?_; with_reducible repeat' (first | exact own_31 | refine OwnLL.next ?_ hb_29 | refine OwnLL.next ?_ hb_24 | refine OwnLL.next ?_ (bnew _ _) | fail))).mono ?_; rintro e v_32 ⟨R_11, d_12, rfl, own_36, hb_33⟩; (try have bk_34 := blk_step bk_34 hb_33); (try have bk_34 := blk_call (D := w3.drew) hb_33 (by with_reducible repeat' (first | exact Below.refl _ _ | refine bon ?_ hb_24 | refine bon ?_ hb_29 | refine bon ?_ hb_33 | refine bon ?_ (bnew _ _) | exact bk_34.2.2 | refine below_set ?_ ?_ | exact bel_ad _ _ | fail))); (try have bk_34 := blk_call_d hb_33); (try (have z0_bk_34 := bk_34.1.cell 0; have f0_bk_34 := bk_34.1.frozen 0; simp at z0_bk_34))) | fail "no arm")
    all_goals (go_wp2_with fail; go_meet; first | exact ⟨_, _, _, _, _, rfl, rfl, fin_newP (bstep (by with_reducible repeat' (first | exact Below.refl _ _ | refine bon ?_ hb_24 | refine bon ?_ hb_29 | refine bon ?_ hb_33 | refine bon ?_ (bnew _ _) | exact bk_34.2.2 | refine below_set ?_ ?_ | exact bel_ad _ _ | fail))) own_36 hb_33⟩ | exact ⟨_, _, _, _, _, rfl, rfl, fin_boxP (bstep (by with_reducible repeat' (first | exact Below.refl _ _ | refine bon ?_ hb_24 | refine bon ?_ hb_29 | refine bon ?_ hb_33 | refine bon ?_ (bnew _ _) | exact bk_34.2.2 | refine below_set ?_ ?_ | exact bel_ad _ _ | fail))) bk_34 own_36 hb_33⟩ | fail "no end")
  case rest =>
    obtain ⟨R_11, d_12, bx_15, lo_18, hi_19, rfl, rfl, w0_0, w0_l, sz_16, own_17, sz_20, hb_21⟩ := hcut
    obtain ⟨w4, hwx⟩ : ∃ x, x = wc := ⟨_, rfl⟩
    subst hwx
    have sz_37 := w0_l
    replace in0 := in0.next hb_21 (by omega)
    replace in1 := in1.next hb_21 (by omega)
    replace a0_0 := cell_next a0_0 hb_21
    replace a1_0 := cell_next a1_0 hb_21
    replace a0_l := Nat.lt_of_lt_of_le a0_l hb_21.size
    replace a1_l := Nat.lt_of_lt_of_le a1_l hb_21.size
    replace hB := hB.trans (hb_21.mono hB.size)
    have sz_38 := hb_21.size
    go_wp2_with fail
    refine (toPolicy_k A0 n0 cap0 _ t0 _ in0 (by omega) h0ok h0eok).mono ?_
    rintro e w5 ⟨g_39, rfl, own_40, hb_41⟩
    replace in0 := in0.next hb_41 (by omega)
    replace in1 := in1.next hb_41 (by omega)
    replace a0_0 := cell_next a0_0 hb_41
    replace a1_0 := cell_next a1_0 hb_41
    replace a0_l := Nat.lt_of_lt_of_le a0_l hb_41.size
    replace a1_l := Nat.lt_of_lt_of_le a1_l hb_41.size
    replace w0_0 := cell_next w0_0 hb_41
    replace w0_l := Nat.lt_of_lt_of_le w0_l hb_41.size
    replace own_17 := own_17.next hb_41
    replace hB := hB.trans (hb_41.mono hB.size)
    have sz_42 := hb_41.size
    go_wp2_with fail
    have hb_43 : Below w5.heap.size w5 (w5.alloc (.cells #[.slice (some ⟨g_39, 0, none⟩) n0 n0] 26)) := bnew _ _
    have sz_44 : w5.heap.size < (w5.alloc (.cells #[.slice (some ⟨g_39, 0, none⟩) n0 n0] 26)).heap.size := by simp
    have x0_0 : (w5.alloc (.cells #[.slice (some ⟨g_39, 0, none⟩) n0 n0] 26)).cell? ⟨w5.heap.size, 0, none⟩ = some (.slice (some ⟨g_39, 0, none⟩) n0 n0) := by simp
    have x0_l := sz_44
    generalize w5.alloc (.cells #[.slice (some ⟨g_39, 0, none⟩) n0 n0] 26) = w6 at hb_43 x0_0 sz_44 x0_l ⊢
    replace in0 := in0.next hb_43 (by omega)
    replace in1 := in1.next hb_43 (by omega)
    replace a0_0 := cell_next a0_0 hb_43
    replace a1_0 := cell_next a1_0 hb_43
    replace a0_l := Nat.lt_of_lt_of_le a0_l hb_43.size
    replace a1_l := Nat.lt_of_lt_of_le a1_l hb_43.size
    replace w0_0 := cell_next w0_0 hb_43
    replace w0_l := Nat.lt_of_lt_of_le w0_l hb_43.size
    replace own_17 := own_17.next hb_43
    replace own_40 := own_40.next hb_43
    replace hB := hB.trans (hb_43.mono hB.size)
    have sz_45 := hb_43.size
    refine (toPolicy_k A1 n1 cap1 _ t1 _ in1 (by omega) h1ok h1eok).mono ?_
    rintro e w7 ⟨g_46, rfl, own_47, hb_48⟩
    replace in0 := in0.next hb_48 (by omega)
    replace in1 := in1.next hb_48 (by omega)
    replace a0_0 := cell_next a0_0 hb_48
    replace a1_0 := cell_next a1_0 hb_48
    replace a0_l := Nat.lt_of_lt_of_le a0_l hb_48.size
    replace a1_l := Nat.lt_of_lt_of_le a1_l hb_48.size
    replace w0_0 := cell_next w0_0 hb_48
    replace w0_l := Nat.lt_of_lt_of_le w0_l hb_48.size
    replace own_17 := own_17.next hb_48
    replace own_40 := own_40.next hb_48
    replace x0_0 := cell_next x0_0 hb_48
    replace x0_l := Nat.lt_of_lt_of_le x0_l hb_48.size
    replace hB := hB.trans (hb_48.mono hB.size)
    have sz_49 := hb_48.size
    go_wp2_with fail
    have hb_50 : Below w7.heap.size w7 (w7.alloc (.cells #[.slice (some ⟨g_46, 0, none⟩) n1 n1] 26)) := bnew _ _
    have sz_51 : w7.heap.size < (w7.alloc (.cells #[.slice (some ⟨g_46, 0, none⟩) n1 n1] 26)).heap.size := by simp
    have x1_0 : (w7.alloc (.cells #[.slice (some ⟨g_46, 0, none⟩) n1 n1] 26)).cell? ⟨w7.heap.size, 0, none⟩ = some (.slice (some ⟨g_46, 0, none⟩) n1 n1) := by simp
    have x1_l := sz_51
    generalize w7.alloc (.cells #[.slice (some ⟨g_46, 0, none⟩) n1 n1] 26) = w8 at hb_50 x1_0 sz_51 x1_l ⊢
    replace in0 := in0.next hb_50 (by omega)
    replace in1 := in1.next hb_50 (by omega)
    replace a0_0 := cell_next a0_0 hb_50
    replace a1_0 := cell_next a1_0 hb_50
    replace a0_l := Nat.lt_of_lt_of_le a0_l hb_50.size
    replace a1_l := Nat.lt_of_lt_of_le a1_l hb_50.size
    replace w0_0 := cell_next w0_0 hb_50
    replace w0_l := Nat.lt_of_lt_of_le w0_l hb_50.size
    replace own_17 := own_17.next hb_50
    replace own_40 := own_40.next hb_50
    replace x0_0 := cell_next x0_0 hb_50
    replace x0_l := Nat.lt_of_lt_of_le x0_l hb_50.size
    replace own_47 := own_47.next hb_50
    replace hB := hB.trans (hb_50.mono hB.size)
    have sz_52 := hb_50.size
    refine (HI.out w8 _ _ _ _ ((own_40.inn).more (by omega)) ((own_47.inn).more (by omega))).mono ?_
    rintro e w9 ⟨R_54, d_55, rfl, own_56, hb_53⟩
    replace in0 := in0.next hb_53 (by omega)
    replace in1 := in1.next hb_53 (by omega)
    replace a0_0 := cell_next a0_0 hb_53
    replace a1_0 := cell_next a1_0 hb_53
    replace a0_l := Nat.lt_of_lt_of_le a0_l hb_53.size
    replace a1_l := Nat.lt_of_lt_of_le a1_l hb_53.size
    replace w0_0 := cell_next w0_0 hb_53
    replace w0_l := Nat.lt_of_lt_of_le w0_l hb_53.size
    replace own_17 := own_17.next hb_53
    replace own_40 := own_40.next hb_53
    replace x0_0 := cell_next x0_0 hb_53
    replace x0_l := Nat.lt_of_lt_of_le x0_l hb_53.size
    replace own_47 := own_47.next hb_53
    replace x1_0 := cell_next x1_0 hb_53
    replace x1_l := Nat.lt_of_lt_of_le x1_l hb_53.size
    replace hB := hB.trans (hb_53.mono hB.size)
    have sz_57 := hb_53.size
    go_wp2_with fail
    have hb_58 : Below w9.heap.size w9 (w9.alloc (.cells #[.slice R_54 l00 d_55] 26)) := bnew _ _
    have sz_59 : w9.heap.size < (w9.alloc (.cells #[.slice R_54 l00 d_55] 26)).heap.size := by simp
    have g0_0 : (w9.alloc (.cells #[.slice R_54 l00 d_55] 26)).cell? ⟨w9.heap.size, 0, none⟩ = some (.slice R_54 l00 d_55) := by simp
    have g0_l := sz_59
    generalize w9.alloc (.cells #[.slice R_54 l00 d_55] 26) = w10 at hb_58 g0_0 sz_59 g0_l ⊢
    replace in0 := in0.next hb_58 (by omega)
    replace in1 := in1.next hb_58 (by omega)
    replace a0_0 := cell_next a0_0 hb_58
    replace a1_0 := cell_next a1_0 hb_58
    replace a0_l := Nat.lt_of_lt_of_le a0_l hb_58.size
    replace a1_l := Nat.lt_of_lt_of_le a1_l hb_58.size
    replace w0_0 := cell_next w0_0 hb_58
    replace w0_l := Nat.lt_of_lt_of_le w0_l hb_58.size
    replace own_17 := own_17.next hb_58
    replace own_40 := own_40.next hb_58
    replace x0_0 := cell_next x0_0 hb_58
    replace x0_l := Nat.lt_of_lt_of_le x0_l hb_58.size
    replace own_47 := own_47.next hb_58
    replace x1_0 := cell_next x1_0 hb_58
    replace x1_l := Nat.lt_of_lt_of_le x1_l hb_58.size
    replace own_56 := own_56.next hb_58
    replace hB := hB.trans (hb_58.mono hB.size)
    have sz_60 := hb_58.size
    -- if !eqPolicy(g0, w0) || g1 != w1 {
    refine (eqPolicy_k R_54 R_11 l00 d_55 d_12 _ _ y00 _ own_56.inn own_17.inn (by omega) (by omega) (by omega) (by omega)).mono ?_
    rintro e w11 ⟨rfl, hb_61⟩
    replace in0 := in0.next hb_61 (by omega)
    replace in1 := in1.next hb_61 (by omega)
    replace a0_0 := cell_next a0_0 hb_61
    replace a1_0 := cell_next a1_0 hb_61
    replace a0_l := Nat.lt_of_lt_of_le a0_l hb_61.size
    replace a1_l := Nat.lt_of_lt_of_le a1_l hb_61.size
    replace w0_0 := cell_next w0_0 hb_61
    replace w0_l := Nat.lt_of_lt_of_le w0_l hb_61.size
    replace own_17 := own_17.next hb_61
    replace own_40 := own_40.next hb_61
    replace x0_0 := cell_next x0_0 hb_61
    replace x0_l := Nat.lt_of_lt_of_le x0_l hb_61.size
    replace own_47 := own_47.next hb_61
    replace x1_0 := cell_next x1_0 hb_61
    replace x1_l := Nat.lt_of_lt_of_le x1_l hb_61.size
    replace own_56 := own_56.next hb_61
    replace g0_0 := cell_next g0_0 hb_61
    replace g0_l := Nat.lt_of_lt_of_le g0_l hb_61.size
    replace hB := hB.trans (hb_61.mono hB.size)
    have sz_62 := hb_61.size
    go_wp2_with fail
    have HT_63 := Lib.hid (toPolicy_k A0 n0 cap0 _ t0 w11.drew in0.drew (by show _ ≤ w11.heap.size; omega) h0ok h0eok)
    have HE_64 : Hid (∀ w12 g_65, Below w11.drew.heap.size w11.drew w12 → OwnLL w12 w11.drew.heap.size w12.heap.size (some ⟨g_65, 0, none⟩) n0 n0 t0 → Calls Try.prog 11 #[.agg #[.slice (some ⟨g_39, 0, none⟩) n0 n0], .agg #[.slice (some ⟨g_65, 0, none⟩) n0 n0]] w12 fun e w' => e = .returned (.bool true) ∧ Below w12.heap.size w12 w') := fun w12 g_65 hb_67 own_66 => eqPolicy_k (some ⟨g_39, 0, none⟩) (some ⟨g_65, 0, none⟩) n0 n0 n0 _ _ t0 w12 ((own_40.inn).call (by omega) hb_67) own_66.inn (le_call (by omega) hb_67) (Nat.le_refl _) h0ok h0eok
    go_region_held3 (fun w' => w'.cell? ⟨w.heap.size, 0, none⟩ = some (.slice A0 n0 cap0) ∧ w'.cell? ⟨w5.heap.size, 0, none⟩ = some (.slice (some ⟨g_39, 0, none⟩) n0 n0))
      (first | go_keep | exact ⟨cell_on a0_0 hb_67, cell_on x0_0 hb_67⟩ | exact ⟨cell_on2 a0_0 hb_67 hb_69, cell_on2 x0_0 hb_67 hb_69⟩)
      (first | (go_at_call 9; refine HT_63.out.mono ?_; rintro e w12 ⟨g_65, rfl, own_66, hb_67⟩) | (go_at_call 11; refine (HE_64.out _ _ hb_67 own_66).mono ?_; rintro e w13 ⟨rfl, hb_69⟩))
    replace hb_67 := (bstep hb_67)
    replace in0 := in0.next hb_67 (by omega)
    replace in1 := in1.next hb_67 (by omega)
    replace a0_0 := cell_next a0_0 hb_67
    replace a1_0 := cell_next a1_0 hb_67
    replace a0_l := Nat.lt_of_lt_of_le a0_l hb_67.size
    replace a1_l := Nat.lt_of_lt_of_le a1_l hb_67.size
    replace w0_0 := cell_next w0_0 hb_67
    replace w0_l := Nat.lt_of_lt_of_le w0_l hb_67.size
    replace own_17 := own_17.next hb_67
    replace own_40 := own_40.next hb_67
    replace x0_0 := cell_next x0_0 hb_67
    replace x0_l := Nat.lt_of_lt_of_le x0_l hb_67.size
    replace own_47 := own_47.next hb_67
    replace x1_0 := cell_next x1_0 hb_67
    replace x1_l := Nat.lt_of_lt_of_le x1_l hb_67.size
    replace own_56 := own_56.next hb_67
    replace g0_0 := cell_next g0_0 hb_67
    replace g0_l := Nat.lt_of_lt_of_le g0_l hb_67.size
    replace hB := hB.trans (hb_67.mono hB.size)
    have sz_70 := hb_67.size
    replace in0 := in0.next hb_69 (by omega)
    replace in1 := in1.next hb_69 (by omega)
    replace a0_0 := cell_next a0_0 hb_69
    replace a1_0 := cell_next a1_0 hb_69
    replace a0_l := Nat.lt_of_lt_of_le a0_l hb_69.size
    replace a1_l := Nat.lt_of_lt_of_le a1_l hb_69.size
    replace w0_0 := cell_next w0_0 hb_69
    replace w0_l := Nat.lt_of_lt_of_le w0_l hb_69.size
    replace own_17 := own_17.next hb_69
    replace own_40 := own_40.next hb_69
    replace x0_0 := cell_next x0_0 hb_69
    replace x0_l := Nat.lt_of_lt_of_le x0_l hb_69.size
    replace own_47 := own_47.next hb_69
    replace x1_0 := cell_next x1_0 hb_69
    replace x1_l := Nat.lt_of_lt_of_le x1_l hb_69.size
    replace own_56 := own_56.next hb_69
    replace g0_0 := cell_next g0_0 hb_69
    replace g0_l := Nat.lt_of_lt_of_le g0_l hb_69.size
    replace hB := hB.trans (hb_69.mono hB.size)
    have sz_71 := hb_69.size
    clear HT_63 HE_64 own_66
    go_wp2_with fail
    have HT_72 := Lib.hid (toPolicy_k A1 n1 cap1 _ t1 w13.drew in1.drew (by show _ ≤ w13.heap.size; omega) h1ok h1eok)
    have HE_73 : Hid (∀ w14 g_74, Below w13.drew.heap.size w13.drew w14 → OwnLL w14 w13.drew.heap.size w14.heap.size (some ⟨g_74, 0, none⟩) n1 n1 t1 → Calls Try.prog 11 #[.agg #[.slice (some ⟨g_46, 0, none⟩) n1 n1], .agg #[.slice (some ⟨g_74, 0, none⟩) n1 n1]] w14 fun e w' => e = .returned (.bool true) ∧ Below w14.heap.size w14 w') := fun w14 g_74 hb_76 own_75 => eqPolicy_k (some ⟨g_46, 0, none⟩) (some ⟨g_74, 0, none⟩) n1 n1 n1 _ _ t1 w14 ((own_47.inn).call (by omega) hb_76) own_75.inn (le_call (by omega) hb_76) (Nat.le_refl _) h1ok h1eok
    go_region_held3 (fun w' => w'.cell? ⟨w.heap.size + 1, 0, none⟩ = some (.slice A1 n1 cap1) ∧ w'.cell? ⟨w7.heap.size, 0, none⟩ = some (.slice (some ⟨g_46, 0, none⟩) n1 n1))
      (first | go_keep | exact ⟨cell_on a1_0 hb_76, cell_on x1_0 hb_76⟩ | exact ⟨cell_on2 a1_0 hb_76 hb_78, cell_on2 x1_0 hb_76 hb_78⟩)
      (first | (go_at_call 9; refine HT_72.out.mono ?_; rintro e w14 ⟨g_74, rfl, own_75, hb_76⟩) | (go_at_call 11; refine (HE_73.out _ _ hb_76 own_75).mono ?_; rintro e w15 ⟨rfl, hb_78⟩))
    replace hb_76 := (bstep hb_76)
    replace in0 := in0.next hb_76 (by omega)
    replace in1 := in1.next hb_76 (by omega)
    replace a0_0 := cell_next a0_0 hb_76
    replace a1_0 := cell_next a1_0 hb_76
    replace a0_l := Nat.lt_of_lt_of_le a0_l hb_76.size
    replace a1_l := Nat.lt_of_lt_of_le a1_l hb_76.size
    replace w0_0 := cell_next w0_0 hb_76
    replace w0_l := Nat.lt_of_lt_of_le w0_l hb_76.size
    replace own_17 := own_17.next hb_76
    replace own_40 := own_40.next hb_76
    replace x0_0 := cell_next x0_0 hb_76
    replace x0_l := Nat.lt_of_lt_of_le x0_l hb_76.size
    replace own_47 := own_47.next hb_76
    replace x1_0 := cell_next x1_0 hb_76
    replace x1_l := Nat.lt_of_lt_of_le x1_l hb_76.size
    replace own_56 := own_56.next hb_76
    replace g0_0 := cell_next g0_0 hb_76
    replace g0_l := Nat.lt_of_lt_of_le g0_l hb_76.size
    replace hB := hB.trans (hb_76.mono hB.size)
    have sz_79 := hb_76.size
    replace in0 := in0.next hb_78 (by omega)
    replace in1 := in1.next hb_78 (by omega)
    replace a0_0 := cell_next a0_0 hb_78
    replace a1_0 := cell_next a1_0 hb_78
    replace a0_l := Nat.lt_of_lt_of_le a0_l hb_78.size
    replace a1_l := Nat.lt_of_lt_of_le a1_l hb_78.size
    replace w0_0 := cell_next w0_0 hb_78
    replace w0_l := Nat.lt_of_lt_of_le w0_l hb_78.size
    replace own_17 := own_17.next hb_78
    replace own_40 := own_40.next hb_78
    replace x0_0 := cell_next x0_0 hb_78
    replace x0_l := Nat.lt_of_lt_of_le x0_l hb_78.size
    replace own_47 := own_47.next hb_78
    replace x1_0 := cell_next x1_0 hb_78
    replace x1_l := Nat.lt_of_lt_of_le x1_l hb_78.size
    replace own_56 := own_56.next hb_78
    replace g0_0 := cell_next g0_0 hb_78
    replace g0_l := Nat.lt_of_lt_of_le g0_l hb_78.size
    replace hB := hB.trans (hb_78.mono hB.size)
    have sz_80 := hb_78.size
    clear HT_72 HE_73 own_75
    go_wp2_with fail
    refine (markPolicy_k w4.heap.size w5.heap.size (some ⟨g_39, 0, none⟩) n0 n0 t0 1 _ own_40 (by omega) (by omega) (by omega) (by omega)).mono ?_
    rintro e w16 ⟨rfl, own_82, ho_81⟩
    replace in0 := in0.out ho_81 (by omega) (by omega)
    replace in1 := in1.out ho_81 (by omega) (by omega)
    replace a0_0 := ho_81.cell a0_0 (by omega)
    replace a1_0 := ho_81.cell a1_0 (by omega)
    replace a0_l := Nat.lt_of_lt_of_le a0_l ho_81.size
    replace a1_l := Nat.lt_of_lt_of_le a1_l ho_81.size
    replace w0_0 := ho_81.cell w0_0 (by omega)
    replace w0_l := Nat.lt_of_lt_of_le w0_l ho_81.size
    replace own_17 := own_17.out ho_81 (by omega)
    replace x0_0 := ho_81.cell x0_0 (by omega)
    replace x0_l := Nat.lt_of_lt_of_le x0_l ho_81.size
    replace own_47 := own_47.out ho_81 (by omega)
    replace x1_0 := ho_81.cell x1_0 (by omega)
    replace x1_l := Nat.lt_of_lt_of_le x1_l ho_81.size
    replace own_56 := own_56.out ho_81 (by omega)
    replace g0_0 := ho_81.cell g0_0 (by omega)
    replace g0_l := Nat.lt_of_lt_of_le g0_l ho_81.size
    replace hB := hB.trans (ho_81.below (by omega) (by omega))
    have sz_83 := ho_81.size
    clear own_40
    clear x0_0 x0_l
    clear own_82
    go_wp2_with fail
    refine (markPolicy_k w6.heap.size w7.heap.size (some ⟨g_46, 0, none⟩) n1 n1 t1 (1 + ((totLL t0 : Nat) : Int)) _ own_47 (by omega) (by omega) (by omega) (by omega)).mono ?_
    rintro e w17 ⟨rfl, own_85, ho_84⟩
    replace in0 := in0.out ho_84 (by omega) (by omega)
    replace in1 := in1.out ho_84 (by omega) (by omega)
    replace a0_0 := ho_84.cell a0_0 (by omega)
    replace a1_0 := ho_84.cell a1_0 (by omega)
    replace a0_l := Nat.lt_of_lt_of_le a0_l ho_84.size
    replace a1_l := Nat.lt_of_lt_of_le a1_l ho_84.size
    replace w0_0 := ho_84.cell w0_0 (by omega)
    replace w0_l := Nat.lt_of_lt_of_le w0_l ho_84.size
    replace own_17 := own_17.out ho_84 (by omega)
    replace x1_0 := ho_84.cell x1_0 (by omega)
    replace x1_l := Nat.lt_of_lt_of_le x1_l ho_84.size
    replace own_56 := own_56.out ho_84 (by omega)
    replace g0_0 := ho_84.cell g0_0 (by omega)
    replace g0_l := Nat.lt_of_lt_of_le g0_l ho_84.size
    replace hB := hB.trans (ho_84.below (by omega) (by omega))
    have sz_86 := ho_84.size
    clear own_47
    clear x1_0 x1_l
    clear own_85
    go_wp2_with fail
    -- if k < 0 || !eqPolicy(g0, w0) || g1 != w1 {
    refine (eqPolicy_k R_54 R_11 l00 d_55 d_12 _ _ y00 _ own_56.inn own_17.inn (by omega) (by omega) (by omega) (by omega)).mono ?_
    rintro e w18 ⟨rfl, hb_87⟩
    replace in0 := in0.next hb_87 (by omega)
    replace in1 := in1.next hb_87 (by omega)
    replace a0_0 := cell_next a0_0 hb_87
    replace a1_0 := cell_next a1_0 hb_87
    replace a0_l := Nat.lt_of_lt_of_le a0_l hb_87.size
    replace a1_l := Nat.lt_of_lt_of_le a1_l hb_87.size
    replace w0_0 := cell_next w0_0 hb_87
    replace w0_l := Nat.lt_of_lt_of_le w0_l hb_87.size
    replace own_17 := own_17.next hb_87
    replace own_56 := own_56.next hb_87
    replace g0_0 := cell_next g0_0 hb_87
    replace g0_l := Nat.lt_of_lt_of_le g0_l hb_87.size
    replace hB := hB.trans (hb_87.mono hB.size)
    have sz_88 := hb_87.size
    go_wp2_with fail
    refine (markPolicy_q w8.heap.size w9.heap.size R_54 l00 d_55 y00 1 _ own_56 (by omega) (by omega) (by omega) (by omega)).mono ?_
    rintro e w19 ⟨rfl, own_90, ho_89⟩
    replace in0 := in0.out ho_89 (by omega) (by omega)
    replace in1 := in1.out ho_89 (by omega) (by omega)
    replace a0_0 := ho_89.cell a0_0 (by omega)
    replace a1_0 := ho_89.cell a1_0 (by omega)
    replace a0_l := Nat.lt_of_lt_of_le a0_l ho_89.size
    replace a1_l := Nat.lt_of_lt_of_le a1_l ho_89.size
    replace w0_0 := ho_89.cell w0_0 (by omega)
    replace w0_l := Nat.lt_of_lt_of_le w0_l ho_89.size
    replace own_17 := own_17.out ho_89 (by omega)
    replace g0_0 := ho_89.cell g0_0 (by omega)
    replace g0_l := Nat.lt_of_lt_of_le g0_l ho_89.size
    replace hB := hB.trans (ho_89.below (by omega) (by omega))
    have sz_91 := ho_89.size
    clear own_56
    go_wp2_with fail
    refine (heldPolicy_k R_54 l00 d_55 _ y00 1 _ own_90.inn (by omega) (by omega) (by omega) (by omega) (by omega)).mono ?_
    rintro e w20 ⟨rfl, hb_92⟩
    replace in0 := in0.next hb_92 (by omega)
    replace in1 := in1.next hb_92 (by omega)
    replace a0_0 := cell_next a0_0 hb_92
    replace a1_0 := cell_next a1_0 hb_92
    replace a0_l := Nat.lt_of_lt_of_le a0_l hb_92.size
    replace a1_l := Nat.lt_of_lt_of_le a1_l hb_92.size
    replace w0_0 := cell_next w0_0 hb_92
    replace w0_l := Nat.lt_of_lt_of_le w0_l hb_92.size
    replace own_17 := own_17.next hb_92
    replace g0_0 := cell_next g0_0 hb_92
    replace g0_l := Nat.lt_of_lt_of_le g0_l hb_92.size
    replace own_90 := own_90.next hb_92
    replace hB := hB.trans (hb_92.mono hB.size)
    have sz_93 := hb_92.size
    go_wp2_with fail
    go_cut [15, 16] (fun s15 s16 wx => ∃ (R_94 : Option Addr) (d_95 : Nat) (bx_98 : Nat) (lo_101 hi_102 : Nat), s15 = .pointer (some ⟨bx_98, 0, none⟩) ∧ s16 = .bool r1 ∧ wx.cell? ⟨bx_98, 0, none⟩ = some (.slice R_94 l00 d_95) ∧ bx_98 < wx.heap.size ∧ w20.heap.size ≤ bx_98 ∧ OwnLO wx lo_101 hi_102 R_94 l00 d_95 y00 ∧ (w20.heap.size ≤ lo_101 ∧ lo_101 ≤ hi_102 ∧ hi_102 ≤ wx.heap.size) ∧ Below w20.heap.size w20 wx)
    case first =>
      have HT_105 := Lib.hid (fun (x : World) (h : Below w20.drew.heap.size w20.drew x) => toPolicy_k A0 n0 cap0 _ t0 x (in0.call (by omega) h) (le_call (by omega) h) h0ok h0eok)
      have HT_110 := Lib.hid (fun (x : World) (h : Below w20.drew.heap.size w20.drew x) => toPolicy_k A1 n1 cap1 _ t1 x (in1.call (by omega) h) (le_call (by omega) h) h1ok h1eok)
      go_region_held3 (fun w' => w'.cell? ⟨w.heap.size, 0, none⟩ = some (.slice A0 n0 cap0) ∧ w'.cell? ⟨w.heap.size + 1, 0, none⟩ = some (.slice A1 n1 cap1))
        (first | go_keep | exact ⟨cell_on a0_0 (by with_reducible repeat' (first | exact Below.refl _ _ | refine bon ?_ hb_107 | refine bon ?_ hb_112 | refine bon ?_ hb_116 | refine bon ?_ (bnew _ _) | exact bk_117.2.2 | refine below_set ?_ ?_ | exact bel_ad _ _ | fail)), cell_on a1_0 (by with_reducible repeat' (first | exact Below.refl _ _ | refine bon ?_ hb_107 | refine bon ?_ hb_112 | refine bon ?_ hb_116 | refine bon ?_ (bnew _ _) | exact bk_117.2.2 | refine below_set ?_ ?_ | exact bel_ad _ _ | fail))⟩ | fail "none keeps")
        (first | (go_at_call_of 9 A0; with_reducible refine (HT_105.out _ (by with_reducible repeat' (first | exact Below.refl _ _ | refine bon ?_ hb_107 | refine bon ?_ hb_112 | refine bon ?_ hb_116 | refine bon ?_ (bnew _ _) | exact bk_117.2.2 | refine below_set ?_ ?_ | exact bel_ad _ _ | fail))).mono ?_; rintro e v_106 ⟨g_108, rfl, own_109, hb_107⟩; (try have bk_117 := blk_step bk_117 hb_107); (try have bk_117 := blk_call (D := w20.drew) hb_107 (by with_reducible repeat' (first | exact Below.refl _ _ | refine bon ?_ hb_107 | refine bon ?_ hb_112 | refine bon ?_ hb_116 | refine bon ?_ (bnew _ _) | exact bk_117.2.2 | refine below_set ?_ ?_ | exact bel_ad _ _ | fail))); (try have bk_117 := blk_call_d hb_107)) | (go_at_call_of 9 A1; with_reducible refine (HT_110.out _ (by with_reducible repeat' (first | exact Below.refl _ _ | refine bon ?_ hb_107 | refine bon ?_ hb_112 | refine bon ?_ hb_116 | refine bon ?_ (bnew _ _) | exact bk_117.2.2 | refine below_set ?_ ?_ | exact bel_ad _ _ | fail))).mono ?_; rintro e v_111 ⟨g_113, rfl, own_114, hb_112⟩; (try have bk_117 := blk_step bk_117 hb_112); (try have bk_117 := blk_call (D := w20.drew) hb_112 (by with_reducible repeat' (first | exact Below.refl _ _ | refine bon ?_ hb_107 | refine bon ?_ hb_112 | refine bon ?_ hb_116 | refine bon ?_ (bnew _ _) | exact bk_117.2.2 | refine below_set ?_ ?_ | exact bel_ad _ _ | fail))); (try have bk_117 := blk_call_d hb_112)) | (go_at_call 15; with_reducible refine (HI.out _ _ _ _ _ (by with_reducible refine OwnLL.all (lo := ?_) (hi := ?_) (c := ?_) ?_; with_reducible repeat' (first | exact own_109 | refine OwnLL.next ?_ hb_112 | refine OwnLL.next ?_ hb_107 | refine OwnLL.next ?_ (bnew _ _) | fail)) (by with_reducible refine OwnLL.all (lo := ?_) (hi := ?_) (c := ?_) ?_; with_reducible repeat' (first | exact own_114 | refine OwnLL.next ?_ hb_112 | refine OwnLL.next ?_ hb_107 | refine OwnLL.next ?_ (bnew _ _) | fail))).mono ?_; rintro e v_115 ⟨R_94, d_95, rfl, own_119, hb_116⟩; (try have bk_117 := blk_step bk_117 hb_116); (try have bk_117 := blk_call (D := w20.drew) hb_116 (by with_reducible repeat' (first | exact Below.refl _ _ | refine bon ?_ hb_107 | refine bon ?_ hb_112 | refine bon ?_ hb_116 | refine bon ?_ (bnew _ _) | exact bk_117.2.2 | refine below_set ?_ ?_ | exact bel_ad _ _ | fail))); (try have bk_117 := blk_call_d hb_116); (try (have z0_bk_117 := bk_117.1.cell 0; have f0_bk_117 := bk_117.1.frozen 0; simp at z0_bk_117))) | fail "no arm")
      all_goals (go_wp2_with fail; go_meet; first | exact ⟨_, _, _, _, _, rfl, rfl, fin_newP (bstep (by with_reducible repeat' (first | exact Below.refl _ _ | refine bon ?_ hb_107 | refine bon ?_ hb_112 | refine bon ?_ hb_116 | refine bon ?_ (bnew _ _) | exact bk_117.2.2 | refine below_set ?_ ?_ | exact bel_ad _ _ | fail))) own_119 hb_116⟩ | exact ⟨_, _, _, _, _, rfl, rfl, fin_boxP (bstep (by with_reducible repeat' (first | exact Below.refl _ _ | refine bon ?_ hb_107 | refine bon ?_ hb_112 | refine bon ?_ hb_116 | refine bon ?_ (bnew _ _) | exact bk_117.2.2 | refine below_set ?_ ?_ | exact bel_ad _ _ | fail))) bk_117 own_119 hb_116⟩ | fail "no end")
    case rest =>
      obtain ⟨R_94, d_95, bx_98, lo_101, hi_102, rfl, rfl, h0_0, h0_l, sz_99, own_100, sz_103, hb_104⟩ := hcut
      obtain ⟨w21, hwx⟩ : ∃ x, x = wc := ⟨_, rfl⟩
      subst hwx
      have sz_120 := h0_l
      replace in0 := in0.next hb_104 (by omega)
      replace in1 := in1.next hb_104 (by omega)
      replace a0_0 := cell_next a0_0 hb_104
      replace a1_0 := cell_next a1_0 hb_104
      replace a0_l := Nat.lt_of_lt_of_le a0_l hb_104.size
      replace a1_l := Nat.lt_of_lt_of_le a1_l hb_104.size
      replace w0_0 := cell_next w0_0 hb_104
      replace w0_l := Nat.lt_of_lt_of_le w0_l hb_104.size
      replace own_17 := own_17.next hb_104
      replace g0_0 := cell_next g0_0 hb_104
      replace g0_l := Nat.lt_of_lt_of_le g0_l hb_104.size
      replace own_90 := own_90.next hb_104
      replace hB := hB.trans (hb_104.mono hB.size)
      have sz_121 := hb_104.size
      go_wp2_with fail
      -- if !eqPolicy(h0, w0) || h1 != w1 {
      refine (eqPolicy_k R_94 R_11 l00 d_95 d_12 _ _ y00 _ own_100.inn own_17.inn (by omega) (by omega) (by omega) (by omega)).mono ?_
      rintro e w22 ⟨rfl, hb_122⟩
      replace in0 := in0.next hb_122 (by omega)
      replace in1 := in1.next hb_122 (by omega)
      replace a0_0 := cell_next a0_0 hb_122
      replace a1_0 := cell_next a1_0 hb_122
      replace a0_l := Nat.lt_of_lt_of_le a0_l hb_122.size
      replace a1_l := Nat.lt_of_lt_of_le a1_l hb_122.size
      replace w0_0 := cell_next w0_0 hb_122
      replace w0_l := Nat.lt_of_lt_of_le w0_l hb_122.size
      replace own_17 := own_17.next hb_122
      replace g0_0 := cell_next g0_0 hb_122
      replace g0_l := Nat.lt_of_lt_of_le g0_l hb_122.size
      replace own_90 := own_90.next hb_122
      replace h0_0 := cell_next h0_0 hb_122
      replace h0_l := Nat.lt_of_lt_of_le h0_l hb_122.size
      replace own_100 := own_100.next hb_122
      replace hB := hB.trans (hb_122.mono hB.size)
      have sz_123 := hb_122.size
      go_wp2_with fail
      clear own_100
      clear h0_0 h0_l
      refine (heldPolicy_k R_54 l00 d_55 _ y00 1 _ own_90.inn (by omega) (by omega) (by omega) (by omega) (by omega)).mono ?_
      rintro e w23 ⟨rfl, hb_124⟩
      replace in0 := in0.next hb_124 (by omega)
      replace in1 := in1.next hb_124 (by omega)
      replace a0_0 := cell_next a0_0 hb_124
      replace a1_0 := cell_next a1_0 hb_124
      replace a0_l := Nat.lt_of_lt_of_le a0_l hb_124.size
      replace a1_l := Nat.lt_of_lt_of_le a1_l hb_124.size
      replace w0_0 := cell_next w0_0 hb_124
      replace w0_l := Nat.lt_of_lt_of_le w0_l hb_124.size
      replace own_17 := own_17.next hb_124
      replace g0_0 := cell_next g0_0 hb_124
      replace g0_l := Nat.lt_of_lt_of_le g0_l hb_124.size
      replace own_90 := own_90.next hb_124
      replace hB := hB.trans (hb_124.mono hB.size)
      have sz_125 := hb_124.size
      go_wp2_with fail
      go_ret
      exact ⟨rfl, hB⟩

set_option maxRecDepth 100000 in
set_option maxHeartbeats 4000000 in
theorem walk (A0 : Option Addr) (n0 cap0 : Nat) (t0 : List (List Int)) (A1 : Option Addr) (n1 cap1 : Nat) (t1 : List (List Int)) (w : World) (h0in : InLL w w.heap.size A0 n0 t0) (h0max : n0 ≤ maxLen) (h0each : ∀ y ∈ t0, y.length ≤ maxLen) (h1in : InLL w w.heap.size A1 n1 t1) (h1max : n1 ≤ maxLen) (h1each : ∀ y ∈ t1, y.length ≤ maxLen) :
    Calls Try.prog 4 #[.agg #[.slice A0 n0 cap0], .agg #[.slice A1 n1 cap1]] w fun e w' => e = .returned (.bool true) ∧ Below w.heap.size w w' := by
  by_cases h0 : n0 + totLL t0 ≤ 1048576
  · by_cases h1 : n0 + totLL t0 + (n1 + totLL t1) ≤ 1048576
    · have hk := bothR_small t0 t1
      exact road A0 n0 cap0 t0 A1 n1 cap1 t1 w h0in (by omega) (by omega) (by omega) h1in (by omega) (by omega) (by omega) (by omega) (bothR t0 t1).1 (bothR t0 t1).1.length (bothR t0 t1).2 (by omega) (by omega)
        (fun w0 a b a' b' h h' => (specBoth_c a n0 b a' n1 b' w0.heap.size t0 t1 w0 h h' (Nat.le_refl _) (by omega) (by omega)).mono fun e w1 ⟨A', c', h1, ⟨rs, h2⟩, h3⟩ => ⟨A', c', h1, OwnLO.of h2 h3.size, h3⟩)
        (fun w0 a b a' b' h h' => (implBoth_c a n0 b a' n1 b' w0.heap.size t0 t1 w0 h h' (Nat.le_refl _) (by omega) (by omega) (fun x hx => Nat.le_trans (totLL_mem hx) (by omega)) (fun x hx => Nat.le_trans (totLL_mem hx) (by omega))).mono fun e w1 ⟨A', c', h1, ⟨rs, h2⟩, h3⟩ => ⟨A', c', h1, OwnLO.of h2 h3.size, h3⟩)
    · exact early1 A0 n0 cap0 t0 A1 n1 cap1 t1 w h0in h1in h0 (by omega) h0max h0each h1max h1each
  · exact early0 A0 n0 cap0 t0 A1 n1 cap1 t1 w h0in h1in (by omega) h0max h0each h1max h1each

set_option maxRecDepth 100000 in
set_option maxHeartbeats 4000000 in
theorem lifted (os : Os) (started : os.Started) (H : Type) (enc : TypeId × Value → H) :
    ReturnsInHanded {} Try.checked os 4 .any (Rows.fnExactBothPoliciesSpec.pre6 enc Try.prog Try.f4 Rows.fnExactBothPoliciesRow.domain false) (Rows.fnExactBothPoliciesSpec.post enc Try.prog Try.f4 false true false false) := by
  refine returnsInHanded_of_change (C := Try.checked) own started (by kernel_rfl) Try.func4
    (ChangeSpec.witness6 (enc := enc) (C := Try.checked) false ⟨#[], #[.agg #[.slice none 0 0], .agg #[.slice none 0 0]], []⟩ 8 (by kernel_rfl) (by kernel_rfl) (by kernel_rfl) (by kernel_rfl)) ?_
  intro W base args ds gs before hval0 hW hcnd _
  have hval : ∀ (j : Nat) t v, Try.f4.params[j]? = some t → args[j]? = some v → Value.okWide Try.prog W .any base t v := hval0
  have hW' := hW
  obtain ⟨p, q, hA0, hV, rfl, hfz, hnd⟩ := hW
  have hA : DataW.TrodAll enc Try.prog W 0 (fun _ => true) true Try.f4.params.toList args.toList ds p := hA0
  rw [Try.params4] at hA hval
  obtain ⟨v0, vs0, d0, ds0, p0, q0, hargs, rfl, rfl, g0, r0⟩ := trodAll_cons hA
  obtain ⟨v1, vs1, d1, ds1, p1, q1, rfl, rfl, rfl, g1, r1⟩ := trodAll_cons r0
  obtain ⟨rfl, rfl, rfl⟩ := trodAll_nil r1
  obtain rfl : args = #[v0, v1] := by cases args; simp_all
  obtain ⟨rfl, rfl⟩ := trodVars_none hV
  have k0 := g0
  have lt0 : ∀ x ∈ p0, x.block < W.heap.size := by obtain ⟨m, hm⟩ := k0; exact DataW.trod_lt m _ _ _ hm
  have k1 := g1
  have lt1 : ∀ x ∈ p1, x.block < W.heap.size := by obtain ⟨m, hm⟩ := k1; exact DataW.trod_lt m _ _ _ hm
  obtain ⟨A0, n0, cap0, t0, rfl, h0max, h0in, h0each⟩ := policy_in (hval 0 24 v0 rfl rfl) g0
  obtain ⟨A1, n1, cap1, t1, rfl, h1max, h1in, h1each⟩ := policy_in (hval 1 24 v1 rfl rfl) g1
  clear hA0 hval0
  simp only [List.append_nil] at hW'
  refine (walk A0 n0 cap0 t0 A1 n1 cap1 t1 W h0in h0max h0each h1in h1max h1each).mono fun e W' ⟨he, bel⟩ => ?_
  subst he
  exact ⟨_, rfl, _, _, _, [], _, [], hW', trodAll_mk1 (shut_bool Try.underlying4 _), (trodAll_cons_mk (Below.trod laidOut (by kernel_rfl) (of_decide_eq_true (by kernel_rfl)) k0 bel lt0) (trodAll_cons_mk (Below.trod laidOut (by kernel_rfl) (of_decide_eq_true (by kernel_rfl)) k1 bel lt1) trodAll_mk0)), rfl, bel.frame _, fun h => by cases h⟩

theorem over : Rows.fnExactBothPoliciesRow.holds Try.pinned (OpenSpec.ofChange Rows.fnExactBothPoliciesSpec) :=
  OpenClaim.holds_of_wide 4 Try.f4 rfl rfl rfl rfl rfl rfl rfl ⟨rfl, rfl, rfl, rfl, rfl⟩ rfl rfl rfl rfl rfl (by kernel_rfl) Try.func4 (by kernel_rfl)
    (of_decide_eq_true (by kernel_rfl)) (by unfold Func.isWrapper; first | (rw [if_pos (by decide +kernel)]; kernel_rfl) | (rw [if_neg (by decide +kernel)]; exact ⟨rfl, rfl⟩))
    (fun os started H enc _ => lifted os started H enc)

/-- The statement. -/
theorem proved : Rows.FnExactBothPoliciesSaid := over
#print axioms proved
end Go.Proofs.Ytopijecdhjnipaa.fnExactBothPolicies
