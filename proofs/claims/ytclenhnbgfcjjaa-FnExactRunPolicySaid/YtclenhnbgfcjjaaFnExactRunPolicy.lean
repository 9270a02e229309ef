/-
  For every policy and word the program's RunPolicy answers as the model's, and leaves both as they were.
  Conditions: none but those that the statement itself bears.
-/
import Derived.Test.YtclenhnbgfcjjaaRows
import Derived.WalkKit
import Derived.ProofKit
import Derived.OpenShut
import Derived.ShutString
import Derived.ChangeOld
import Derived.Below
import Derived.WalkSmall
import Derived.Test.YtclenhnbgfcjjaaTms
import Derived.Test.YtclenhnbgfcjjaaPolW
namespace Go.Proofs.Ytclenhnbgfcjjaa.fnExactRunPolicy
open Go.ChangeShapes Go.WideShapes Go.ChangeAt Go.RowKit
open Go.ChangeMaps (open_string shut_string)
set_option linter.unusedVariables false

theorem own : ownKnob Try.prog.godebug = none := by kernel_rfl
theorem laidOut : laidOutB Try.prog = true := by kernel_rfl
set_option maxRecDepth 100000 in
set_option maxHeartbeats 8000000 in
theorem early0 (A0 : Option Addr) (n0 cap0 : Nat) (t0 : List (List Int)) (A1 : Option Addr) (n1 cap1 : Nat) (z1 : List Int) (w : World) (in0 : InLL w w.heap.size A0 n0 t0) (in1 : InL w w.heap.size A1 n1 z1) (q0 : 1048576 < n1) (vn1 : n1 ≤ maxLen) (vn0 : n0 ≤ maxLen) (en0 : ∀ x ∈ t0, x.length ≤ maxLen) :
    Calls Try.prog 5 #[.agg #[.slice A0 n0 cap0], .slice A1 n1 cap1] w fun e w' => e = .returned (.bool true) ∧ Below w.heap.size w w' := by
  have hB := Below.refl w.heap.size w
  go_enter Try.func5, Try.ntmps5
  go_wp2_with fail
  have hb_1 : Below w.heap.size w (w.alloc (.cells #[.slice A0 n0 cap0] 24)) := bnew _ _
  have sz_2 : w.heap.size < (w.alloc (.cells #[.slice A0 n0 cap0] 24)).heap.size := by simp
  have a0_0 : (w.alloc (.cells #[.slice A0 n0 cap0] 24)).cell? ⟨w.heap.size, 0, none⟩ = some (.slice A0 n0 cap0) := by simp
  have a0_l := sz_2
  generalize w.alloc (.cells #[.slice A0 n0 cap0] 24) = w1 at hb_1 a0_0 sz_2 a0_l ⊢
  replace in0 := in0.next hb_1 (by omega)
  replace in1 := in1.next hb_1 (by omega)
  replace hB := hB.trans (hb_1.mono hB.size)
  have sz_3 := hb_1.size
  go_ret
  exact ⟨rfl, hB⟩

set_option maxRecDepth 100000 in
set_option maxHeartbeats 8000000 in
theorem early1 (A0 : Option Addr) (n0 cap0 : Nat) (t0 : List (List Int)) (A1 : Option Addr) (n1 cap1 : Nat) (z1 : List Int) (w : World) (in0 : InLL w w.heap.size A0 n0 t0) (in1 : InL w w.heap.size A1 n1 z1) (q0 : n1 ≤ 1048576) (q1 : 1048576 < (n0 + totLL t0)) (vn1 : n1 ≤ maxLen) (vn0 : n0 ≤ maxLen) (en0 : ∀ x ∈ t0, x.length ≤ maxLen) :
    Calls Try.prog 5 #[.agg #[.slice A0 n0 cap0], .slice A1 n1 cap1] w fun e w' => e = .returned (.bool true) ∧ Below w.heap.size w w' := by
  have hB := Below.refl w.heap.size w
  go_enter Try.func5, Try.ntmps5
  go_wp2_with fail
  have hb_1 : Below w.heap.size w (w.alloc (.cells #[.slice A0 n0 cap0] 24)) := bnew _ _
  have sz_2 : w.heap.size < (w.alloc (.cells #[.slice A0 n0 cap0] 24)).heap.size := by simp
  have a0_0 : (w.alloc (.cells #[.slice A0 n0 cap0] 24)).cell? ⟨w.heap.size, 0, none⟩ = some (.slice A0 n0 cap0) := by simp
  have a0_l := sz_2
  generalize w.alloc (.cells #[.slice A0 n0 cap0] 24) = w1 at hb_1 a0_0 sz_2 a0_l ⊢
  replace in0 := in0.next hb_1 (by omega)
  replace in1 := in1.next hb_1 (by omega)
  replace hB := hB.trans (hb_1.mono hB.size)
  have sz_3 := hb_1.size
  refine (szPolicy_k A0 n0 cap0 _ t0 _ _ in0 (by omega) (by omega) (by omega) (by first | assumption | (unfold maxLen; omega)) (by first | assumption | exact fitsLL_of (by unfold maxLen; omega))).mono ?_
  rintro e w2 ⟨rfl, hb_4⟩
  rw [szv_no (by omega)]
  replace in0 := in0.next hb_4 (by omega)
  replace in1 := in1.next hb_4 (by omega)
  replace a0_0 := cell_next a0_0 hb_4
  replace a0_l := Nat.lt_of_lt_of_le a0_l hb_4.size
  replace hB := hB.trans (hb_4.mono hB.size)
  have sz_5 := hb_4.size
  go_wp2_with fail
  go_ret
  exact ⟨rfl, hB⟩

set_option maxRecDepth 100000 in
set_option maxHeartbeats 8000000 in
theorem road (A0 : Option Addr) (n0 cap0 : Nat) (t0 : List (List Int)) (A1 : Option Addr) (n1 cap1 : Nat) (z1 : List Int) (w : World) (in0 : InLL w w.heap.size A0 n0 t0) (h0ok : n0 ≤ 1048576) (h0eok : totLL t0 ≤ 1048576) (h0sum : n0 + totLL t0 ≤ 1048576) (in1 : InL w w.heap.size A1 n1 z1) (h1ok : n1 ≤ 1048576) (r0 : Int) (r1 : Int) (r2 : Bool) 
    (HS0 : ∀ (w0 : World) (a00 : Option Addr) (u00 : Nat) (a10 : Option Addr) (u10 : Nat), InLL w0 w0.heap.size a00 n0 t0 → InL w0 w0.heap.size a10 n1 z1 → Calls Try.prog 16 #[.agg #[.slice a00 n0 u00], .slice a10 n1 u10] w0 fun e w1 => e = .returned (.tuple #[.int .i64 r0, .int .i64 r1, .bool r2]) ∧ Below w0.heap.size w0 w1)
    (HI0 : ∀ (w0 : World) (a00 : Option Addr) (u00 : Nat) (a10 : Option Addr) (u10 : Nat), InLL w0 w0.heap.size a00 n0 t0 → InL w0 w0.heap.size a10 n1 z1 → Calls Try.prog 18 #[.agg #[.slice a00 n0 u00], .slice a10 n1 u10] w0 fun e w1 => e = .returned (.tuple #[.int .i64 r0, .int .i64 r1, .bool r2]) ∧ Below w0.heap.size w0 w1) :
    Calls Try.prog 5 #[.agg #[.slice A0 n0 cap0], .slice A1 n1 cap1] w fun e w' => e = .returned (.bool true) ∧ Below w.heap.size w w' := by
  have HS := Lib.hid HS0
  have HI := Lib.hid HI0
  clear HS0 HI0
  have hB := Below.refl w.heap.size w
  have hl_5 : (0 : Int) ≤ 1048576 - ((n0 + totLL t0 : Nat) : Int) := by omega
  go_enter Try.func5, Try.ntmps5
  go_wp2_with fail
  have hb_1 : Below w.heap.size w (w.alloc (.cells #[.slice A0 n0 cap0] 24)) := bnew _ _
  have sz_2 : w.heap.size < (w.alloc (.cells #[.slice A0 n0 cap0] 24)).heap.size := by simp
  have a0_0 : (w.alloc (.cells #[.slice A0 n0 cap0] 24)).cell? ⟨w.heap.size, 0, none⟩ = some (.slice A0 n0 cap0) := by simp
  have a0_l := sz_2
  generalize w.alloc (.cells #[.slice A0 n0 cap0] 24) = w1 at hb_1 a0_0 sz_2 a0_l ⊢
  replace in0 := in0.next hb_1 (by omega)
  replace in1 := in1.next hb_1 (by omega)
  replace hB := hB.trans (hb_1.mono hB.size)
  have sz_3 := hb_1.size
  refine (szPolicy_k A0 n0 cap0 _ t0 _ _ in0 (by omega) (by omega) (by omega) (by first | assumption | (unfold maxLen; omega)) (by first | assumption | exact fitsLL_of (by unfold maxLen; omega))).mono ?_
  rintro e w2 ⟨rfl, hb_4⟩
  rw [szv_yes (by omega)]
  replace in0 := in0.next hb_4 (by omega)
  replace in1 := in1.next hb_4 (by omega)
  replace a0_0 := cell_next a0_0 hb_4
  replace a0_l := Nat.lt_of_lt_of_le a0_l hb_4.size
  replace hB := hB.trans (hb_4.mono hB.size)
  have sz_6 := hb_4.size
  go_wp2_with fail
  refine (toPolicy_k A0 n0 cap0 _ t0 _ in0 (by omega) h0ok h0eok).mono ?_
  rintro e w3 ⟨g_7, rfl, own_8, hb_9⟩
  replace in0 := in0.next hb_9 (by omega)
  replace in1 := in1.next hb_9 (by omega)
  replace a0_0 := cell_next a0_0 hb_9
  replace a0_l := Nat.lt_of_lt_of_le a0_l hb_9.size
  replace hB := hB.trans (hb_9.mono hB.size)
  have sz_10 := hb_9.size
  go_wp2_with fail
  refine (toInt64S_k A1 n1 cap1 _ z1 _ in1 (by omega) h1ok).mono ?_
  rintro e w4 ⟨g_11, rfl, own_12, hb_13⟩
  replace in0 := in0.next hb_13 (by omega)
  replace in1 := in1.next hb_13 (by omega)
  replace a0_0 := cell_next a0_0 hb_13
  replace a0_l := Nat.lt_of_lt_of_le a0_l hb_13.size
  replace own_8 := own_8.next hb_13
  replace hB := hB.trans (hb_13.mono hB.size)
  have sz_14 := hb_13.size
  go_wp2_with fail
  refine (HS.out w4 _ _ _ _ ((own_8.inn).more (by omega)) ((own_12.inn).more (by omega))).mono ?_
  rintro e w5 ⟨rfl, hb_15⟩
  clear own_8
  clear own_12
  replace in0 := in0.next hb_15 (by omega)
  replace in1 := in1.next hb_15 (by omega)
  replace a0_0 := cell_next a0_0 hb_15
  replace a0_l := Nat.lt_of_lt_of_le a0_l hb_15.size
  replace hB := hB.trans (hb_15.mono hB.size)
  have sz_16 := hb_15.size
  go_wp2_with fail
  refine (toPolicy_k A0 n0 cap0 _ t0 _ in0 (by omega) h0ok h0eok).mono ?_
  rintro e w6 ⟨g_17, rfl, own_18, hb_19⟩
  replace in0 := in0.next hb_19 (by omega)
  replace in1 := in1.next hb_19 (by omega)
  replace a0_0 := cell_next a0_0 hb_19
  replace a0_l := Nat.lt_of_lt_of_le a0_l hb_19.size
  replace hB := hB.trans (hb_19.mono hB.size)
  have sz_20 := hb_19.size
  go_wp2_with fail
  have hb_21 : Below w6.heap.size w6 (w6.alloc (.cells #[.slice (some ⟨g_17, 0, none⟩) n0 n0] 27)) := bnew _ _
  have sz_22 : w6.heap.size < (w6.alloc (.cells #[.slice (some ⟨g_17, 0, none⟩) n0 n0] 27)).heap.size := by simp
  have x0_0 : (w6.alloc (.cells #[.slice (some ⟨g_17, 0, none⟩) n0 n0] 27)).cell? ⟨w6.heap.size, 0, none⟩ = some (.slice (some ⟨g_17, 0, none⟩) n0 n0) := by simp
  have x0_l := sz_22
  generalize w6.alloc (.cells #[.slice (some ⟨g_17, 0, none⟩) n0 n0] 27) = w7 at hb_21 x0_0 sz_22 x0_l ⊢
  replace in0 := in0.next hb_21 (by omega)
  replace in1 := in1.next hb_21 (by omega)
  replace a0_0 := cell_next a0_0 hb_21
  replace a0_l := Nat.lt_of_lt_of_le a0_l hb_21.size
  replace own_18 := own_18.next hb_21
  replace hB := hB.trans (hb_21.mono hB.size)
  have sz_23 := hb_21.size
  refine (toInt64S_k A1 n1 cap1 _ z1 _ in1 (by omega) h1ok).mono ?_
  rintro e w8 ⟨g_24, rfl, own_25, hb_26⟩
  replace in0 := in0.next hb_26 (by omega)
  replace in1 := in1.next hb_26 (by omega)
  replace a0_0 := cell_next a0_0 hb_26
  replace a0_l := Nat.lt_of_lt_of_le a0_l hb_26.size
  replace own_18 := own_18.next hb_26
  replace x0_0 := cell_next x0_0 hb_26
  replace x0_l := Nat.lt_of_lt_of_le x0_l hb_26.size
  replace hB := hB.trans (hb_26.mono hB.size)
  have sz_27 := hb_26.size
  go_wp2_with fail
  refine (HI.out w8 _ _ _ _ ((own_18.inn).more (by omega)) ((own_25.inn).more (by omega))).mono ?_
  rintro e w9 ⟨rfl, hb_28⟩
  replace in0 := in0.next hb_28 (by omega)
  replace in1 := in1.next hb_28 (by omega)
  replace a0_0 := cell_next a0_0 hb_28
  replace a0_l := Nat.lt_of_lt_of_le a0_l hb_28.size
  replace own_18 := own_18.next hb_28
  replace x0_0 := cell_next x0_0 hb_28
  replace x0_l := Nat.lt_of_lt_of_le x0_l hb_28.size
  replace own_25 := own_25.next hb_28
  replace hB := hB.trans (hb_28.mono hB.size)
  have sz_29 := hb_28.size
  go_wp2_with fail
  -- if g0 != w0 || g1 != w1 || g2 != w2 {
  have HT_30 := Lib.hid (toPolicy_k A0 n0 cap0 _ t0 w9.drew in0.drew (by show _ ≤ w9.heap.size; omega) h0ok h0eok)
  have HE_31 : Hid (∀ w10 g_32, Below w9.drew.heap.size w9.drew w10 → OwnLL w10 w9.drew.heap.size w10.heap.size (some ⟨g_32, 0, none⟩) n0 n0 t0 → Calls Try.prog 13 #[.agg #[.slice (some ⟨g_17, 0, none⟩) n0 n0], .agg #[.slice (some ⟨g_32, 0, none⟩) n0 n0]] w10 fun e w' => e = .returned (.bool true) ∧ Below w10.heap.size w10 w') := fun w10 g_32 hb_34 own_33 => eqPolicy_k (some ⟨g_17, 0, none⟩) (some ⟨g_32, 0, none⟩) n0 n0 n0 _ _ t0 w10 ((own_18.inn).call (by omega) hb_34) own_33.inn (le_call (by omega) hb_34) (Nat.le_refl _) h0ok h0eok
  go_region_held3 (fun w' => w'.cell? ⟨w.heap.size, 0, none⟩ = some (.slice A0 n0 cap0) ∧ w'.cell? ⟨w6.heap.size, 0, none⟩ = some (.slice (some ⟨g_17, 0, none⟩) n0 n0))
    (first | go_keep | exact ⟨cell_on a0_0 hb_34, cell_on x0_0 hb_34⟩ | exact ⟨cell_on2 a0_0 hb_34 hb_36, cell_on2 x0_0 hb_34 hb_36⟩)
    (first | (go_at_call 11; refine HT_30.out.mono ?_; rintro e w10 ⟨g_32, rfl, own_33, hb_34⟩) | (go_at_call 13; refine (HE_31.out _ _ hb_34 own_33).mono ?_; rintro e w11 ⟨rfl, hb_36⟩))
  replace hb_34 := (bstep hb_34)
  replace in0 := in0.next hb_34 (by omega)
  replace in1 := in1.next hb_34 (by omega)
  replace a0_0 := cell_next a0_0 hb_34
  replace a0_l := Nat.lt_of_lt_of_le a0_l hb_34.size
  replace own_18 := own_18.next hb_34
  replace x0_0 := cell_next x0_0 hb_34
  replace x0_l := Nat.lt_of_lt_of_le x0_l hb_34.size
  replace own_25 := own_25.next hb_34
  replace hB := hB.trans (hb_34.mono hB.size)
  have sz_37 := hb_34.size
  replace in0 := in0.next hb_36 (by omega)
  replace in1 := in1.next hb_36 (by omega)
  replace a0_0 := cell_next a0_0 hb_36
  replace a0_l := Nat.lt_of_lt_of_le a0_l hb_36.size
  replace own_18 := own_18.next hb_36
  replace x0_0 := cell_next x0_0 hb_36
  replace x0_l := Nat.lt_of_lt_of_le x0_l hb_36.size
  replace own_25 := own_25.next hb_36
  replace hB := hB.trans (hb_36.mono hB.size)
  have sz_38 := hb_36.size
  clear HT_30 HE_31 own_33
  go_wp2_with fail
  refine (toInt64S_k A1 n1 cap1 _ z1 _ in1 (by omega) h1ok).mono ?_
  rintro e w12 ⟨g_39, rfl, own_40, hb_41⟩
  replace in0 := in0.next hb_41 (by omega)
  replace in1 := in1.next hb_41 (by omega)
  replace a0_0 := cell_next a0_0 hb_41
  replace a0_l := Nat.lt_of_lt_of_le a0_l hb_41.size
  replace own_18 := own_18.next hb_41
  replace x0_0 := cell_next x0_0 hb_41
  replace x0_l := Nat.lt_of_lt_of_le x0_l hb_41.size
  replace own_25 := own_25.next hb_41
  replace hB := hB.trans (hb_41.mono hB.size)
  have sz_42 := hb_41.size
  go_wp2_with fail
  refine (eqInt64S_k (some ⟨g_24, 0, none⟩) (some ⟨g_39, 0, none⟩) n1 n1 n1 _ _ z1 _ own_25.inn own_40.inn (by omega) (by omega) h1ok).mono ?_
  rintro e w13 ⟨rfl, hb_43⟩
  clear own_40
  replace in0 := in0.next hb_43 (by omega)
  replace in1 := in1.next hb_43 (by omega)
  replace a0_0 := cell_next a0_0 hb_43
  replace a0_l := Nat.lt_of_lt_of_le a0_l hb_43.size
  replace own_18 := own_18.next hb_43
  replace x0_0 := cell_next x0_0 hb_43
  replace x0_l := Nat.lt_of_lt_of_le x0_l hb_43.size
  replace own_25 := own_25.next hb_43
  replace hB := hB.trans (hb_43.mono hB.size)
  have sz_44 := hb_43.size
  go_wp2_with fail
  go_ret
  exact ⟨rfl, hB⟩

set_option maxRecDepth 100000 in
set_option maxHeartbeats 4000000 in
theorem walk (A0 : Option Addr) (n0 cap0 : Nat) (t0 : List (List Int)) (A1 : Option Addr) (n1 cap1 : Nat) (z1 : List Int) (w : World) (h0in : InLL w w.heap.size A0 n0 t0) (h0max : n0 ≤ maxLen) (h0each : ∀ y ∈ t0, y.length ≤ maxLen) (h1row : Row w w.heap.size A1 (z1.map ic)) (h1len : z1.length = n1) (h1max : n1 ≤ maxLen) (h1wf : ∀ z ∈ z1, (Lit.int .i64 z).wf = true) :
    Calls Try.prog 5 #[.agg #[.slice A0 n0 cap0], .slice A1 n1 cap1] w fun e w' => e = .returned (.bool true) ∧ Below w.heap.size w w' := by
  by_cases hm : n1 ≤ 1048576
  · by_cases hn : n0 + totLL t0 ≤ 1048576
    · exact road A0 n0 cap0 t0 A1 n1 cap1 z1 w h0in (by omega) (by omega) (by omega) ⟨h1len, h1row⟩ hm (runPR t0 z1).1 (runPR t0 z1).2.1 (runPR t0 z1).2.2
        (fun w0 a00 u00 a10 u10 h h' => specRunP_c a00 n0 u00 _ t0 a10 n1 u10 z1 w0 h h' (Nat.le_refl _) (by omega) (by omega))
        (fun w0 a00 u00 a10 u10 h h' => implRunP_c a00 n0 u00 _ t0 a10 n1 u10 z1 w0 h h' (Nat.le_refl _) (by omega) (fun x hx => Nat.le_trans (totLL_mem hx) (by omega)) (by omega))
    · exact early1 A0 n0 cap0 t0 A1 n1 cap1 z1 w h0in ⟨h1len, h1row⟩ hm (by omega) h1max h0max h0each
  · exact early0 A0 n0 cap0 t0 A1 n1 cap1 z1 w h0in ⟨h1len, h1row⟩ (by omega) h1max h0max h0each

set_option maxRecDepth 100000 in
set_option maxHeartbeats 4000000 in
theorem lifted (os : Os) (started : os.Started) (H : Type) (enc : TypeId × Value → H) :
    ReturnsInHanded {} Try.checked os 5 .any (Rows.fnExactRunPolicySpec.pre6 enc Try.prog Try.f5 Rows.fnExactRunPolicyRow.domain false) (Rows.fnExactRunPolicySpec.post enc Try.prog Try.f5 false true false false) := by
  refine returnsInHanded_of_change (C := Try.checked) own started (by kernel_rfl) Try.func5
    (ChangeSpec.witness6 (enc := enc) (C := Try.checked) false ⟨#[], #[.agg #[.slice none 0 0], .slice none 0 0], []⟩ 8 (by kernel_rfl) (by kernel_rfl) (by kernel_rfl) (by kernel_rfl)) ?_
  intro W base args ds gs before hval0 hW hcnd _
  have hval : ∀ (j : Nat) t v, Try.f5.params[j]? = some t → args[j]? = some v → Value.okWide Try.prog W .any base t v := hval0
  have hW' := hW
  obtain ⟨p, q, hA0, hV, rfl, hfz, hnd⟩ := hW
  have hA : DataW.TrodAll enc Try.prog W 0 (fun _ => true) true Try.f5.params.toList args.toList ds p := hA0
  rw [Try.params5] at hA hval
  obtain ⟨v0, vs0, d0, ds0, p0, q0, hargs, rfl, rfl, g0, r0⟩ := trodAll_cons hA
  obtain ⟨v1, vs1, d1, ds1, p1, q1, rfl, rfl, rfl, g1, r1⟩ := trodAll_cons r0
  obtain ⟨rfl, rfl, rfl⟩ := trodAll_nil r1
  obtain rfl : args = #[v0, v1] := by cases args; simp_all
  obtain ⟨rfl, rfl⟩ := trodVars_none hV
  have k0 := g0
  have lt0 : ∀ x ∈ p0, x.block < W.heap.size := by obtain ⟨m, hm⟩ := k0; exact DataW.trod_lt m _ _ _ hm
  have k1 := g1
  have lt1 : ∀ x ∈ p1, x.block < W.heap.size := by obtain ⟨m, hm⟩ := k1; exact DataW.trod_lt m _ _ _ hm
  obtain ⟨A0, n0, cap0, t0, rfl, h0max, h0in, h0each⟩ := policy_in (hval 0 24 v0 rfl rfl) g0
  obtain ⟨a1, b1, e1, rfl⟩ := okWide_slice Try.underlying34 (hval 1 34 v1 rfl rfl)
  obtain ⟨A1, n1, cap1, z1, q1, h1len, h1max, h1row, h1wf⟩ := (fun (h : ∃ fuel, DataW.trod enc Try.prog W 0 (fun _ => true) true fuel 34 [.slice a1 b1 e1] = some _) => ints_in Try.underlying34 Try.underlying2 (by kernel_rfl) h.choose_spec) (by obtain ⟨m, hm⟩ := g1; exact ⟨m, by simpa [Value.cells] using hm⟩)
  obtain ⟨rfl, rfl, rfl⟩ : a1 = A1 ∧ b1 = n1 ∧ e1 = cap1 := by simpa using q1
  clear hA0 hval0
  simp only [List.append_nil] at hW'
  refine (walk A0 n0 cap0 t0 _ _ _ z1 W h0in h0max h0each h1row h1len h1max h1wf).mono fun e W' ⟨he, bel⟩ => ?_
  subst he
  exact ⟨_, rfl, _, _, _, [], _, [], hW', trodAll_mk1 (shut_bool Try.underlying4 _), (trodAll_cons_mk (Below.trod laidOut (by kernel_rfl) (of_decide_eq_true (by kernel_rfl)) k0 bel lt0) (trodAll_cons_mk (Below.trod laidOut (by kernel_rfl) (of_decide_eq_true (by kernel_rfl)) k1 bel lt1) trodAll_mk0)), rfl, bel.frame _, fun h => by cases h⟩

theorem over : Rows.fnExactRunPolicyRow.holds Try.pinned (OpenSpec.ofChange Rows.fnExactRunPolicySpec) :=
  OpenClaim.holds_of_wide 5 Try.f5 rfl rfl rfl rfl rfl rfl rfl ⟨rfl, rfl, rfl, rfl, rfl⟩ rfl rfl rfl rfl rfl (by kernel_rfl) Try.func5 (by kernel_rfl)
    (of_decide_eq_true (by kernel_rfl)) (by unfold Func.isWrapper; first | (rw [if_pos (by decide +kernel)]; kernel_rfl) | (rw [if_neg (by decide +kernel)]; exact ⟨rfl, rfl⟩))
    (fun os started H enc _ => lifted os started H enc)

/-- The statement. -/
theorem proved : Rows.FnExactRunPolicySaid := over
#print axioms proved
end Go.Proofs.Ytclenhnbgfcjjaa.fnExactRunPolicy
