/-
  For every policy the program's ReachedStates answers as the model's, leaves it as it was, and gives memory of its own.
  Conditions: none but those that the statement itself bears.
-/
import Derived.Test.YtclenhnbgfcjjaaRows
import Derived.WalkKit
import Derived.ProofKit
import Derived.OpenShut
import Derived.ShutString
import Derived.ChangeOld
import Derived.Below
import Derived.WalkSmall
import Derived.Test.YtclenhnbgfcjjaaTms
import Derived.Test.YtclenhnbgfcjjaaReach
namespace Go.Proofs.Ytclenhnbgfcjjaa.fnExactReachedStates
open Go.ChangeShapes Go.WideShapes Go.ChangeAt Go.RowKit
open Go.ChangeMaps (open_string shut_string)
set_option linter.unusedVariables false

theorem own : ownKnob Try.prog.godebug = none := by kernel_rfl
theorem laidOut : laidOutB Try.prog = true := by kernel_rfl
set_option maxRecDepth 100000 in
set_option maxHeartbeats 8000000 in
theorem early0 (A0 : Option Addr) (n0 cap0 : Nat) (t0 : List (List Int)) (w : World) (in0 : InLL w w.heap.size A0 n0 t0) (q0 : 1048576 < (n0 + totLL t0)) (vn0 : n0 ≤ maxLen) (en0 : ∀ x ∈ t0, x.length ≤ maxLen) :
    Calls Try.prog 6 #[.agg #[.slice A0 n0 cap0]] w fun e w' => e = .returned (.bool true) ∧ Below w.heap.size w w' := by
  have hB := Below.refl w.heap.size w
  go_enter Try.func6, Try.ntmps6
  go_wp2_with fail
  have hb_1 : Below w.heap.size w (w.alloc (.cells #[.slice A0 n0 cap0] 24)) := bnew _ _
  have sz_2 : w.heap.size < (w.alloc (.cells #[.slice A0 n0 cap0] 24)).heap.size := by simp
  have a0_0 : (w.alloc (.cells #[.slice A0 n0 cap0] 24)).cell? ⟨w.heap.size, 0, none⟩ = some (.slice A0 n0 cap0) := by simp
  have a0_l := sz_2
  generalize w.alloc (.cells #[.slice A0 n0 cap0] 24) = w1 at hb_1 a0_0 sz_2 a0_l ⊢
  replace in0 := in0.next hb_1 (by omega)
  replace hB := hB.trans (hb_1.mono hB.size)
  have sz_3 := hb_1.size
  refine (szPolicy_k A0 n0 cap0 _ t0 _ _ in0 (by omega) (by omega) (by omega) (by first | assumption | (unfold maxLen; omega)) (by first | assumption | exact fitsLL_of (by unfold maxLen; omega))).mono ?_
  rintro e w2 ⟨rfl, hb_4⟩
  rw [szv_no (by omega)]
  replace in0 := in0.next hb_4 (by omega)
  replace a0_0 := cell_next a0_0 hb_4
  replace a0_l := Nat.lt_of_lt_of_le a0_l hb_4.size
  replace hB := hB.trans (hb_4.mono hB.size)
  have sz_5 := hb_4.size
  go_wp2_with fail
  go_ret
  exact ⟨rfl, hB⟩

set_option maxRecDepth 100000 in
set_option maxHeartbeats 8000000 in
theorem road (A0 : Option Addr) (n0 cap0 : Nat) (t0 : List (List Int)) (w : World) (in0 : InLL w w.heap.size A0 n0 t0) (h0ok : n0 ≤ 1048576) (h0eok : totLL t0 ≤ 1048576) (h0sum : n0 + totLL t0 ≤ 1048576) (y00 : List Int) (l00 : Nat) (r1 : Bool) (k00 : l00 ≤ 1000)
    (HS0 : ∀ (w0 : World) (a00 : Option Addr) (u00 : Nat), InLL w0 w0.heap.size a00 n0 t0 → Calls Try.prog 20 #[.agg #[.slice a00 n0 u00]] w0 fun e w1 => ∃ (R00 : Option Addr) (d00 : Nat), e = .returned (.tuple #[.slice R00 l00 d00, .bool r1]) ∧ OwnL w1 w0.heap.size w1.heap.size R00 l00 d00 y00 ∧ Below w0.heap.size w0 w1)
    (HI0 : ∀ (w0 : World) (a00 : Option Addr) (u00 : Nat), InLL w0 w0.heap.size a00 n0 t0 → Calls Try.prog 21 #[.agg #[.slice a00 n0 u00]] w0 fun e w1 => ∃ (R00 : Option Addr) (d00 : Nat), e = .returned (.tuple #[.slice R00 l00 d00, .bool r1]) ∧ OwnL w1 w0.heap.size w1.heap.size R00 l00 d00 y00 ∧ Below w0.heap.size w0 w1) :
    Calls Try.prog 6 #[.agg #[.slice A0 n0 cap0]] w fun e w' => e = .returned (.bool true) ∧ Below w.heap.size w w' := by
  have HS := Lib.hid HS0
  have HI := Lib.hid HI0
  clear HS0 HI0
  have hB := Below.refl w.heap.size w
  have hl_5 : (0 : Int) ≤ 1048576 - ((n0 + totLL t0 : Nat) : Int) := by omega
  go_enter Try.func6, Try.ntmps6
  go_wp2_with fail
  have hb_1 : Below w.heap.size w (w.alloc (.cells #[.slice A0 n0 cap0] 24)) := bnew _ _
  have sz_2 : w.heap.size < (w.alloc (.cells #[.slice A0 n0 cap0] 24)).heap.size := by simp
  have a0_0 : (w.alloc (.cells #[.slice A0 n0 cap0] 24)).cell? ⟨w.heap.size, 0, none⟩ = some (.slice A0 n0 cap0) := by simp
  have a0_l := sz_2
  generalize w.alloc (.cells #[.slice A0 n0 cap0] 24) = w1 at hb_1 a0_0 sz_2 a0_l ⊢
  replace in0 := in0.next hb_1 (by omega)
  replace hB := hB.trans (hb_1.mono hB.size)
  have sz_3 := hb_1.size
  refine (szPolicy_k A0 n0 cap0 _ t0 _ _ in0 (by omega) (by omega) (by omega) (by first | assumption | (unfold maxLen; omega)) (by first | assumption | exact fitsLL_of (by unfold maxLen; omega))).mono ?_
  rintro e w2 ⟨rfl, hb_4⟩
  rw [szv_yes (by omega)]
  replace in0 := in0.next hb_4 (by omega)
  replace a0_0 := cell_next a0_0 hb_4
  replace a0_l := Nat.lt_of_lt_of_le a0_l hb_4.size
  replace hB := hB.trans (hb_4.mono hB.size)
  have sz_6 := hb_4.size
  go_wp2_with fail
  refine (toPolicy_k A0 n0 cap0 _ t0 _ in0 (by omega) h0ok h0eok).mono ?_
  rintro e w3 ⟨g_7, rfl, own_8, hb_9⟩
  replace in0 := in0.next hb_9 (by omega)
  replace a0_0 := cell_next a0_0 hb_9
  replace a0_l := Nat.lt_of_lt_of_le a0_l hb_9.size
  replace hB := hB.trans (hb_9.mono hB.size)
  have sz_10 := hb_9.size
  go_wp2_with fail
  refine (HS.out w3 _ _ own_8.inn).mono ?_
  rintro e w4 ⟨R_12, d_13, rfl, own_14, hb_11⟩
  clear own_8
  replace in0 := in0.next hb_11 (by omega)
  replace a0_0 := cell_next a0_0 hb_11
  replace a0_l := Nat.lt_of_lt_of_le a0_l hb_11.size
  replace hB := hB.trans (hb_11.mono hB.size)
  have sz_15 := hb_11.size
  go_wp2_with fail
  refine (toPolicy_k A0 n0 cap0 _ t0 _ in0 (by omega) h0ok h0eok).mono ?_
  rintro e w5 ⟨g_16, rfl, own_17, hb_18⟩
  replace in0 := in0.next hb_18 (by omega)
  replace a0_0 := cell_next a0_0 hb_18
  replace a0_l := Nat.lt_of_lt_of_le a0_l hb_18.size
  replace own_14 := own_14.next hb_18
  replace hB := hB.trans (hb_18.mono hB.size)
  have sz_19 := hb_18.size
  go_wp2_with fail
  have hb_20 : Below w5.heap.size w5 (w5.alloc (.cells #[.slice (some ⟨g_16, 0, none⟩) n0 n0] 27)) := bnew _ _
  have sz_21 : w5.heap.size < (w5.alloc (.cells #[.slice (some ⟨g_16, 0, none⟩) n0 n0] 27)).heap.size := by simp
  have x0_0 : (w5.alloc (.cells #[.slice (some ⟨g_16, 0, none⟩) n0 n0] 27)).cell? ⟨w5.heap.size, 0, none⟩ = some (.slice (some ⟨g_16, 0, none⟩) n0 n0) := by simp
  have x0_l := sz_21
  generalize w5.alloc (.cells #[.slice (some ⟨g_16, 0, none⟩) n0 n0] 27) = w6 at hb_20 x0_0 sz_21 x0_l ⊢
  replace in0 := in0.next hb_20 (by omega)
  replace a0_0 := cell_next a0_0 hb_20
  replace a0_l := Nat.lt_of_lt_of_le a0_l hb_20.size
  replace own_14 := own_14.next hb_20
  replace own_17 := own_17.next hb_20
  replace hB := hB.trans (hb_20.mono hB.size)
  have sz_22 := hb_20.size
  refine (HI.out w6 _ _ ((own_17.inn).more (by omega))).mono ?_
  rintro e w7 ⟨R_24, d_25, rfl, own_26, hb_23⟩
  replace in0 := in0.next hb_23 (by omega)
  replace a0_0 := cell_next a0_0 hb_23
  replace a0_l := Nat.lt_of_lt_of_le a0_l hb_23.size
  replace own_14 := own_14.next hb_23
  replace own_17 := own_17.next hb_23
  replace x0_0 := cell_next x0_0 hb_23
  replace x0_l := Nat.lt_of_lt_of_le x0_l hb_23.size
  replace hB := hB.trans (hb_23.mono hB.size)
  have sz_27 := hb_23.size
  go_wp2_with fail
  -- if !eqInt64S(g0, w0) || g1 != w1 {
  refine (eqInt64S_k R_24 R_12 l00 d_25 d_13 _ _ y00 _ own_26.inn own_14.inn (by omega) (by omega) (by omega)).mono ?_
  rintro e w8 ⟨rfl, hb_28⟩
  replace in0 := in0.next hb_28 (by omega)
  replace a0_0 := cell_next a0_0 hb_28
  replace a0_l := Nat.lt_of_lt_of_le a0_l hb_28.size
  replace own_14 := own_14.next hb_28
  replace own_17 := own_17.next hb_28
  replace x0_0 := cell_next x0_0 hb_28
  replace x0_l := Nat.lt_of_lt_of_le x0_l hb_28.size
  replace own_26 := own_26.next hb_28
  replace hB := hB.trans (hb_28.mono hB.size)
  have sz_29 := hb_28.size
  go_wp2_with fail
  have HT_30 := Lib.hid (toPolicy_k A0 n0 cap0 _ t0 w8.drew in0.drew (by show _ ≤ w8.heap.size; omega) h0ok h0eok)
  have HE_31 : Hid (∀ w9 g_32, Below w8.drew.heap.size w8.drew w9 → OwnLL w9 w8.drew.heap.size w9.heap.size (some ⟨g_32, 0, none⟩) n0 n0 t0 → Calls Try.prog 13 #[.agg #[.slice (some ⟨g_16, 0, none⟩) n0 n0], .agg #[.slice (some ⟨g_32, 0, none⟩) n0 n0]] w9 fun e w' => e = .returned (.bool true) ∧ Below w9.heap.size w9 w') := fun w9 g_32 hb_34 own_33 => eqPolicy_k (some ⟨g_16, 0, none⟩) (some ⟨g_32, 0, none⟩) n0 n0 n0 _ _ t0 w9 ((own_17.inn).call (by omega) hb_34) own_33.inn (le_call (by omega) hb_34) (Nat.le_refl _) h0ok h0eok
  go_region_held3 (fun w' => w'.cell? ⟨w.heap.size, 0, none⟩ = some (.slice A0 n0 cap0) ∧ w'.cell? ⟨w5.heap.size, 0, none⟩ = some (.slice (some ⟨g_16, 0, none⟩) n0 n0))
    (first | go_keep | exact ⟨cell_on a0_0 hb_34, cell_on x0_0 hb_34⟩ | exact ⟨cell_on2 a0_0 hb_34 hb_36, cell_on2 x0_0 hb_34 hb_36⟩)
    (first | (go_at_call 11; refine HT_30.out.mono ?_; rintro e w9 ⟨g_32, rfl, own_33, hb_34⟩) | (go_at_call 13; refine (HE_31.out _ _ hb_34 own_33).mono ?_; rintro e w10 ⟨rfl, hb_36⟩))
  replace hb_34 := (bstep hb_34)
  replace in0 := in0.next hb_34 (by omega)
  replace a0_0 := cell_next a0_0 hb_34
  replace a0_l := Nat.lt_of_lt_of_le a0_l hb_34.size
  replace own_14 := own_14.next hb_34
  replace own_17 := own_17.next hb_34
  replace x0_0 := cell_next x0_0 hb_34
  replace x0_l := Nat.lt_of_lt_of_le x0_l hb_34.size
  replace own_26 := own_26.next hb_34
  replace hB := hB.trans (hb_34.mono hB.size)
  have sz_37 := hb_34.size
  replace in0 := in0.next hb_36 (by omega)
  replace a0_0 := cell_next a0_0 hb_36
  replace a0_l := Nat.lt_of_lt_of_le a0_l hb_36.size
  replace own_14 := own_14.next hb_36
  replace own_17 := own_17.next hb_36
  replace x0_0 := cell_next x0_0 hb_36
  replace x0_l := Nat.lt_of_lt_of_le x0_l hb_36.size
  replace own_26 := own_26.next hb_36
  replace hB := hB.trans (hb_36.mono hB.size)
  have sz_38 := hb_36.size
  clear HT_30 HE_31 own_33
  go_wp2_with fail
  refine (markPolicy_k w4.heap.size w5.heap.size (some ⟨g_16, 0, none⟩) n0 n0 t0 1 _ own_17 (by omega) (by omega) (by omega) (by omega)).mono ?_
  rintro e w11 ⟨rfl, own_40, ho_39⟩
  replace in0 := in0.out ho_39 (by omega) (by omega)
  replace a0_0 := ho_39.cell a0_0 (by omega)
  replace a0_l := Nat.lt_of_lt_of_le a0_l ho_39.size
  replace own_14 := own_14.out ho_39 (by omega)
  replace x0_0 := ho_39.cell x0_0 (by omega)
  replace x0_l := Nat.lt_of_lt_of_le x0_l ho_39.size
  replace own_26 := own_26.out ho_39 (by omega)
  replace hB := hB.trans (ho_39.below (by omega) (by omega))
  have sz_41 := ho_39.size
  clear own_17
  clear x0_0 x0_l
  clear own_40
  go_wp2_with fail
  -- if k < 0 || !eqInt64S(g0, w0) || g1 != w1 {
  refine (eqInt64S_k R_24 R_12 l00 d_25 d_13 _ _ y00 _ own_26.inn own_14.inn (by omega) (by omega) (by omega)).mono ?_
  rintro e w12 ⟨rfl, hb_42⟩
  replace in0 := in0.next hb_42 (by omega)
  replace a0_0 := cell_next a0_0 hb_42
  replace a0_l := Nat.lt_of_lt_of_le a0_l hb_42.size
  replace own_14 := own_14.next hb_42
  replace own_26 := own_26.next hb_42
  replace hB := hB.trans (hb_42.mono hB.size)
  have sz_43 := hb_42.size
  go_wp2_with fail
  refine (markInt64S_k w6.heap.size w7.heap.size R_24 l00 d_25 y00 1 _ own_26 (by omega) (by omega) (by omega)).mono ?_
  rintro e w13 ⟨rfl, own_45, ho_44⟩
  replace in0 := in0.out ho_44 (by omega) (by omega)
  replace a0_0 := ho_44.cell a0_0 (by omega)
  replace a0_l := Nat.lt_of_lt_of_le a0_l ho_44.size
  replace own_14 := own_14.out ho_44 (by omega)
  replace hB := hB.trans (ho_44.below (by omega) (by omega))
  have sz_46 := ho_44.size
  clear own_26
  go_wp2_with fail
  refine (heldInt64S_k R_24 l00 d_25 _ 1 _ own_45.inn (by omega) (by omega) (by omega)).mono ?_
  rintro e w14 ⟨rfl, hb_47⟩
  replace in0 := in0.next hb_47 (by omega)
  replace a0_0 := cell_next a0_0 hb_47
  replace a0_l := Nat.lt_of_lt_of_le a0_l hb_47.size
  replace own_14 := own_14.next hb_47
  replace own_45 := own_45.next hb_47
  replace hB := hB.trans (hb_47.mono hB.size)
  have sz_48 := hb_47.size
  go_wp2_with fail
  refine (toPolicy_k A0 n0 cap0 _ t0 _ in0 (by omega) h0ok h0eok).mono ?_
  rintro e w15 ⟨g_49, rfl, own_50, hb_51⟩
  replace in0 := in0.next hb_51 (by omega)
  replace a0_0 := cell_next a0_0 hb_51
  replace a0_l := Nat.lt_of_lt_of_le a0_l hb_51.size
  replace own_14 := own_14.next hb_51
  replace own_45 := own_45.next hb_51
  replace hB := hB.trans (hb_51.mono hB.size)
  have sz_52 := hb_51.size
  go_wp2_with fail
  refine (HI.out w15 _ _ own_50.inn).mono ?_
  rintro e w16 ⟨R_54, d_55, rfl, own_56, hb_53⟩
  clear own_50
  replace in0 := in0.next hb_53 (by omega)
  replace a0_0 := cell_next a0_0 hb_53
  replace a0_l := Nat.lt_of_lt_of_le a0_l hb_53.size
  replace own_14 := own_14.next hb_53
  replace own_45 := own_45.next hb_53
  replace hB := hB.trans (hb_53.mono hB.size)
  have sz_57 := hb_53.size
  go_wp2_with fail
  -- if !eqInt64S(h0, w0) || h1 != w1 {
  refine (eqInt64S_k R_54 R_12 l00 d_55 d_13 _ _ y00 _ own_56.inn own_14.inn (by omega) (by omega) (by omega)).mono ?_
  rintro e w17 ⟨rfl, hb_58⟩
  replace in0 := in0.next hb_58 (by omega)
  replace a0_0 := cell_next a0_0 hb_58
  replace a0_l := Nat.lt_of_lt_of_le a0_l hb_58.size
  replace own_14 := own_14.next hb_58
  replace own_45 := own_45.next hb_58
  replace own_56 := own_56.next hb_58
  replace hB := hB.trans (hb_58.mono hB.size)
  have sz_59 := hb_58.size
  go_wp2_with fail
  clear own_56
  refine (heldInt64S_k R_24 l00 d_25 _ 1 _ own_45.inn (by omega) (by omega) (by omega)).mono ?_
  rintro e w18 ⟨rfl, hb_60⟩
  replace in0 := in0.next hb_60 (by omega)
  replace a0_0 := cell_next a0_0 hb_60
  replace a0_l := Nat.lt_of_lt_of_le a0_l hb_60.size
  replace own_14 := own_14.next hb_60
  replace own_45 := own_45.next hb_60
  replace hB := hB.trans (hb_60.mono hB.size)
  have sz_61 := hb_60.size
  go_wp2_with fail
  go_ret
  exact ⟨rfl, hB⟩

set_option maxRecDepth 100000 in
set_option maxHeartbeats 4000000 in
theorem walk (A0 : Option Addr) (n0 cap0 : Nat) (t0 : List (List Int)) (w : World) (h0in : InLL w w.heap.size A0 n0 t0) (h0max : n0 ≤ maxLen) (h0each : ∀ y ∈ t0, y.length ≤ maxLen) :
    Calls Try.prog 6 #[.agg #[.slice A0 n0 cap0]] w fun e w' => e = .returned (.bool true) ∧ Below w.heap.size w w' := by
  by_cases hn : n0 + totLL t0 ≤ 1048576
  · have hk := reachR_len t0
    exact road A0 n0 cap0 t0 w h0in (by omega) (by omega) (by omega) (reachR t0).1 (reachR t0).1.length (reachR t0).2 (by omega)
      (fun w0 a b h => specReached_c a n0 b w0.heap.size t0 w0 h (Nat.le_refl _) (by omega))
      (fun w0 a b h => implReached_c a n0 b w0.heap.size t0 w0 h (Nat.le_refl _) (by omega) (fun x hx => Nat.le_trans (totLL_mem hx) (by omega)))
  · exact early0 A0 n0 cap0 t0 w h0in (by omega) h0max h0each

set_option maxRecDepth 100000 in
set_option maxHeartbeats 4000000 in
theorem lifted (os : Os) (started : os.Started) (H : Type) (enc : TypeId × Value → H) :
    ReturnsInHanded {} Try.checked os 6 .any (Rows.fnExactReachedStatesSpec.pre6 enc Try.prog Try.f6 Rows.fnExactReachedStatesRow.domain false) (Rows.fnExactReachedStatesSpec.post enc Try.prog Try.f6 false true false false) := by
  refine returnsInHanded_of_change (C := Try.checked) own started (by kernel_rfl) Try.func6
    (ChangeSpec.witness6 (enc := enc) (C := Try.checked) false ⟨#[], #[.agg #[.slice none 0 0]], []⟩ 8 (by kernel_rfl) (by kernel_rfl) (by kernel_rfl) (by kernel_rfl)) ?_
  intro W base args ds gs before hval0 hW hcnd _
  have hval : ∀ (j : Nat) t v, Try.f6.params[j]? = some t → args[j]? = some v → Value.okWide Try.prog W .any base t v := hval0
  have hW' := hW
  obtain ⟨p, q, hA0, hV, rfl, hfz, hnd⟩ := hW
  have hA : DataW.TrodAll enc Try.prog W 0 (fun _ => true) true Try.f6.params.toList args.toList ds p := hA0
  rw [Try.params6] at hA hval
  obtain ⟨v0, vs0, d0, ds0, p0, q0, hargs, rfl, rfl, g0, r0⟩ := trodAll_cons hA
  obtain ⟨rfl, rfl, rfl⟩ := trodAll_nil r0
  obtain rfl : args = #[v0] := by cases args; simp_all
  obtain ⟨rfl, rfl⟩ := trodVars_none hV
  have k0 := g0
  have lt0 : ∀ x ∈ p0, x.block < W.heap.size := by obtain ⟨m, hm⟩ := k0; exact DataW.trod_lt m _ _ _ hm
  obtain ⟨A0, n0, cap0, t0, rfl, h0max, h0in, h0each⟩ := policy_in (hval 0 24 v0 rfl rfl) g0
  clear hA0 hval0
  simp only [List.append_nil] at hW'
  refine (walk A0 n0 cap0 t0 W h0in h0max h0each).mono fun e W' ⟨he, bel⟩ => ?_
  subst he
  exact ⟨_, rfl, _, _, _, [], _, [], hW', trodAll_mk1 (shut_bool Try.underlying4 _), (trodAll_cons_mk (Below.trod laidOut (by kernel_rfl) (of_decide_eq_true (by kernel_rfl)) k0 bel lt0) trodAll_mk0), rfl, bel.frame _, fun h => by cases h⟩

theorem over : Rows.fnExactReachedStatesRow.holds Try.pinned (OpenSpec.ofChange Rows.fnExactReachedStatesSpec) :=
  OpenClaim.holds_of_wide 6 Try.f6 rfl rfl rfl rfl rfl rfl rfl ⟨rfl, rfl, rfl, rfl, rfl⟩ rfl rfl rfl rfl rfl (by kernel_rfl) Try.func6 (by kernel_rfl)
    (of_decide_eq_true (by kernel_rfl)) (by unfold Func.isWrapper; first | (rw [if_pos (by decide +kernel)]; kernel_rfl) | (rw [if_neg (by decide +kernel)]; exact ⟨rfl, rfl⟩))
    (fun os started H enc _ => lifted os started H enc)

/-- The statement. -/
theorem proved : Rows.FnExactReachedStatesSaid := over
#print axioms proved
end Go.Proofs.Ytclenhnbgfcjjaa.fnExactReachedStates
