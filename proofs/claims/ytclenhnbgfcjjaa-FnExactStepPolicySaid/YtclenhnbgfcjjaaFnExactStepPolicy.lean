/-
  For every policy, state and event the program's StepPolicy answers as the model's, and leaves the policy as it was.
  Conditions: none but those that the statement itself bears.
-/
import Derived.Test.YtclenhnbgfcjjaaRows
import Derived.WalkKit
import Derived.ProofKit
import Derived.OpenShut
import Derived.ShutString
import Derived.ChangeOld
import Derived.Below
import Derived.WalkSmall
import Derived.Test.YtclenhnbgfcjjaaTms
import Derived.Test.YtclenhnbgfcjjaaPolS
namespace Go.Proofs.Ytclenhnbgfcjjaa.fnExactStepPolicy
open Go.ChangeShapes Go.WideShapes Go.ChangeAt Go.RowKit
open Go.ChangeMaps (open_string shut_string)
set_option linter.unusedVariables false

theorem own : ownKnob Try.prog.godebug = none := by kernel_rfl
theorem laidOut : laidOutB Try.prog = true := by kernel_rfl
set_option maxRecDepth 100000 in
set_option maxHeartbeats 8000000 in
theorem early0 (A0 : Option Addr) (n0 cap0 : Nat) (t0 : List (List Int)) (i1 : Int) (i2 : Int) (w : World) (in0 : InLL w w.heap.size A0 n0 t0) (q0 : 1048576 < (n0 + totLL t0)) (vn0 : n0 ≤ maxLen) (en0 : ∀ x ∈ t0, x.length ≤ maxLen) :
    Calls Try.prog 4 #[.agg #[.slice A0 n0 cap0], .int .i64 i1, .int .i64 i2] w fun e w' => e = .returned (.bool true) ∧ Below w.heap.size w w' := by
  have hB := Below.refl w.heap.size w
  go_enter Try.func4, Try.ntmps4
  go_wp2_with fail
  have hb_1 : Below w.heap.size w (w.alloc (.cells #[.slice A0 n0 cap0] 24)) := bnew _ _
  have sz_2 : w.heap.size < (w.alloc (.cells #[.slice A0 n0 cap0] 24)).heap.size := by simp
  have a0_0 : (w.alloc (.cells #[.slice A0 n0 cap0] 24)).cell? ⟨w.heap.size, 0, none⟩ = some (.slice A0 n0 cap0) := by simp
  have a0_l := sz_2
  generalize w.alloc (.cells #[.slice A0 n0 cap0] 24) = w1 at hb_1 a0_0 sz_2 a0_l ⊢
  replace in0 := in0.next hb_1 (by omega)
  replace hB := hB.trans (hb_1.mono hB.size)
  have sz_3 := hb_1.size
  refine (szPolicy_k A0 n0 cap0 _ t0 _ _ in0 (by omega) (by omega) (by omega) (by first | assumption | (unfold maxLen; omega)) (by first | assumption | exact fitsLL_of (by unfold maxLen; omega))).mono ?_
  rintro e w2 ⟨rfl, hb_4⟩
  rw [szv_no (by omega)]
  replace in0 := in0.next hb_4 (by omega)
  replace a0_0 := cell_next a0_0 hb_4
  replace a0_l := Nat.lt_of_lt_of_le a0_l hb_4.size
  replace hB := hB.trans (hb_4.mono hB.size)
  have sz_5 := hb_4.size
  go_wp2_with fail
  go_ret
  exact ⟨rfl, hB⟩

set_option maxRecDepth 100000 in
set_option maxHeartbeats 8000000 in
theorem road (A0 : Option Addr) (n0 cap0 : Nat) (t0 : List (List Int)) (i1 : Int) (i2 : Int) (w : World) (in0 : InLL w w.heap.size A0 n0 t0) (h0ok : n0 ≤ 1048576) (h0eok : totLL t0 ≤ 1048576) (h0sum : n0 + totLL t0 ≤ 1048576) (r0 : Int) (r1 : Bool) 
    (HS0 : ∀ (w0 : World) (a00 : Option Addr) (u00 : Nat), InLL w0 w0.heap.size a00 n0 t0 → Calls Try.prog 14 #[.agg #[.slice a00 n0 u00], .int .i64 i1, .int .i64 i2] w0 fun e w1 => e = .returned (.tuple #[.int .i64 r0, .bool r1]) ∧ Below w0.heap.size w0 w1)
    (HI0 : ∀ (w0 : World) (a00 : Option Addr) (u00 : Nat), InLL w0 w0.heap.size a00 n0 t0 → Calls Try.prog 15 #[.agg #[.slice a00 n0 u00], .int .i64 i1, .int .i64 i2] w0 fun e w1 => e = .returned (.tuple #[.int .i64 r0, .bool r1]) ∧ Below w0.heap.size w0 w1) :
    Calls Try.prog 4 #[.agg #[.slice A0 n0 cap0], .int .i64 i1, .int .i64 i2] w fun e w' => e = .returned (.bool true) ∧ Below w.heap.size w w' := by
  have HS := Lib.hid HS0
  have HI := Lib.hid HI0
  clear HS0 HI0
  have hB := Below.refl w.heap.size w
  have hl_5 : (0 : Int) ≤ 1048576 - ((n0 + totLL t0 : Nat) : Int) := by omega
  go_enter Try.func4, Try.ntmps4
  go_wp2_with fail
  have hb_1 : Below w.heap.size w (w.alloc (.cells #[.slice A0 n0 cap0] 24)) := bnew _ _
  have sz_2 : w.heap.size < (w.alloc (.cells #[.slice A0 n0 cap0] 24)).heap.size := by simp
  have a0_0 : (w.alloc (.cells #[.slice A0 n0 cap0] 24)).cell? ⟨w.heap.size, 0, none⟩ = some (.slice A0 n0 cap0) := by simp
  have a0_l := sz_2
  generalize w.alloc (.cells #[.slice A0 n0 cap0] 24) = w1 at hb_1 a0_0 sz_2 a0_l ⊢
  replace in0 := in0.next hb_1 (by omega)
  replace hB := hB.trans (hb_1.mono hB.size)
  have sz_3 := hb_1.size
  refine (szPolicy_k A0 n0 cap0 _ t0 _ _ in0 (by omega) (by omega) (by omega) (by first | assumption | (unfold maxLen; omega)) (by first | assumption | exact fitsLL_of (by unfold maxLen; omega))).mono ?_
  rintro e w2 ⟨rfl, hb_4⟩
  rw [szv_yes (by omega)]
  replace in0 := in0.next hb_4 (by omega)
  replace a0_0 := cell_next a0_0 hb_4
  replace a0_l := Nat.lt_of_lt_of_le a0_l hb_4.size
  replace hB := hB.trans (hb_4.mono hB.size)
  have sz_6 := hb_4.size
  go_wp2_with fail
  refine (toPolicy_k A0 n0 cap0 _ t0 _ in0 (by omega) h0ok h0eok).mono ?_
  rintro e w3 ⟨g_7, rfl, own_8, hb_9⟩
  replace in0 := in0.next hb_9 (by omega)
  replace a0_0 := cell_next a0_0 hb_9
  replace a0_l := Nat.lt_of_lt_of_le a0_l hb_9.size
  replace hB := hB.trans (hb_9.mono hB.size)
  have sz_10 := hb_9.size
  go_wp2_with fail
  refine (HS.out w3 _ _ own_8.inn).mono ?_
  rintro e w4 ⟨rfl, hb_11⟩
  clear own_8
  replace in0 := in0.next hb_11 (by omega)
  replace a0_0 := cell_next a0_0 hb_11
  replace a0_l := Nat.lt_of_lt_of_le a0_l hb_11.size
  replace hB := hB.trans (hb_11.mono hB.size)
  have sz_12 := hb_11.size
  go_wp2_with fail
  refine (toPolicy_k A0 n0 cap0 _ t0 _ in0 (by omega) h0ok h0eok).mono ?_
  rintro e w5 ⟨g_13, rfl, own_14, hb_15⟩
  replace in0 := in0.next hb_15 (by omega)
  replace a0_0 := cell_next a0_0 hb_15
  replace a0_l := Nat.lt_of_lt_of_le a0_l hb_15.size
  replace hB := hB.trans (hb_15.mono hB.size)
  have sz_16 := hb_15.size
  go_wp2_with fail
  have hb_17 : Below w5.heap.size w5 (w5.alloc (.cells #[.slice (some ⟨g_13, 0, none⟩) n0 n0] 27)) := bnew _ _
  have sz_18 : w5.heap.size < (w5.alloc (.cells #[.slice (some ⟨g_13, 0, none⟩) n0 n0] 27)).heap.size := by simp
  have x0_0 : (w5.alloc (.cells #[.slice (some ⟨g_13, 0, none⟩) n0 n0] 27)).cell? ⟨w5.heap.size, 0, none⟩ = some (.slice (some ⟨g_13, 0, none⟩) n0 n0) := by simp
  have x0_l := sz_18
  generalize w5.alloc (.cells #[.slice (some ⟨g_13, 0, none⟩) n0 n0] 27) = w6 at hb_17 x0_0 sz_18 x0_l ⊢
  replace in0 := in0.next hb_17 (by omega)
  replace a0_0 := cell_next a0_0 hb_17
  replace a0_l := Nat.lt_of_lt_of_le a0_l hb_17.size
  replace own_14 := own_14.next hb_17
  replace hB := hB.trans (hb_17.mono hB.size)
  have sz_19 := hb_17.size
  refine (HI.out w6 _ _ ((own_14.inn).more (by omega))).mono ?_
  rintro e w7 ⟨rfl, hb_20⟩
  replace in0 := in0.next hb_20 (by omega)
  replace a0_0 := cell_next a0_0 hb_20
  replace a0_l := Nat.lt_of_lt_of_le a0_l hb_20.size
  replace own_14 := own_14.next hb_20
  replace x0_0 := cell_next x0_0 hb_20
  replace x0_l := Nat.lt_of_lt_of_le x0_l hb_20.size
  replace hB := hB.trans (hb_20.mono hB.size)
  have sz_21 := hb_20.size
  go_wp2_with fail
  -- if g0 != w0 || g1 != w1 {
  have HT_22 := Lib.hid (toPolicy_k A0 n0 cap0 _ t0 w7.drew in0.drew (by show _ ≤ w7.heap.size; omega) h0ok h0eok)
  have HE_23 : Hid (∀ w8 g_24, Below w7.drew.heap.size w7.drew w8 → OwnLL w8 w7.drew.heap.size w8.heap.size (some ⟨g_24, 0, none⟩) n0 n0 t0 → Calls Try.prog 13 #[.agg #[.slice (some ⟨g_13, 0, none⟩) n0 n0], .agg #[.slice (some ⟨g_24, 0, none⟩) n0 n0]] w8 fun e w' => e = .returned (.bool true) ∧ Below w8.heap.size w8 w') := fun w8 g_24 hb_26 own_25 => eqPolicy_k (some ⟨g_13, 0, none⟩) (some ⟨g_24, 0, none⟩) n0 n0 n0 _ _ t0 w8 ((own_14.inn).call (by omega) hb_26) own_25.inn (le_call (by omega) hb_26) (Nat.le_refl _) h0ok h0eok
  go_region_held3 (fun w' => w'.cell? ⟨w.heap.size, 0, none⟩ = some (.slice A0 n0 cap0) ∧ w'.cell? ⟨w5.heap.size, 0, none⟩ = some (.slice (some ⟨g_13, 0, none⟩) n0 n0))
    (first | go_keep | exact ⟨cell_on a0_0 hb_26, cell_on x0_0 hb_26⟩ | exact ⟨cell_on2 a0_0 hb_26 hb_28, cell_on2 x0_0 hb_26 hb_28⟩)
    (first | (go_at_call 11; refine HT_22.out.mono ?_; rintro e w8 ⟨g_24, rfl, own_25, hb_26⟩) | (go_at_call 13; refine (HE_23.out _ _ hb_26 own_25).mono ?_; rintro e w9 ⟨rfl, hb_28⟩))
  replace hb_26 := (bstep hb_26)
  replace in0 := in0.next hb_26 (by omega)
  replace a0_0 := cell_next a0_0 hb_26
  replace a0_l := Nat.lt_of_lt_of_le a0_l hb_26.size
  replace own_14 := own_14.next hb_26
  replace x0_0 := cell_next x0_0 hb_26
  replace x0_l := Nat.lt_of_lt_of_le x0_l hb_26.size
  replace hB := hB.trans (hb_26.mono hB.size)
  have sz_29 := hb_26.size
  replace in0 := in0.next hb_28 (by omega)
  replace a0_0 := cell_next a0_0 hb_28
  replace a0_l := Nat.lt_of_lt_of_le a0_l hb_28.size
  replace own_14 := own_14.next hb_28
  replace x0_0 := cell_next x0_0 hb_28
  replace x0_l := Nat.lt_of_lt_of_le x0_l hb_28.size
  replace hB := hB.trans (hb_28.mono hB.size)
  have sz_30 := hb_28.size
  clear HT_22 HE_23 own_25
  go_wp2_with fail
  go_ret
  exact ⟨rfl, hB⟩

set_option maxRecDepth 100000 in
set_option maxHeartbeats 4000000 in
theorem walk (A0 : Option Addr) (n0 cap0 : Nat) (t0 : List (List Int)) (i1 : Int) (i2 : Int) (w : World) (h0in : InLL w w.heap.size A0 n0 t0) (h0max : n0 ≤ maxLen) (h0each : ∀ y ∈ t0, y.length ≤ maxLen) (h1wf : (Lit.int .i64 i1).wf = true) (h2wf : (Lit.int .i64 i2).wf = true) :
    Calls Try.prog 4 #[.agg #[.slice A0 n0 cap0], .int .i64 i1, .int .i64 i2] w fun e w' => e = .returned (.bool true) ∧ Below w.heap.size w w' := by
  by_cases hn : n0 + totLL t0 ≤ 1048576
  · exact road A0 n0 cap0 t0 i1 i2 w h0in (by omega) (by omega) (by omega) (stepPR t0 i1 i2).1 (stepPR t0 i1 i2).2
      (fun w0 a00 u00 h => specStepP_c a00 n0 u00 _ t0 i1 i2 w0 h (Nat.le_refl _) (by omega))
      (fun w0 a00 u00 h => implStepP_c a00 n0 u00 _ t0 i1 i2 w0 h (Nat.le_refl _) (by omega) (fun x hx => Nat.le_trans (totLL_mem hx) (by omega)))
  · exact early0 A0 n0 cap0 t0 i1 i2 w h0in (by omega) h0max h0each

set_option maxRecDepth 100000 in
set_option maxHeartbeats 4000000 in
theorem lifted (os : Os) (started : os.Started) (H : Type) (enc : TypeId × Value → H) :
    ReturnsInHanded {} Try.checked os 4 .any (Rows.fnExactStepPolicySpec.pre6 enc Try.prog Try.f4 Rows.fnExactStepPolicyRow.domain false) (Rows.fnExactStepPolicySpec.post enc Try.prog Try.f4 false true false false) := by
  refine returnsInHanded_of_change (C := Try.checked) own started (by kernel_rfl) Try.func4
    (ChangeSpec.witness6 (enc := enc) (C := Try.checked) false ⟨#[], #[.agg #[.slice none 0 0], .int .i64 0, .int .i64 0], []⟩ 8 (by kernel_rfl) (by kernel_rfl) (by kernel_rfl) (by kernel_rfl)) ?_
  intro W base args ds gs before hval0 hW hcnd _
  have hval : ∀ (j : Nat) t v, Try.f4.params[j]? = some t → args[j]? = some v → Value.okWide Try.prog W .any base t v := hval0
  have hW' := hW
  obtain ⟨p, q, hA0, hV, rfl, hfz, hnd⟩ := hW
  have hA : DataW.TrodAll enc Try.prog W 0 (fun _ => true) true Try.f4.params.toList args.toList ds p := hA0
  rw [Try.params4] at hA hval
  obtain ⟨v0, vs0, d0, ds0, p0, q0, hargs, rfl, rfl, g0, r0⟩ := trodAll_cons hA
  obtain ⟨v1, vs1, d1, ds1, p1, q1, rfl, rfl, rfl, g1, r1⟩ := trodAll_cons r0
  obtain ⟨v2, vs2, d2, ds2, p2, q2, rfl, rfl, rfl, g2, r2⟩ := trodAll_cons r1
  obtain ⟨rfl, rfl, rfl⟩ := trodAll_nil r2
  obtain rfl : args = #[v0, v1, v2] := by cases args; simp_all
  obtain ⟨rfl, rfl⟩ := trodVars_none hV
  have k0 := g0
  have lt0 : ∀ x ∈ p0, x.block < W.heap.size := by obtain ⟨m, hm⟩ := k0; exact DataW.trod_lt m _ _ _ hm
  obtain ⟨A0, n0, cap0, t0, rfl, h0max, h0in, h0each⟩ := policy_in (hval 0 24 v0 rfl rfl) g0
  obtain ⟨i1, rfl, rfl, rfl, h1wf⟩ := open_int Try.underlying2 (hval 1 2 v1 rfl rfl) g1
  obtain ⟨i2, rfl, rfl, rfl, h2wf⟩ := open_int Try.underlying2 (hval 2 2 v2 rfl rfl) g2
  clear hA0 hval0
  simp only [List.append_nil] at hW'
  refine (walk A0 n0 cap0 t0 i1 i2 W h0in h0max h0each h1wf h2wf).mono fun e W' ⟨he, bel⟩ => ?_
  subst he
  exact ⟨_, rfl, _, _, _, [], _, [], hW', trodAll_mk1 (shut_bool Try.underlying4 _), (trodAll_cons_mk (Below.trod laidOut (by kernel_rfl) (of_decide_eq_true (by kernel_rfl)) k0 bel lt0) (trodAll_cons_mk (shut_int Try.underlying2 h1wf) (trodAll_cons_mk (shut_int Try.underlying2 h2wf) trodAll_mk0))), rfl, bel.frame _, fun h => by cases h⟩

theorem over : Rows.fnExactStepPolicyRow.holds Try.pinned (OpenSpec.ofChange Rows.fnExactStepPolicySpec) :=
  OpenClaim.holds_of_wide 4 Try.f4 rfl rfl rfl rfl rfl rfl rfl ⟨rfl, rfl, rfl, rfl, rfl⟩ rfl rfl rfl rfl rfl (by kernel_rfl) Try.func4 (by kernel_rfl)
    (of_decide_eq_true (by kernel_rfl)) (by unfold Func.isWrapper; first | (rw [if_pos (by decide +kernel)]; kernel_rfl) | (rw [if_neg (by decide +kernel)]; exact ⟨rfl, rfl⟩))
    (fun os started H enc _ => lifted os started H enc)

/-- The statement. -/
theorem proved : Rows.FnExactStepPolicySaid := over
#print axioms proved
end Go.Proofs.Ytclenhnbgfcjjaa.fnExactStepPolicy
