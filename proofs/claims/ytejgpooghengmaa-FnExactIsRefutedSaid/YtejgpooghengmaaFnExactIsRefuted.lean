/-
  For every list of terms and multipliers the program's IsRefuted answers as the model's, and leaves both as they were.
  Conditions: none but those that the statement itself bears.
-/
import Derived.Test.YtejgpooghengmaaRows
import Derived.WalkKit
import Derived.ProofKit
import Derived.OpenShut
import Derived.ShutString
import Derived.ChangeOld
import Derived.Below
import Derived.WalkSmall
import Derived.Test.YtejgpooghengmaaTms
import Derived.Test.YtejgpooghengmaaTermK
import Derived.Test.YtejgpooghengmaaRefut
namespace Go.Proofs.Ytejgpooghengmaa.fnExactIsRefuted
open Go.ChangeShapes Go.WideShapes Go.ChangeAt Go.RowKit
open Go.ChangeMaps (open_string shut_string)
set_option linter.unusedVariables false

theorem own : ownKnob Try.prog.godebug = none := by kernel_rfl
theorem laidOut : laidOutB Try.prog = true := by kernel_rfl
set_option maxRecDepth 100000 in
set_option maxHeartbeats 8000000 in
theorem early0 (A0 : Option Addr) (n0 cap0 : Nat) (t0 : List (Int × List Int)) (A1 : Option Addr) (n1 cap1 : Nat) (z1 : List Int) (w : World) (in0 : InTS w w.heap.size A0 n0 t0) (in1 : InL w w.heap.size A1 n1 z1) (q0 : 1048576 < n1) (vn1 : n1 ≤ maxLen) (vn0 : n0 ≤ maxLen) (en0 : ∀ t ∈ t0, t.2.length ≤ maxLen) :
    Calls Try.prog 3 #[.slice A0 n0 cap0, .slice A1 n1 cap1] w fun e w' => e = .returned (.bool true) ∧ Below w.heap.size w w' := by
  have hB := Below.refl w.heap.size w
  go_enter Try.func3, Try.ntmps3
  go_wp2_with fail
  go_ret
  exact ⟨rfl, hB⟩

set_option maxRecDepth 100000 in
set_option maxHeartbeats 8000000 in
theorem early1 (A0 : Option Addr) (n0 cap0 : Nat) (t0 : List (Int × List Int)) (A1 : Option Addr) (n1 cap1 : Nat) (z1 : List Int) (w : World) (in0 : InTS w w.heap.size A0 n0 t0) (in1 : InL w w.heap.size A1 n1 z1) (q0 : n1 ≤ 1048576) (q1 : 1048576 < (n0 + totT t0)) (vn1 : n1 ≤ maxLen) (vn0 : n0 ≤ maxLen) (en0 : ∀ t ∈ t0, t.2.length ≤ maxLen) :
    Calls Try.prog 3 #[.slice A0 n0 cap0, .slice A1 n1 cap1] w fun e w' => e = .returned (.bool true) ∧ Below w.heap.size w w' := by
  have hB := Below.refl w.heap.size w
  go_enter Try.func3, Try.ntmps3
  go_wp2_with fail
  refine (szTermS_k A0 n0 cap0 _ t0 _ _ in0 (by omega) (by omega) (by omega) (by first | assumption | (unfold maxLen; omega)) (by first | assumption | exact each_of (by omega))).mono ?_
  rintro e w1 ⟨rfl, hb_1⟩
  rw [szv_no (by omega)]
  replace in0 := in0.next hb_1 (by omega)
  replace in1 := in1.next hb_1 (by omega)
  replace hB := hB.trans (hb_1.mono hB.size)
  have sz_2 := hb_1.size
  go_wp2_with fail
  go_ret
  exact ⟨rfl, hB⟩

set_option maxRecDepth 100000 in
set_option maxHeartbeats 8000000 in
theorem road (A0 : Option Addr) (n0 cap0 : Nat) (t0 : List (Int × List Int)) (A1 : Option Addr) (n1 cap1 : Nat) (z1 : List Int) (w : World) (in0 : InTS w w.heap.size A0 n0 t0) (h0ok : n0 ≤ 1048576) (h0eok : totT t0 ≤ 1048576) (h0sum : n0 + totT t0 ≤ 1048576) (in1 : InL w w.heap.size A1 n1 z1) (h1ok : n1 ≤ 1048576) (r0 : Bool) 
    (HS0 : ∀ (w0 : World) (a00 : Option Addr) (u00 : Nat) (a10 : Option Addr) (u10 : Nat), InTS w0 w0.heap.size a00 n0 t0 → InL w0 w0.heap.size a10 n1 z1 → Calls Try.prog 5 #[.slice a00 n0 u00, .slice a10 n1 u10] w0 fun e w1 => e = .returned (.bool r0) ∧ Below w0.heap.size w0 w1)
    (HI0 : ∀ (w0 : World) (a00 : Option Addr) (u00 : Nat) (a10 : Option Addr) (u10 : Nat), InTS w0 w0.heap.size a00 n0 t0 → InL w0 w0.heap.size a10 n1 z1 → Calls Try.prog 8 #[.slice a00 n0 u00, .slice a10 n1 u10] w0 fun e w1 => e = .returned (.bool r0) ∧ Below w0.heap.size w0 w1) :
    Calls Try.prog 3 #[.slice A0 n0 cap0, .slice A1 n1 cap1] w fun e w' => e = .returned (.bool true) ∧ Below w.heap.size w w' := by
  have HS := Lib.hid HS0
  have HI := Lib.hid HI0
  clear HS0 HI0
  have hB := Below.refl w.heap.size w
  have hl_2 : (0 : Int) ≤ 1048576 - ((n0 + totT t0 : Nat) : Int) := by omega
  go_enter Try.func3, Try.ntmps3
  go_wp2_with fail
  refine (szTermS_k A0 n0 cap0 _ t0 _ _ in0 (by omega) (by omega) (by omega) (by first | assumption | (unfold maxLen; omega)) (by first | assumption | exact each_of (by omega))).mono ?_
  rintro e w1 ⟨rfl, hb_1⟩
  rw [szv_yes (by omega)]
  replace in0 := in0.next hb_1 (by omega)
  replace in1 := in1.next hb_1 (by omega)
  replace hB := hB.trans (hb_1.mono hB.size)
  have sz_3 := hb_1.size
  go_wp2_with fail
  refine (toTermS_k A0 n0 cap0 _ t0 _ in0 (by omega) h0ok h0eok).mono ?_
  rintro e w2 ⟨g_4, rfl, own_5, hb_6⟩
  replace in0 := in0.next hb_6 (by omega)
  replace in1 := in1.next hb_6 (by omega)
  replace hB := hB.trans (hb_6.mono hB.size)
  have sz_7 := hb_6.size
  go_wp2_with fail
  refine (toInt64S_k A1 n1 cap1 _ z1 _ in1 (by omega) h1ok).mono ?_
  rintro e w3 ⟨g_8, rfl, own_9, hb_10⟩
  replace in0 := in0.next hb_10 (by omega)
  replace in1 := in1.next hb_10 (by omega)
  replace own_5 := own_5.next hb_10
  replace hB := hB.trans (hb_10.mono hB.size)
  have sz_11 := hb_10.size
  go_wp2_with fail
  refine (HS.out w3 _ _ _ _ ((own_5.inn).more (by omega)) ((own_9.inn).more (by omega))).mono ?_
  rintro e w4 ⟨rfl, hb_12⟩
  clear own_5
  clear own_9
  replace in0 := in0.next hb_12 (by omega)
  replace in1 := in1.next hb_12 (by omega)
  replace hB := hB.trans (hb_12.mono hB.size)
  have sz_13 := hb_12.size
  go_wp2_with fail
  refine (toTermS_k A0 n0 cap0 _ t0 _ in0 (by omega) h0ok h0eok).mono ?_
  rintro e w5 ⟨g_14, rfl, own_15, hb_16⟩
  replace in0 := in0.next hb_16 (by omega)
  replace in1 := in1.next hb_16 (by omega)
  replace hB := hB.trans (hb_16.mono hB.size)
  have sz_17 := hb_16.size
  go_wp2_with fail
  refine (toInt64S_k A1 n1 cap1 _ z1 _ in1 (by omega) h1ok).mono ?_
  rintro e w6 ⟨g_18, rfl, own_19, hb_20⟩
  replace in0 := in0.next hb_20 (by omega)
  replace in1 := in1.next hb_20 (by omega)
  replace own_15 := own_15.next hb_20
  replace hB := hB.trans (hb_20.mono hB.size)
  have sz_21 := hb_20.size
  go_wp2_with fail
  refine (HI.out w6 _ _ _ _ ((own_15.inn).more (by omega)) ((own_19.inn).more (by omega))).mono ?_
  rintro e w7 ⟨rfl, hb_22⟩
  replace in0 := in0.next hb_22 (by omega)
  replace in1 := in1.next hb_22 (by omega)
  replace own_15 := own_15.next hb_22
  replace own_19 := own_19.next hb_22
  replace hB := hB.trans (hb_22.mono hB.size)
  have sz_23 := hb_22.size
  go_wp2_with fail
  -- if g0 != w0 {
  refine (toTermS_k A0 n0 cap0 _ t0 _ in0 (by omega) h0ok h0eok).mono ?_
  rintro e w8 ⟨g_24, rfl, own_25, hb_26⟩
  replace in0 := in0.next hb_26 (by omega)
  replace in1 := in1.next hb_26 (by omega)
  replace own_15 := own_15.next hb_26
  replace own_19 := own_19.next hb_26
  replace hB := hB.trans (hb_26.mono hB.size)
  have sz_27 := hb_26.size
  go_wp2_with fail
  refine (eqTermS_k (some ⟨g_14, 0, none⟩) (some ⟨g_24, 0, none⟩) n0 n0 n0 _ _ t0 _ own_15.inn own_25.inn (by omega) (by omega) h0ok h0eok).mono ?_
  rintro e w9 ⟨rfl, hb_28⟩
  clear own_25
  replace in0 := in0.next hb_28 (by omega)
  replace in1 := in1.next hb_28 (by omega)
  replace own_15 := own_15.next hb_28
  replace own_19 := own_19.next hb_28
  replace hB := hB.trans (hb_28.mono hB.size)
  have sz_29 := hb_28.size
  go_wp2_with fail
  refine (toInt64S_k A1 n1 cap1 _ z1 _ in1 (by omega) h1ok).mono ?_
  rintro e w10 ⟨g_30, rfl, own_31, hb_32⟩
  replace in0 := in0.next hb_32 (by omega)
  replace in1 := in1.next hb_32 (by omega)
  replace own_15 := own_15.next hb_32
  replace own_19 := own_19.next hb_32
  replace hB := hB.trans (hb_32.mono hB.size)
  have sz_33 := hb_32.size
  go_wp2_with fail
  refine (eqInt64S_k (some ⟨g_18, 0, none⟩) (some ⟨g_30, 0, none⟩) n1 n1 n1 _ _ z1 _ own_19.inn own_31.inn (by omega) (by omega) h1ok).mono ?_
  rintro e w11 ⟨rfl, hb_34⟩
  clear own_31
  replace in0 := in0.next hb_34 (by omega)
  replace in1 := in1.next hb_34 (by omega)
  replace own_15 := own_15.next hb_34
  replace own_19 := own_19.next hb_34
  replace hB := hB.trans (hb_34.mono hB.size)
  have sz_35 := hb_34.size
  go_wp2_with fail
  go_ret
  exact ⟨rfl, hB⟩

set_option maxRecDepth 100000 in
set_option maxHeartbeats 4000000 in
theorem walk (A0 : Option Addr) (n0 cap0 : Nat) (t0 : List (Int × List Int)) (A1 : Option Addr) (n1 cap1 : Nat) (z1 : List Int) (w : World) (h0row : TRow w w.heap.size A0 t0) (h0len : t0.length = n0) (h0max : n0 ≤ maxLen) (h0each : ∀ t ∈ t0, t.2.length ≤ maxLen) (h1row : Row w w.heap.size A1 (z1.map ic)) (h1len : z1.length = n1) (h1max : n1 ≤ maxLen) (h1wf : ∀ z ∈ z1, (Lit.int .i64 z).wf = true) :
    Calls Try.prog 3 #[.slice A0 n0 cap0, .slice A1 n1 cap1] w fun e w' => e = .returned (.bool true) ∧ Below w.heap.size w w' := by
  by_cases h1 : n1 ≤ 1048576
  · by_cases h0 : n0 + totT t0 ≤ 1048576
    · exact road A0 n0 cap0 t0 A1 n1 cap1 z1 w ⟨h0len, h0row⟩ (by omega) (by omega) (by omega) ⟨h1len, h1row⟩ h1 (refuB (combR t0 z1))
        (fun w0 a00 u00 a10 u10 h g => specRefuted_c a00 n0 u00 t0 a10 n1 u10 z1 w0 h (by omega) g h1 (by omega))
        (fun w0 a00 u00 a10 u10 h g => implRefuted_c a00 n0 u00 t0 a10 n1 u10 z1 w0 h (by omega) g h1 (by omega))
    · exact early1 A0 n0 cap0 t0 A1 n1 cap1 z1 w ⟨h0len, h0row⟩ ⟨h1len, h1row⟩ h1 (by omega) h1max h0max h0each
  · exact early0 A0 n0 cap0 t0 A1 n1 cap1 z1 w ⟨h0len, h0row⟩ ⟨h1len, h1row⟩ (by omega) h1max h0max h0each

set_option maxRecDepth 100000 in
set_option maxHeartbeats 4000000 in
theorem lifted (os : Os) (started : os.Started) (H : Type) (enc : TypeId × Value → H) :
    ReturnsInHanded {} Try.checked os 3 .any (Rows.fnExactIsRefutedSpec.pre6 enc Try.prog Try.f3 Rows.fnExactIsRefutedRow.domain false) (Rows.fnExactIsRefutedSpec.post enc Try.prog Try.f3 false true false false) := by
  refine returnsInHanded_of_change (C := Try.checked) own started (by kernel_rfl) Try.func3
    (ChangeSpec.witness6 (enc := enc) (C := Try.checked) false ⟨#[], #[.slice none 0 0, .slice none 0 0], []⟩ 8 (by kernel_rfl) (by kernel_rfl) (by kernel_rfl) (by kernel_rfl)) ?_
  intro W base args ds gs before hval0 hW hcnd _
  have hval : ∀ (j : Nat) t v, Try.f3.params[j]? = some t → args[j]? = some v → Value.okWide Try.prog W .any base t v := hval0
  have hW' := hW
  obtain ⟨p, q, hA0, hV, rfl, hfz, hnd⟩ := hW
  have hA : DataW.TrodAll enc Try.prog W 0 (fun _ => true) true Try.f3.params.toList args.toList ds p := hA0
  rw [Try.params3] at hA hval
  obtain ⟨v0, vs0, d0, ds0, p0, q0, hargs, rfl, rfl, g0, r0⟩ := trodAll_cons hA
  obtain ⟨v1, vs1, d1, ds1, p1, q1, rfl, rfl, rfl, g1, r1⟩ := trodAll_cons r0
  obtain ⟨rfl, rfl, rfl⟩ := trodAll_nil r1
  obtain rfl : args = #[v0, v1] := by cases args; simp_all
  obtain ⟨rfl, rfl⟩ := trodVars_none hV
  have k0 := g0
  have lt0 : ∀ x ∈ p0, x.block < W.heap.size := by obtain ⟨m, hm⟩ := k0; exact DataW.trod_lt m _ _ _ hm
  have k1 := g1
  have lt1 : ∀ x ∈ p1, x.block < W.heap.size := by obtain ⟨m, hm⟩ := k1; exact DataW.trod_lt m _ _ _ hm
  obtain ⟨a0, b0, e0, rfl⟩ := okWide_slice Try.underlying22 (hval 0 22 v0 rfl rfl)
  obtain ⟨A0, n0, cap0, t0, q0, h0len, h0max, h0row, h0each⟩ := (fun (h : ∃ fuel, DataW.trod enc Try.prog W 0 (fun _ => true) true fuel 22 [.slice a0 b0 e0] = some _) => terms_in h.choose_spec) (by obtain ⟨m, hm⟩ := g0; exact ⟨m, by simpa [Value.cells] using hm⟩)
  obtain ⟨rfl, rfl, rfl⟩ : a0 = A0 ∧ b0 = n0 ∧ e0 = cap0 := by simpa using q0
  obtain ⟨a1, b1, e1, rfl⟩ := okWide_slice Try.underlying23 (hval 1 23 v1 rfl rfl)
  obtain ⟨A1, n1, cap1, z1, q1, h1len, h1max, h1row, h1wf⟩ := (fun (h : ∃ fuel, DataW.trod enc Try.prog W 0 (fun _ => true) true fuel 23 [.slice a1 b1 e1] = some _) => ints_in Try.underlying23 Try.underlying2 (by kernel_rfl) h.choose_spec) (by obtain ⟨m, hm⟩ := g1; exact ⟨m, by simpa [Value.cells] using hm⟩)
  obtain ⟨rfl, rfl, rfl⟩ : a1 = A1 ∧ b1 = n1 ∧ e1 = cap1 := by simpa using q1
  clear hA0 hval0
  simp only [List.append_nil] at hW'
  refine (walk _ _ _ t0 _ _ _ z1 W h0row h0len h0max h0each h1row h1len h1max h1wf).mono fun e W' ⟨he, bel⟩ => ?_
  subst he
  exact ⟨_, rfl, _, _, _, [], _, [], hW', trodAll_mk1 (shut_bool Try.underlying4 _), (trodAll_cons_mk (Below.trod laidOut (by kernel_rfl) (of_decide_eq_true (by kernel_rfl)) k0 bel lt0) (trodAll_cons_mk (Below.trod laidOut (by kernel_rfl) (of_decide_eq_true (by kernel_rfl)) k1 bel lt1) trodAll_mk0)), rfl, bel.frame _, fun h => by cases h⟩

theorem over : Rows.fnExactIsRefutedRow.holds Try.pinned (OpenSpec.ofChange Rows.fnExactIsRefutedSpec) :=
  OpenClaim.holds_of_wide 3 Try.f3 rfl rfl rfl rfl rfl rfl rfl ⟨rfl, rfl, rfl, rfl, rfl⟩ rfl rfl rfl rfl rfl (by kernel_rfl) Try.func3 (by kernel_rfl)
    (of_decide_eq_true (by kernel_rfl)) (by unfold Func.isWrapper; first | (rw [if_pos (by decide +kernel)]; kernel_rfl) | (rw [if_neg (by decide +kernel)]; exact ⟨rfl, rfl⟩))
    (fun os started H enc _ => lifted os started H enc)

/-- The statement. -/
theorem proved : Rows.FnExactIsRefutedSaid := over
#print axioms proved
end Go.Proofs.Ytejgpooghengmaa.fnExactIsRefuted
