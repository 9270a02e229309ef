/-
  For every list of instructions the program's ValidCode answers as the model's, and leaves the list as it was.
  Conditions: none but those that the statement itself bears.
-/
import Derived.Test.YtnfapodeifpeoaaRows
import Derived.WalkKit
import Derived.ProofKit
import Derived.OpenShut
import Derived.ShutString
import Derived.ChangeOld
import Derived.Below
import Derived.WalkSmall
import Derived.Test.YtnfapodeifpeoaaTms
import Derived.Test.YtnfapodeifpeoaaForm
namespace Go.Proofs.Ytnfapodeifpeoaa.fnExactValidCode
open Go.ChangeShapes Go.WideShapes Go.ChangeAt Go.RowKit
open Go.ChangeMaps (open_string shut_string)
set_option linter.unusedVariables false

theorem own : ownKnob Try.prog.godebug = none := by kernel_rfl
theorem laidOut : laidOutB Try.prog = true := by kernel_rfl
set_option maxRecDepth 100000 in
set_option maxHeartbeats 8000000 in
theorem early0 (A0 : Option Addr) (n0 cap0 : Nat) (t0 : List (Int × Int)) (w : World) (in0 : InC w w.heap.size A0 n0 t0) (q0 : 1048576 < (n0)) (vn0 : n0 ≤ maxLen) :
    Calls Try.prog 4 #[.slice A0 n0 cap0] w fun e w' => e = .returned (.bool true) ∧ Below w.heap.size w w' := by
  have hB := Below.refl w.heap.size w
  go_enter Try.func4, Try.ntmps4
  go_wp2_with fail
  refine (szInstrS_k A0 n0 cap0 _ _ (by omega) (by omega) (by first | assumption | (unfold maxLen; omega))).mono ?_
  rintro e w1 ⟨rfl, hb_1⟩
  rw [szv_no (by omega)]
  replace in0 := in0.next hb_1 (by omega)
  replace hB := hB.trans (hb_1.mono hB.size)
  have sz_2 := hb_1.size
  go_wp2_with fail
  go_ret
  exact ⟨rfl, hB⟩

set_option maxRecDepth 100000 in
set_option maxHeartbeats 8000000 in
theorem road (A0 : Option Addr) (n0 cap0 : Nat) (t0 : List (Int × Int)) (w : World) (in0 : InC w w.heap.size A0 n0 t0) (h0ok : n0 ≤ 1048576) (r0 : Bool) 
    (HS0 : ∀ (w0 : World) (a00 : Option Addr) (u00 : Nat), InC w0 w0.heap.size a00 n0 t0 → Calls Try.prog 17 #[.slice a00 n0 u00] w0 fun e w1 => e = .returned (.bool r0) ∧ Below w0.heap.size w0 w1)
    (HI0 : ∀ (w0 : World) (a00 : Option Addr) (u00 : Nat), InC w0 w0.heap.size a00 n0 t0 → Calls Try.prog 19 #[.slice a00 n0 u00] w0 fun e w1 => e = .returned (.bool r0) ∧ Below w0.heap.size w0 w1) :
    Calls Try.prog 4 #[.slice A0 n0 cap0] w fun e w' => e = .returned (.bool true) ∧ Below w.heap.size w w' := by
  have HS := Lib.hid HS0
  have HI := Lib.hid HI0
  clear HS0 HI0
  have hB := Below.refl w.heap.size w
  have hl_2 : (0 : Int) ≤ 1048576 - (n0 : Int) := by omega
  go_enter Try.func4, Try.ntmps4
  go_wp2_with fail
  refine (szInstrS_k A0 n0 cap0 _ _ (by omega) (by omega) (by first | assumption | (unfold maxLen; omega))).mono ?_
  rintro e w1 ⟨rfl, hb_1⟩
  rw [szv_yes (by omega)]
  replace in0 := in0.next hb_1 (by omega)
  replace hB := hB.trans (hb_1.mono hB.size)
  have sz_3 := hb_1.size
  go_wp2_with fail
  refine (toInstrS_k A0 n0 cap0 _ t0 _ in0 (by omega) h0ok).mono ?_
  rintro e w2 ⟨g_4, rfl, own_5, hb_6⟩
  replace in0 := in0.next hb_6 (by omega)
  replace hB := hB.trans (hb_6.mono hB.size)
  have sz_7 := hb_6.size
  go_wp2_with fail
  refine (HS.out w2 _ _ own_5.inn).mono ?_
  rintro e w3 ⟨rfl, hb_8⟩
  clear own_5
  replace in0 := in0.next hb_8 (by omega)
  replace hB := hB.trans (hb_8.mono hB.size)
  have sz_9 := hb_8.size
  go_wp2_with fail
  refine (toInstrS_k A0 n0 cap0 _ t0 _ in0 (by omega) h0ok).mono ?_
  rintro e w4 ⟨g_10, rfl, own_11, hb_12⟩
  replace in0 := in0.next hb_12 (by omega)
  replace hB := hB.trans (hb_12.mono hB.size)
  have sz_13 := hb_12.size
  go_wp2_with fail
  refine (HI.out w4 _ _ ((own_11.inn).more (by omega))).mono ?_
  rintro e w5 ⟨rfl, hb_14⟩
  replace in0 := in0.next hb_14 (by omega)
  replace own_11 := own_11.next hb_14
  replace hB := hB.trans (hb_14.mono hB.size)
  have sz_15 := hb_14.size
  go_wp2_with fail
  -- if g0 != w0 {
  refine (toInstrS_k A0 n0 cap0 _ t0 _ in0 (by omega) h0ok).mono ?_
  rintro e w6 ⟨g_16, rfl, own_17, hb_18⟩
  replace in0 := in0.next hb_18 (by omega)
  replace own_11 := own_11.next hb_18
  replace hB := hB.trans (hb_18.mono hB.size)
  have sz_19 := hb_18.size
  go_wp2_with fail
  refine (eqInstrS_k (some ⟨g_10, 0, none⟩) (some ⟨g_16, 0, none⟩) n0 n0 n0 _ _ t0 _ own_11.inn own_17.inn (by omega) (by omega) h0ok).mono ?_
  rintro e w7 ⟨rfl, hb_20⟩
  clear own_17
  replace in0 := in0.next hb_20 (by omega)
  replace own_11 := own_11.next hb_20
  replace hB := hB.trans (hb_20.mono hB.size)
  have sz_21 := hb_20.size
  go_wp2_with fail
  go_ret
  exact ⟨rfl, hB⟩

set_option maxRecDepth 100000 in
set_option maxHeartbeats 4000000 in
theorem walk (A0 : Option Addr) (n0 cap0 : Nat) (t0 : List (Int × Int)) (w : World) (h0in : InC w w.heap.size A0 n0 t0) (h0max : n0 ≤ maxLen) (h0each : ∀ y ∈ t0, (Lit.int .i64 y.1).wf = true ∧ (Lit.int .i64 y.2).wf = true) :
    Calls Try.prog 4 #[.slice A0 n0 cap0] w fun e w' => e = .returned (.bool true) ∧ Below w.heap.size w w' := by
  by_cases hn : n0 ≤ 1048576
  · exact road A0 n0 cap0 t0 w h0in (by omega) (codeB t0) (fun w0 a00 u00 h => specCode_c a00 n0 u00 _ t0 w0 h (Nat.le_refl _) (by omega)) (fun w0 a00 u00 h => implCode_c a00 n0 u00 _ t0 w0 h (Nat.le_refl _) (by omega))
  · exact early0 A0 n0 cap0 t0 w h0in (by omega) h0max

set_option maxRecDepth 100000 in
set_option maxHeartbeats 4000000 in
theorem lifted (os : Os) (started : os.Started) (H : Type) (enc : TypeId × Value → H) :
    ReturnsInHanded {} Try.checked os 4 .any (Rows.fnExactValidCodeSpec.pre6 enc Try.prog Try.f4 Rows.fnExactValidCodeRow.domain false) (Rows.fnExactValidCodeSpec.post enc Try.prog Try.f4 false true false false) := by
  refine returnsInHanded_of_change (C := Try.checked) own started (by kernel_rfl) Try.func4
    (ChangeSpec.witness6 (enc := enc) (C := Try.checked) false ⟨#[], #[.slice none 0 0], []⟩ 8 (by kernel_rfl) (by kernel_rfl) (by kernel_rfl) (by kernel_rfl)) ?_
  intro W base args ds gs before hval0 hW hcnd _
  have hval : ∀ (j : Nat) t v, Try.f4.params[j]? = some t → args[j]? = some v → Value.okWide Try.prog W .any base t v := hval0
  have hW' := hW
  obtain ⟨p, q, hA0, hV, rfl, hfz, hnd⟩ := hW
  have hA : DataW.TrodAll enc Try.prog W 0 (fun _ => true) true Try.f4.params.toList args.toList ds p := hA0
  rw [Try.params4] at hA hval
  obtain ⟨v0, vs0, d0, ds0, p0, q0, hargs, rfl, rfl, g0, r0⟩ := trodAll_cons hA
  obtain ⟨rfl, rfl, rfl⟩ := trodAll_nil r0
  obtain rfl : args = #[v0] := by cases args; simp_all
  obtain ⟨rfl, rfl⟩ := trodVars_none hV
  have k0 := g0
  have lt0 : ∀ x ∈ p0, x.block < W.heap.size := by obtain ⟨m, hm⟩ := k0; exact DataW.trod_lt m _ _ _ hm
  obtain ⟨a0, b0, e0, rfl⟩ := okWide_slice Try.underlying28 (hval 0 28 v0 rfl rfl)
  obtain ⟨A0, n0, cap0, t0, q0, h0max, h0in, h0each⟩ := (fun (h : ∃ fuel, DataW.trod enc Try.prog W 0 (fun _ => true) true fuel 28 [.slice a0 b0 e0] = some _) => instrs_in h.choose_spec) (by obtain ⟨m, hm⟩ := g0; exact ⟨m, by simpa [Value.cells] using hm⟩)
  obtain ⟨rfl, rfl, rfl⟩ : a0 = A0 ∧ b0 = n0 ∧ e0 = cap0 := by simpa using q0
  clear hA0 hval0
  simp only [List.append_nil] at hW'
  refine (walk _ _ _ t0 W h0in h0max h0each).mono fun e W' ⟨he, bel⟩ => ?_
  subst he
  exact ⟨_, rfl, _, _, _, [], _, [], hW', trodAll_mk1 (shut_bool Try.underlying4 _), (trodAll_cons_mk (Below.trod laidOut (by kernel_rfl) (of_decide_eq_true (by kernel_rfl)) k0 bel lt0) trodAll_mk0), rfl, bel.frame _, fun h => by cases h⟩

theorem over : Rows.fnExactValidCodeRow.holds Try.pinned (OpenSpec.ofChange Rows.fnExactValidCodeSpec) :=
  OpenClaim.holds_of_wide 4 Try.f4 rfl rfl rfl rfl rfl rfl rfl ⟨rfl, rfl, rfl, rfl, rfl⟩ rfl rfl rfl rfl rfl (by kernel_rfl) Try.func4 (by kernel_rfl)
    (of_decide_eq_true (by kernel_rfl)) (by unfold Func.isWrapper; first | (rw [if_pos (by decide +kernel)]; kernel_rfl) | (rw [if_neg (by decide +kernel)]; exact ⟨rfl, rfl⟩))
    (fun os started H enc _ => lifted os started H enc)

/-- The statement. -/
theorem proved : Rows.FnExactValidCodeSaid := over
#print axioms proved
end Go.Proofs.Ytnfapodeifpeoaa.fnExactValidCode
