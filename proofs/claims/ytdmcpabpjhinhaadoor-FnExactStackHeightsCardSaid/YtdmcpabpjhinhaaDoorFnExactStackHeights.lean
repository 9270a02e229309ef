/-
  For every list of instructions the program's StackHeights answers as the model's, leaves the list as it was, and gives memory of its own.
  Conditions: those that the card itself bears (the tables that the program's text lays).
-/
import Derived.Test.YtdmcpabpjhinhaaDoorRows
import Derived.WalkKit
import Derived.ProofKit
import Derived.OpenShut
import Derived.ShutString
import Derived.ChangeOld
import Derived.Below
import Derived.WalkSmall
import Derived.Test.YtdmcpabpjhinhaaDoorTms
import Derived.Test.YtdmcpabpjhinhaaDoorCards
import Derived.Test.YtdmcpabpjhinhaaDoorTie
import Derived.ChangeSame
import Derived.ChangeVars
import Derived.OpenVars
import Derived.JoinedOf
import Derived.RowKit
import Derived.RowKitTokens
import Derived.LaidLaws
import Derived.LaidHandle
import Derived.Stop.LaidErr
import Derived.Stop.Joined
import Derived.SevenTiedAt
import Derived.Test.YtdmcpabpjhinhaaDoorStuk
namespace Go.Proofs.YtdmcpabpjhinhaaDoor.fnExactStackHeights
open Go.ChangeShapes Go.WideShapes Go.ChangeAt Go.RowKit
open Go.ChangeMaps (open_string shut_string)
set_option linter.unusedVariables false

theorem own : ownKnob Tryd.prog.godebug = none := by kernel_rfl
theorem laidOut : laidOutB Tryd.prog = true := by kernel_rfl
set_option maxRecDepth 100000 in
set_option maxHeartbeats 8000000 in
theorem early0 (A0 : Option Addr) (n0 cap0 : Nat) (t0 : List (Int × Int)) (w : World) (in0 : InC w w.heap.size A0 n0 t0) (q0 : 1048576 < (n0)) (vn0 : n0 ≤ maxLen) :
    Calls Tryd.prog 4 #[.slice A0 n0 cap0] w fun e w' => e = .returned (.bool true) ∧ Below w.heap.size w w' := by
  have hB := Below.refl w.heap.size w
  go_enter Tryd.func4, Tryd.ntmps4
  go_wp2_with fail
  refine (szInstrS_k A0 n0 cap0 _ _ (by omega) (by omega) (by first | assumption | (unfold maxLen; omega))).mono ?_
  rintro e w1 ⟨rfl, hb_1⟩
  rw [szv_no (by omega)]
  replace in0 := in0.next hb_1 (by omega)
  replace hB := hB.trans (hb_1.mono hB.size)
  have sz_2 := hb_1.size
  go_wp2_with fail
  go_ret
  exact ⟨rfl, hB⟩

set_option maxRecDepth 100000 in
set_option maxHeartbeats 8000000 in
theorem road (A0 : Option Addr) (n0 cap0 : Nat) (t0 : List (Int × Int)) (w : World) (in0 : InC w w.heap.size A0 n0 t0) (h0ok : n0 ≤ 1048576) (y00 : List Int) (l00 : Nat) (r1 : Bool) (k00 : l00 ≤ 1000)
    (HS0 : ∀ (w0 : World) (a00 : Option Addr) (u00 : Nat), Below w.heap.size w w0 → InC w0 w0.heap.size a00 n0 t0 → Calls Tryd.prog 14 #[.slice a00 n0 u00] w0 fun e w1 => ∃ (R00 : Option Addr) (d00 : Nat), e = .returned (.tuple #[.slice R00 l00 d00, .bool r1]) ∧ OwnL w1 w0.heap.size w1.heap.size R00 l00 d00 y00 ∧ Below w0.heap.size w0 w1)
    (HI0 : ∀ (w0 : World) (a00 : Option Addr) (u00 : Nat), Below w.heap.size w w0 → InC w0 w0.heap.size a00 n0 t0 → Calls Tryd.prog 15 #[.slice a00 n0 u00] w0 fun e w1 => ∃ (R00 : Option Addr) (d00 : Nat), e = .returned (.tuple #[.slice R00 l00 d00, .bool r1]) ∧ OwnL w1 w0.heap.size w1.heap.size R00 l00 d00 y00 ∧ Below w0.heap.size w0 w1) :
    Calls Tryd.prog 4 #[.slice A0 n0 cap0] w fun e w' => e = .returned (.bool true) ∧ Below w.heap.size w w' := by
  have HS := Lib.hid HS0
  have HI := Lib.hid HI0
  clear HS0 HI0
  have hB := Below.refl w.heap.size w
  have hl_2 : (0 : Int) ≤ 1048576 - (n0 : Int) := by omega
  go_enter Tryd.func4, Tryd.ntmps4
  go_wp2_with fail
  refine (szInstrS_k A0 n0 cap0 _ _ (by omega) (by omega) (by first | assumption | (unfold maxLen; omega))).mono ?_
  rintro e w1 ⟨rfl, hb_1⟩
  rw [szv_yes (by omega)]
  replace in0 := in0.next hb_1 (by omega)
  replace hB := hB.trans (hb_1.mono hB.size)
  have sz_3 := hb_1.size
  go_wp2_with fail
  refine (toInstrS_k A0 n0 cap0 _ t0 _ in0 (by omega) h0ok).mono ?_
  rintro e w2 ⟨g_4, rfl, own_5, hb_6⟩
  replace in0 := in0.next hb_6 (by omega)
  replace hB := hB.trans (hb_6.mono hB.size)
  have sz_7 := hb_6.size
  go_wp2_with fail
  refine (HS.out w2 _ _ hB own_5.inn).mono ?_
  rintro e w3 ⟨R_9, d_10, rfl, own_11, hb_8⟩
  clear own_5
  replace in0 := in0.next hb_8 (by omega)
  replace hB := hB.trans (hb_8.mono hB.size)
  have sz_12 := hb_8.size
  go_wp2_with fail
  refine (toInstrS_k A0 n0 cap0 _ t0 _ in0 (by omega) h0ok).mono ?_
  rintro e w4 ⟨g_13, rfl, own_14, hb_15⟩
  replace in0 := in0.next hb_15 (by omega)
  replace own_11 := own_11.next hb_15
  replace hB := hB.trans (hb_15.mono hB.size)
  have sz_16 := hb_15.size
  go_wp2_with fail
  refine (HI.out w4 _ _ hB ((own_14.inn).more (by omega))).mono ?_
  rintro e w5 ⟨R_18, d_19, rfl, own_20, hb_17⟩
  replace in0 := in0.next hb_17 (by omega)
  replace own_11 := own_11.next hb_17
  replace own_14 := own_14.next hb_17
  replace hB := hB.trans (hb_17.mono hB.size)
  have sz_21 := hb_17.size
  go_wp2_with fail
  -- if !eqInt64S(g0, w0) || g1 != w1 {
  refine (eqInt64S_k R_18 R_9 l00 d_19 d_10 _ _ y00 _ own_20.inn own_11.inn (by omega) (by omega) (by omega)).mono ?_
  rintro e w6 ⟨rfl, hb_22⟩
  replace in0 := in0.next hb_22 (by omega)
  replace own_11 := own_11.next hb_22
  replace own_14 := own_14.next hb_22
  replace own_20 := own_20.next hb_22
  replace hB := hB.trans (hb_22.mono hB.size)
  have sz_23 := hb_22.size
  go_wp2_with fail
  refine (toInstrS_k A0 n0 cap0 _ t0 _ in0 (by omega) h0ok).mono ?_
  rintro e w7 ⟨g_24, rfl, own_25, hb_26⟩
  replace in0 := in0.next hb_26 (by omega)
  replace own_11 := own_11.next hb_26
  replace own_14 := own_14.next hb_26
  replace own_20 := own_20.next hb_26
  replace hB := hB.trans (hb_26.mono hB.size)
  have sz_27 := hb_26.size
  go_wp2_with fail
  refine (eqInstrS_k (some ⟨g_13, 0, none⟩) (some ⟨g_24, 0, none⟩) n0 n0 n0 _ _ t0 _ own_14.inn own_25.inn (by omega) (by omega) h0ok).mono ?_
  rintro e w8 ⟨rfl, hb_28⟩
  clear own_25
  replace in0 := in0.next hb_28 (by omega)
  replace own_11 := own_11.next hb_28
  replace own_14 := own_14.next hb_28
  replace own_20 := own_20.next hb_28
  replace hB := hB.trans (hb_28.mono hB.size)
  have sz_29 := hb_28.size
  go_wp2_with fail
  refine (markInstrS_k w3.heap.size w4.heap.size (some ⟨g_13, 0, none⟩) n0 n0 t0 1 _ own_14 (by omega) (by omega) (by omega)).mono ?_
  rintro e w9 ⟨rfl, own_31, ho_30⟩
  replace in0 := in0.out ho_30 (by omega) (by omega)
  replace own_11 := own_11.out ho_30 (by omega)
  replace own_20 := own_20.out ho_30 (by omega)
  replace hB := hB.trans (ho_30.below (by omega) (by omega))
  have sz_32 := ho_30.size
  clear own_14
  clear own_31
  go_wp2_with fail
  -- if k < 0 || !eqInt64S(g0, w0) || g1 != w1 {
  refine (eqInt64S_k R_18 R_9 l00 d_19 d_10 _ _ y00 _ own_20.inn own_11.inn (by omega) (by omega) (by omega)).mono ?_
  rintro e w10 ⟨rfl, hb_33⟩
  replace in0 := in0.next hb_33 (by omega)
  replace own_11 := own_11.next hb_33
  replace own_20 := own_20.next hb_33
  replace hB := hB.trans (hb_33.mono hB.size)
  have sz_34 := hb_33.size
  go_wp2_with fail
  refine (markInt64S_k w4.heap.size w5.heap.size R_18 l00 d_19 y00 1 _ own_20 (by omega) (by omega) (by omega)).mono ?_
  rintro e w11 ⟨rfl, own_36, ho_35⟩
  replace in0 := in0.out ho_35 (by omega) (by omega)
  replace own_11 := own_11.out ho_35 (by omega)
  replace hB := hB.trans (ho_35.below (by omega) (by omega))
  have sz_37 := ho_35.size
  clear own_20
  go_wp2_with fail
  refine (heldInt64S_k R_18 l00 d_19 _ 1 _ own_36.inn (by omega) (by omega) (by omega)).mono ?_
  rintro e w12 ⟨rfl, hb_38⟩
  replace in0 := in0.next hb_38 (by omega)
  replace own_11 := own_11.next hb_38
  replace own_36 := own_36.next hb_38
  replace hB := hB.trans (hb_38.mono hB.size)
  have sz_39 := hb_38.size
  go_wp2_with fail
  refine (toInstrS_k A0 n0 cap0 _ t0 _ in0 (by omega) h0ok).mono ?_
  rintro e w13 ⟨g_40, rfl, own_41, hb_42⟩
  replace in0 := in0.next hb_42 (by omega)
  replace own_11 := own_11.next hb_42
  replace own_36 := own_36.next hb_42
  replace hB := hB.trans (hb_42.mono hB.size)
  have sz_43 := hb_42.size
  go_wp2_with fail
  refine (HI.out w13 _ _ hB own_41.inn).mono ?_
  rintro e w14 ⟨R_45, d_46, rfl, own_47, hb_44⟩
  clear own_41
  replace in0 := in0.next hb_44 (by omega)
  replace own_11 := own_11.next hb_44
  replace own_36 := own_36.next hb_44
  replace hB := hB.trans (hb_44.mono hB.size)
  have sz_48 := hb_44.size
  go_wp2_with fail
  -- if !eqInt64S(h0, w0) || h1 != w1 {
  refine (eqInt64S_k R_45 R_9 l00 d_46 d_10 _ _ y00 _ own_47.inn own_11.inn (by omega) (by omega) (by omega)).mono ?_
  rintro e w15 ⟨rfl, hb_49⟩
  replace in0 := in0.next hb_49 (by omega)
  replace own_11 := own_11.next hb_49
  replace own_36 := own_36.next hb_49
  replace own_47 := own_47.next hb_49
  replace hB := hB.trans (hb_49.mono hB.size)
  have sz_50 := hb_49.size
  go_wp2_with fail
  clear own_47
  refine (heldInt64S_k R_18 l00 d_19 _ 1 _ own_36.inn (by omega) (by omega) (by omega)).mono ?_
  rintro e w16 ⟨rfl, hb_51⟩
  replace in0 := in0.next hb_51 (by omega)
  replace own_11 := own_11.next hb_51
  replace own_36 := own_36.next hb_51
  replace hB := hB.trans (hb_51.mono hB.size)
  have sz_52 := hb_51.size
  go_wp2_with fail
  go_ret
  exact ⟨rfl, hB⟩

set_option maxRecDepth 100000 in
set_option maxHeartbeats 4000000 in
theorem walk (A0 : Option Addr) (n0 cap0 : Nat) (t0 : List (Int × Int)) (w : World) (hT : StuckX w) (h0in : InC w w.heap.size A0 n0 t0) (h0max : n0 ≤ maxLen) (h0each : ∀ y ∈ t0, (Lit.int .i64 y.1).wf = true ∧ (Lit.int .i64 y.2).wf = true) :
    Calls Tryd.prog 4 #[.slice A0 n0 cap0] w fun e w' => e = .returned (.bool true) ∧ Below w.heap.size w w' := by
  by_cases hn : n0 ≤ 1048576
  · have hk := hgtR_len t0
    obtain ⟨tp, pv, hstk⟩ := hT
    exact road A0 n0 cap0 t0 w h0in (by omega) (hgtR t0).1 (hgtR t0).1.length (hgtR t0).2 (by omega)
      (fun w0 a00 u00 hbb h => specHgt_c a00 n0 u00 _ t0 w0 h (Nat.le_refl _) (by omega)) (fun w0 a00 u00 hbb h => implHgt_c tp pv a00 n0 u00 _ t0 w0 h (Nat.le_refl _) (by omega) (hstk.next hbb))
  · exact early0 A0 n0 cap0 t0 w h0in (by omega) h0max

/-- The cells of a table. -/
def litCells : DataW Unit → List Value
  | .lit (.int k z) => [Value.int k z]
  | .lit (.bool b) => [Value.bool b]
  | .lit (.string l) => [Value.string ⟨l.toArray⟩]
  | _ => []
def tabCells : DataW Unit → List Value
  | .agg l => l.flatMap fun x => match x with
    | .agg r => r.flatMap litCells
    | x => litCells x
  | _ => []
/-- A world that meets the list. -/
noncomputable def laidWorld (os : Os) : World :=
  let low := (World.holding Tryd.prog default ⟨#[], #[], []⟩).heap.size
  let w0 := World.holding Tryd.prog os ⟨#[.cells #[.string ⟨#[110, 111, 32, 119, 97, 121, 32, 111, 110, 32, 119, 105, 116, 104, 105, 110, 32, 116, 104, 101, 32, 108, 105, 109, 105, 116, 115]⟩] 124], #[], []⟩
  let err (g k : Nat) (h : Array Obj) : Array Obj := h.modify g fun
      | .cells _ t frozen => .cells #[.iface 105 (.pointer (some ⟨low + k, 0, none⟩))] t frozen
      | o => o
  let put (g : Nat) (d : DataW Unit) (h : Array Obj) : Array Obj := h.modify g fun
      | .cells _ t frozen => .cells (tabCells d).toArray t frozen
      | o => o
  { w0 with heap := err 0 0 w0.heap }
theorem laidWorld_met (os : Os) (args : Array Value) : laidMetH Tryd.prog Rows.fnExactStackHeightsRow.laid ((laidWorld os).forCall (fun _ _ => 0) ⟨#[], args, []⟩).memory :=
  laidMetH_of_parts (laidMet_of_run' 8 (by kernel_rfl) (by kernel_rfl)) (by kernel_rfl)

set_option maxRecDepth 100000 in
set_option maxHeartbeats 4000000 in
theorem lifted (os : Os) (started : os.Started) (H : Type) (enc : TypeId × Value → H) :
    ReturnsInHanded {} Tryd.checked os 4 .any (fun w args => (Rows.fnExactStackHeightsSpec.pre enc Tryd.prog Tryd.f4 [] false w args ∧ laidMetH Tryd.prog Rows.fnExactStackHeightsRow.laid w) ∧ sizedMet enc Tryd.prog Tryd.f4 (OpenSpec.ofChange Rows.fnExactStackHeightsSpec) false w args) (Rows.fnExactStackHeightsSpec.post enc Tryd.prog Tryd.f4 false true false false) := by
  refine returnsInHanded_of_change_and (C := Tryd.checked) (X := fun w _ => laidMetH Tryd.prog Rows.fnExactStackHeightsRow.laid w) (fun _ _ _ hh h => h.of_heap hh) own started (by kernel_rfl) Tryd.func4
    (ChangeSpec.witness_at (enc := enc) (C := Tryd.checked) (os := os) (X := fun w _ => laidMetH Tryd.prog Rows.fnExactStackHeightsRow.laid w) false (laidWorld os) #[.slice none 0 0] 8 rfl (by kernel_rfl) (by kernel_rfl) (by kernel_rfl) (by kernel_rfl) (by kernel_rfl) (laidWorld_met os _)) ?_
  intro W base args ds gs before hval0 hW _ _ hL _
  have hval : ∀ (j : Nat) t v, Tryd.f4.params[j]? = some t → args[j]? = some v → Value.okWide Tryd.prog W .any base t v := hval0
  have hW' := hW
  obtain ⟨p, q, hA0, hV, rfl, hfz, hnd⟩ := hW
  have hA : DataW.TrodAll enc Tryd.prog W 0 (fun _ => true) true Tryd.f4.params.toList args.toList ds p := hA0
  rw [Tryd.params4] at hA hval
  obtain ⟨v0, vs0, d0, ds0, p0, q0, hargs, rfl, rfl, g0, r0⟩ := trodAll_cons hA
  obtain ⟨rfl, rfl, rfl⟩ := trodAll_nil r0
  obtain rfl : args = #[v0] := by cases args; simp_all
  have hV2 := hV
  obtain ⟨_, _, _, _, dv, _, rfl, _⟩ := trodVars_one hV2
  clear hV2
  have k0 := g0
  have lt0 : ∀ x ∈ p0, x.block < W.heap.size := by obtain ⟨m, hm⟩ := k0; exact DataW.trod_lt m _ _ _ hm
  obtain ⟨a0, b0, e0, rfl⟩ := okWide_slice Tryd.underlying22 (hval 0 22 v0 rfl rfl)
  obtain ⟨A0, n0, cap0, t0, q0, h0max, h0in, h0each⟩ := (fun (h : ∃ fuel, DataW.trod enc Tryd.prog W 0 (fun _ => true) true fuel 22 [.slice a0 b0 e0] = some _) => instrs_in h.choose_spec) (by obtain ⟨m, hm⟩ := g0; exact ⟨m, by simpa [Value.cells] using hm⟩)
  obtain ⟨rfl, rfl, rfl⟩ : a0 = A0 ∧ b0 = n0 ∧ e0 = cap0 := by simpa using q0
  clear hA0 hval0
  have hg := stuckX_of_laid (laid := Rows.fnExactStackHeightsRow.laid) rfl hL
  refine (walk _ _ _ t0 W hg h0in h0max h0each).mono fun e W' ⟨he, bel⟩ => ?_
  subst he
  exact ⟨_, rfl, _, _, _, [], _, _, hW', trodAll_mk1 (shut_bool Tryd.underlying4 _), (trodAll_cons_mk (Below.trod laidOut (by kernel_rfl) (of_decide_eq_true (by kernel_rfl)) k0 bel lt0) trodAll_mk0), Below.trodVars laidOut bel (by kernel_rfl) hV, bel.frame _, fun h => by cases h⟩

theorem said : Rows.FnExactStackHeightsSaid :=
  OpenClaim.holds_of_wide 4 Tryd.f4 rfl rfl rfl rfl rfl rfl rfl ⟨rfl, rfl, rfl, rfl, rfl⟩ rfl rfl rfl rfl rfl (by kernel_rfl) Tryd.func4 (by kernel_rfl)
    (of_decide_eq_true (by kernel_rfl)) (by unfold Func.isWrapper; first | (rw [if_pos (by decide +kernel)]; kernel_rfl) | (rw [if_neg (by decide +kernel)]; exact ⟨rfl, rfl⟩))
    (fun os started H enc _ => lifted os started H enc)

/-- No parameter wants a stand-in; the program's own looks are as told: what the card asks. -/
theorem plain (f : FuncId) (fn : Func) (hf : Tryd.pinned.checked.prog.funcNamed "loop.example/g01105/laws.FnExactStackHeights" = some f) (hfn : Tryd.pinned.checked.prog.funcs[f]? = some fn) :
    false = Tryd.pinned.checked.prog.looks [] ∧ ∀ (j : Nat) t, fn.params[j]? = some t → Tryd.pinned.checked.prog.wantsStandIn t = false := by
  obtain rfl : f = 4 := Option.some.inj ((show Tryd.prog.funcNamed "loop.example/g01105/laws.FnExactStackHeights" = some 4 by kernel_rfl).symm.trans hf) |>.symm
  obtain rfl : fn = Tryd.f4 := (Option.some.inj (Tryd.func4.symm.trans hfn)).symm
  refine ⟨by kernel_rfl, fun j t ht => ?_⟩
  rw [Tryd.params4] at ht
  have hm : t = 22 := by simpa using Array.mem_of_getElem? ht
  subst hm
  exact (show Tryd.prog.wantsStandIn 22 = false by kernel_rfl)

/-- The card. -/
theorem proved : Rows.FnExactStackHeightsCardSaid :=
  Claim7.holds_tied_plain_at .later [] _ _ _ _ said (fun _ h => by cases h) (by kernel_rfl) (fun _ h => by cases h) fnExactStackHeights_row_tie rfl ⟨rfl, rfl⟩ (by kernel_rfl) rfl plain (by kernel_rfl)
#print axioms proved
end Go.Proofs.YtdmcpabpjhinhaaDoor.fnExactStackHeights
