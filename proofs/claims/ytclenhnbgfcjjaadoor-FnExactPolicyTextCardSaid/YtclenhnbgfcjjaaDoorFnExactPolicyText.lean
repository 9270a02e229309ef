/-
  For every policy the program's PolicyText answers as the model's, and leaves the policy as it was.
  Conditions: those that the card itself bears (the tables that the program's text lays).
-/
import Derived.Test.YtclenhnbgfcjjaaDoorRows
import Derived.WalkKit
import Derived.ProofKit
import Derived.OpenShut
import Derived.ShutString
import Derived.ChangeOld
import Derived.Below
import Derived.WalkSmall
import Derived.Test.YtclenhnbgfcjjaaDoorTms
import Derived.Test.YtclenhnbgfcjjaaDoorCards
import Derived.Test.YtclenhnbgfcjjaaDoorTie
import Derived.ChangeSame
import Derived.ChangeVars
import Derived.JoinedOf
import Derived.RowKit
import Derived.RowKitTokens
import Derived.LaidLaws
import Derived.LaidHandle
import Derived.Stop.LaidErr
import Derived.Stop.Joined
import Derived.SevenTiedAt
import Derived.Test.YtclenhnbgfcjjaaDoorPTxt
namespace Go.Proofs.YtclenhnbgfcjjaaDoor.fnExactPolicyText
open Go.ChangeShapes Go.WideShapes Go.ChangeAt Go.RowKit
open Go.ChangeMaps (open_string shut_string)
set_option linter.unusedVariables false

theorem own : ownKnob Tryd.prog.godebug = none := by kernel_rfl
theorem laidOut : laidOutB Tryd.prog = true := by kernel_rfl
set_option maxRecDepth 100000 in
set_option maxHeartbeats 8000000 in
theorem early0 (A0 : Option Addr) (n0 cap0 : Nat) (t0 : List (List Int)) (w : World) (in0 : InLL w w.heap.size A0 n0 t0) (q0 : 1048576 < (n0 + totLL t0)) (vn0 : n0 ≤ maxLen) (en0 : ∀ x ∈ t0, x.length ≤ maxLen) :
    Calls Tryd.prog 3 #[.agg #[.slice A0 n0 cap0]] w fun e w' => e = .returned (.bool true) ∧ Below w.heap.size w w' := by
  have hB := Below.refl w.heap.size w
  go_enter Tryd.func3, Tryd.ntmps3
  go_wp2_with fail
  have hb_1 : Below w.heap.size w (w.alloc (.cells #[.slice A0 n0 cap0] 24)) := bnew _ _
  have sz_2 : w.heap.size < (w.alloc (.cells #[.slice A0 n0 cap0] 24)).heap.size := by simp
  have a0_0 : (w.alloc (.cells #[.slice A0 n0 cap0] 24)).cell? ⟨w.heap.size, 0, none⟩ = some (.slice A0 n0 cap0) := by simp
  have a0_l := sz_2
  generalize w.alloc (.cells #[.slice A0 n0 cap0] 24) = w1 at hb_1 a0_0 sz_2 a0_l ⊢
  replace in0 := in0.next hb_1 (by omega)
  replace hB := hB.trans (hb_1.mono hB.size)
  have sz_3 := hb_1.size
  refine (szPolicy_k A0 n0 cap0 _ t0 _ _ in0 (by omega) (by omega) (by omega) (by first | assumption | (unfold maxLen; omega)) (by first | assumption | exact fitsLL_of (by unfold maxLen; omega))).mono ?_
  rintro e w2 ⟨rfl, hb_4⟩
  rw [szv_no (by omega)]
  replace in0 := in0.next hb_4 (by omega)
  replace a0_0 := cell_next a0_0 hb_4
  replace a0_l := Nat.lt_of_lt_of_le a0_l hb_4.size
  replace hB := hB.trans (hb_4.mono hB.size)
  have sz_5 := hb_4.size
  go_wp2_with fail
  go_ret
  exact ⟨rfl, hB⟩

set_option maxRecDepth 100000 in
set_option maxHeartbeats 8000000 in
theorem road (A0 : Option Addr) (n0 cap0 : Nat) (t0 : List (List Int)) (w : World) (in0 : InLL w w.heap.size A0 n0 t0) (h0ok : n0 ≤ 1048576) (h0eok : totLL t0 ≤ 1048576) (h0sum : n0 + totLL t0 ≤ 1048576) (r0 : ByteArray) (r1 : Bool) 
    (HS0 : ∀ (w0 : World) (a00 : Option Addr) (u00 : Nat), Below w.heap.size w w0 → InLL w0 w0.heap.size a00 n0 t0 → Calls Tryd.prog 5 #[.agg #[.slice a00 n0 u00]] w0 fun e w1 => e = .returned (.tuple #[.string r0, .bool r1]) ∧ Below w0.heap.size w0 w1)
    (HI0 : ∀ (w0 : World) (a00 : Option Addr) (u00 : Nat), Below w.heap.size w w0 → InLL w0 w0.heap.size a00 n0 t0 → Calls Tryd.prog 7 #[.agg #[.slice a00 n0 u00]] w0 fun e w1 => e = .returned (.tuple #[.string r0, .bool r1]) ∧ Below w0.heap.size w0 w1) :
    Calls Tryd.prog 3 #[.agg #[.slice A0 n0 cap0]] w fun e w' => e = .returned (.bool true) ∧ Below w.heap.size w w' := by
  have HS := Lib.hid HS0
  have HI := Lib.hid HI0
  clear HS0 HI0
  have hB := Below.refl w.heap.size w
  have hl_5 : (0 : Int) ≤ 1048576 - ((n0 + totLL t0 : Nat) : Int) := by omega
  go_enter Tryd.func3, Tryd.ntmps3
  go_wp2_with fail
  have hb_1 : Below w.heap.size w (w.alloc (.cells #[.slice A0 n0 cap0] 24)) := bnew _ _
  have sz_2 : w.heap.size < (w.alloc (.cells #[.slice A0 n0 cap0] 24)).heap.size := by simp
  have a0_0 : (w.alloc (.cells #[.slice A0 n0 cap0] 24)).cell? ⟨w.heap.size, 0, none⟩ = some (.slice A0 n0 cap0) := by simp
  have a0_l := sz_2
  generalize w.alloc (.cells #[.slice A0 n0 cap0] 24) = w1 at hb_1 a0_0 sz_2 a0_l ⊢
  replace in0 := in0.next hb_1 (by omega)
  replace hB := hB.trans (hb_1.mono hB.size)
  have sz_3 := hb_1.size
  refine (szPolicy_k A0 n0 cap0 _ t0 _ _ in0 (by omega) (by omega) (by omega) (by first | assumption | (unfold maxLen; omega)) (by first | assumption | exact fitsLL_of (by unfold maxLen; omega))).mono ?_
  rintro e w2 ⟨rfl, hb_4⟩
  rw [szv_yes (by omega)]
  replace in0 := in0.next hb_4 (by omega)
  replace a0_0 := cell_next a0_0 hb_4
  replace a0_l := Nat.lt_of_lt_of_le a0_l hb_4.size
  replace hB := hB.trans (hb_4.mono hB.size)
  have sz_6 := hb_4.size
  go_wp2_with fail
  refine (toPolicy_k A0 n0 cap0 _ t0 _ in0 (by omega) h0ok h0eok).mono ?_
  rintro e w3 ⟨g_7, rfl, own_8, hb_9⟩
  replace in0 := in0.next hb_9 (by omega)
  replace a0_0 := cell_next a0_0 hb_9
  replace a0_l := Nat.lt_of_lt_of_le a0_l hb_9.size
  replace hB := hB.trans (hb_9.mono hB.size)
  have sz_10 := hb_9.size
  go_wp2_with fail
  refine (HS.out w3 _ _ hB own_8.inn).mono ?_
  rintro e w4 ⟨rfl, hb_11⟩
  clear own_8
  replace in0 := in0.next hb_11 (by omega)
  replace a0_0 := cell_next a0_0 hb_11
  replace a0_l := Nat.lt_of_lt_of_le a0_l hb_11.size
  replace hB := hB.trans (hb_11.mono hB.size)
  have sz_12 := hb_11.size
  go_wp2_with fail
  refine (toPolicy_k A0 n0 cap0 _ t0 _ in0 (by omega) h0ok h0eok).mono ?_
  rintro e w5 ⟨g_13, rfl, own_14, hb_15⟩
  replace in0 := in0.next hb_15 (by omega)
  replace a0_0 := cell_next a0_0 hb_15
  replace a0_l := Nat.lt_of_lt_of_le a0_l hb_15.size
  replace hB := hB.trans (hb_15.mono hB.size)
  have sz_16 := hb_15.size
  go_wp2_with fail
  have hb_17 : Below w5.heap.size w5 (w5.alloc (.cells #[.slice (some ⟨g_13, 0, none⟩) n0 n0] 28)) := bnew _ _
  have sz_18 : w5.heap.size < (w5.alloc (.cells #[.slice (some ⟨g_13, 0, none⟩) n0 n0] 28)).heap.size := by simp
  have x0_0 : (w5.alloc (.cells #[.slice (some ⟨g_13, 0, none⟩) n0 n0] 28)).cell? ⟨w5.heap.size, 0, none⟩ = some (.slice (some ⟨g_13, 0, none⟩) n0 n0) := by simp
  have x0_l := sz_18
  generalize w5.alloc (.cells #[.slice (some ⟨g_13, 0, none⟩) n0 n0] 28) = w6 at hb_17 x0_0 sz_18 x0_l ⊢
  replace in0 := in0.next hb_17 (by omega)
  replace a0_0 := cell_next a0_0 hb_17
  replace a0_l := Nat.lt_of_lt_of_le a0_l hb_17.size
  replace own_14 := own_14.next hb_17
  replace hB := hB.trans (hb_17.mono hB.size)
  have sz_19 := hb_17.size
  refine (HI.out w6 _ _ hB ((own_14.inn).more (by omega))).mono ?_
  rintro e w7 ⟨rfl, hb_20⟩
  replace in0 := in0.next hb_20 (by omega)
  replace a0_0 := cell_next a0_0 hb_20
  replace a0_l := Nat.lt_of_lt_of_le a0_l hb_20.size
  replace own_14 := own_14.next hb_20
  replace x0_0 := cell_next x0_0 hb_20
  replace x0_l := Nat.lt_of_lt_of_le x0_l hb_20.size
  replace hB := hB.trans (hb_20.mono hB.size)
  have sz_21 := hb_20.size
  go_wp2_with fail
  -- if g0 != w0 || g1 != w1 {
  have HT_22 := Lib.hid (toPolicy_k A0 n0 cap0 _ t0 w7.drew in0.drew (by show _ ≤ w7.heap.size; omega) h0ok h0eok)
  have HE_23 : Hid (∀ w8 g_24, Below w7.drew.heap.size w7.drew w8 → OwnLL w8 w7.drew.heap.size w8.heap.size (some ⟨g_24, 0, none⟩) n0 n0 t0 → Calls Tryd.prog 8 #[.agg #[.slice (some ⟨g_13, 0, none⟩) n0 n0], .agg #[.slice (some ⟨g_24, 0, none⟩) n0 n0]] w8 fun e w' => e = .returned (.bool true) ∧ Below w8.heap.size w8 w') := fun w8 g_24 hb_26 own_25 => eqPolicy_k (some ⟨g_13, 0, none⟩) (some ⟨g_24, 0, none⟩) n0 n0 n0 _ _ t0 w8 ((own_14.inn).call (by omega) hb_26) own_25.inn (le_call (by omega) hb_26) (Nat.le_refl _) h0ok h0eok
  go_region_held3 (fun w' => w'.cell? ⟨w.heap.size, 0, none⟩ = some (.slice A0 n0 cap0) ∧ w'.cell? ⟨w5.heap.size, 0, none⟩ = some (.slice (some ⟨g_13, 0, none⟩) n0 n0))
    (first | go_keep | exact ⟨cell_on a0_0 hb_26, cell_on x0_0 hb_26⟩ | exact ⟨cell_on2 a0_0 hb_26 hb_28, cell_on2 x0_0 hb_26 hb_28⟩)
    (first | (go_at_call 6; refine HT_22.out.mono ?_; rintro e w8 ⟨g_24, rfl, own_25, hb_26⟩) | (go_at_call 8; refine (HE_23.out _ _ hb_26 own_25).mono ?_; rintro e w9 ⟨rfl, hb_28⟩))
  replace hb_26 := (bstep hb_26)
  replace in0 := in0.next hb_26 (by omega)
  replace a0_0 := cell_next a0_0 hb_26
  replace a0_l := Nat.lt_of_lt_of_le a0_l hb_26.size
  replace own_14 := own_14.next hb_26
  replace x0_0 := cell_next x0_0 hb_26
  replace x0_l := Nat.lt_of_lt_of_le x0_l hb_26.size
  replace hB := hB.trans (hb_26.mono hB.size)
  have sz_29 := hb_26.size
  replace in0 := in0.next hb_28 (by omega)
  replace a0_0 := cell_next a0_0 hb_28
  replace a0_l := Nat.lt_of_lt_of_le a0_l hb_28.size
  replace own_14 := own_14.next hb_28
  replace x0_0 := cell_next x0_0 hb_28
  replace x0_l := Nat.lt_of_lt_of_le x0_l hb_28.size
  replace hB := hB.trans (hb_28.mono hB.size)
  have sz_30 := hb_28.size
  clear HT_22 HE_23 own_25
  go_wp2_with fail
  go_ret
  exact ⟨rfl, hB⟩

set_option maxRecDepth 100000 in
set_option maxHeartbeats 4000000 in
theorem walk (A0 : Option Addr) (n0 cap0 : Nat) (t0 : List (List Int)) (w : World) (hT : Tab10 w) (h0in : InLL w w.heap.size A0 n0 t0) (h0max : n0 ≤ maxLen) (h0each : ∀ y ∈ t0, y.length ≤ maxLen) :
    Calls Tryd.prog 3 #[.agg #[.slice A0 n0 cap0]] w fun e w' => e = .returned (.bool true) ∧ Below w.heap.size w w' := by
  by_cases hn : n0 + totLL t0 ≤ 1048576
  · exact road A0 n0 cap0 t0 w h0in (by omega) (by omega) (by omega) (ptR t0).1 (ptR t0).2
      (fun w0 a00 u00 hb h => specPText_c a00 n0 u00 _ t0 w0 h (Nat.le_refl _) (by omega))
      (fun w0 a00 u00 hb h => implPText_c a00 n0 u00 _ t0 w0 (hT.next hb) h (Nat.le_refl _) (by omega) (fun x hx => Nat.le_trans (totLL_mem hx) (by omega)))
  · exact early0 A0 n0 cap0 t0 w h0in (by omega) h0max h0each

/-- The cells of a table. -/
def litCells : DataW Unit → List Value
  | .lit (.int k z) => [Value.int k z]
  | .lit (.bool b) => [Value.bool b]
  | .lit (.string l) => [Value.string ⟨l.toArray⟩]
  | _ => []
def tabCells : DataW Unit → List Value
  | .agg l => l.flatMap fun x => match x with
    | .agg r => r.flatMap litCells
    | x => litCells x
  | _ => []
/-- A world that meets the list. -/
noncomputable def laidWorld (os : Os) : World :=
  let w0 := World.holding Tryd.prog os ⟨#[], #[], []⟩
  let put (g : Nat) (d : DataW Unit) (h : Array Obj) : Array Obj := h.modify g fun
      | .cells _ t frozen => .cells (tabCells d).toArray t frozen
      | o => o
  { w0 with heap := put 1 (Rows.laid_internal_strconv_uint64pow10) (put 3 (Rows.laid_math_bits_deBruijn64tab) (put 2 (Rows.laid_math_bits_deBruijn32tab) w0.heap)) }
theorem laidWorld_met (os : Os) (args : Array Value) : laidMetH Tryd.prog Rows.fnExactPolicyTextRow.laid ((laidWorld os).forCall (fun _ _ => 0) ⟨#[], args, []⟩).memory :=
  laidMetH_of_parts (laidMet_of_run' 8 (by kernel_rfl) (by kernel_rfl)) (by kernel_rfl)

set_option maxRecDepth 100000 in
set_option maxHeartbeats 4000000 in
theorem lifted (os : Os) (started : os.Started) (H : Type) (enc : TypeId × Value → H) :
    ReturnsInHanded {} Tryd.checked os 3 .any (fun w args => (Rows.fnExactPolicyTextSpec.pre enc Tryd.prog Tryd.f3 [] false w args ∧ laidMetH Tryd.prog Rows.fnExactPolicyTextRow.laid w) ∧ sizedMet enc Tryd.prog Tryd.f3 (OpenSpec.ofChange Rows.fnExactPolicyTextSpec) false w args) (Rows.fnExactPolicyTextSpec.post enc Tryd.prog Tryd.f3 false true false false) := by
  refine returnsInHanded_of_change_and (C := Tryd.checked) (X := fun w _ => laidMetH Tryd.prog Rows.fnExactPolicyTextRow.laid w) (fun _ _ _ hh h => h.of_heap hh) own started (by kernel_rfl) Tryd.func3
    (ChangeSpec.witness_at (enc := enc) (C := Tryd.checked) (os := os) (X := fun w _ => laidMetH Tryd.prog Rows.fnExactPolicyTextRow.laid w) false (laidWorld os) #[.agg #[.slice none 0 0]] 8 rfl (by kernel_rfl) (by kernel_rfl) (by kernel_rfl) (by kernel_rfl) (by kernel_rfl) (laidWorld_met os _)) ?_
  intro W base args ds gs before hval0 hW _ _ hL _
  have hval : ∀ (j : Nat) t v, Tryd.f3.params[j]? = some t → args[j]? = some v → Value.okWide Tryd.prog W .any base t v := hval0
  have hW' := hW
  obtain ⟨p, q, hA0, hV, rfl, hfz, hnd⟩ := hW
  have hA : DataW.TrodAll enc Tryd.prog W 0 (fun _ => true) true Tryd.f3.params.toList args.toList ds p := hA0
  rw [Tryd.params3] at hA hval
  obtain ⟨v0, vs0, d0, ds0, p0, q0, hargs, rfl, rfl, g0, r0⟩ := trodAll_cons hA
  obtain ⟨rfl, rfl, rfl⟩ := trodAll_nil r0
  obtain rfl : args = #[v0] := by cases args; simp_all
  obtain ⟨rfl, rfl⟩ := trodVars_none hV
  have k0 := g0
  have lt0 : ∀ x ∈ p0, x.block < W.heap.size := by obtain ⟨m, hm⟩ := k0; exact DataW.trod_lt m _ _ _ hm
  obtain ⟨A0, n0, cap0, t0, rfl, h0max, h0in, h0each⟩ := policy_in (hval 0 24 v0 rfl rfl) g0
  clear hA0 hval0
  simp only [List.append_nil] at hW'
  have hg := tab10_of_laid (laid := Rows.fnExactPolicyTextRow.laid) rfl hL
  refine (walk A0 n0 cap0 t0 W hg h0in h0max h0each).mono fun e W' ⟨he, bel⟩ => ?_
  subst he
  exact ⟨_, rfl, _, _, _, [], _, [], hW', trodAll_mk1 (shut_bool Tryd.underlying4 _), (trodAll_cons_mk (Below.trod laidOut (by kernel_rfl) (of_decide_eq_true (by kernel_rfl)) k0 bel lt0) trodAll_mk0), rfl, bel.frame _, fun h => by cases h⟩

theorem said : Rows.FnExactPolicyTextSaid :=
  OpenClaim.holds_of_wide 3 Tryd.f3 rfl rfl rfl rfl rfl rfl rfl ⟨rfl, rfl, rfl, rfl, rfl⟩ rfl rfl rfl rfl rfl (by kernel_rfl) Tryd.func3 (by kernel_rfl)
    (of_decide_eq_true (by kernel_rfl)) (by unfold Func.isWrapper; first | (rw [if_pos (by decide +kernel)]; kernel_rfl) | (rw [if_neg (by decide +kernel)]; exact ⟨rfl, rfl⟩))
    (fun os started H enc _ => lifted os started H enc)

/-- No parameter wants a stand-in; the program's own looks are as told: what the card asks. -/
theorem plain (f : FuncId) (fn : Func) (hf : Tryd.pinned.checked.prog.funcNamed "loop.example/g01105/laws.FnExactPolicyText" = some f) (hfn : Tryd.pinned.checked.prog.funcs[f]? = some fn) :
    false = Tryd.pinned.checked.prog.looks [] ∧ ∀ (j : Nat) t, fn.params[j]? = some t → Tryd.pinned.checked.prog.wantsStandIn t = false := by
  obtain rfl : f = 3 := Option.some.inj ((show Tryd.prog.funcNamed "loop.example/g01105/laws.FnExactPolicyText" = some 3 by kernel_rfl).symm.trans hf) |>.symm
  obtain rfl : fn = Tryd.f3 := (Option.some.inj (Tryd.func3.symm.trans hfn)).symm
  refine ⟨by kernel_rfl, fun j t ht => ?_⟩
  rw [Tryd.params3] at ht
  have hm : t = 24 := by simpa using Array.mem_of_getElem? ht
  subst hm
  exact (show Tryd.prog.wantsStandIn 24 = false by kernel_rfl)

/-- The card. -/
theorem proved : Rows.FnExactPolicyTextCardSaid :=
  Claim7.holds_tied_plain_at .later [] _ _ _ _ said (fun _ h => by cases h) (by kernel_rfl) (fun _ h => by cases h) fnExactPolicyText_row_tie rfl ⟨rfl, rfl⟩ (by kernel_rfl) rfl plain (by kernel_rfl)
#print axioms proved
end Go.Proofs.YtclenhnbgfcjjaaDoor.fnExactPolicyText
