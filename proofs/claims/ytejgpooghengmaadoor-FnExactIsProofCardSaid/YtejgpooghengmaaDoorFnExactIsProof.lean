/-
  For every list of nodes the program's IsProof answers as the model's, and leaves the nodes as they were.
  Conditions: those that the card itself bears (the tables that the program's text lays).
-/
import Derived.Test.YtejgpooghengmaaDoorRows
import Derived.WalkKit
import Derived.ProofKit
import Derived.OpenShut
import Derived.ShutString
import Derived.ChangeOld
import Derived.Below
import Derived.WalkSmall
import Derived.Test.YtejgpooghengmaaDoorTms
import Derived.Test.YtejgpooghengmaaDoorCards
import Derived.Test.YtejgpooghengmaaDoorTie
import Derived.ChangeSame
import Derived.ChangeVars
import Derived.OpenVars
import Derived.JoinedOf
import Derived.RowKit
import Derived.RowKitTokens
import Derived.LaidLaws
import Derived.LaidHandle
import Derived.Stop.LaidErr
import Derived.Stop.Joined
import Derived.SevenTiedAt
import Derived.Test.YtejgpooghengmaaDoorTabN
import Derived.Test.YtejgpooghengmaaDoorSubs
import Derived.Test.YtejgpooghengmaaDoorNodeM
namespace Go.Proofs.YtejgpooghengmaaDoor.fnExactIsProof
open Go.ChangeShapes Go.WideShapes Go.ChangeAt Go.RowKit
open Go.ChangeMaps (open_string shut_string)
set_option linter.unusedVariables false

theorem own : ownKnob Tryd.prog.godebug = none := by kernel_rfl
theorem laidOut : laidOutB Tryd.prog = true := by kernel_rfl
theorem toNodeS_k (A : Option Addr) (n c B : Nat) (ts : List N5) (w : World) (h : InN5 w B A n ts) (hB : B ≤ w.heap.size) (hn : n ≤ 1048576) (he : totN5 ts ≤ 1048576) :
    Calls Tryd.prog 12 #[.slice A n c] w fun e w' => ∃ g, e = .returned (.slice (some ⟨g, 0, none⟩) n n) ∧ InN5 w' w'.heap.size (some ⟨g, 0, none⟩) n ts ∧ Below w.heap.size w w' :=
  (toNodeS_m A n c B ts w h hB hn he).mono fun e w' ⟨g, he', ho, hb⟩ => ⟨g, he', ho.all, hb⟩

set_option maxRecDepth 100000 in
set_option maxHeartbeats 4000000 in
theorem walk (A0 : Option Addr) (n0 cap0 : Nat) (t0 : List N5) (w : World) (hT : TabN w) (h0in : InN5 w w.heap.size A0 n0 t0) (h0max : n0 ≤ maxLen) (h0each : ∀ y ∈ t0, y.fits) :
    Calls Tryd.prog 3 #[.slice A0 n0 cap0] w fun e w' => e = .returned (.bool true) ∧ Below w.heap.size w w' := by
  unfold maxLen at h0max
  by_cases hn : n0 + totN5 t0 ≤ 1048576
  · have HSZ := Lib.hid (szNodeS_k A0 n0 cap0 w.heap.size t0 1048576 w h0in (Nat.le_refl _) (by omega) (by omega) (by unfold maxLen; omega) h0each)
    rw [szv_yes (by omega)] at HSZ
    obtain ⟨L, hL⟩ : ∃ L : Int, (1048576 : Int) - ((n0 + totN5 t0 : Nat) : Int) = L := ⟨_, rfl⟩
    rw [hL] at HSZ
    have hL0 : 0 ≤ L := by omega
    have HIN := Lib.hid h0in
    have HN := Lib.hid hn
    clear hL h0in h0each hn
    obtain ⟨R, HR⟩ : ∃ R, Hid (proofB t0 = R) := ⟨_, rfl⟩
    go_enter Tryd.func3, Tryd.ntmps3
    go_wp2_with fail
    refine HSZ.out.mono ?_
    rintro e w1 ⟨rfl, hb1⟩
    clear HSZ
    go_wp2_with fail
    refine (toNodeS_k A0 n0 cap0 w.heap.size t0 w1 (HIN.out.next hb1 (Nat.le_refl _)) hb1.size (by have := HN.out; omega) (by have := HN.out; omega)).mono ?_
    rintro e w2 ⟨g2, rfl, hi2, hb2⟩
    have hb02 := bon hb1 hb2
    have HS0 := specIsProof_c (some ⟨g2, 0, none⟩) n0 n0 w2.heap.size t0 w2 hi2 (by have := HN.out; omega) (by have := HN.out; omega)
    rw [HR.out] at HS0
    have HS := Lib.hid HS0
    clear HS0 hi2
    go_wp2_with fail
    refine HS.out.mono ?_
    rintro e w2' ⟨rfl, rfl⟩
    clear HS
    go_wp2_with fail
    refine (toNodeS_k A0 n0 cap0 w.heap.size t0 w2 (HIN.out.next hb02 (Nat.le_refl _)) hb02.size (by have := HN.out; omega) (by have := HN.out; omega)).mono ?_
    rintro e w3 ⟨g3, rfl, hi3, hb3⟩
    have hb03 := bon hb02 hb3
    have HI0 := isProof_c (some ⟨g3, 0, none⟩) n0 n0 w3.heap.size t0 w3 (hT.next hb03) hi3 (Nat.le_refl _) (by have := HN.out; omega) (by have := HN.out; omega)
    rw [HR.out] at HI0
    have HI := Lib.hid HI0
    have HI3 := Lib.hid hi3
    clear HI0 hi3 HR
    go_wp2_with fail
    refine HI.out.mono ?_
    rintro e w4 ⟨rfl, hb4⟩
    clear HI
    have hb04 := bon hb03 hb4
    go_wp2_with fail
    refine (toNodeS_k A0 n0 cap0 w.heap.size t0 w4 (HIN.out.next hb04 (Nat.le_refl _)) hb04.size (by have := HN.out; omega) (by have := HN.out; omega)).mono ?_
    rintro e w5 ⟨g5, rfl, hi5, hb5⟩
    have hb05 := bon hb04 hb5
    have HE := Lib.hid (eqNodeS_k (some ⟨g3, 0, none⟩) (some ⟨g5, 0, none⟩) n0 n0 n0 w3.heap.size w5.heap.size t0 w5 ((HI3.out.next hb4 (Nat.le_refl _)).next hb5 hb4.size) hi5 (Nat.le_trans hb4.size hb5.size) (Nat.le_refl _) (by have := HN.out; omega) (by have := HN.out; omega))
    clear hi5
    go_wp2_with fail
    refine HE.out.mono ?_
    rintro e w6 ⟨rfl, hb6⟩
    go_wp2_with fail
    go_ret
    exact ⟨rfl, bon hb05 hb6⟩
  · have HSZ := Lib.hid (szNodeS_k A0 n0 cap0 w.heap.size t0 1048576 w h0in (Nat.le_refl _) (by omega) (by omega) (by unfold maxLen; omega) h0each)
    rw [szv_no (by omega)] at HSZ
    clear h0in h0each hn
    go_enter Tryd.func3, Tryd.ntmps3
    go_wp2_with fail
    refine HSZ.out.mono ?_
    rintro e w1 ⟨rfl, hb1⟩
    go_wp2_with fail
    go_ret
    exact ⟨rfl, hb1⟩

/-- The cells of a table. -/
def litCells : DataW Unit → List Value
  | .lit (.int k z) => [Value.int k z]
  | .lit (.bool b) => [Value.bool b]
  | .lit (.string l) => [Value.string ⟨l.toArray⟩]
  | _ => []
def tabCells : DataW Unit → List Value
  | .agg l => l.flatMap fun x => match x with
    | .agg r => r.flatMap litCells
    | x => litCells x
  | _ => []
/-- A world that meets the list. -/
noncomputable def laidWorld (os : Os) : World :=
  let w0 := World.holding Tryd.prog os ⟨#[], #[], []⟩
  let put (g : Nat) (d : DataW Unit) (h : Array Obj) : Array Obj := h.modify g fun
      | .cells _ t frozen => .cells (tabCells d).toArray t frozen
      | o => o
  { w0 with heap := put 0 (Rows.laid_loop_example_g01105_impl_nodeForms) w0.heap }
theorem laidWorld_met (os : Os) (args : Array Value) : laidMetH Tryd.prog Rows.fnExactIsProofRow.laid ((laidWorld os).forCall (fun _ _ => 0) ⟨#[], args, []⟩).memory :=
  laidMetH_of_parts (laidMet_of_run' 8 (by kernel_rfl) (by kernel_rfl)) (by kernel_rfl)

set_option maxRecDepth 100000 in
set_option maxHeartbeats 4000000 in
theorem lifted (os : Os) (started : os.Started) (H : Type) (enc : TypeId × Value → H) :
    ReturnsInHanded {} Tryd.checked os 3 .any (fun w args => (Rows.fnExactIsProofSpec.pre enc Tryd.prog Tryd.f3 [] false w args ∧ laidMetH Tryd.prog Rows.fnExactIsProofRow.laid w) ∧ sizedMet enc Tryd.prog Tryd.f3 (OpenSpec.ofChange Rows.fnExactIsProofSpec) false w args) (Rows.fnExactIsProofSpec.post enc Tryd.prog Tryd.f3 false true false false) := by
  refine returnsInHanded_of_change_and (C := Tryd.checked) (X := fun w _ => laidMetH Tryd.prog Rows.fnExactIsProofRow.laid w) (fun _ _ _ hh h => h.of_heap hh) own started (by kernel_rfl) Tryd.func3
    (ChangeSpec.witness_at (enc := enc) (C := Tryd.checked) (os := os) (X := fun w _ => laidMetH Tryd.prog Rows.fnExactIsProofRow.laid w) false (laidWorld os) #[.slice none 0 0] 8 rfl (by kernel_rfl) (by kernel_rfl) (by kernel_rfl) (by kernel_rfl) (by kernel_rfl) (laidWorld_met os _)) ?_
  intro W base args ds gs before hval0 hW _ _ hL _
  have hval : ∀ (j : Nat) t v, Tryd.f3.params[j]? = some t → args[j]? = some v → Value.okWide Tryd.prog W .any base t v := hval0
  have hW' := hW
  obtain ⟨p, q, hA0, hV, rfl, hfz, hnd⟩ := hW
  have hA : DataW.TrodAll enc Tryd.prog W 0 (fun _ => true) true Tryd.f3.params.toList args.toList ds p := hA0
  rw [Tryd.params3] at hA hval
  obtain ⟨v0, vs0, d0, ds0, p0, q0, hargs, rfl, rfl, g0, r0⟩ := trodAll_cons hA
  obtain ⟨rfl, rfl, rfl⟩ := trodAll_nil r0
  obtain rfl : args = #[v0] := by cases args; simp_all
  have hV2 := hV
  obtain ⟨_, _, _, _, dv, _, rfl, _⟩ := trodVars_one hV2
  clear hV2
  have k0 := g0
  have lt0 : ∀ x ∈ p0, x.block < W.heap.size := by obtain ⟨m, hm⟩ := k0; exact DataW.trod_lt m _ _ _ hm
  obtain ⟨a0, b0, e0, rfl⟩ := okWide_slice Tryd.underlying22 (hval 0 22 v0 rfl rfl)
  obtain ⟨A0, n0, cap0, t0, q0, h0max, h0in, h0each⟩ := (fun (h : ∃ fuel, DataW.trod enc Tryd.prog W 0 (fun _ => true) true fuel 22 [.slice a0 b0 e0] = some _) => Nodes_in h.choose_spec) (by obtain ⟨m, hm⟩ := g0; exact ⟨m, by simpa [Value.cells] using hm⟩)
  obtain ⟨rfl, rfl, rfl⟩ : a0 = A0 ∧ b0 = n0 ∧ e0 = cap0 := by simpa using q0
  clear hA0 hval0
  have hg := tabN_of_laid (laid := Rows.fnExactIsProofRow.laid) (List.mem_singleton.2 rfl) hL
  refine (walk _ _ _ t0 W hg h0in h0max h0each).mono fun e W' ⟨he, bel⟩ => ?_
  subst he
  exact ⟨_, rfl, _, _, _, [], _, _, hW', trodAll_mk1 (shut_bool Tryd.underlying4 _), (trodAll_cons_mk (Below.trod laidOut (by kernel_rfl) (of_decide_eq_true (by kernel_rfl)) k0 bel lt0) trodAll_mk0), Below.trodVars laidOut bel (by kernel_rfl) hV, bel.frame _, fun h => by cases h⟩

theorem said : Rows.FnExactIsProofSaid :=
  OpenClaim.holds_of_wide 3 Tryd.f3 rfl rfl rfl rfl rfl rfl rfl ⟨rfl, rfl, rfl, rfl, rfl⟩ rfl rfl rfl rfl rfl (by kernel_rfl) Tryd.func3 (by kernel_rfl)
    (of_decide_eq_true (by kernel_rfl)) (by unfold Func.isWrapper; first | (rw [if_pos (by decide +kernel)]; kernel_rfl) | (rw [if_neg (by decide +kernel)]; exact ⟨rfl, rfl⟩))
    (fun os started H enc _ => lifted os started H enc)

/-- No parameter wants a stand-in; the program's own looks are as told: what the card asks. -/
theorem plain (f : FuncId) (fn : Func) (hf : Tryd.pinned.checked.prog.funcNamed "loop.example/g01105/laws.FnExactIsProof" = some f) (hfn : Tryd.pinned.checked.prog.funcs[f]? = some fn) :
    false = Tryd.pinned.checked.prog.looks [] ∧ ∀ (j : Nat) t, fn.params[j]? = some t → Tryd.pinned.checked.prog.wantsStandIn t = false := by
  obtain rfl : f = 3 := Option.some.inj ((show Tryd.prog.funcNamed "loop.example/g01105/laws.FnExactIsProof" = some 3 by kernel_rfl).symm.trans hf) |>.symm
  obtain rfl : fn = Tryd.f3 := (Option.some.inj (Tryd.func3.symm.trans hfn)).symm
  refine ⟨by kernel_rfl, fun j t ht => ?_⟩
  rw [Tryd.params3] at ht
  have hm : t = 22 := by simpa using Array.mem_of_getElem? ht
  subst hm
  exact (show Tryd.prog.wantsStandIn 22 = false by kernel_rfl)

/-- The card. -/
theorem proved : Rows.FnExactIsProofCardSaid :=
  Claim7.holds_tied_plain_at .later [] _ _ _ _ said (fun _ h => by cases h) (by kernel_rfl) (fun _ h => by cases h) fnExactIsProof_row_tie rfl ⟨rfl, rfl⟩ (by kernel_rfl) rfl plain (by kernel_rfl)
#print axioms proved
end Go.Proofs.YtejgpooghengmaaDoor.fnExactIsProof
