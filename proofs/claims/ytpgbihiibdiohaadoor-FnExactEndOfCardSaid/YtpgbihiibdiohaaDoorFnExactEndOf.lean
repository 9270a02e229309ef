/-
  For every list of elements and every index the program's EndOf answers as the model's, and leaves the elements as they were.
  Conditions: those that the card itself bears (the tables that the program's text lays).
-/
import Derived.Test.YtpgbihiibdiohaaDoorRows
import Derived.WalkKit
import Derived.ProofKit
import Derived.OpenShut
import Derived.ShutString
import Derived.ChangeOld
import Derived.Below
import Derived.WalkSmall
import Derived.Test.YtpgbihiibdiohaaDoorTms
import Derived.Test.YtpgbihiibdiohaaDoorCards
import Derived.Test.YtpgbihiibdiohaaDoorTie
import Derived.ChangeSame
import Derived.ChangeVars
import Derived.OpenVars
import Derived.JoinedOf
import Derived.RowKit
import Derived.RowKitTokens
import Derived.LaidLaws
import Derived.LaidHandle
import Derived.Stop.LaidErr
import Derived.Stop.Joined
import Derived.SevenTiedAt
import Derived.Test.YtpgbihiibdiohaaDoorTabE
import Derived.Test.YtpgbihiibdiohaaDoorBodyI
namespace Go.Proofs.YtpgbihiibdiohaaDoor.fnExactEndOf
open Go.ChangeShapes Go.WideShapes Go.ChangeAt Go.RowKit
open Go.ChangeMaps (open_string shut_string)
set_option linter.unusedVariables false

theorem own : ownKnob Tryd.prog.godebug = none := by kernel_rfl
theorem laidOut : laidOutB Tryd.prog = true := by kernel_rfl


set_option maxRecDepth 100000 in
set_option maxHeartbeats 4000000 in
theorem walk (A0 : Option Addr) (n0 cap0 : Nat) (t0 : List S8) (i1 : Int) (w : World) (hT : TabE w) (h0in : InST w w.heap.size A0 n0 t0) (h0max : n0 ≤ maxLen) (h0each : ∀ y ∈ t0, y.fits) (h1wf : (Lit.int .i64 i1).wf = true) :
    Calls Tryd.prog 6 #[.slice A0 n0 cap0, .int .i64 i1] w fun e w' => e = .returned (.bool true) ∧ Below w.heap.size w w' := by
  unfold maxLen at h0max
  by_cases hn : n0 + totS t0 ≤ 1048576
  · have HSZ := Lib.hid (szStmtS_k A0 n0 cap0 w.heap.size t0 1048576 w h0in (Nat.le_refl _) (by omega) (by omega) (by unfold maxLen; omega) h0each)
    rw [szv_yes (by omega)] at HSZ
    obtain ⟨L, hL⟩ : ∃ L : Int, (1048576 : Int) - ((n0 + totS t0 : Nat) : Int) = L := ⟨_, rfl⟩
    rw [hL] at HSZ
    have hL0 : 0 ≤ L := by omega
    have HIN := Lib.hid h0in
    have HN := Lib.hid hn
    clear hL h0in h0each hn
    obtain ⟨r0, HR0⟩ : ∃ r, Hid ((endR t0 i1).1 = r) := ⟨_, rfl⟩
    obtain ⟨r1, HR1⟩ : ∃ r, Hid ((endR t0 i1).2 = r) := ⟨_, rfl⟩
    go_enter Tryd.func6, Tryd.ntmps6
    go_wp2_with fail
    refine HSZ.out.mono ?_
    rintro e w1 ⟨rfl, hb1⟩
    clear HSZ
    go_wp2_with fail
    refine (toStmtS_k A0 n0 cap0 w.heap.size t0 w1 (HIN.out.next hb1 (Nat.le_refl _)) hb1.size (by have := HN.out; omega) (by have := HN.out; omega)).mono ?_
    rintro e w2 ⟨g2, rfl, hi2, hg2, hb2⟩
    have hb02 := bon hb1 hb2
    have HS0 := specEnd_c (some ⟨g2, 0, none⟩) n0 n0 w2.heap.size t0 i1 w2 hi2 (by have := HN.out; omega) (by have := HN.out; omega)
    rw [HR0.out, HR1.out] at HS0
    have HS := Lib.hid HS0
    clear HS0 hi2 hg2
    go_wp2_with fail
    refine HS.out.mono ?_
    rintro e w2' ⟨rfl, rfl⟩
    clear HS
    go_wp2_with fail
    refine (toStmtS_k A0 n0 cap0 w.heap.size t0 w2 (HIN.out.next hb02 (Nat.le_refl _)) hb02.size (by have := HN.out; omega) (by have := HN.out; omega)).mono ?_
    rintro e w3 ⟨g3, rfl, hi3, hg3, hb3⟩
    have hb03 := bon hb02 hb3
    have HI0 := implEnd_c (some ⟨g3, 0, none⟩) n0 n0 w3.heap.size t0 i1 w3 (hT.next hb03) hi3 (Nat.le_refl _) (by have := HN.out; omega) (by have := HN.out; omega)
    rw [HR0.out, HR1.out] at HI0
    have HI := Lib.hid HI0
    have HI3 := Lib.hid hi3
    clear HI0 hi3 hg3 HR0 HR1
    go_wp2_with fail
    refine HI.out.mono ?_
    rintro e w4 ⟨rfl, hb4⟩
    clear HI
    have hb04 := bon hb03 hb4
    go_wp2_with fail
    refine (toStmtS_k A0 n0 cap0 w.heap.size t0 w4 (HIN.out.next hb04 (Nat.le_refl _)) hb04.size (by have := HN.out; omega) (by have := HN.out; omega)).mono ?_
    rintro e w5 ⟨g5, rfl, hi5, hg5, hb5⟩
    have hb05 := bon hb04 hb5
    have HE := Lib.hid (eqStmtS_k (some ⟨g3, 0, none⟩) (some ⟨g5, 0, none⟩) n0 n0 n0 w3.heap.size w5.heap.size t0 w5 ((HI3.out.next hb4 (Nat.le_refl _)).next hb5 hb4.size) hi5 (Nat.le_trans hb4.size hb5.size) (Nat.le_refl _) (by have := HN.out; omega) (by have := HN.out; omega))
    clear hi5 hg5
    go_wp2_with fail
    refine HE.out.mono ?_
    rintro e w6 ⟨rfl, hb6⟩
    go_wp2_with fail
    go_ret
    exact ⟨rfl, bon hb05 hb6⟩
  · have HSZ := Lib.hid (szStmtS_k A0 n0 cap0 w.heap.size t0 1048576 w h0in (Nat.le_refl _) (by omega) (by omega) (by unfold maxLen; omega) h0each)
    rw [szv_no (by omega)] at HSZ
    clear h0in h0each hn
    go_enter Tryd.func6, Tryd.ntmps6
    go_wp2_with fail
    refine HSZ.out.mono ?_
    rintro e w1 ⟨rfl, hb1⟩
    go_wp2_with fail
    go_ret
    exact ⟨rfl, hb1⟩

/-- The cells of a table. -/
def litCells : DataW Unit → List Value
  | .lit (.int k z) => [Value.int k z]
  | .lit (.bool b) => [Value.bool b]
  | _ => []
def tabCells : DataW Unit → List Value
  | .agg l => l.flatMap fun x => match x with
    | .agg r => r.flatMap litCells
    | x => litCells x
  | _ => []
/-- A world that meets the list. -/
noncomputable def laidWorld (os : Os) : World :=
  let w0 := World.holding Tryd.prog os ⟨#[], #[], []⟩
  let put (g : Nat) (d : DataW Unit) (h : Array Obj) : Array Obj := h.modify g fun
      | .cells _ t frozen => .cells (tabCells d).toArray t frozen
      | o => o
  { w0 with heap := put 0 (Rows.laid_loop_example_g01105_impl_elementForms) w0.heap }
theorem laidWorld_met (os : Os) (args : Array Value) : laidMetH Tryd.prog Rows.fnExactEndOfRow.laid ((laidWorld os).forCall (fun _ _ => 0) ⟨#[], args, []⟩).memory :=
  laidMetH_of_parts (laidMet_of_run' 8 (by kernel_rfl) (by kernel_rfl)) (by kernel_rfl)

set_option maxRecDepth 100000 in
set_option maxHeartbeats 4000000 in
theorem lifted (os : Os) (started : os.Started) (H : Type) (enc : TypeId × Value → H) :
    ReturnsInHanded {} Tryd.checked os 6 .any (fun w args => (Rows.fnExactEndOfSpec.pre enc Tryd.prog Tryd.f6 [] false w args ∧ laidMetH Tryd.prog Rows.fnExactEndOfRow.laid w) ∧ sizedMet enc Tryd.prog Tryd.f6 (OpenSpec.ofChange Rows.fnExactEndOfSpec) false w args) (Rows.fnExactEndOfSpec.post enc Tryd.prog Tryd.f6 false true false false) := by
  refine returnsInHanded_of_change_and (C := Tryd.checked) (X := fun w _ => laidMetH Tryd.prog Rows.fnExactEndOfRow.laid w) (fun _ _ _ hh h => h.of_heap hh) own started (by kernel_rfl) Tryd.func6
    (ChangeSpec.witness_at (enc := enc) (C := Tryd.checked) (os := os) (X := fun w _ => laidMetH Tryd.prog Rows.fnExactEndOfRow.laid w) false (laidWorld os) #[.slice none 0 0, .int .i64 0] 8 rfl (by kernel_rfl) (by kernel_rfl) (by kernel_rfl) (by kernel_rfl) (by kernel_rfl) (laidWorld_met os _)) ?_
  intro W base args ds gs before hval0 hW _ _ hL _
  have hval : ∀ (j : Nat) t v, Tryd.f6.params[j]? = some t → args[j]? = some v → Value.okWide Tryd.prog W .any base t v := hval0
  have hW' := hW
  obtain ⟨p, q, hA0, hV, rfl, hfz, hnd⟩ := hW
  have hA : DataW.TrodAll enc Tryd.prog W 0 (fun _ => true) true Tryd.f6.params.toList args.toList ds p := hA0
  rw [Tryd.params6] at hA hval
  obtain ⟨v0, vs0, d0, ds0, p0, q0, hargs, rfl, rfl, g0, r0⟩ := trodAll_cons hA
  obtain ⟨v1, vs1, d1, ds1, p1, q1, rfl, rfl, rfl, g1, r1⟩ := trodAll_cons r0
  obtain ⟨rfl, rfl, rfl⟩ := trodAll_nil r1
  obtain rfl : args = #[v0, v1] := by cases args; simp_all
  have hV2 := hV
  obtain ⟨_, _, _, _, dv, _, rfl, _⟩ := trodVars_one hV2
  clear hV2
  have k0 := g0
  have lt0 : ∀ x ∈ p0, x.block < W.heap.size := by obtain ⟨m, hm⟩ := k0; exact DataW.trod_lt m _ _ _ hm
  obtain ⟨a0, b0, e0, rfl⟩ := okWide_slice Tryd.underlying28 (hval 0 28 v0 rfl rfl)
  obtain ⟨A0, n0, cap0, t0, q0, h0max, h0in, h0each⟩ := (fun (h : ∃ fuel, DataW.trod enc Tryd.prog W 0 (fun _ => true) true fuel 28 [.slice a0 b0 e0] = some _) => stmts_in h.choose_spec) (by obtain ⟨m, hm⟩ := g0; exact ⟨m, by simpa [Value.cells] using hm⟩)
  obtain ⟨rfl, rfl, rfl⟩ : a0 = A0 ∧ b0 = n0 ∧ e0 = cap0 := by simpa using q0
  obtain ⟨i1, rfl, rfl, rfl, h1wf⟩ := open_int Tryd.underlying2 (hval 1 2 v1 rfl rfl) g1
  clear hA0 hval0
  have hg := tabE_of_laid (laid := Rows.fnExactEndOfRow.laid) (List.mem_singleton.2 rfl) hL
  refine (walk _ _ _ t0 i1 W hg h0in h0max h0each h1wf).mono fun e W' ⟨he, bel⟩ => ?_
  subst he
  exact ⟨_, rfl, _, _, _, [], _, _, hW', trodAll_mk1 (shut_bool Tryd.underlying4 _), (trodAll_cons_mk (Below.trod laidOut (by kernel_rfl) (of_decide_eq_true (by kernel_rfl)) k0 bel lt0) (trodAll_cons_mk (shut_int Tryd.underlying2 h1wf) trodAll_mk0)), Below.trodVars laidOut bel (by kernel_rfl) hV, bel.frame _, fun h => by cases h⟩

theorem said : Rows.FnExactEndOfSaid :=
  OpenClaim.holds_of_wide 6 Tryd.f6 rfl rfl rfl rfl rfl rfl rfl ⟨rfl, rfl, rfl, rfl, rfl⟩ rfl rfl rfl rfl rfl (by kernel_rfl) Tryd.func6 (by kernel_rfl)
    (of_decide_eq_true (by kernel_rfl)) (by unfold Func.isWrapper; first | (rw [if_pos (by decide +kernel)]; kernel_rfl) | (rw [if_neg (by decide +kernel)]; exact ⟨rfl, rfl⟩))
    (fun os started H enc _ => lifted os started H enc)

/-- No parameter wants a stand-in; the program's own looks are as told: what the card asks. -/
theorem plain (f : FuncId) (fn : Func) (hf : Tryd.pinned.checked.prog.funcNamed "loop.example/g01105/laws.FnExactEndOf" = some f) (hfn : Tryd.pinned.checked.prog.funcs[f]? = some fn) :
    false = Tryd.pinned.checked.prog.looks [] ∧ ∀ (j : Nat) t, fn.params[j]? = some t → Tryd.pinned.checked.prog.wantsStandIn t = false := by
  obtain rfl : f = 6 := Option.some.inj ((show Tryd.prog.funcNamed "loop.example/g01105/laws.FnExactEndOf" = some 6 by kernel_rfl).symm.trans hf) |>.symm
  obtain rfl : fn = Tryd.f6 := (Option.some.inj (Tryd.func6.symm.trans hfn)).symm
  refine ⟨by kernel_rfl, fun j t ht => ?_⟩
  rw [Tryd.params6] at ht
  have hm : t = 28 ∨ t = 2 := by simpa using Array.mem_of_getElem? ht
  rcases hm with rfl | rfl
  · exact (show Tryd.prog.wantsStandIn 28 = false by kernel_rfl)
  · exact (show Tryd.prog.wantsStandIn 2 = false by kernel_rfl)

/-- The card. -/
theorem proved : Rows.FnExactEndOfCardSaid :=
  Claim7.holds_tied_plain_at .later [] _ _ _ _ said (fun _ h => by cases h) (by kernel_rfl) (fun _ h => by cases h) fnExactEndOf_row_tie rfl ⟨rfl, rfl⟩ (by kernel_rfl) rfl plain (by kernel_rfl)
#print axioms proved
end Go.Proofs.YtpgbihiibdiohaaDoor.fnExactEndOf
