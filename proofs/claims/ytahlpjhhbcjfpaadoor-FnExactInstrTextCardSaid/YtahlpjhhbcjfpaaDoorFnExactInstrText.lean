/-
  For every instruction the program's InstrText answers as the model's.
  Conditions: those that the card itself bears (the tables that the program's text lays).
-/
import Derived.Test.YtahlpjhhbcjfpaaDoorRows
import Derived.WalkKit
import Derived.ProofKit
import Derived.OpenShut
import Derived.ShutString
import Derived.ChangeOld
import Derived.Below
import Derived.WalkSmall
import Derived.Test.YtahlpjhhbcjfpaaDoorTms
import Derived.Test.YtahlpjhhbcjfpaaDoorCards
import Derived.Test.YtahlpjhhbcjfpaaDoorTie
import Derived.ChangeSame
import Derived.ChangeVars
import Derived.JoinedOf
import Derived.RowKit
import Derived.RowKitTokens
import Derived.LaidLaws
import Derived.LaidHandle
import Derived.Stop.LaidErr
import Derived.Stop.Joined
import Derived.SevenTiedAt
import Derived.Test.YtahlpjhhbcjfpaaDoorInsI
namespace Go.Proofs.YtahlpjhhbcjfpaaDoor.fnExactInstrText
open Go.ChangeShapes Go.WideShapes Go.ChangeAt Go.RowKit
open Go.ChangeMaps (open_string shut_string)
set_option linter.unusedVariables false

theorem own : ownKnob Tryd.prog.godebug = none := by kernel_rfl
theorem laidOut : laidOutB Tryd.prog = true := by kernel_rfl


set_option maxRecDepth 100000 in
set_option maxHeartbeats 4000000 in
theorem walk (p0 q0 : Int) (w : World) (hT : Tab10 w) (h0wf : (Lit.int .i64 p0).wf = true) (h0wfq : (Lit.int .i64 q0).wf = true) :
    Calls Tryd.prog 3 #[.agg #[.int .i64 p0, .int .i64 q0]] w fun e w' => e = .returned (.bool true) ∧ Below w.heap.size w w' := by
  have hb0 := bnew w (.cells #[.int .i64 p0, .int .i64 q0] 23)
  have hP : BlkIs (w.alloc (.cells #[.int .i64 p0, .int .i64 q0] 23)) w.heap.size 23 #[.int .i64 p0, .int .i64 q0] := blk_new _ _ _ _ rfl
  have HT := Lib.hid hT
  clear hT
  go_enter Tryd.func3, Tryd.ntmps3
  go_wp2_with fail
  generalize w.alloc (.cells #[.int .i64 p0, .int .i64 q0] 23) = W at hb0 hP ⊢
  refine (toInstr_c p0 q0 W).mono ?_
  rintro e w1 ⟨rfl, hb1⟩
  go_wp2_with fail
  refine (specText_c p0 q0 w1).mono ?_
  rintro e w2 ⟨rfl, hb2⟩
  have hP2 := (hP.next hb1).next hb2
  have p20 : w2.cell? ⟨w.heap.size, 0, none⟩ = some (.int .i64 p0) := hP2.cell 0
  have p21 : w2.cell? ⟨w.heap.size, 1, none⟩ = some (.int .i64 q0) := hP2.cell 1
  go_wp2_with fail
  refine (toInstr_c p0 q0 w2).mono ?_
  rintro e w3 ⟨rfl, hb3⟩
  have hb03 := bon (bon (bon hb0 hb1) hb2) hb3
  go_wp2_with fail
  refine (implText_c p0 q0 w3 (HT.out.next hb03)).mono ?_
  rintro e w4 ⟨rfl, hb4⟩
  generalize (insR p0 q0).1 = s
  generalize (insR p0 q0).2 = b
  cases b <;>
  · go_wp2_with fail
    go_ret
    exact ⟨rfl, bon hb03 hb4⟩

/-- The cells of a table. -/
def litCells : DataW Unit → List Value
  | .lit (.int k z) => [Value.int k z]
  | .lit (.bool b) => [Value.bool b]
  | .lit (.string l) => [Value.string ⟨l.toArray⟩]
  | _ => []
def tabCells : DataW Unit → List Value
  | .agg l => l.flatMap fun x => match x with
    | .agg r => r.flatMap litCells
    | x => litCells x
  | _ => []
/-- A world that meets the list. -/
noncomputable def laidWorld (os : Os) : World :=
  let w0 := World.holding Tryd.prog os ⟨#[], #[], []⟩
  let put (g : Nat) (d : DataW Unit) (h : Array Obj) : Array Obj := h.modify g fun
      | .cells _ t frozen => .cells (tabCells d).toArray t frozen
      | o => o
  { w0 with heap := put 2 (Rows.laid_internal_strconv_uint64pow10) (put 6 (Rows.laid_math_bits_deBruijn64tab) (put 5 (Rows.laid_math_bits_deBruijn32tab) w0.heap)) }
theorem laidWorld_met (os : Os) (args : Array Value) : laidMetH Tryd.prog Rows.fnExactInstrTextRow.laid ((laidWorld os).forCall (fun _ _ => 0) ⟨#[], args, []⟩).memory :=
  laidMetH_of_parts (laidMet_of_run' 8 (by kernel_rfl) (by kernel_rfl)) (by kernel_rfl)

set_option maxRecDepth 100000 in
set_option maxHeartbeats 4000000 in
theorem lifted (os : Os) (started : os.Started) (H : Type) (enc : TypeId × Value → H) :
    ReturnsInHanded {} Tryd.checked os 3 .any (fun w args => (Rows.fnExactInstrTextSpec.pre enc Tryd.prog Tryd.f3 [] false w args ∧ laidMetH Tryd.prog Rows.fnExactInstrTextRow.laid w) ∧ sizedMet enc Tryd.prog Tryd.f3 (OpenSpec.ofChange Rows.fnExactInstrTextSpec) false w args) (Rows.fnExactInstrTextSpec.post enc Tryd.prog Tryd.f3 false true false false) := by
  refine returnsInHanded_of_change_and (C := Tryd.checked) (X := fun w _ => laidMetH Tryd.prog Rows.fnExactInstrTextRow.laid w) (fun _ _ _ hh h => h.of_heap hh) own started (by kernel_rfl) Tryd.func3
    (ChangeSpec.witness_at (enc := enc) (C := Tryd.checked) (os := os) (X := fun w _ => laidMetH Tryd.prog Rows.fnExactInstrTextRow.laid w) false (laidWorld os) #[.agg #[.int .i64 0, .int .i64 0]] 8 rfl (by kernel_rfl) (by kernel_rfl) (by kernel_rfl) (by kernel_rfl) (by kernel_rfl) (laidWorld_met os _)) ?_
  intro W base args ds gs before hval0 hW _ _ hL _
  have hval : ∀ (j : Nat) t v, Tryd.f3.params[j]? = some t → args[j]? = some v → Value.okWide Tryd.prog W .any base t v := hval0
  have hW' := hW
  obtain ⟨p, q, hA0, hV, rfl, hfz, hnd⟩ := hW
  have hA : DataW.TrodAll enc Tryd.prog W 0 (fun _ => true) true Tryd.f3.params.toList args.toList ds p := hA0
  rw [Tryd.params3] at hA hval
  obtain ⟨v0, vs0, d0, ds0, p0, q0, hargs, rfl, rfl, g0, r0⟩ := trodAll_cons hA
  obtain ⟨rfl, rfl, rfl⟩ := trodAll_nil r0
  obtain rfl : args = #[v0] := by cases args; simp_all
  obtain ⟨rfl, rfl⟩ := trodVars_none hV
  have k0 := g0
  have lt0 : ∀ x ∈ p0, x.block < W.heap.size := by obtain ⟨m, hm⟩ := k0; exact DataW.trod_lt m _ _ _ hm
  obtain ⟨p0, q0, rfl, h0wf, h0wfq⟩ := instr_in (hval 0 23 v0 rfl rfl) g0
  clear hA0 hval0
  simp only [List.append_nil] at hW'
  have hg := tab10_of_laid (laid := Rows.fnExactInstrTextRow.laid) rfl hL
  refine (walk p0 q0 W hg h0wf h0wfq).mono fun e W' ⟨he, bel⟩ => ?_
  subst he
  exact ⟨_, rfl, _, _, _, [], _, [], hW', trodAll_mk1 (shut_bool Tryd.underlying4 _), (trodAll_cons_mk (Below.trod laidOut (by kernel_rfl) (of_decide_eq_true (by kernel_rfl)) k0 bel lt0) trodAll_mk0), rfl, bel.frame _, fun h => by cases h⟩

theorem said : Rows.FnExactInstrTextSaid :=
  OpenClaim.holds_of_wide 3 Tryd.f3 rfl rfl rfl rfl rfl rfl rfl ⟨rfl, rfl, rfl, rfl, rfl⟩ rfl rfl rfl rfl rfl (by kernel_rfl) Tryd.func3 (by kernel_rfl)
    (of_decide_eq_true (by kernel_rfl)) (by unfold Func.isWrapper; first | (rw [if_pos (by decide +kernel)]; kernel_rfl) | (rw [if_neg (by decide +kernel)]; exact ⟨rfl, rfl⟩))
    (fun os started H enc _ => lifted os started H enc)

/-- No parameter wants a stand-in; the program's own looks are as told: what the card asks. -/
theorem plain (f : FuncId) (fn : Func) (hf : Tryd.pinned.checked.prog.funcNamed "loop.example/g01105/laws.FnExactInstrText" = some f) (hfn : Tryd.pinned.checked.prog.funcs[f]? = some fn) :
    true = Tryd.pinned.checked.prog.looks [] ∧ ∀ (j : Nat) t, fn.params[j]? = some t → Tryd.pinned.checked.prog.wantsStandIn t = false := by
  obtain rfl : f = 3 := Option.some.inj ((show Tryd.prog.funcNamed "loop.example/g01105/laws.FnExactInstrText" = some 3 by kernel_rfl).symm.trans hf) |>.symm
  obtain rfl : fn = Tryd.f3 := (Option.some.inj (Tryd.func3.symm.trans hfn)).symm
  refine ⟨by kernel_rfl, fun j t ht => ?_⟩
  rw [Tryd.params3] at ht
  have hm : t = 23 := by simpa using Array.mem_of_getElem? ht
  subst hm
  exact (show Tryd.prog.wantsStandIn 23 = false by kernel_rfl)

/-- The card. -/
theorem proved : Rows.FnExactInstrTextCardSaid :=
  Claim7.holds_tied_plain_at .later [] _ _ _ _ said (fun _ h => by cases h) (by kernel_rfl) (fun _ h => by cases h) fnExactInstrText_row_tie rfl ⟨rfl, rfl⟩ (by kernel_rfl) rfl plain (by kernel_rfl)
#print axioms proved
end Go.Proofs.YtahlpjhhbcjfpaaDoor.fnExactInstrText
