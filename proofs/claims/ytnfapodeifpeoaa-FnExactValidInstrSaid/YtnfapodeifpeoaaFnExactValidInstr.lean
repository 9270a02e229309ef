/-
  For every instruction the program's ValidInstr answers as the model's.
  Conditions: none but those that the statement itself bears.
-/
import Derived.Test.YtnfapodeifpeoaaRows
import Derived.WalkKit
import Derived.ProofKit
import Derived.OpenShut
import Derived.ShutString
import Derived.ChangeOld
import Derived.Below
import Derived.WalkSmall
import Derived.Test.YtnfapodeifpeoaaTms
import Derived.Test.YtnfapodeifpeoaaForm
namespace Go.Proofs.Ytnfapodeifpeoaa.fnExactValidInstr
open Go.ChangeShapes Go.WideShapes Go.ChangeAt Go.RowKit
open Go.ChangeMaps (open_string shut_string)
set_option linter.unusedVariables false

theorem own : ownKnob Try.prog.godebug = none := by kernel_rfl
theorem laidOut : laidOutB Try.prog = true := by kernel_rfl


set_option maxRecDepth 100000 in
set_option maxHeartbeats 4000000 in
theorem walk (p0 q0 : Int) (w : World) (h0wf : (Lit.int .i64 p0).wf = true) (h0wfq : (Lit.int .i64 q0).wf = true) :
    Calls Try.prog 3 #[.agg #[.int .i64 p0, .int .i64 q0]] w fun e w' => e = .returned (.bool true) ∧ Below w.heap.size w w' := by
  have hb0 := bnew w (.cells #[.int .i64 p0, .int .i64 q0] 23)
  have hP : BlkIs (w.alloc (.cells #[.int .i64 p0, .int .i64 q0] 23)) w.heap.size 23 #[.int .i64 p0, .int .i64 q0] := blk_new _ _ _ _ rfl
  go_enter Try.func3, Try.ntmps3
  go_wp2_with fail
  generalize w.alloc (.cells #[.int .i64 p0, .int .i64 q0] 23) = W at hb0 hP ⊢
  refine (toInstr_c p0 q0 W).mono ?_
  rintro e w1 ⟨rfl, hb1⟩
  go_wp2_with fail
  refine (specInstr_c p0 q0 w1).mono ?_
  rintro e w2 ⟨rfl, hb2⟩
  have hP2 := (hP.next hb1).next hb2
  have p20 : w2.cell? ⟨w.heap.size, 0, none⟩ = some (.int .i64 p0) := hP2.cell 0
  have p21 : w2.cell? ⟨w.heap.size, 1, none⟩ = some (.int .i64 q0) := hP2.cell 1
  go_wp2_with fail
  refine (toInstr_c p0 q0 w2).mono ?_
  rintro e w3 ⟨rfl, hb3⟩
  go_wp2_with fail
  refine (implInstr_c p0 q0 w3).mono ?_
  rintro e w4 ⟨rfl, hb4⟩
  generalize instrB p0 q0 = b
  cases b <;>
  · go_wp2_with fail
    go_ret
    exact ⟨rfl, bon (bon (bon (bon hb0 hb1) hb2) hb3) hb4⟩

set_option maxRecDepth 100000 in
set_option maxHeartbeats 4000000 in
theorem lifted (os : Os) (started : os.Started) (H : Type) (enc : TypeId × Value → H) :
    ReturnsInHanded {} Try.checked os 3 .any (Rows.fnExactValidInstrSpec.pre6 enc Try.prog Try.f3 Rows.fnExactValidInstrRow.domain false) (Rows.fnExactValidInstrSpec.post enc Try.prog Try.f3 false true false false) := by
  refine returnsInHanded_of_change (C := Try.checked) own started (by kernel_rfl) Try.func3
    (ChangeSpec.witness6 (enc := enc) (C := Try.checked) false ⟨#[], #[.agg #[.int .i64 0, .int .i64 0]], []⟩ 8 (by kernel_rfl) (by kernel_rfl) (by kernel_rfl) (by kernel_rfl)) ?_
  intro W base args ds gs before hval0 hW hcnd _
  have hval : ∀ (j : Nat) t v, Try.f3.params[j]? = some t → args[j]? = some v → Value.okWide Try.prog W .any base t v := hval0
  have hW' := hW
  obtain ⟨p, q, hA0, hV, rfl, hfz, hnd⟩ := hW
  have hA : DataW.TrodAll enc Try.prog W 0 (fun _ => true) true Try.f3.params.toList args.toList ds p := hA0
  rw [Try.params3] at hA hval
  obtain ⟨v0, vs0, d0, ds0, p0, q0, hargs, rfl, rfl, g0, r0⟩ := trodAll_cons hA
  obtain ⟨rfl, rfl, rfl⟩ := trodAll_nil r0
  obtain rfl : args = #[v0] := by cases args; simp_all
  obtain ⟨rfl, rfl⟩ := trodVars_none hV
  have k0 := g0
  have lt0 : ∀ x ∈ p0, x.block < W.heap.size := by obtain ⟨m, hm⟩ := k0; exact DataW.trod_lt m _ _ _ hm
  obtain ⟨p0, q0, rfl, h0wf, h0wfq⟩ := instr_in (hval 0 23 v0 rfl rfl) g0
  clear hA0 hval0
  simp only [List.append_nil] at hW'
  refine (walk p0 q0 W h0wf h0wfq).mono fun e W' ⟨he, bel⟩ => ?_
  subst he
  exact ⟨_, rfl, _, _, _, [], _, [], hW', trodAll_mk1 (shut_bool Try.underlying4 _), (trodAll_cons_mk (Below.trod laidOut (by kernel_rfl) (of_decide_eq_true (by kernel_rfl)) k0 bel lt0) trodAll_mk0), rfl, bel.frame _, fun h => by cases h⟩

theorem over : Rows.fnExactValidInstrRow.holds Try.pinned (OpenSpec.ofChange Rows.fnExactValidInstrSpec) :=
  OpenClaim.holds_of_wide 3 Try.f3 rfl rfl rfl rfl rfl rfl rfl ⟨rfl, rfl, rfl, rfl, rfl⟩ rfl rfl rfl rfl rfl (by kernel_rfl) Try.func3 (by kernel_rfl)
    (of_decide_eq_true (by kernel_rfl)) (by unfold Func.isWrapper; first | (rw [if_pos (by decide +kernel)]; kernel_rfl) | (rw [if_neg (by decide +kernel)]; exact ⟨rfl, rfl⟩))
    (fun os started H enc _ => lifted os started H enc)

/-- The statement. -/
theorem proved : Rows.FnExactValidInstrSaid := over
#print axioms proved
end Go.Proofs.Ytnfapodeifpeoaa.fnExactValidInstr
