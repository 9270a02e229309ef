/-
  For every string the program's PutText answers as the model's.
  Conditions: none but those that the statement itself bears.
-/
import Derived.Test.YtidjniaamphhnabRows
import Derived.WalkKit
import Derived.ProofKit
import Derived.OpenShut
import Derived.ShutString
import Derived.Below
import Derived.Test.YtidjniaamphhnabCodes
import Derived.Lib.AppendStr
namespace Go.Proofs.Ytidjniaamphhnab.fnExactPutText
open Go.ChangeShapes Go.WideShapes Go.ChangeAt Go.RowKit
open Go.ChangeMaps (open_string shut_string)
set_option linter.unusedVariables false      -- a walk need not use every 'w<i>' (that an integer argument fits its kind)

theorem own : ownKnob Try.prog.godebug = none := by kernel_rfl

theorem own_str {w : World} {base n : Nat} {v : Value} {l : List Nat} {s : ByteArray} (h : w.ownsRow base 5 1 v n (l.map bc ++ Lib.strCells s)) : w.ownsRow base 5 1 v n ((l ++ sb s).map bc) := by
  have e : (l ++ sb s).map bc = l.map bc ++ Lib.strCells s := by
    rw [List.map_append, sb, List.map_map]; rfl
  rw [e]; exact h
set_option maxRecDepth 100000 in
set_option maxHeartbeats 1000000 in
theorem implPut (s : ByteArray) (w : World) (h : s.size ≤ 40000) :
    Calls Try.prog 8 #[.string s] w fun e w' => e = .returned (.tuple #[.string (bstr (digs (zz s.size)) ++ s), .bool true]) ∧ Below w.heap.size w w' := by
  obtain ⟨i0, hi, hz0, hz1, hz2⟩ := info_parts info8
  go_enter Try.func8, Try.ntmps8
  go_wp2_with fail
  refine (appendNumber_c w.heap.size (.slice none 0 0) 0 [] (s.size : Int) _ (World.ownsRow_nil _ _ _ _) (Nat.le_refl _) (by omega) (by omega) (by omega)).mono ?_
  rintro e w1 ⟨v1, rfl, hown, hb1⟩
  have hz9 := digs_len9 (m := zz s.size) (by unfold zz; split <;> omega)
  have hsz := hb1.size
  go_wp2_with (at_builtin; refine Lib.wpList_append_own_string _ rfl _ _ 27 9 rfl w.heap.size 5 i0 Try.underlying27 Try.underlying9 hi hz0 hz1 hz2 _ _ _ rfl hown s rfl ?c1 ?c2 ?c3 ?_)
  case c1 => unfold maxLen; omega
  case c2 => omega
  case c3 => omega
  intro v2 w2 hown2 hgrow _
  have hown3 := own_str hown2
  have hb2 : Below w.heap.size w w2 := hb1.grown hgrow hsz (fun k hk => (hown.lt k hk).1)
  have hcv := run_own_string 27 9 Try.underlying27 Try.underlying5 Try.underlying9 _ hown3
  clear hown hown2 hown3 hgrow
  go_wp2_with fail
  go_ret2
  exact ⟨ret_sb (by rw [bstr_app, bstr_of]), hb2⟩
set_option maxRecDepth 100000 in
set_option maxHeartbeats 4000000 in
theorem walk (a0 : ByteArray) (w0 : a0.size ≤ maxLen) (w : World) :
    Calls Try.prog 3 #[.string a0] w fun e w' => e = .returned (.bool true) ∧ Below w.heap.size w w' := by
  have w0' := w0
  unfold maxLen at w0'
  by_cases hl : (1048576 : Int) < a0.size
  · go_enter Try.func3, Try.ntmps3
    go_wp2
    go_ret
    exact ⟨rfl, Below.refl _ _⟩
  · by_cases hm : (40000 : Int) < a0.size
    · go_enter Try.func3, Try.ntmps3
      go_wp2
      go_ret
      exact ⟨rfl, Below.refl _ _⟩
    · have hz9 : (bstr (digs (zz a0.size))).size ≤ 9 := by rw [bstr_size]; exact digs_len9 (by unfold zz; split <;> omega)
      have HI := Lib.hid (implPut a0)
      have HP := Lib.hid (l01Put_c (a0.size : Int))
      generalize bstr (digs (zz a0.size)) = t at hz9 HI HP
      go_enter Try.func3, Try.ntmps3
      go_wp2_with (first | (go_at_call 7; go_in) | (go_at_call 15; go_in) | (go_at_call 21; refine (HP.out _ (by omega) (by omega)).mono ?_; rintro e w1 ⟨rfl, hb1⟩) | (go_at_call 8; refine (HI.out _ (by omega)).mono ?_; rintro e w2 ⟨rfl, hb2⟩))
      go_ret
      exact ⟨rfl, hb1.trans (hb2.mono hb1.size)⟩

set_option maxRecDepth 100000 in
theorem lifted (os : Os) (started : os.Started) (H : Type) (enc : TypeId × Value → H) :
    ReturnsInHanded {} Try.checked os 3 .any (Rows.fnExactPutTextSpec.pre6 enc Try.prog Try.f3 Rows.fnExactPutTextRow.domain false) (Rows.fnExactPutTextSpec.post enc Try.prog Try.f3 false true false false) := by
  refine returnsInHanded_of_change (C := Try.checked) own started (by kernel_rfl) Try.func3
    (ChangeSpec.witness6 (enc := enc) (C := Try.checked) false ⟨#[], #[.string ByteArray.empty], []⟩ 8 (by kernel_rfl) (by kernel_rfl) (by kernel_rfl) (by kernel_rfl)) ?_
  intro W base args ds gs before hval0 hW hcnd _
  have hval : ∀ (j : Nat) t v, Try.f3.params[j]? = some t → args[j]? = some v → Value.okWide Try.prog W .any base t v := hval0
  have hW' := hW
  obtain ⟨p, q, hA0, hV, rfl, hfz, hnd⟩ := hW
  have hA : DataW.TrodAll enc Try.prog W 0 (fun _ => true) true Try.f3.params.toList args.toList ds p := hA0
  rw [Try.params3] at hA hval
  obtain ⟨v0, vs0, d0, ds0, p0, q0, hargs, rfl, rfl, h0, r0⟩ := trodAll_cons hA
  obtain ⟨rfl, rfl, rfl⟩ := trodAll_nil r0
  obtain rfl : args = #[v0] := by cases args; simp_all
  obtain ⟨rfl, rfl⟩ := trodVars_none hV
  obtain ⟨a0, rfl, rfl, rfl, w0⟩ := open_string Try.underlying9 (hval 0 9 v0 rfl rfl) h0
  clear hA0 hval0
  simp only [List.append_nil] at hW'
  refine (walk a0 w0 W).mono fun e W' ⟨he, bel⟩ => ?_
  subst he
  exact ⟨_, rfl, _, _, _, [], _, [], hW', trodAll_mk1 (shut_bool Try.underlying4 _), (trodAll_cons_mk (shut_string Try.underlying9 w0) trodAll_mk0), rfl, bel.frame _, fun h => by cases h⟩

theorem over : Rows.fnExactPutTextRow.holds Try.pinned (OpenSpec.ofChange Rows.fnExactPutTextSpec) :=
  OpenClaim.holds_of_wide 3 Try.f3 rfl rfl rfl rfl rfl rfl rfl ⟨rfl, rfl, rfl, rfl, rfl⟩ rfl rfl rfl rfl rfl (by kernel_rfl) Try.func3 (by kernel_rfl)
    (of_decide_eq_true (by kernel_rfl)) (by unfold Func.isWrapper; first | (rw [if_pos (by decide +kernel)]; kernel_rfl) | (rw [if_neg (by decide +kernel)]; exact ⟨rfl, rfl⟩))
    (fun os started H enc _ => lifted os started H enc)

/-- The statement. -/
theorem proved : Rows.FnExactPutTextSaid :=
  over
#print axioms proved
end Go.Proofs.Ytidjniaamphhnab.fnExactPutText
