/-
  For every list the program's GcdOf answers as the model's, and leaves the list as it was.
  Conditions: none but those that the statement itself bears.
-/
import Derived.Test.YtccjnnkohmmooacRows
import Derived.WalkKit
import Derived.ProofKit
import Derived.OpenShut
import Derived.ShutString
import Derived.ChangeOld
import Derived.Below
import Derived.Test.YtccjnnkohmmooacBase
import Derived.Test.YtccjnnkohmmooacGcd
import Derived.WalkSmall
namespace Go.Proofs.Ytccjnnkohmmooac.fnExactGcdOf
open Go.ChangeShapes Go.WideShapes Go.ChangeAt Go.RowKit
open Go.ChangeMaps (open_string shut_string)
set_option linter.unusedVariables false

theorem own : ownKnob Try.prog.godebug = none := by kernel_rfl
theorem laidOut : laidOutB Try.prog = true := by kernel_rfl

/-- WHAT THE WALK IS TOLD OF A SLICE OF INTEGERS THAT CAME IN: it is nil; or it leads to a row of 'cap' cells, the numbers 'zs' (the first 'len' are its elements, the rest its spare room), each fitting its kind. -/
def IsRow (k : IntKind) (w : World) (a : Option Addr) (len cap : Nat) (zs : List Int) : Prop :=
  (a = none ∧ len = 0 ∧ cap = 0 ∧ zs = []) ∨
  ∃ x, a = some x ∧ len ≤ cap ∧ cap ≤ maxLen ∧ zs.length = cap ∧ (∀ i, i < zs.length → w.cell? (x.add i) = some (.int k (zs.getD i 0))) ∧ ∀ n ∈ zs, (Lit.int k n).wf = true

theorem IsRow.row {k : IntKind} {w : World} {a : Option Addr} {len cap : Nat} {zs : List Int} (h : IsRow k w a len cap zs) :
    Row w w.heap.size a ((zs.take len).map (Value.int k)) ∧ (zs.take len).length = len ∧ ∀ n ∈ zs.take len, (Lit.int k n).wf = true := by
  rcases h with ⟨rfl, rfl, rfl, rfl⟩ | ⟨x, rfl, hl, _, hz, hcell, hwz⟩
  · exact ⟨Row.nil, rfl, fun n hn => by simp at hn⟩
  · have hlen : (zs.take len).length = len := by rw [List.length_take]; omega
    refine ⟨fun j hj => ?_, hlen, fun n hn => hwz n (List.mem_of_mem_take hn)⟩
    rw [List.length_map, hlen] at hj
    have hc := hcell j (by omega)
    obtain ⟨b, off, spot⟩ := x
    have hspot : spot = none := by simpa [Addr.add] using World.cell?_spot (hcell 0 (by omega))
    subst hspot
    have ha : (⟨b, off, none⟩ : Addr).add j = ⟨b, off + j, none⟩ := by unfold Addr.add; split <;> simp_all
    rw [ha] at hc
    refine ⟨b, off, rfl, cell_lt hc, ?_⟩
    rw [hc, List.getElem?_map, List.getElem?_take, if_pos (by omega), List.getElem?_eq_getElem (by omega)]
    simp [List.getD, List.getElem?_eq_getElem (show j < zs.length by omega)]

set_option maxRecDepth 100000 in
set_option maxHeartbeats 4000000 in
theorem walk (a0 : Option Addr) (len0 cap0 : Nat) (z0 : List Int) (w : World) (w0 : IsRow .i64 w a0 len0 cap0 z0) :
    Calls Try.prog 3 #[.slice a0 len0 cap0] w fun e w' => e = .returned (.bool true) ∧ Below w.heap.size w w' := by
  obtain ⟨hrow, hlen, hwf⟩ := w0.row
  generalize hzs : z0.take len0 = zs at hrow hlen hwf
  clear hzs w0
  by_cases hbig : (1048576 : Int) < len0
  · go_enter Try.func3, Try.ntmps3
    go_wp2
    go_ret
    exact ⟨rfl, Below.refl _ _⟩
  · have hl : len0 ≤ 1048576 := by omega
    cases hco : codedB zs with
    | false =>
      go_enter Try.func3, Try.ntmps3
      go_wp2_with fail
      refine (toInt64S_c a0 len0 cap0 _ zs _ hrow (Nat.le_refl _) hlen hl).mono ?_
      rintro e w1 ⟨g1, rfl, hown1, hb1⟩
      go_wp2_with fail
      refine (gcd_no _ _ _ _ zs _ (Row.of_own hown1) hlen hl hco).1.mono ?_
      rintro e w' ⟨rfl, rfl⟩
      go_wp2_with fail
      have hrow1 := hrow.below hb1 (Nat.le_refl _)
      refine (toInt64S_c a0 len0 cap0 _ zs _ hrow1 hb1.size hlen hl).mono ?_
      rintro e w2 ⟨g2, rfl, hown2, hb2⟩
      go_wp2_with fail
      refine (gcd_no _ _ _ _ zs _ (Row.of_own hown2) hlen hl hco).2.mono ?_
      rintro e w' ⟨rfl, rfl⟩
      go_wp2_with fail
      have hrow2 := hrow1.below hb2 hb1.size
      refine (toInt64S_c a0 len0 cap0 _ zs _ hrow2 (Nat.le_trans hb1.size hb2.size) hlen hl).mono ?_
      rintro e w3 ⟨g3, rfl, hown3, hb3⟩
      go_wp2_with fail
      refine (eqInt64S_c _ _ _ _ _ _ _ zs zs _ (((Row.of_own hown2).below hb3 (Nat.le_refl _)).more hb3.size) (Row.of_own hown3) hlen hlen (by omega)).mono ?_
      rintro e w4 ⟨rfl, d4, rfl⟩
      rw [decide_eq_true rfl]
      go_wp2
      go_ret
      exact ⟨rfl, (hb1.trans (hb2.mono hb1.size)).trans ((hb3.mono (Nat.le_trans hb1.size hb2.size)).trans (below_drewN (Below.refl _ _) _))⟩
    | true =>
      go_enter Try.func3, Try.ntmps3
      go_wp2_with fail
      refine (toInt64S_c a0 len0 cap0 _ zs _ hrow (Nat.le_refl _) hlen hl).mono ?_
      rintro e w1 ⟨g1, rfl, hown1, hb1⟩
      go_wp2_with fail
      refine (specGcd_c _ _ _ _ zs _ (Row.of_own hown1) hlen hl hco).mono ?_
      rintro e w' ⟨rfl, rfl⟩
      go_wp2_with fail
      have hrow1 := hrow.below hb1 (Nat.le_refl _)
      refine (toInt64S_c a0 len0 cap0 _ zs _ hrow1 hb1.size hlen hl).mono ?_
      rintro e w2 ⟨g2, rfl, hown2, hb2⟩
      go_wp2_with fail
      refine (implGcd_c _ _ _ _ zs _ (Row.of_own hown2) hlen hl hco).mono ?_
      rintro e w3 ⟨rfl, d3, rfl⟩
      go_wp2_with fail
      have hrow2 := hrow1.below hb2 hb1.size
      refine (toInt64S_c a0 len0 cap0 w.heap.size zs (w2.drewN d3) hrow2 (Nat.le_trans hb1.size hb2.size) hlen hl).mono ?_
      rintro e w3 ⟨g3, rfl, hown3, hb3⟩
      go_wp2_with fail
      have hb23 : Below w2.heap.size w2 w3 := (below_drewN (Below.refl _ _) _).trans hb3
      refine (eqInt64S_c _ _ _ _ _ _ _ zs zs _ (((Row.of_own hown2).below hb23 (Nat.le_refl _)).more hb23.size) (Row.of_own hown3) hlen hlen (by omega)).mono ?_
      rintro e w4 ⟨rfl, d4, rfl⟩
      rw [decide_eq_true rfl]
      go_wp2
      go_ret
      exact ⟨rfl, (hb1.trans (hb2.mono hb1.size)).trans ((hb23.mono (Nat.le_trans hb1.size hb2.size)).trans (below_drewN (Below.refl _ _) _))⟩

set_option maxRecDepth 100000 in
theorem lifted (os : Os) (started : os.Started) (H : Type) (enc : TypeId × Value → H) :
    ReturnsInHanded {} Try.checked os 3 .any (Rows.fnExactGcdOfSpec.pre6 enc Try.prog Try.f3 Rows.fnExactGcdOfRow.domain false) (Rows.fnExactGcdOfSpec.post enc Try.prog Try.f3 false true false false) := by
  refine returnsInHanded_of_change (C := Try.checked) own started (by kernel_rfl) Try.func3
    (ChangeSpec.witness6 (enc := enc) (C := Try.checked) false ⟨#[], #[.slice none 0 0], []⟩ 8 (by kernel_rfl) (by kernel_rfl) (by kernel_rfl) (by kernel_rfl)) ?_
  intro W base args ds gs before hval0 hW hcnd _
  have hval : ∀ (j : Nat) t v, Try.f3.params[j]? = some t → args[j]? = some v → Value.okWide Try.prog W .any base t v := hval0
  have hW' := hW
  obtain ⟨p, q, hA0, hV, rfl, hfz, hnd⟩ := hW
  have hA : DataW.TrodAll enc Try.prog W 0 (fun _ => true) true Try.f3.params.toList args.toList ds p := hA0
  rw [Try.params3] at hA hval
  obtain ⟨v0, vs0, d0, ds0, p0, q0, hargs, rfl, rfl, h0, r0⟩ := trodAll_cons hA
  obtain ⟨rfl, rfl, rfl⟩ := trodAll_nil r0
  obtain rfl : args = #[v0] := by cases args; simp_all
  obtain ⟨rfl, rfl⟩ := trodVars_none hV
  obtain ⟨a0, len0, cap0, rfl⟩ := okWide_slice Try.underlying22 (hval 0 22 v0 rfl rfl)
  have k0 := h0
  have lt0 : ∀ x ∈ p0, x.block < W.heap.size := by obtain ⟨m, hm⟩ := k0; exact DataW.trod_lt m _ _ _ hm
  obtain ⟨z0, w0⟩ : ∃ zs, IsRow .i64 W a0 len0 cap0 zs := by
    obtain ⟨fuel, hf⟩ := h0
    rcases open_ints Try.underlying22 Try.underlying2 (by kernel_rfl) hf with ⟨hcs, _⟩ | ⟨x, l, c, zs, hcs, _, hl, hm, hz, _, hcell, hwz⟩
    · simp [Value.cells] at hcs
      obtain ⟨rfl, rfl, rfl⟩ := hcs
      exact ⟨[], .inl ⟨rfl, rfl, rfl, rfl⟩⟩
    · simp [Value.cells] at hcs
      obtain ⟨rfl, rfl, rfl⟩ := hcs
      exact ⟨zs, .inr ⟨_, rfl, hl, hm, by simpa using hz, hcell, hwz⟩⟩
  clear hA0 hval0
  refine (walk a0 len0 cap0 z0 W w0).mono fun e W' ⟨he, bel⟩ => ?_
  subst he
  exact ⟨_, rfl, _, _, _, [], _, [], hW', trodAll_mk1 (shut_bool Try.underlying4 _), (trodAll_cons_mk (Below.trod laidOut (by kernel_rfl) (of_decide_eq_true (by kernel_rfl)) k0 bel lt0) trodAll_mk0), rfl, bel.frame _, fun h => by cases h⟩

theorem over : Rows.fnExactGcdOfRow.holds Try.pinned (OpenSpec.ofChange Rows.fnExactGcdOfSpec) :=
  OpenClaim.holds_of_wide 3 Try.f3 rfl rfl rfl rfl rfl rfl rfl ⟨rfl, rfl, rfl, rfl, rfl⟩ rfl rfl rfl rfl rfl (by kernel_rfl) Try.func3 (by kernel_rfl)
    (of_decide_eq_true (by kernel_rfl)) (by unfold Func.isWrapper; first | (rw [if_pos (by decide +kernel)]; kernel_rfl) | (rw [if_neg (by decide +kernel)]; exact ⟨rfl, rfl⟩))
    (fun os started H enc _ => lifted os started H enc)

/-- The statement. -/
theorem proved : Rows.FnExactGcdOfSaid := over
#print axioms proved
end Go.Proofs.Ytccjnnkohmmooac.fnExactGcdOf
