/-
  For every text the program's LinesOf answers as the model's, in memory of its own.
  Conditions: those that the card itself bears (two tables of the library as its text lays them; no road reads them).
-/
import Derived.Test.YtpgbihiibdiohaaDoorCards
import Derived.Test.YtpgbihiibdiohaaDoorTie
import Derived.Test.YtpgbihiibdiohaaDoorLines
import Derived.HandedShaped
import Derived.ChangeSame
import Derived.ChangeVars
import Derived.JoinedOf
import Derived.RowKit
import Derived.RowKitTokens
import Derived.LaidLaws
import Derived.LaidHandle
import Derived.Stop.LaidErr
import Derived.Stop.Joined
import Derived.SevenTiedAt
namespace Go.Proofs.YtpgbihiibdiohaaDoor.fnExactLinesOf
open Go.ChangeShapes Go.WideShapes Go.ChangeAt Go.RowKit
open Go.ChangeMaps (open_string shut_string)
set_option linter.unusedVariables false

theorem own : ownKnob Tryd.prog.godebug = none := by kernel_rfl

theorem own_row {w : World} {base n c : Nat} {e : TypeId} {A : Option Addr} {xs : List Value} (h : w.ownsRow base e 1 (.slice A n c) n xs) : Row w w.heap.size A xs := by
  obtain ⟨A', c', h1, h2⟩ := own_slice h
  injection h1 with h1
  subst h1
  exact h2


theorem below_draws {B : Nat} {a w : World} (h : Below B a w) (d : Nat) : Below B a (w.drewN d) := ⟨h.os, h.tape, h.output, h.size, h.block⟩
theorem maxInt_below {w w' : World} (h : MaxInt w) (hb : Below w.heap.size w w') : MaxInt w' := by
  obtain ⟨m, hm⟩ := h
  exact ⟨m, (hb.cell (p := ⟨1, 0, none⟩) (cell_lt hm)).trans hm⟩
/-- The cells of a table of numbers. -/
def tabCells : DataW Unit → List Value
  | .agg l => l.flatMap fun x => match x with
    | .lit (.int k z) => [Value.int k z]
    | .agg r => r.flatMap fun y => match y with
      | .lit (.int k z) => [Value.int k z]
      | _ => []
    | _ => []
  | _ => []
/-- A world that meets the list. -/
noncomputable def laidWorld (os : Os) : World :=
  let w0 := World.holding Tryd.prog os ⟨#[], #[], []⟩
  let put (g : Nat) (d : DataW Unit) (h : Array Obj) : Array Obj := h.modify g fun
      | .cells _ t frozen => .cells (tabCells d).toArray t frozen
      | o => o
  { w0 with heap := put 3 Rows.laid_unicode_utf8_acceptRanges (put 2 Rows.laid_unicode_utf8_first w0.heap) }
theorem laidWorld_met (os : Os) (args : Array Value) : laidMetH Tryd.prog Rows.fnExactLinesOfRow.laid ((laidWorld os).forCall (fun _ _ => 0) ⟨#[], args, []⟩).memory :=
  laidMetH_of_parts (laidMet_of_run' 8 (by kernel_rfl) (by kernel_rfl)) (by kernel_rfl)

set_option maxRecDepth 100000 in
set_option maxHeartbeats 4000000 in
theorem walk (a0 : ByteArray) (w0 : a0.size ≤ maxLen) (w : World) (hm : MaxInt w) :
    Calls Tryd.prog 3 #[.string a0] w fun e w' => e = .returned (.bool true) ∧ Below w.heap.size w w' := by
  unfold maxLen at w0
  by_cases hl : (1048576 : Int) < a0.size
  · clear hm
    go_enter Tryd.func3, Tryd.ntmps3
    go_wp2
    go_ret
    exact ⟨rfl, Below.refl _ _⟩
  · have HSS := Lib.hid (fun w => specLines_c a0 (by omega) w)
    have HII := Lib.hid (fun w hm => implLines_c a0 (by omega) w hm)
    have HM := Lib.hid hm
    have hz : (linesS a0).1.length ≤ 1048577 := by have := lines_len a0; omega
    generalize linesS a0 = R at HSS HII hz
    obtain ⟨zs, ok⟩ := R
    have hz : zs.length ≤ 1048577 := hz
    have HSS : Hid (∀ w, Calls Tryd.prog 11 #[.string a0] w fun e w' => (∃ A c, e = .returned (.tuple #[.slice A zs.length c, .bool ok]) ∧ Row w' w'.heap.size A (zs.map Value.string)) ∧ Below w.heap.size w w') := HSS
    have HII : Hid (∀ w, MaxInt w → Calls Tryd.prog 12 #[.string a0] w fun e w' => (∃ v, e = .returned (.tuple #[v, .bool ok]) ∧ w'.ownsRow w.heap.size 9 1 v zs.length (zs.map Value.string)) ∧ Below w.heap.size w w') := HII
    clear hm
    go_enter Tryd.func3, Tryd.ntmps3
    go_wp2_with fail
    refine (HSS.out _).mono ?_
    rintro e w1 ⟨⟨A1, c1, rfl, hrow1⟩, hb1⟩
    go_wp2_with fail
    refine (HII.out _ (maxInt_below HM.out hb1)).mono ?_
    rintro e w2 ⟨⟨v2, rfl, hown2⟩, hb2⟩
    obtain ⟨A2, c2, rfl, hrow2⟩ := own_slice hown2
    have hrow12 := (hrow1.below hb2 (Nat.le_refl _)).more hb2.size
    have hb12 := hb1.trans (hb2.mono hb1.size)
    have HO2 := Lib.hid hown2
    clear hown2
    go_wp2_with fail
    refine (eqStringS_c A2 A1 zs.length c2 c1 _ zs _ hrow2 hrow12 rfl (by omega)).mono ?_
    rintro e w' ⟨rfl, d, rfl⟩
    go_wp2_with fail
    refine (markS_c w1.heap.size A2 zs.length c2 (zs.map Value.string) 1 (w2.drewN d) HO2.out (by omega) (by omega) (by omega)).mono ?_
    rintro e w3 ⟨rfl, hown3, hg3⟩
    have hb23 : Below w1.heap.size (w2.drewN d) w3 := (Below.refl _ _).grown hg3 hb2.size (fun k hk => (HO2.out.lt k hk).1)
    have hb13 : Below w1.heap.size w1 w3 := hb2.trans ((below_draws (Below.refl _ _) d).trans hb23)
    have hrow3 := own_row hown3
    have hrow13 := hrow1.below hb13 (Nat.le_refl _)
    have hbw3 := hb1.trans (hb13.mono hb1.size)
    have hs13 := hb13.size
    clear hown3 hg3 hrow12 hrow2
    go_wp2_with fail
    refine (heldS_c A2 zs.length c2 1 _ hrow3 (by omega) (by omega) (by omega)).mono ?_
    rintro e w5 ⟨rfl, hb5⟩
    have hbw5 := hbw3.trans (hb5.mono hbw3.size)
    have hrow15 := (hrow13.below hb5 hs13)
    have hrow35 := hrow3.below hb5 (Nat.le_refl _)
    have hs5 := hb5.size
    go_wp2_with fail
    refine (HII.out _ (maxInt_below HM.out hbw5)).mono ?_
    rintro e w4 ⟨⟨v3, rfl, hown4⟩, hb4⟩
    obtain ⟨A3, c3, rfl, hrow4⟩ := own_slice hown4
    have hrow14 := ((hrow15.below hb4 (by omega)).more (Nat.le_trans (Nat.le_trans hs13 hs5) hb4.size))
    have hrow34 := (hrow35.below hb4 hs5).more (Nat.le_trans hs5 hb4.size)
    have hbw4 := hbw5.trans (hb4.mono hbw5.size)
    clear hown4
    go_wp2_with fail
    refine (eqStringS_c A3 A1 zs.length c3 c1 _ zs _ hrow4 hrow14 rfl (by omega)).mono ?_
    rintro e w' ⟨rfl, d4, rfl⟩
    go_wp2_with fail
    refine (heldS_c A2 zs.length c2 1 (w4.drewN d4) hrow34 (by omega) (by omega) (by omega)).mono ?_
    rintro e w6 ⟨rfl, hb6⟩
    go_wp2_with fail
    go_ret
    exact ⟨rfl, (below_draws hbw4 d4).trans (hb6.mono hbw4.size)⟩

/-- The frame for a row that lists variables, with the world's shape at hand. -/
theorem returns_listed {H : Type} {enc : TypeId × Value → H} {a : Assume} {C : Checked} {os : Os} {f : FuncId} {fn : Func} {s : ChangeSpec} {conds : List PathCond} {apart fresh handsOn again : Bool} {X : World → Prop}
    (hX : ∀ (w w' : World), w.heap = w'.heap → X w → X w')
    (own : ownKnob C.prog.godebug = none) (started : os.Started) (noInit : C.prog.inits.idxOf? f = none) (hfn : C.prog.funcs[f]? = some fn)
    (witness : ∃ (w : World) (tape : Tape) (i : Input), w.os = os ∧ (w.forCall tape i).Shaped C.prog ∧ i.vars = [] ∧ Input.okWide C.prog (w.forCall tape i) .any w.heap.size f i ∧
      ((s.pre enc C.prog fn conds apart (w.forCall tape i).memory i.args ∧ X (w.forCall tape i).memory) ∧ sizedMet enc C.prog fn (OpenSpec.ofChange s) apart (w.forCall tape i).memory i.args) ∧ a.holds C.prog (lone (Frame.enter C.prog f i.args .normal) [] (w.forCall tape i)))
    (contract : ∀ (W : World) (base : Nat) (args : Array Value) (ds gs : List (DataW H)) (before : List MemPlace),
      (∀ (j : Nat) t v, fn.params[j]? = some t → args[j]? = some v → Value.okWide C.prog W .any base t v) →
      DataW.Whole enc C.prog fn.params.toList s.vars apart W args.toList ds gs before → X W → W.ShapedOpen C.prog →
      Calls C.prog f args W fun e W' => ∃ v, e = .returned v ∧ s.post enc C.prog fn apart fresh handsOn again W args v W') :
    ReturnsInHanded a C os f .any (fun w args => (s.pre enc C.prog fn conds apart w args ∧ X w) ∧ sizedMet enc C.prog fn (OpenSpec.ofChange s) apart w args) (s.post enc C.prog fn apart fresh handsOn again) := by
  refine returnsInHanded_of_calls own started noInit witness ?_
  intro w tape i _ hsh _ hok hpre hholds
  obtain ⟨_, _, _, fn', hfn', _, _, _, _, hval⟩ := hok
  obtain rfl : fn' = fn := Option.some.inj (hfn'.symm.trans hfn)
  obtain ⟨⟨⟨ds, gs, before, hw, _⟩, hx⟩, _⟩ := hpre
  have hw' := DataW.Whole.of_heap (w' := w.forCall tape i) (by rfl) hw
  refine (contract (w.forCall tape i) w.heap.size i.args ds gs before hval hw' (hX _ _ (by rfl) hx) hsh).mono fun e W' ⟨v, he, hp⟩ => ?_
  subst he
  exact ChangeSpec.post_blind hp

theorem laidOut : laidOutB Tryd.prog = true := by kernel_rfl
set_option maxRecDepth 100000 in
theorem lifted (os : Os) (started : os.Started) (H : Type) (enc : TypeId × Value → H) :
    ReturnsInHanded {} Tryd.checked os 3 .any (fun w args => (Rows.fnExactLinesOfSpec.pre enc Tryd.prog Tryd.f3 [] false w args ∧ laidMetH Tryd.prog Rows.fnExactLinesOfRow.laid w) ∧ sizedMet enc Tryd.prog Tryd.f3 (OpenSpec.ofChange Rows.fnExactLinesOfSpec) false w args)
      (Rows.fnExactLinesOfSpec.post enc Tryd.prog Tryd.f3 false true false false) := by
  refine returns_listed (C := Tryd.checked) (X := fun w => laidMetH Tryd.prog Rows.fnExactLinesOfRow.laid w) (fun _ _ hh h => h.of_heap hh) own started (by kernel_rfl) Tryd.func3
    (ChangeSpec.witness_at (enc := enc) (C := Tryd.checked) (os := os) (X := fun w _ => laidMetH Tryd.prog Rows.fnExactLinesOfRow.laid w) false (laidWorld os) #[.string ByteArray.empty] 8 rfl (by kernel_rfl) (by kernel_rfl) (by kernel_rfl) (by kernel_rfl) (by kernel_rfl) (laidWorld_met os _)) ?_
  intro W base args ds gs before hval0 hW hL hsh
  have hval : ∀ (j : Nat) t v, Tryd.f3.params[j]? = some t → args[j]? = some v → Value.okWide Tryd.prog W .any base t v := hval0
  have hW' := hW
  obtain ⟨p, q, hA0, hV0, rfl, hfz, hnd⟩ := hW
  have hA : DataW.TrodAll enc Tryd.prog W 0 (fun _ => true) true Tryd.f3.params.toList args.toList ds p := hA0
  rw [Tryd.params3] at hA hval
  obtain ⟨v0, vs0, d0, ds0, p0, q0, hargs, rfl, rfl, h0, r0⟩ := trodAll_cons hA
  obtain ⟨rfl, rfl, rfl⟩ := trodAll_nil r0
  obtain rfl : args = #[v0] := by cases args; simp_all
  obtain ⟨rfl, rfl⟩ := trodVars_none hV0
  obtain ⟨a0, rfl, rfl, rfl, w0⟩ := open_string Tryd.underlying9 (hval 0 9 v0 rfl rfl) h0
  have hg := maxInt_of_shaped hsh
  clear hA0 hval0
  simp only [List.append_nil] at hW'
  refine (walk a0 w0 W hg).mono fun e W' ⟨he, bel⟩ => ?_
  subst he
  exact ⟨_, rfl, _, _, _, [], _, [], hW', trodAll_mk1 (shut_bool Tryd.underlying4 _), (trodAll_cons_mk (shut_string Tryd.underlying9 w0) trodAll_mk0), rfl, bel.frame _, fun h => by cases h⟩

theorem said : Rows.FnExactLinesOfSaid :=
  OpenClaim.holds_of_wide 3 Tryd.f3 rfl rfl rfl rfl rfl rfl rfl ⟨rfl, rfl, rfl, rfl, rfl⟩ rfl rfl rfl rfl rfl (by kernel_rfl) Tryd.func3 (by kernel_rfl)
    (of_decide_eq_true (by kernel_rfl)) (by unfold Func.isWrapper; rw [if_neg (of_decide_eq_false (by kernel_rfl))]; exact ⟨rfl, rfl⟩)
    (fun os started H enc _ => lifted os started H enc)

/-- No parameter wants a stand-in; the program's own looks are off: what the card asks. -/
theorem plain (f : FuncId) (fn : Func) (hf : Tryd.pinned.checked.prog.funcNamed "loop.example/g01105/laws.FnExactLinesOf" = some f) (hfn : Tryd.pinned.checked.prog.funcs[f]? = some fn) :
    false = Tryd.pinned.checked.prog.looks [] ∧ ∀ (j : Nat) t, fn.params[j]? = some t → Tryd.pinned.checked.prog.wantsStandIn t = false := by
  obtain rfl : f = 3 := Option.some.inj ((show Tryd.prog.funcNamed "loop.example/g01105/laws.FnExactLinesOf" = some 3 by kernel_rfl).symm.trans hf) |>.symm
  obtain rfl : fn = Tryd.f3 := (Option.some.inj (Tryd.func3.symm.trans hfn)).symm
  refine ⟨by kernel_rfl, fun j t ht => ?_⟩
  rw [Tryd.params3] at ht
  have hm : t = 9 := by simpa using Array.mem_of_getElem? ht
  subst hm
  exact (show Tryd.prog.wantsStandIn 9 = false by kernel_rfl)

/-- The card. -/
theorem proved : Rows.FnExactLinesOfCardSaid :=
  Claim7.holds_tied_plain_at .later [] _ _ _ _ said (fun _ h => by cases h) (by kernel_rfl) (fun _ h => by cases h) fnExactLinesOf_row_tie rfl ⟨rfl, rfl⟩ (by kernel_rfl) rfl plain (by kernel_rfl)
#print axioms proved
end Go.Proofs.YtpgbihiibdiohaaDoor.fnExactLinesOf
