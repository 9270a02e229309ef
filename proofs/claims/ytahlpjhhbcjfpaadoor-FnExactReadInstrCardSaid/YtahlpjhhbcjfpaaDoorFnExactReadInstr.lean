/-
  For every text the program's ReadInstr answers as the model's.
  Conditions: those that the card itself bears (three tables and two errors of the library as their initialisers lay them).
-/
import Derived.Test.YtahlpjhhbcjfpaaDoorCards
import Derived.Test.YtahlpjhhbcjfpaaDoorTie
import Derived.Test.YtahlpjhhbcjfpaaDoorRdI
import Derived.Test.YtahlpjhhbcjfpaaDoorRdS
import Derived.Test.YtahlpjhhbcjfpaaDoorInstrL
import Derived.HandedShaped
import Derived.ChangeSame
import Derived.ChangeVars
import Derived.JoinedOf
import Derived.RowKit
import Derived.RowKitTokens
import Derived.LaidLaws
import Derived.LaidHandle
import Derived.Stop.LaidErr
import Derived.Stop.Joined
import Derived.SevenTiedAt
import Derived.Shelf.LaysM
namespace Go.Proofs
open Go.Shelf
shelf_lay LaysM.n145 Nm 145 at Tryd as Tryd.laysM145
end Go.Proofs
namespace Go.Proofs.YtahlpjhhbcjfpaaDoor.fnExactReadInstr
open Go.ChangeShapes Go.WideShapes Go.ChangeAt Go.RowKit
open Go.ChangeMaps (open_string shut_string)
set_option linter.unusedVariables false

theorem own : ownKnob Tryd.prog.godebug = none := by kernel_rfl
theorem maxI_of_shaped {w : World} (h : w.ShapedOpen Tryd.prog) : MaxI w := Tryd.laysM145.s1_3 w h

/-- The table of the powers of ten, as the card's list lays it. -/
theorem tab_of_laid {W : World} (h : laidMetH Tryd.prog Rows.fnExactReadInstrRow.laid W) : Lib.TabIs Tryd.prog W "internal/strconv.uint64pow10" .u64 Lib.pow10Tab := by
  have h' : laidMet Tryd.prog Rows.fnExactReadInstrRow.laid W := h
  have ht := h'.tail.tail
  exact Lib.tabIs_of_head (g := 2) (t := 230) (e := 213) (n := 20) (by kernel_rfl) (by kernel_rfl) Tryd.underlying230 Tryd.underlying213 (by kernel_rfl) (by kernel_rfl) ht

/-- The cells of a table of numbers. -/
def tabCells (d : DataW Unit) : Array Value := match d with
  | .agg l => (l.map fun x => match x with | .lit (.int k z) => Value.int k z | _ => Value.int .i64 0).toArray
  | _ => #[]
/-- The two errors, as the card's list lays them. -/
theorem star : "*" ++ "errors.errorString" = "*errors.errorString" := by decide
theorem row_err (u : TypeId) (h : Tryd.prog.typeName? 3 u = some "*errors.errorString") : u = 244 :=
  typeName_ptr_named (nm := "errors.errorString") (by rw [star]; kernel_rfl) (by kernel_rfl) (by decide) u (by rw [star]; exact h)
theorem range_of_laid {W : World} (h : laidMetH Tryd.prog Rows.fnExactReadInstrRow.laid W) : ∃ tp p, W.var? Tryd.prog "strconv.ErrRange" = some #[.iface tp p] := by
  have h' : laidMet Tryd.prog Rows.fnExactReadInstrRow.laid W := h
  obtain ⟨a0, s0, hv0, -, -, -⟩ := laid_sentinel h'.tail.tail.tail (g := 4) (ti := 102) (tp := 244) (te := 246) (ts := 9) (by kernel_rfl) (by kernel_rfl) Tryd.underlying102 row_err Tryd.underlying244 Tryd.underlying246 rfl rfl Tryd.underlying9 (by kernel_rfl) (by kernel_rfl)
  exact ⟨_, _, hv0⟩
theorem bad_of_laid {W : World} (h : laidMetH Tryd.prog Rows.fnExactReadInstrRow.laid W) : ∃ tp p, W.var? Tryd.prog "strconv.ErrSyntax" = some #[.iface tp p] := by
  have h' : laidMet Tryd.prog Rows.fnExactReadInstrRow.laid W := h
  obtain ⟨a0, s0, hv0, -, -, -⟩ := laid_sentinel h'.tail.tail.tail.tail (g := 3) (ti := 102) (tp := 244) (te := 246) (ts := 9) (by kernel_rfl) (by kernel_rfl) Tryd.underlying102 row_err Tryd.underlying244 Tryd.underlying246 rfl rfl Tryd.underlying9 (by kernel_rfl) (by kernel_rfl)
  exact ⟨_, _, hv0⟩
/-- A world that meets the list. -/
noncomputable def laidWorld (os : Os) : World :=
  let low := (World.holding Tryd.prog default ⟨#[], #[], []⟩).heap.size
  let w0 := World.holding Tryd.prog os ⟨#[.cells #[.string ⟨#[118, 97, 108, 117, 101, 32, 111, 117, 116, 32, 111, 102, 32, 114, 97, 110, 103, 101]⟩] 246, .cells #[.string ⟨#[105, 110, 118, 97, 108, 105, 100, 32, 115, 121, 110, 116, 97, 120]⟩] 246], #[], []⟩
  let err (g k : Nat) (h : Array Obj) : Array Obj := h.modify g fun
      | .cells _ t frozen => .cells #[.iface 244 (.pointer (some ⟨low + k, 0, none⟩))] t frozen
      | o => o
  let put (g : Nat) (d : DataW Unit) (h : Array Obj) : Array Obj := h.modify g fun
      | .cells _ t frozen => .cells (tabCells d) t frozen
      | o => o
  { w0 with heap := err 4 0 <| err 3 1 <| put 5 Rows.laid_math_bits_deBruijn32tab (put 6 Rows.laid_math_bits_deBruijn64tab (put 2 Rows.laid_internal_strconv_uint64pow10 w0.heap)) }
theorem laidWorld_met (os : Os) (args : Array Value) : laidMetH Tryd.prog Rows.fnExactReadInstrRow.laid ((laidWorld os).forCall (fun _ _ => 0) ⟨#[], args, []⟩).memory :=
  laidMetH_of_parts (laidMet_of_run' 8 (by kernel_rfl) (by kernel_rfl)) (by kernel_rfl)

set_option maxRecDepth 100000 in
set_option maxHeartbeats 4000000 in
theorem walk (a0 : ByteArray) (w0 : a0.size ≤ maxLen) (w : World) (hL : LibR w) (hm : MaxI w) :
    Calls Tryd.prog 4 #[.string a0] w fun e w' => e = .returned (.bool true) ∧ Below w.heap.size w w' := by
  unfold maxLen at w0
  by_cases hl : (1048576 : Int) < a0.size
  · go_enter Tryd.func4, Tryd.ntmps4
    go_wp2_with fail
    go_ret
    exact ⟨rfl, Below.refl _ _⟩
  · have HS := Lib.hid (specRead_c a0 w (by omega))
    have HI := Lib.hid (fun (w1 : World) (hb : Below w.heap.size w w1) => implRead_c a0 w1 (hL.next hb) (hm.next hb) (by omega))
    clear hL hm
    go_enter Tryd.func4, Tryd.ntmps4
    go_wp2_with fail
    refine HS.out.mono ?_
    rintro e w1 ⟨r, rfl, hr, hb1⟩
    have HRR := Lib.hid hr
    clear hr HS
    have hbN := bnew w1 (.cells #[.int .i64 r.1.1, .int .i64 r.1.2] 26)
    have hP : BlkIs (w1.alloc (.cells #[.int .i64 r.1.1, .int .i64 r.1.2] 26)) w1.heap.size 26 #[.int .i64 r.1.1, .int .i64 r.1.2] := blk_new _ _ _ _ rfl
    have hb01 := bon hb1 hbN
    go_wp2_with fail
    generalize w1.alloc (.cells #[.int .i64 r.1.1, .int .i64 r.1.2] 26) = W1 at hbN hP hb01 ⊢
    refine (HI.out W1 hb01).mono ?_
    rintro e w2 ⟨r', rfl, hr', hb2⟩
    obtain rfl : r' = r := hr'.unique HRR.out
    clear hr' HRR HI
    have hbM := bnew w2 (.cells #[.int .i64 r'.1.1, .int .i64 r'.1.2] 26)
    have hP2 := (hP.next hb2).next hbM
    have hQ : BlkIs (w2.alloc (.cells #[.int .i64 r'.1.1, .int .i64 r'.1.2] 26)) w2.heap.size 26 #[.int .i64 r'.1.1, .int .i64 r'.1.2] := blk_new _ _ _ _ rfl
    have p0 : (w2.alloc (.cells #[.int .i64 r'.1.1, .int .i64 r'.1.2] 26)).cell? ⟨w1.heap.size, 0, none⟩ = some (.int .i64 r'.1.1) := hP2.cell 0
    have p1 : (w2.alloc (.cells #[.int .i64 r'.1.1, .int .i64 r'.1.2] 26)).cell? ⟨w1.heap.size, 1, none⟩ = some (.int .i64 r'.1.2) := hP2.cell 1
    have q0 : (w2.alloc (.cells #[.int .i64 r'.1.1, .int .i64 r'.1.2] 26)).cell? ⟨w2.heap.size, 0, none⟩ = some (.int .i64 r'.1.1) := hQ.cell 0
    have q1 : (w2.alloc (.cells #[.int .i64 r'.1.1, .int .i64 r'.1.2] 26)).cell? ⟨w2.heap.size, 1, none⟩ = some (.int .i64 r'.1.2) := hQ.cell 1
    have hb02 := bon (bon hb01 hb2) hbM
    go_wp2_with fail
    generalize w2.alloc (.cells #[.int .i64 r'.1.1, .int .i64 r'.1.2] 26) = W2 at hbM hP2 hQ hb02 p0 p1 q0 q1 ⊢
    refine (eqInstr_c r'.1.1 r'.1.2 r'.1.1 r'.1.2 W2).mono ?_
    rintro e w3 ⟨rfl, hb3⟩
    rw [show decide ((r'.1.1, r'.1.2) = (r'.1.1, r'.1.2)) = true from decide_eq_true rfl]
    generalize r'.2 = b
    cases b <;>
    · go_wp2_with fail
      go_ret
      exact ⟨rfl, bon hb02 hb3⟩

/-- The frame for a row that lists variables, with the world's shape at hand. -/
theorem returns_listed {H : Type} {enc : TypeId × Value → H} {a : Assume} {C : Checked} {os : Os} {f : FuncId} {fn : Func} {s : ChangeSpec} {conds : List PathCond} {apart fresh handsOn again : Bool} {X : World → Prop}
    (hX : ∀ (w w' : World), w.heap = w'.heap → X w → X w')
    (own : ownKnob C.prog.godebug = none) (started : os.Started) (noInit : C.prog.inits.idxOf? f = none) (hfn : C.prog.funcs[f]? = some fn)
    (witness : ∃ (w : World) (tape : Tape) (i : Input), w.os = os ∧ (w.forCall tape i).Shaped C.prog ∧ i.vars = [] ∧ Input.okWide C.prog (w.forCall tape i) .any w.heap.size f i ∧
      ((s.pre enc C.prog fn conds apart (w.forCall tape i).memory i.args ∧ X (w.forCall tape i).memory) ∧ sizedMet enc C.prog fn (OpenSpec.ofChange s) apart (w.forCall tape i).memory i.args) ∧ a.holds C.prog (lone (Frame.enter C.prog f i.args .normal) [] (w.forCall tape i)))
    (contract : ∀ (W : World) (base : Nat) (args : Array Value) (ds gs : List (DataW H)) (before : List MemPlace),
      (∀ (j : Nat) t v, fn.params[j]? = some t → args[j]? = some v → Value.okWide C.prog W .any base t v) →
      DataW.Whole enc C.prog fn.params.toList s.vars apart W args.toList ds gs before → X W → W.ShapedOpen C.prog →
      Calls C.prog f args W fun e W' => ∃ v, e = .returned v ∧ s.post enc C.prog fn apart fresh handsOn again W args v W') :
    ReturnsInHanded a C os f .any (fun w args => (s.pre enc C.prog fn conds apart w args ∧ X w) ∧ sizedMet enc C.prog fn (OpenSpec.ofChange s) apart w args) (s.post enc C.prog fn apart fresh handsOn again) := by
  refine returnsInHanded_of_calls own started noInit witness ?_
  intro w tape i _ hsh _ hok hpre hholds
  obtain ⟨_, _, _, fn', hfn', _, _, _, _, hval⟩ := hok
  obtain rfl : fn' = fn := Option.some.inj (hfn'.symm.trans hfn)
  obtain ⟨⟨⟨ds, gs, before, hw, _⟩, hx⟩, _⟩ := hpre
  have hw' := DataW.Whole.of_heap (w' := w.forCall tape i) (by rfl) hw
  refine (contract (w.forCall tape i) w.heap.size i.args ds gs before hval hw' (hX _ _ (by rfl) hx) hsh).mono fun e W' ⟨v, he, hp⟩ => ?_
  subst he
  exact ChangeSpec.post_blind hp

theorem laidOut : laidOutB Tryd.prog = true := by kernel_rfl
set_option maxRecDepth 100000 in
theorem lifted (os : Os) (started : os.Started) (H : Type) (enc : TypeId × Value → H) :
    ReturnsInHanded {} Tryd.checked os 4 .any (fun w args => (Rows.fnExactReadInstrSpec.pre enc Tryd.prog Tryd.f4 [] false w args ∧ laidMetH Tryd.prog Rows.fnExactReadInstrRow.laid w) ∧ sizedMet enc Tryd.prog Tryd.f4 (OpenSpec.ofChange Rows.fnExactReadInstrSpec) false w args)
      (Rows.fnExactReadInstrSpec.post enc Tryd.prog Tryd.f4 false true false false) := by
  refine returns_listed (C := Tryd.checked) (X := fun w => laidMetH Tryd.prog Rows.fnExactReadInstrRow.laid w) (fun _ _ hh h => h.of_heap hh) own started (by kernel_rfl) Tryd.func4
    (ChangeSpec.witness_at (enc := enc) (C := Tryd.checked) (os := os) (X := fun w _ => laidMetH Tryd.prog Rows.fnExactReadInstrRow.laid w) false (laidWorld os) #[.string ByteArray.empty] 8 rfl (by kernel_rfl) (by kernel_rfl) (by kernel_rfl) (by kernel_rfl) (by kernel_rfl) (laidWorld_met os _)) ?_
  intro W base args ds gs before hval0 hW hL hsh
  have hval : ∀ (j : Nat) t v, Tryd.f4.params[j]? = some t → args[j]? = some v → Value.okWide Tryd.prog W .any base t v := hval0
  have hW' := hW
  obtain ⟨p, q, hA0, hV0, rfl, hfz, hnd⟩ := hW
  have hA : DataW.TrodAll enc Tryd.prog W 0 (fun _ => true) true Tryd.f4.params.toList args.toList ds p := hA0
  rw [Tryd.params4] at hA hval
  obtain ⟨v0, vs0, d0, ds0, p0, q0, hargs, rfl, rfl, h0, r0⟩ := trodAll_cons hA
  obtain ⟨rfl, rfl, rfl⟩ := trodAll_nil r0
  obtain rfl : args = #[v0] := by cases args; simp_all
  obtain ⟨rfl, rfl⟩ := trodVars_none hV0
  obtain ⟨a0, rfl, rfl, rfl, w0⟩ := open_string Tryd.underlying9 (hval 0 9 v0 rfl rfl) h0
  have hg := maxI_of_shaped hsh
  have hLR : LibR W := ⟨tab_of_laid hL, bad_of_laid hL, range_of_laid hL⟩
  clear hA0 hval0
  simp only [List.append_nil] at hW'
  refine (walk a0 w0 W hLR hg).mono fun e W' ⟨he, bel⟩ => ?_
  subst he
  exact ⟨_, rfl, _, _, _, [], _, [], hW', trodAll_mk1 (shut_bool Tryd.underlying4 _), (trodAll_cons_mk (shut_string Tryd.underlying9 w0) trodAll_mk0), rfl, bel.frame _, fun h => by cases h⟩

theorem said : Rows.FnExactReadInstrSaid :=
  OpenClaim.holds_of_wide 4 Tryd.f4 rfl rfl rfl rfl rfl rfl rfl ⟨rfl, rfl, rfl, rfl, rfl⟩ rfl rfl rfl rfl rfl (by kernel_rfl) Tryd.func4 (by kernel_rfl)
    (of_decide_eq_true (by kernel_rfl)) (by unfold Func.isWrapper; rw [if_neg (of_decide_eq_false (by kernel_rfl))]; exact ⟨rfl, rfl⟩)
    (fun os started H enc _ => lifted os started H enc)

/-- No parameter wants a stand-in; the program's own looks are off: what the card asks. -/
theorem plain (f : FuncId) (fn : Func) (hf : Tryd.pinned.checked.prog.funcNamed "loop.example/g01105/laws.FnExactReadInstr" = some f) (hfn : Tryd.pinned.checked.prog.funcs[f]? = some fn) :
    true = Tryd.pinned.checked.prog.looks [] ∧ ∀ (j : Nat) t, fn.params[j]? = some t → Tryd.pinned.checked.prog.wantsStandIn t = false := by
  obtain rfl : f = 4 := Option.some.inj ((show Tryd.prog.funcNamed "loop.example/g01105/laws.FnExactReadInstr" = some 4 by kernel_rfl).symm.trans hf) |>.symm
  obtain rfl : fn = Tryd.f4 := (Option.some.inj (Tryd.func4.symm.trans hfn)).symm
  refine ⟨by kernel_rfl, fun j t ht => ?_⟩
  rw [Tryd.params4] at ht
  have hm : t = 9 := by simpa using Array.mem_of_getElem? ht
  subst hm
  exact (show Tryd.prog.wantsStandIn 9 = false by kernel_rfl)

/-- The card. -/
theorem proved : Rows.FnExactReadInstrCardSaid :=
  Claim7.holds_tied_plain_at .later [] _ _ _ _ said (fun _ h => by cases h) (by kernel_rfl) (fun _ h => by cases h) fnExactReadInstr_row_tie rfl ⟨rfl, rfl⟩ (by kernel_rfl) rfl plain (by kernel_rfl)
#print axioms proved
end Go.Proofs.YtahlpjhhbcjfpaaDoor.fnExactReadInstr
