/-
  For every list the program's PutList answers as the model's, and leaves the list as it was.
  Conditions: none but those that the statement itself bears.
-/
import Derived.Test.YtccjnnkohmmooacRows
import Derived.WalkKit
import Derived.ProofKit
import Derived.OpenShut
import Derived.ShutString
import Derived.ChangeOld
import Derived.Below
import Derived.Test.YtccjnnkohmmooacBase
import Derived.Test.YtccjnnkohmmooacSpecLists
import Derived.WalkSmall
namespace Go.Proofs.Ytccjnnkohmmooac.fnExactPutList
open Go.ChangeShapes Go.WideShapes Go.ChangeAt Go.RowKit
open Go.ChangeMaps (open_string shut_string)
set_option linter.unusedVariables false

theorem own : ownKnob Try.prog.godebug = none := by kernel_rfl
theorem laidOut : laidOutB Try.prog = true := by kernel_rfl

/-- WHAT THE WALK IS TOLD OF A SLICE OF INTEGERS THAT CAME IN: it is nil; or it leads to a row of 'cap' cells, the numbers 'zs' (the first 'len' are its elements, the rest its spare room), each fitting its kind. -/
def IsRow (k : IntKind) (w : World) (a : Option Addr) (len cap : Nat) (zs : List Int) : Prop :=
  (a = none ∧ len = 0 ∧ cap = 0 ∧ zs = []) ∨
  ∃ x, a = some x ∧ len ≤ cap ∧ cap ≤ maxLen ∧ zs.length = cap ∧ (∀ i, i < zs.length → w.cell? (x.add i) = some (.int k (zs.getD i 0))) ∧ ∀ n ∈ zs, (Lit.int k n).wf = true

theorem IsRow.row {k : IntKind} {w : World} {a : Option Addr} {len cap : Nat} {zs : List Int} (h : IsRow k w a len cap zs) :
    Row w w.heap.size a ((zs.take len).map (Value.int k)) ∧ (zs.take len).length = len ∧ ∀ n ∈ zs.take len, (Lit.int k n).wf = true := by
  rcases h with ⟨rfl, rfl, rfl, rfl⟩ | ⟨x, rfl, hl, _, hz, hcell, hwz⟩
  · exact ⟨Row.nil, rfl, fun n hn => by simp at hn⟩
  · have hlen : (zs.take len).length = len := by rw [List.length_take]; omega
    refine ⟨fun j hj => ?_, hlen, fun n hn => hwz n (List.mem_of_mem_take hn)⟩
    rw [List.length_map, hlen] at hj
    have hc := hcell j (by omega)
    obtain ⟨b, off, spot⟩ := x
    have hspot : spot = none := by simpa [Addr.add] using World.cell?_spot (hcell 0 (by omega))
    subst hspot
    have ha : (⟨b, off, none⟩ : Addr).add j = ⟨b, off + j, none⟩ := by unfold Addr.add; split <;> simp_all
    rw [ha] at hc
    refine ⟨b, off, rfl, cell_lt hc, ?_⟩
    rw [hc, List.getElem?_map, List.getElem?_take, if_pos (by omega), List.getElem?_eq_getElem (by omega)]
    simp [List.getD, List.getElem?_eq_getElem (show j < zs.length by omega)]

set_option maxRecDepth 100000 in
set_option maxHeartbeats 4000000 in
theorem walk (a0 : Option Addr) (len0 cap0 : Nat) (z0 : List Int) (w : World) (w0 : IsRow .i64 w a0 len0 cap0 z0) :
    Calls Try.prog 4 #[.slice a0 len0 cap0] w fun e w' => e = .returned (.bool true) ∧ Below w.heap.size w w' := by
  obtain ⟨hrow, hlen, hwf⟩ := w0.row
  generalize hzs : z0.take len0 = zs at hrow hlen hwf
  clear hzs w0
  by_cases hbig : (1048576 : Int) < len0
  · go_enter Try.func4, Try.ntmps4
    go_wp2
    go_ret
    exact ⟨rfl, Below.refl _ _⟩
  · have hl : len0 ≤ 1048576 := by omega
    obtain ⟨s, t, Hs, Hi⟩ : ∃ (s : ByteArray) (t : Bool), Hid (∀ (A : Option Addr) (n c B : Nat) (w : World), Row w B A (zs.map ic) → B ≤ w.heap.size → zs.length = n → Calls Try.prog 10 #[.slice A n c] w fun e w' => e = .returned (.tuple #[.string s, .bool t]) ∧ Below w.heap.size w w') ∧
        Hid (∀ (A : Option Addr) (n c B : Nat) (w : World), Row w B A (zs.map ic) → B ≤ w.heap.size → zs.length = n → Calls Try.prog 11 #[.slice A n c] w fun e w' => e = .returned (.tuple #[.string s, .bool t]) ∧ Below w.heap.size w w') := by
      cases hco : codedB zs with
      | false =>
        refine ⟨⟨#[]⟩, false, fun A n c B w h hB hz => ?_, fun A n c B w h hB hz => ?_⟩
        · refine (put_no A n c B zs w h hz (by omega) hco).1.mono ?_
          rintro e w' ⟨rfl, rfl⟩
          exact ⟨rfl, Below.refl _ _⟩
        · refine (put_no A n c B zs w h hz (by omega) hco).2.mono ?_
          rintro e w' ⟨rfl, rfl⟩
          exact ⟨rfl, Below.refl _ _⟩
      | true => exact ⟨_, _, fun A n c B w h hB hz => specPutList_c A n c B zs w h hB hz hco, fun A n c B w h hB hz => implPutList_c A n c B zs w h hB hz hco⟩
    go_enter Try.func4, Try.ntmps4
    go_wp2_with fail
    refine (toInt64S_c a0 len0 cap0 _ zs _ hrow (Nat.le_refl _) hlen hl).mono ?_
    rintro e w1 ⟨g1, rfl, hown1, hb1⟩
    go_wp2_with fail
    refine (Hs.out _ _ _ _ _ (Row.of_own hown1) (Nat.le_refl _) hlen).mono ?_
    rintro e w2 ⟨rfl, hb2⟩
    go_wp2_with fail
    have hb12 := hb1.trans (hb2.mono hb1.size)
    refine (toInt64S_c a0 len0 cap0 _ zs _ (hrow.below hb12 (Nat.le_refl _)) hb12.size hlen hl).mono ?_
    rintro e w3 ⟨g3, rfl, hown3, hb3⟩
    have hb13 := hb12.trans (hb3.mono hb12.size)
    go_wp2_with fail
    refine (Hi.out _ _ _ _ _ (Row.of_own hown3) (Nat.le_refl _) hlen).mono ?_
    rintro e w4 ⟨rfl, hb4⟩
    have hb14 := hb13.trans (hb4.mono hb13.size)
    go_wp2_with fail
    refine (toInt64S_c a0 len0 cap0 _ zs _ (hrow.below hb14 (Nat.le_refl _)) hb14.size hlen hl).mono ?_
    rintro e w5 ⟨g5, rfl, hown5, hb5⟩
    have hb15 := hb14.trans (hb5.mono hb14.size)
    have hb35 := hb4.trans (hb5.mono hb4.size)
    go_wp2_with fail
    refine (eqInt64S_c _ _ _ _ _ _ _ zs zs _ (((Row.of_own hown3).below hb35 (Nat.le_refl _)).more hb35.size) (Row.of_own hown5) hlen hlen (by omega)).mono ?_
    rintro e w6 ⟨rfl, d6, rfl⟩
    rw [decide_eq_true rfl]
    go_wp2
    go_ret
    exact ⟨rfl, below_drewN hb15 _⟩

set_option maxRecDepth 100000 in
theorem lifted (os : Os) (started : os.Started) (H : Type) (enc : TypeId × Value → H) :
    ReturnsInHanded {} Try.checked os 4 .any (Rows.fnExactPutListSpec.pre6 enc Try.prog Try.f4 Rows.fnExactPutListRow.domain false) (Rows.fnExactPutListSpec.post enc Try.prog Try.f4 false true false false) := by
  refine returnsInHanded_of_change (C := Try.checked) own started (by kernel_rfl) Try.func4
    (ChangeSpec.witness6 (enc := enc) (C := Try.checked) false ⟨#[], #[.slice none 0 0], []⟩ 8 (by kernel_rfl) (by kernel_rfl) (by kernel_rfl) (by kernel_rfl)) ?_
  intro W base args ds gs before hval0 hW hcnd _
  have hval : ∀ (j : Nat) t v, Try.f4.params[j]? = some t → args[j]? = some v → Value.okWide Try.prog W .any base t v := hval0
  have hW' := hW
  obtain ⟨p, q, hA0, hV, rfl, hfz, hnd⟩ := hW
  have hA : DataW.TrodAll enc Try.prog W 0 (fun _ => true) true Try.f4.params.toList args.toList ds p := hA0
  rw [Try.params4] at hA hval
  obtain ⟨v0, vs0, d0, ds0, p0, q0, hargs, rfl, rfl, h0, r0⟩ := trodAll_cons hA
  obtain ⟨rfl, rfl, rfl⟩ := trodAll_nil r0
  obtain rfl : args = #[v0] := by cases args; simp_all
  obtain ⟨rfl, rfl⟩ := trodVars_none hV
  obtain ⟨a0, len0, cap0, rfl⟩ := okWide_slice Try.underlying22 (hval 0 22 v0 rfl rfl)
  have k0 := h0
  have lt0 : ∀ x ∈ p0, x.block < W.heap.size := by obtain ⟨m, hm⟩ := k0; exact DataW.trod_lt m _ _ _ hm
  obtain ⟨z0, w0⟩ : ∃ zs, IsRow .i64 W a0 len0 cap0 zs := by
    obtain ⟨fuel, hf⟩ := h0
    rcases open_ints Try.underlying22 Try.underlying2 (by kernel_rfl) hf with ⟨hcs, _⟩ | ⟨x, l, c, zs, hcs, _, hl, hm, hz, _, hcell, hwz⟩
    · simp [Value.cells] at hcs
      obtain ⟨rfl, rfl, rfl⟩ := hcs
      exact ⟨[], .inl ⟨rfl, rfl, rfl, rfl⟩⟩
    · simp [Value.cells] at hcs
      obtain ⟨rfl, rfl, rfl⟩ := hcs
      exact ⟨zs, .inr ⟨_, rfl, hl, hm, by simpa using hz, hcell, hwz⟩⟩
  clear hA0 hval0
  refine (walk a0 len0 cap0 z0 W w0).mono fun e W' ⟨he, bel⟩ => ?_
  subst he
  exact ⟨_, rfl, _, _, _, [], _, [], hW', trodAll_mk1 (shut_bool Try.underlying4 _), (trodAll_cons_mk (Below.trod laidOut (by kernel_rfl) (of_decide_eq_true (by kernel_rfl)) k0 bel lt0) trodAll_mk0), rfl, bel.frame _, fun h => by cases h⟩

theorem over : Rows.fnExactPutListRow.holds Try.pinned (OpenSpec.ofChange Rows.fnExactPutListSpec) :=
  OpenClaim.holds_of_wide 4 Try.f4 rfl rfl rfl rfl rfl rfl rfl ⟨rfl, rfl, rfl, rfl, rfl⟩ rfl rfl rfl rfl rfl (by kernel_rfl) Try.func4 (by kernel_rfl)
    (of_decide_eq_true (by kernel_rfl)) (by unfold Func.isWrapper; first | (rw [if_pos (by decide +kernel)]; kernel_rfl) | (rw [if_neg (by decide +kernel)]; exact ⟨rfl, rfl⟩))
    (fun os started H enc _ => lifted os started H enc)

/-- The statement. -/
theorem proved : Rows.FnExactPutListSaid := over
#print axioms proved
end Go.Proofs.Ytccjnnkohmmooac.fnExactPutList
