/-
  For every term the program's TermText answers as the model's, and leaves the term as it was.
  Conditions: those that the card itself bears (the tables that the program's text lays).
-/
import Derived.Test.YtahlpjhhbcjfpaaDoorRows
import Derived.WalkKit
import Derived.ProofKit
import Derived.OpenShut
import Derived.ShutString
import Derived.ChangeOld
import Derived.Below
import Derived.WalkSmall
import Derived.Test.YtahlpjhhbcjfpaaDoorTms
import Derived.Test.YtahlpjhhbcjfpaaDoorCards
import Derived.Test.YtahlpjhhbcjfpaaDoorTie
import Derived.ChangeSame
import Derived.ChangeVars
import Derived.JoinedOf
import Derived.RowKit
import Derived.RowKitTokens
import Derived.LaidLaws
import Derived.LaidHandle
import Derived.Stop.LaidErr
import Derived.Stop.Joined
import Derived.SevenTiedAt
import Derived.Test.YtahlpjhhbcjfpaaDoorTrmT
namespace Go.Proofs.YtahlpjhhbcjfpaaDoor.fnExactTermText
open Go.ChangeShapes Go.WideShapes Go.ChangeAt Go.RowKit
open Go.ChangeMaps (open_string shut_string)
set_option linter.unusedVariables false

theorem own : ownKnob Tryd.prog.godebug = none := by kernel_rfl
theorem laidOut : laidOutB Tryd.prog = true := by kernel_rfl
set_option maxRecDepth 100000 in
set_option maxHeartbeats 8000000 in
theorem early0 (c0 : Int) (A0 : Option Addr) (n0 cap0 : Nat) (z0 : List Int) (w : World) (in0 : InL w w.heap.size A0 n0 z0) (q0 : 1048576 < (n0)) (vn0 : n0 ≤ maxLen) :
    Calls Tryd.prog 6 #[.agg #[.int .i64 c0, .slice A0 n0 cap0]] w fun e w' => e = .returned (.bool true) ∧ Below w.heap.size w w' := by
  have hB := Below.refl w.heap.size w
  go_enter Tryd.func6, Tryd.ntmps6
  go_wp2_with fail
  have hb_1 : Below w.heap.size w (w.alloc (.cells #[.int .i64 c0, .slice A0 n0 cap0] 42)) := bnew _ _
  have sz_2 : w.heap.size < (w.alloc (.cells #[.int .i64 c0, .slice A0 n0 cap0] 42)).heap.size := by simp
  have a0_0 : (w.alloc (.cells #[.int .i64 c0, .slice A0 n0 cap0] 42)).cell? ⟨w.heap.size, 0, none⟩ = some (.int .i64 c0) := by simp
  have a0_1 : (w.alloc (.cells #[.int .i64 c0, .slice A0 n0 cap0] 42)).cell? ⟨w.heap.size, 1, none⟩ = some (.slice A0 n0 cap0) := by simp
  have a0_l := sz_2
  generalize w.alloc (.cells #[.int .i64 c0, .slice A0 n0 cap0] 42) = w1 at hb_1 a0_0 a0_1 sz_2 a0_l ⊢
  replace in0 := in0.next hb_1 (by omega)
  replace hB := hB.trans (hb_1.mono hB.size)
  have sz_3 := hb_1.size
  refine (szTerm_c c0 A0 n0 cap0 _ _ (by omega) (by omega) (by first | assumption | (unfold maxLen; omega))).mono ?_
  rintro e w2 ⟨rfl, hb_4⟩
  rw [szv_no (by omega)]
  replace in0 := in0.next hb_4 (by omega)
  replace a0_0 := cell_next a0_0 hb_4
  replace a0_1 := cell_next a0_1 hb_4
  replace a0_l := Nat.lt_of_lt_of_le a0_l hb_4.size
  replace hB := hB.trans (hb_4.mono hB.size)
  have sz_5 := hb_4.size
  go_wp2_with fail
  go_ret
  exact ⟨rfl, hB⟩

set_option maxRecDepth 100000 in
set_option maxHeartbeats 8000000 in
theorem road (c0 : Int) (A0 : Option Addr) (n0 cap0 : Nat) (z0 : List Int) (w : World) (in0 : InL w w.heap.size A0 n0 z0) (h0ok : n0 ≤ 1048576) (r0 : ByteArray) (r1 : Bool) 
    (HS0 : ∀ (w0 : World) (a00 : Option Addr) (u00 : Nat), Below w.heap.size w w0 → InL w0 w0.heap.size a00 n0 z0 → Calls Tryd.prog 22 #[.agg #[.int .i64 c0, .slice a00 n0 u00]] w0 fun e w1 => e = .returned (.tuple #[.string r0, .bool r1]) ∧ Below w0.heap.size w0 w1)
    (HI0 : ∀ (w0 : World) (a00 : Option Addr) (u00 : Nat), Below w.heap.size w w0 → InL w0 w0.heap.size a00 n0 z0 → Calls Tryd.prog 24 #[.agg #[.int .i64 c0, .slice a00 n0 u00]] w0 fun e w1 => e = .returned (.tuple #[.string r0, .bool r1]) ∧ Below w0.heap.size w0 w1) :
    Calls Tryd.prog 6 #[.agg #[.int .i64 c0, .slice A0 n0 cap0]] w fun e w' => e = .returned (.bool true) ∧ Below w.heap.size w w' := by
  have HS := Lib.hid HS0
  have HI := Lib.hid HI0
  clear HS0 HI0
  have hB := Below.refl w.heap.size w
  have hl_5 : (0 : Int) ≤ 1048576 - (n0 : Int) := by omega
  go_enter Tryd.func6, Tryd.ntmps6
  go_wp2_with fail
  have hb_1 : Below w.heap.size w (w.alloc (.cells #[.int .i64 c0, .slice A0 n0 cap0] 42)) := bnew _ _
  have sz_2 : w.heap.size < (w.alloc (.cells #[.int .i64 c0, .slice A0 n0 cap0] 42)).heap.size := by simp
  have a0_0 : (w.alloc (.cells #[.int .i64 c0, .slice A0 n0 cap0] 42)).cell? ⟨w.heap.size, 0, none⟩ = some (.int .i64 c0) := by simp
  have a0_1 : (w.alloc (.cells #[.int .i64 c0, .slice A0 n0 cap0] 42)).cell? ⟨w.heap.size, 1, none⟩ = some (.slice A0 n0 cap0) := by simp
  have a0_l := sz_2
  generalize w.alloc (.cells #[.int .i64 c0, .slice A0 n0 cap0] 42) = w1 at hb_1 a0_0 a0_1 sz_2 a0_l ⊢
  replace in0 := in0.next hb_1 (by omega)
  replace hB := hB.trans (hb_1.mono hB.size)
  have sz_3 := hb_1.size
  refine (szTerm_c c0 A0 n0 cap0 _ _ (by omega) (by omega) (by first | assumption | (unfold maxLen; omega))).mono ?_
  rintro e w2 ⟨rfl, hb_4⟩
  rw [szv_yes (by omega)]
  replace in0 := in0.next hb_4 (by omega)
  replace a0_0 := cell_next a0_0 hb_4
  replace a0_1 := cell_next a0_1 hb_4
  replace a0_l := Nat.lt_of_lt_of_le a0_l hb_4.size
  replace hB := hB.trans (hb_4.mono hB.size)
  have sz_6 := hb_4.size
  go_wp2_with fail
  refine (toTerm_k c0 A0 n0 cap0 _ z0 _ in0 (by omega) h0ok).mono ?_
  rintro e w3 ⟨g_7, rfl, own_8, hb_9⟩
  replace in0 := in0.next hb_9 (by omega)
  replace a0_0 := cell_next a0_0 hb_9
  replace a0_1 := cell_next a0_1 hb_9
  replace a0_l := Nat.lt_of_lt_of_le a0_l hb_9.size
  replace hB := hB.trans (hb_9.mono hB.size)
  have sz_10 := hb_9.size
  go_wp2_with fail
  refine (HS.out w3 _ _ hB own_8.inn).mono ?_
  rintro e w4 ⟨rfl, hb_11⟩
  clear own_8
  replace in0 := in0.next hb_11 (by omega)
  replace a0_0 := cell_next a0_0 hb_11
  replace a0_1 := cell_next a0_1 hb_11
  replace a0_l := Nat.lt_of_lt_of_le a0_l hb_11.size
  replace hB := hB.trans (hb_11.mono hB.size)
  have sz_12 := hb_11.size
  go_wp2_with fail
  refine (toTerm_k c0 A0 n0 cap0 _ z0 _ in0 (by omega) h0ok).mono ?_
  rintro e w5 ⟨g_13, rfl, own_14, hb_15⟩
  replace in0 := in0.next hb_15 (by omega)
  replace a0_0 := cell_next a0_0 hb_15
  replace a0_1 := cell_next a0_1 hb_15
  replace a0_l := Nat.lt_of_lt_of_le a0_l hb_15.size
  replace hB := hB.trans (hb_15.mono hB.size)
  have sz_16 := hb_15.size
  go_wp2_with fail
  have hb_17 : Below w5.heap.size w5 (w5.alloc (.cells #[.int .i64 c0, .slice (some ⟨g_13, 0, none⟩) n0 n0] 45)) := bnew _ _
  have sz_18 : w5.heap.size < (w5.alloc (.cells #[.int .i64 c0, .slice (some ⟨g_13, 0, none⟩) n0 n0] 45)).heap.size := by simp
  have x0_0 : (w5.alloc (.cells #[.int .i64 c0, .slice (some ⟨g_13, 0, none⟩) n0 n0] 45)).cell? ⟨w5.heap.size, 0, none⟩ = some (.int .i64 c0) := by simp
  have x0_1 : (w5.alloc (.cells #[.int .i64 c0, .slice (some ⟨g_13, 0, none⟩) n0 n0] 45)).cell? ⟨w5.heap.size, 1, none⟩ = some (.slice (some ⟨g_13, 0, none⟩) n0 n0) := by simp
  have x0_l := sz_18
  generalize w5.alloc (.cells #[.int .i64 c0, .slice (some ⟨g_13, 0, none⟩) n0 n0] 45) = w6 at hb_17 x0_0 x0_1 sz_18 x0_l ⊢
  replace in0 := in0.next hb_17 (by omega)
  replace a0_0 := cell_next a0_0 hb_17
  replace a0_1 := cell_next a0_1 hb_17
  replace a0_l := Nat.lt_of_lt_of_le a0_l hb_17.size
  replace own_14 := own_14.next hb_17
  replace hB := hB.trans (hb_17.mono hB.size)
  have sz_19 := hb_17.size
  refine (HI.out w6 _ _ hB ((own_14.inn).more (by omega))).mono ?_
  rintro e w7 ⟨rfl, hb_20⟩
  replace in0 := in0.next hb_20 (by omega)
  replace a0_0 := cell_next a0_0 hb_20
  replace a0_1 := cell_next a0_1 hb_20
  replace a0_l := Nat.lt_of_lt_of_le a0_l hb_20.size
  replace own_14 := own_14.next hb_20
  replace x0_0 := cell_next x0_0 hb_20
  replace x0_1 := cell_next x0_1 hb_20
  replace x0_l := Nat.lt_of_lt_of_le x0_l hb_20.size
  replace hB := hB.trans (hb_20.mono hB.size)
  have sz_21 := hb_20.size
  go_wp2_with fail
  -- if g0 != w0 || g1 != w1 {
  have HT_22 := Lib.hid (toTerm_k c0 A0 n0 cap0 _ z0 w7.drew in0.drew (by show _ ≤ w7.heap.size; omega) h0ok)
  have HE_23 : Hid (∀ w8 g_24, Below w7.drew.heap.size w7.drew w8 → OwnL w8 w7.drew.heap.size w8.heap.size (some ⟨g_24, 0, none⟩) n0 n0 z0 → Calls Tryd.prog 25 #[.agg #[.int .i64 c0, .slice (some ⟨g_13, 0, none⟩) n0 n0], .agg #[.int .i64 c0, .slice (some ⟨g_24, 0, none⟩) n0 n0]] w8 fun e w' => e = .returned (.bool true) ∧ Below w8.heap.size w8 w') := fun w8 g_24 hb_26 own_25 => eqTerm_k c0 (some ⟨g_13, 0, none⟩) (some ⟨g_24, 0, none⟩) n0 n0 n0 _ _ z0 w8 ((own_14.inn).call (by omega) hb_26) own_25.inn (le_call (by omega) hb_26) (Nat.le_refl _) h0ok
  go_region_held3 (fun w' => w'.cell? ⟨w.heap.size, 0, none⟩ = some (.int .i64 c0) ∧ w'.cell? ⟨w.heap.size, 1, none⟩ = some (.slice A0 n0 cap0) ∧ w'.cell? ⟨w5.heap.size, 0, none⟩ = some (.int .i64 c0) ∧ w'.cell? ⟨w5.heap.size, 1, none⟩ = some (.slice (some ⟨g_13, 0, none⟩) n0 n0))
    (first | go_keep | exact ⟨cell_on a0_0 hb_26, cell_on a0_1 hb_26, cell_on x0_0 hb_26, cell_on x0_1 hb_26⟩ | exact ⟨cell_on2 a0_0 hb_26 hb_28, cell_on2 a0_1 hb_26 hb_28, cell_on2 x0_0 hb_26 hb_28, cell_on2 x0_1 hb_26 hb_28⟩)
    (first | (go_at_call 23; refine HT_22.out.mono ?_; rintro e w8 ⟨g_24, rfl, own_25, hb_26⟩) | (go_at_call 25; refine (HE_23.out _ _ hb_26 own_25).mono ?_; rintro e w9 ⟨rfl, hb_28⟩))
  replace hb_26 := (bstep hb_26)
  replace in0 := in0.next hb_26 (by omega)
  replace a0_0 := cell_next a0_0 hb_26
  replace a0_1 := cell_next a0_1 hb_26
  replace a0_l := Nat.lt_of_lt_of_le a0_l hb_26.size
  replace own_14 := own_14.next hb_26
  replace x0_0 := cell_next x0_0 hb_26
  replace x0_1 := cell_next x0_1 hb_26
  replace x0_l := Nat.lt_of_lt_of_le x0_l hb_26.size
  replace hB := hB.trans (hb_26.mono hB.size)
  have sz_29 := hb_26.size
  replace in0 := in0.next hb_28 (by omega)
  replace a0_0 := cell_next a0_0 hb_28
  replace a0_1 := cell_next a0_1 hb_28
  replace a0_l := Nat.lt_of_lt_of_le a0_l hb_28.size
  replace own_14 := own_14.next hb_28
  replace x0_0 := cell_next x0_0 hb_28
  replace x0_1 := cell_next x0_1 hb_28
  replace x0_l := Nat.lt_of_lt_of_le x0_l hb_28.size
  replace hB := hB.trans (hb_28.mono hB.size)
  have sz_30 := hb_28.size
  clear HT_22 HE_23 own_25
  go_wp2_with fail
  go_ret
  exact ⟨rfl, hB⟩

set_option maxRecDepth 100000 in
set_option maxHeartbeats 4000000 in
theorem walk (c0 : Int) (A0 : Option Addr) (n0 cap0 : Nat) (z0 : List Int) (w : World) (hT : Tab10 w) (h0row : Row w w.heap.size A0 (z0.map ic)) (h0len : z0.length = n0) (h0max : n0 ≤ maxLen) :
    Calls Tryd.prog 6 #[.agg #[.int .i64 c0, .slice A0 n0 cap0]] w fun e w' => e = .returned (.bool true) ∧ Below w.heap.size w w' := by
  by_cases hn : n0 ≤ 1048576
  · exact road c0 A0 n0 cap0 z0 w ⟨h0len, h0row⟩ (by omega) (ttR (c0, z0)).1 (ttR (c0, z0)).2
      (fun w0 a00 u00 hb g0 => specTermText_c c0 a00 n0 u00 z0 w0 g0 (by omega)) (fun w0 a00 u00 hb g0 => implTermText_c c0 a00 n0 u00 z0 w0 (hT.next hb) g0 (by omega))
  · exact early0 c0 A0 n0 cap0 z0 w ⟨h0len, h0row⟩ (by omega) h0max

/-- The cells of a table. -/
def litCells : DataW Unit → List Value
  | .lit (.int k z) => [Value.int k z]
  | .lit (.bool b) => [Value.bool b]
  | .lit (.string l) => [Value.string ⟨l.toArray⟩]
  | _ => []
def tabCells : DataW Unit → List Value
  | .agg l => l.flatMap fun x => match x with
    | .agg r => r.flatMap litCells
    | x => litCells x
  | _ => []
/-- A world that meets the list. -/
noncomputable def laidWorld (os : Os) : World :=
  let w0 := World.holding Tryd.prog os ⟨#[], #[], []⟩
  let put (g : Nat) (d : DataW Unit) (h : Array Obj) : Array Obj := h.modify g fun
      | .cells _ t frozen => .cells (tabCells d).toArray t frozen
      | o => o
  { w0 with heap := put 2 (Rows.laid_internal_strconv_uint64pow10) (put 6 (Rows.laid_math_bits_deBruijn64tab) (put 5 (Rows.laid_math_bits_deBruijn32tab) w0.heap)) }
theorem laidWorld_met (os : Os) (args : Array Value) : laidMetH Tryd.prog Rows.fnExactTermTextRow.laid ((laidWorld os).forCall (fun _ _ => 0) ⟨#[], args, []⟩).memory :=
  laidMetH_of_parts (laidMet_of_run' 8 (by kernel_rfl) (by kernel_rfl)) (by kernel_rfl)

set_option maxRecDepth 100000 in
set_option maxHeartbeats 4000000 in
theorem lifted (os : Os) (started : os.Started) (H : Type) (enc : TypeId × Value → H) :
    ReturnsInHanded {} Tryd.checked os 6 .any (fun w args => (Rows.fnExactTermTextSpec.pre enc Tryd.prog Tryd.f6 [] false w args ∧ laidMetH Tryd.prog Rows.fnExactTermTextRow.laid w) ∧ sizedMet enc Tryd.prog Tryd.f6 (OpenSpec.ofChange Rows.fnExactTermTextSpec) false w args) (Rows.fnExactTermTextSpec.post enc Tryd.prog Tryd.f6 false true false false) := by
  refine returnsInHanded_of_change_and (C := Tryd.checked) (X := fun w _ => laidMetH Tryd.prog Rows.fnExactTermTextRow.laid w) (fun _ _ _ hh h => h.of_heap hh) own started (by kernel_rfl) Tryd.func6
    (ChangeSpec.witness_at (enc := enc) (C := Tryd.checked) (os := os) (X := fun w _ => laidMetH Tryd.prog Rows.fnExactTermTextRow.laid w) false (laidWorld os) #[.agg #[.int .i64 0, .slice none 0 0]] 8 rfl (by kernel_rfl) (by kernel_rfl) (by kernel_rfl) (by kernel_rfl) (by kernel_rfl) (laidWorld_met os _)) ?_
  intro W base args ds gs before hval0 hW _ _ hL _
  have hval : ∀ (j : Nat) t v, Tryd.f6.params[j]? = some t → args[j]? = some v → Value.okWide Tryd.prog W .any base t v := hval0
  have hW' := hW
  obtain ⟨p, q, hA0, hV, rfl, hfz, hnd⟩ := hW
  have hA : DataW.TrodAll enc Tryd.prog W 0 (fun _ => true) true Tryd.f6.params.toList args.toList ds p := hA0
  rw [Tryd.params6] at hA hval
  obtain ⟨v0, vs0, d0, ds0, p0, q0, hargs, rfl, rfl, g0, r0⟩ := trodAll_cons hA
  obtain ⟨rfl, rfl, rfl⟩ := trodAll_nil r0
  obtain rfl : args = #[v0] := by cases args; simp_all
  obtain ⟨rfl, rfl⟩ := trodVars_none hV
  have k0 := g0
  have lt0 : ∀ x ∈ p0, x.block < W.heap.size := by obtain ⟨m, hm⟩ := k0; exact DataW.trod_lt m _ _ _ hm
  obtain ⟨c0, A0, n0, cap0, z0, rfl, h0len, h0max, h0row, _⟩ := term_in (hval 0 42 v0 rfl rfl) g0
  clear hA0 hval0
  simp only [List.append_nil] at hW'
  have hg := tab10_of_laid (laid := Rows.fnExactTermTextRow.laid) rfl hL
  refine (walk c0 A0 n0 cap0 z0 W hg h0row h0len h0max).mono fun e W' ⟨he, bel⟩ => ?_
  subst he
  exact ⟨_, rfl, _, _, _, [], _, [], hW', trodAll_mk1 (shut_bool Tryd.underlying4 _), (trodAll_cons_mk (Below.trod laidOut (by kernel_rfl) (of_decide_eq_true (by kernel_rfl)) k0 bel lt0) trodAll_mk0), rfl, bel.frame _, fun h => by cases h⟩

theorem said : Rows.FnExactTermTextSaid :=
  OpenClaim.holds_of_wide 6 Tryd.f6 rfl rfl rfl rfl rfl rfl rfl ⟨rfl, rfl, rfl, rfl, rfl⟩ rfl rfl rfl rfl rfl (by kernel_rfl) Tryd.func6 (by kernel_rfl)
    (of_decide_eq_true (by kernel_rfl)) (by unfold Func.isWrapper; first | (rw [if_pos (by decide +kernel)]; kernel_rfl) | (rw [if_neg (by decide +kernel)]; exact ⟨rfl, rfl⟩))
    (fun os started H enc _ => lifted os started H enc)

/-- No parameter wants a stand-in; the program's own looks are as told: what the card asks. -/
theorem plain (f : FuncId) (fn : Func) (hf : Tryd.pinned.checked.prog.funcNamed "loop.example/g01105/laws.FnExactTermText" = some f) (hfn : Tryd.pinned.checked.prog.funcs[f]? = some fn) :
    true = Tryd.pinned.checked.prog.looks [] ∧ ∀ (j : Nat) t, fn.params[j]? = some t → Tryd.pinned.checked.prog.wantsStandIn t = false := by
  obtain rfl : f = 6 := Option.some.inj ((show Tryd.prog.funcNamed "loop.example/g01105/laws.FnExactTermText" = some 6 by kernel_rfl).symm.trans hf) |>.symm
  obtain rfl : fn = Tryd.f6 := (Option.some.inj (Tryd.func6.symm.trans hfn)).symm
  refine ⟨by kernel_rfl, fun j t ht => ?_⟩
  rw [Tryd.params6] at ht
  have hm : t = 42 := by simpa using Array.mem_of_getElem? ht
  subst hm
  exact (show Tryd.prog.wantsStandIn 42 = false by kernel_rfl)

/-- The card. -/
theorem proved : Rows.FnExactTermTextCardSaid :=
  Claim7.holds_tied_plain_at .later [] _ _ _ _ said (fun _ h => by cases h) (by kernel_rfl) (fun _ h => by cases h) fnExactTermText_row_tie rfl ⟨rfl, rfl⟩ (by kernel_rfl) rfl plain (by kernel_rfl)
#print axioms proved
end Go.Proofs.YtahlpjhhbcjfpaaDoor.fnExactTermText
