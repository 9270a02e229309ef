/-
  For every program the program's ValidProgram answers as the model's, and leaves the program as it was.
  Conditions: those that the card itself bears (the tables that the program's text lays).
-/
import Derived.Test.YtpgbihiibdiohaaDoorRows
import Derived.WalkKit
import Derived.ProofKit
import Derived.OpenShut
import Derived.ShutString
import Derived.ChangeOld
import Derived.Below
import Derived.WalkSmall
import Derived.Test.YtpgbihiibdiohaaDoorTms
import Derived.Test.YtpgbihiibdiohaaDoorCards
import Derived.Test.YtpgbihiibdiohaaDoorTie
import Derived.ChangeSame
import Derived.ChangeVars
import Derived.OpenVars
import Derived.JoinedOf
import Derived.RowKit
import Derived.RowKitTokens
import Derived.LaidLaws
import Derived.LaidHandle
import Derived.Stop.LaidErr
import Derived.Stop.Joined
import Derived.SevenTiedAt
import Derived.Test.YtpgbihiibdiohaaDoorTabE
import Derived.Test.YtpgbihiibdiohaaDoorPgmV
namespace Go.Proofs.YtpgbihiibdiohaaDoor.fnExactValidProgram
open Go.ChangeShapes Go.WideShapes Go.ChangeAt Go.RowKit
open Go.ChangeMaps (open_string shut_string)
set_option linter.unusedVariables false

theorem own : ownKnob Tryd.prog.godebug = none := by kernel_rfl
theorem laidOut : laidOutB Tryd.prog = true := by kernel_rfl


set_option maxRecDepth 100000 in
set_option maxHeartbeats 4000000 in
theorem walk (A0 : Option Addr) (n0 cap0 : Nat) (t0 : List (Int × List Int)) (D0 : Option Addr) (m0 dap0 : Nat) (x0 : List S8) (E0 : Option Addr) (q0 eap0 : Nat) (u0 : List (Int × List Int)) (w : World) (hT : TabE w) (h0max : n0 ≤ maxLen) (h0t : InTS w w.heap.size A0 n0 t0) (h0each : ∀ t ∈ t0, t.2.length ≤ maxLen) (h0bmax : m0 ≤ maxLen) (h0b : InST w w.heap.size D0 m0 x0) (h0beach : ∀ y ∈ x0, y.fits) (h0qmax : q0 ≤ maxLen) (h0q : InTS w w.heap.size E0 q0 u0) (h0qeach : ∀ t ∈ u0, t.2.length ≤ maxLen) :
    Calls Tryd.prog 5 #[.agg #[.slice A0 n0 cap0, .slice D0 m0 dap0, .slice E0 q0 eap0]] w fun e w' => e = .returned (.bool true) ∧ Below w.heap.size w w' := by
  have hin : PIn w w.heap.size A0 n0 t0 D0 m0 x0 E0 q0 u0 := ⟨h0t, h0b, h0q⟩
  have hb1 := bnew w (.cells #[.slice A0 n0 cap0, .slice D0 m0 dap0, .slice E0 q0 eap0] 37)
  have hP : BlkIs (w.alloc (.cells #[.slice A0 n0 cap0, .slice D0 m0 dap0, .slice E0 q0 eap0] 37)) w.heap.size 37 #[.slice A0 n0 cap0, .slice D0 m0 dap0, .slice E0 q0 eap0] := blk_new _ _ _ _ rfl
  have HSZ0 := szProgram_k A0 n0 cap0 t0 D0 m0 dap0 x0 E0 q0 eap0 w.heap.size u0 1048576 _ (h0t.next hb1 (Nat.le_refl _)) (h0b.next hb1 (Nat.le_refl _)) (h0q.next hb1 (Nat.le_refl _)) hb1.size (by omega) (by omega) h0max h0each h0bmax h0beach h0qmax h0qeach
  clear h0t h0b h0q h0each h0beach h0qeach
  by_cases hn : progN n0 t0 m0 x0 q0 u0 ≤ 1048576
  · rw [szv_yes (by omega)] at HSZ0
    obtain ⟨L, hL⟩ : ∃ L : Int, (1048576 : Int) - ((progN n0 t0 m0 x0 q0 u0 : Nat) : Int) = L := ⟨_, rfl⟩
    rw [hL] at HSZ0
    have hL0 : 0 ≤ L := by omega
    have HSZ := Lib.hid HSZ0
    have HIN := Lib.hid hin
    have HN := Lib.hid hn
    have HTT := Lib.hid hT
    obtain ⟨R, HR⟩ : ∃ R, Hid (progB t0 x0 u0 = R) := ⟨_, rfl⟩
    clear hL HSZ0 hin hn hT h0max h0bmax h0qmax
    go_enter Tryd.func5, Tryd.ntmps5
    go_wp2_with fail
    generalize w.alloc (.cells #[.slice A0 n0 cap0, .slice D0 m0 dap0, .slice E0 q0 eap0] 37) = W at hb1 hP HSZ ⊢
    have hs1 := hb1.size
    refine HSZ.out.mono ?_
    rintro e w1 ⟨rfl, hb2⟩
    have hB1 := bon hb1 hb2
    have hP1 := hP.next hb2
    have a0 : w1.cell? ⟨w.heap.size, 0, none⟩ = some (.slice A0 n0 cap0) := hP1.cell 0
    have a1 : w1.cell? ⟨w.heap.size, 1, none⟩ = some (.slice D0 m0 dap0) := hP1.cell 1
    have a2 : w1.cell? ⟨w.heap.size, 2, none⟩ = some (.slice E0 q0 eap0) := hP1.cell 2
    clear HSZ hP
    go_wp2_with fail
    refine (toProgram_k A0 n0 cap0 t0 D0 m0 dap0 x0 E0 q0 eap0 w.heap.size u0 w1 (HIN.out.next hB1 (Nat.le_refl _)) hB1.size HN.out).mono ?_
    rintro e w2 ⟨g1, g2, g3, k1, k2, rfl, o1, o2, o3, ⟨i1, i2, i3⟩, hb3⟩
    have hB2 := bon hB1 hb3
    have hP2 := hP1.next hb3
    have HS0 := specValidP_c (some ⟨g1, 0, none⟩) n0 n0 t0 (some ⟨g2, 0, none⟩) m0 m0 x0 (some ⟨g3, 0, none⟩) q0 q0 w2.heap.size u0 w2 ⟨o1.all, o2.all, o3.all⟩ (Nat.le_refl _) HN.out
    rw [HR.out] at HS0
    have HS := Lib.hid HS0
    clear HS0 o1 o2 o3 i1 i2 i3 a0 a1 a2 hP1
    go_wp2_with fail
    refine HS.out.mono ?_
    rintro e w3 ⟨rfl, hb4⟩
    have hB3 := bon hB2 hb4
    have hP3 := hP2.next hb4
    have a0 : w3.cell? ⟨w.heap.size, 0, none⟩ = some (.slice A0 n0 cap0) := hP3.cell 0
    have a1 : w3.cell? ⟨w.heap.size, 1, none⟩ = some (.slice D0 m0 dap0) := hP3.cell 1
    have a2 : w3.cell? ⟨w.heap.size, 2, none⟩ = some (.slice E0 q0 eap0) := hP3.cell 2
    clear HS hP2
    go_wp2_with fail
    refine (toProgram_k A0 n0 cap0 t0 D0 m0 dap0 x0 E0 q0 eap0 w.heap.size u0 w3 (HIN.out.next hB3 (Nat.le_refl _)) hB3.size HN.out).mono ?_
    rintro e w4 ⟨g1, g2, g3, k1, k2, rfl, o1, o2, o3, ⟨i1, i2, i3⟩, hb5⟩
    have hB4 := bon hB3 hb5
    have hP4 := hP3.next hb5
    have HX := Lib.hid (show PIn w4 w4.heap.size (some ⟨g1, 0, none⟩) n0 t0 (some ⟨g2, 0, none⟩) m0 x0 (some ⟨g3, 0, none⟩) q0 u0 from ⟨o1.all, o2.all, o3.all⟩)
    have hb6 := bnew w4 (.cells #[.slice (some ⟨g1, 0, none⟩) n0 n0, .slice (some ⟨g2, 0, none⟩) m0 m0, .slice (some ⟨g3, 0, none⟩) q0 q0] 42)
    have hX : BlkIs (w4.alloc (.cells #[.slice (some ⟨g1, 0, none⟩) n0 n0, .slice (some ⟨g2, 0, none⟩) m0 m0, .slice (some ⟨g3, 0, none⟩) q0 q0] 42)) w4.heap.size 42 #[.slice (some ⟨g1, 0, none⟩) n0 n0, .slice (some ⟨g2, 0, none⟩) m0 m0, .slice (some ⟨g3, 0, none⟩) q0 q0] := blk_new _ _ _ _ rfl
    have HI0 := validProg_c (some ⟨g1, 0, none⟩) n0 n0 t0 (some ⟨g2, 0, none⟩) m0 m0 x0 (some ⟨g3, 0, none⟩) q0 q0 w4.heap.size u0 _ (HTT.out.next (bon hB4 hb6)) (HX.out.next hb6 (Nat.le_refl _)) hb6.size HN.out
    rw [HR.out] at HI0
    have HI := Lib.hid HI0
    clear HI0 o1 o2 o3 i1 i2 i3 a0 a1 a2 hP3 HR
    go_wp2_with fail
    generalize w4.alloc (.cells #[.slice (some ⟨g1, 0, none⟩) n0 n0, .slice (some ⟨g2, 0, none⟩) m0 m0, .slice (some ⟨g3, 0, none⟩) q0 q0] 42) = w5 at hb6 hX HI ⊢
    have hB5 := bon hB4 hb6
    have hP5 := hP4.next hb6
    refine HI.out.mono ?_
    rintro e w6 ⟨rfl, hb7⟩
    have hB6 := bon hB5 hb7
    have hP6 := hP5.next hb7
    have hX6 := hX.next hb7
    have HX6 := Lib.hid ((HX.out.next hb6 (Nat.le_refl _)).next hb7 hb6.size)
    have hs6 : w4.heap.size ≤ w6.heap.size := Nat.le_trans hb6.size hb7.size
    have a0 : w6.cell? ⟨w.heap.size, 0, none⟩ = some (.slice A0 n0 cap0) := hP6.cell 0
    have a1 : w6.cell? ⟨w.heap.size, 1, none⟩ = some (.slice D0 m0 dap0) := hP6.cell 1
    have a2 : w6.cell? ⟨w.heap.size, 2, none⟩ = some (.slice E0 q0 eap0) := hP6.cell 2
    have y0 : w6.cell? ⟨w4.heap.size, 0, none⟩ = some (.slice (some ⟨g1, 0, none⟩) n0 n0) := hX6.cell 0
    have y1 : w6.cell? ⟨w4.heap.size, 1, none⟩ = some (.slice (some ⟨g2, 0, none⟩) m0 m0) := hX6.cell 1
    have y2 : w6.cell? ⟨w4.heap.size, 2, none⟩ = some (.slice (some ⟨g3, 0, none⟩) q0 q0) := hX6.cell 2
    clear HI hP4 hP5 hX hX6 hP6
    go_wp2_with fail
    have HT := Lib.hid (toProgram_k A0 n0 cap0 t0 D0 m0 dap0 x0 E0 q0 eap0 w.heap.size u0 w6.drew (show PIn w6.drew w.heap.size A0 n0 t0 D0 m0 x0 E0 q0 u0 from HIN.out.next ((Below.refl w.heap.size w).drew.trans ⟨hB6.os, hB6.tape, hB6.output, hB6.size, hB6.block⟩) (Nat.le_refl _)) hB6.size HN.out)
    have HE : Hid (∀ w8 h1 h2 h3 j1 j2, Below w6.drew.heap.size w6.drew w8 → OwnTS w8 w6.drew.heap.size j1 (some ⟨h1, 0, none⟩) n0 n0 t0 → OwnST w8 j1 j2 (some ⟨h2, 0, none⟩) m0 m0 x0 → OwnTS w8 j2 w8.heap.size (some ⟨h3, 0, none⟩) q0 q0 u0 → Calls Tryd.prog 25 #[.agg #[.slice (some ⟨g1, 0, none⟩) n0 n0, .slice (some ⟨g2, 0, none⟩) m0 m0, .slice (some ⟨g3, 0, none⟩) q0 q0], .agg #[.slice (some ⟨h1, 0, none⟩) n0 n0, .slice (some ⟨h2, 0, none⟩) m0 m0, .slice (some ⟨h3, 0, none⟩) q0 q0]] w8 fun e w' => e = .returned (.bool true) ∧ Below w8.heap.size w8 w') :=
      fun w8 h1 h2 h3 j1 j2 hb o1 o2 o3 => eqProgram_k (some ⟨g1, 0, none⟩) (some ⟨h1, 0, none⟩) n0 n0 n0 t0 (some ⟨g2, 0, none⟩) (some ⟨h2, 0, none⟩) m0 m0 m0 x0 (some ⟨g3, 0, none⟩) (some ⟨h3, 0, none⟩) q0 q0 q0 u0 w4.heap.size w8.heap.size w8 (HX6.out.next (bstep hb) hs6) ⟨o1.all, o2.all, o3.all⟩ (Nat.le_trans hs6 (bstep hb).size) (Nat.le_refl _) HN.out
    go_region_held3 (fun w' => w'.cell? ⟨w.heap.size, 0, none⟩ = some (.slice A0 n0 cap0) ∧ w'.cell? ⟨w.heap.size, 1, none⟩ = some (.slice D0 m0 dap0) ∧ w'.cell? ⟨w.heap.size, 2, none⟩ = some (.slice E0 q0 eap0) ∧ w'.cell? ⟨w4.heap.size, 0, none⟩ = some (.slice (some ⟨g1, 0, none⟩) n0 n0) ∧ w'.cell? ⟨w4.heap.size, 1, none⟩ = some (.slice (some ⟨g2, 0, none⟩) m0 m0) ∧ w'.cell? ⟨w4.heap.size, 2, none⟩ = some (.slice (some ⟨g3, 0, none⟩) q0 q0))
      (first | go_keep | exact ⟨cell_on a0 hb8, cell_on a1 hb8, cell_on a2 hb8, cell_on y0 hb8, cell_on y1 hb8, cell_on y2 hb8⟩ | exact ⟨cell_on2 a0 hb8 hb9, cell_on2 a1 hb8 hb9, cell_on2 a2 hb8 hb9, cell_on2 y0 hb8 hb9, cell_on2 y1 hb8 hb9, cell_on2 y2 hb8 hb9⟩)
      (first | (go_at_call 23; refine HT.out.mono ?_; rintro e w8 ⟨h1, h2, h3, j1, j2, rfl, o1, o2, o3, _, hb8⟩) | (go_at_call 25; refine (HE.out _ _ _ _ _ _ hb8 o1 o2 o3).mono ?_; rintro e w9 ⟨rfl, hb9⟩))
    go_wp2_with fail
    go_ret
    exact ⟨rfl, bon (bon hB6 (bstep hb8)) hb9⟩
  · rw [szv_no (by omega)] at HSZ0
    have HSZ := Lib.hid HSZ0
    clear HSZ0 hin hT
    go_enter Tryd.func5, Tryd.ntmps5
    go_wp2_with fail
    generalize w.alloc (.cells #[.slice A0 n0 cap0, .slice D0 m0 dap0, .slice E0 q0 eap0] 37) = W at hb1 hP HSZ ⊢
    refine HSZ.out.mono ?_
    rintro e w1 ⟨rfl, hb2⟩
    go_wp2_with fail
    go_ret
    exact ⟨rfl, bon hb1 hb2⟩

/-- The cells of a table. -/
def litCells : DataW Unit → List Value
  | .lit (.int k z) => [Value.int k z]
  | .lit (.bool b) => [Value.bool b]
  | _ => []
def tabCells : DataW Unit → List Value
  | .agg l => l.flatMap fun x => match x with
    | .agg r => r.flatMap litCells
    | x => litCells x
  | _ => []
/-- A world that meets the list. -/
noncomputable def laidWorld (os : Os) : World :=
  let w0 := World.holding Tryd.prog os ⟨#[], #[], []⟩
  let put (g : Nat) (d : DataW Unit) (h : Array Obj) : Array Obj := h.modify g fun
      | .cells _ t frozen => .cells (tabCells d).toArray t frozen
      | o => o
  { w0 with heap := put 0 (Rows.laid_loop_example_g01105_impl_elementForms) w0.heap }
theorem laidWorld_met (os : Os) (args : Array Value) : laidMetH Tryd.prog Rows.fnExactValidProgramRow.laid ((laidWorld os).forCall (fun _ _ => 0) ⟨#[], args, []⟩).memory :=
  laidMetH_of_parts (laidMet_of_run' 8 (by kernel_rfl) (by kernel_rfl)) (by kernel_rfl)

set_option maxRecDepth 100000 in
set_option maxHeartbeats 4000000 in
theorem lifted (os : Os) (started : os.Started) (H : Type) (enc : TypeId × Value → H) :
    ReturnsInHanded {} Tryd.checked os 5 .any (fun w args => (Rows.fnExactValidProgramSpec.pre enc Tryd.prog Tryd.f5 [] false w args ∧ laidMetH Tryd.prog Rows.fnExactValidProgramRow.laid w) ∧ sizedMet enc Tryd.prog Tryd.f5 (OpenSpec.ofChange Rows.fnExactValidProgramSpec) false w args) (Rows.fnExactValidProgramSpec.post enc Tryd.prog Tryd.f5 false true false false) := by
  refine returnsInHanded_of_change_and (C := Tryd.checked) (X := fun w _ => laidMetH Tryd.prog Rows.fnExactValidProgramRow.laid w) (fun _ _ _ hh h => h.of_heap hh) own started (by kernel_rfl) Tryd.func5
    (ChangeSpec.witness_at (enc := enc) (C := Tryd.checked) (os := os) (X := fun w _ => laidMetH Tryd.prog Rows.fnExactValidProgramRow.laid w) false (laidWorld os) #[.agg #[.slice none 0 0, .slice none 0 0, .slice none 0 0]] 8 rfl (by kernel_rfl) (by kernel_rfl) (by kernel_rfl) (by kernel_rfl) (by kernel_rfl) (laidWorld_met os _)) ?_
  intro W base args ds gs before hval0 hW _ _ hL _
  have hval : ∀ (j : Nat) t v, Tryd.f5.params[j]? = some t → args[j]? = some v → Value.okWide Tryd.prog W .any base t v := hval0
  have hW' := hW
  obtain ⟨p, q, hA0, hV, rfl, hfz, hnd⟩ := hW
  have hA : DataW.TrodAll enc Tryd.prog W 0 (fun _ => true) true Tryd.f5.params.toList args.toList ds p := hA0
  rw [Tryd.params5] at hA hval
  obtain ⟨v0, vs0, d0, ds0, p0, q0, hargs, rfl, rfl, g0, r0⟩ := trodAll_cons hA
  obtain ⟨rfl, rfl, rfl⟩ := trodAll_nil r0
  obtain rfl : args = #[v0] := by cases args; simp_all
  have hV2 := hV
  obtain ⟨_, _, _, _, dv, _, rfl, _⟩ := trodVars_one hV2
  clear hV2
  have k0 := g0
  have lt0 : ∀ x ∈ p0, x.block < W.heap.size := by obtain ⟨m, hm⟩ := k0; exact DataW.trod_lt m _ _ _ hm
  obtain ⟨A0, n0, cap0, t0, D0, m0, dap0, x0, E0, q0, eap0, u0, rfl, h0max, h0t, h0each, h0bmax, h0b, h0beach, h0qmax, h0q, h0qeach⟩ := program_in (hval 0 37 v0 rfl rfl) g0
  clear hA0 hval0
  have hg := tabE_of_laid (laid := Rows.fnExactValidProgramRow.laid) (List.mem_singleton.2 rfl) hL
  refine (walk A0 n0 cap0 t0 D0 m0 dap0 x0 E0 q0 eap0 u0 W hg h0max h0t h0each h0bmax h0b h0beach h0qmax h0q h0qeach).mono fun e W' ⟨he, bel⟩ => ?_
  subst he
  exact ⟨_, rfl, _, _, _, [], _, _, hW', trodAll_mk1 (shut_bool Tryd.underlying4 _), (trodAll_cons_mk (Below.trod laidOut (by kernel_rfl) (of_decide_eq_true (by kernel_rfl)) k0 bel lt0) trodAll_mk0), Below.trodVars laidOut bel (by kernel_rfl) hV, bel.frame _, fun h => by cases h⟩

theorem said : Rows.FnExactValidProgramSaid :=
  OpenClaim.holds_of_wide 5 Tryd.f5 rfl rfl rfl rfl rfl rfl rfl ⟨rfl, rfl, rfl, rfl, rfl⟩ rfl rfl rfl rfl rfl (by kernel_rfl) Tryd.func5 (by kernel_rfl)
    (of_decide_eq_true (by kernel_rfl)) (by unfold Func.isWrapper; first | (rw [if_pos (by decide +kernel)]; kernel_rfl) | (rw [if_neg (by decide +kernel)]; exact ⟨rfl, rfl⟩))
    (fun os started H enc _ => lifted os started H enc)

/-- No parameter wants a stand-in; the program's own looks are as told: what the card asks. -/
theorem plain (f : FuncId) (fn : Func) (hf : Tryd.pinned.checked.prog.funcNamed "loop.example/g01105/laws.FnExactValidProgram" = some f) (hfn : Tryd.pinned.checked.prog.funcs[f]? = some fn) :
    false = Tryd.pinned.checked.prog.looks [] ∧ ∀ (j : Nat) t, fn.params[j]? = some t → Tryd.pinned.checked.prog.wantsStandIn t = false := by
  obtain rfl : f = 5 := Option.some.inj ((show Tryd.prog.funcNamed "loop.example/g01105/laws.FnExactValidProgram" = some 5 by kernel_rfl).symm.trans hf) |>.symm
  obtain rfl : fn = Tryd.f5 := (Option.some.inj (Tryd.func5.symm.trans hfn)).symm
  refine ⟨by kernel_rfl, fun j t ht => ?_⟩
  rw [Tryd.params5] at ht
  have hm : t = 37 := by simpa using Array.mem_of_getElem? ht
  subst hm
  exact (show Tryd.prog.wantsStandIn 37 = false by kernel_rfl)

/-- The card. -/
theorem proved : Rows.FnExactValidProgramCardSaid :=
  Claim7.holds_tied_plain_at .later [] _ _ _ _ said (fun _ h => by cases h) (by kernel_rfl) (fun _ h => by cases h) fnExactValidProgram_row_tie rfl ⟨rfl, rfl⟩ (by kernel_rfl) rfl plain (by kernel_rfl)
#print axioms proved
end Go.Proofs.YtpgbihiibdiohaaDoor.fnExactValidProgram
