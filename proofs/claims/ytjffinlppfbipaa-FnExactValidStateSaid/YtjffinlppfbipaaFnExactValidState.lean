/-
  For every state the program's ValidState answers as the model's, and leaves the state as it was.
  Conditions: none but those that the statement itself bears.
-/
import Derived.Test.YtjffinlppfbipaaRows
import Derived.WalkKit
import Derived.ProofKit
import Derived.OpenShut
import Derived.ShutString
import Derived.ChangeOld
import Derived.Below
import Derived.WalkSmall
import Derived.Test.YtjffinlppfbipaaTms
import Derived.Test.YtjffinlppfbipaaStV
namespace Go.Proofs.Ytjffinlppfbipaa.fnExactValidState
open Go.ChangeShapes Go.WideShapes Go.ChangeAt Go.RowKit
open Go.ChangeMaps (open_string shut_string)
set_option linter.unusedVariables false

theorem own : ownKnob Try.prog.godebug = none := by kernel_rfl
theorem laidOut : laidOutB Try.prog = true := by kernel_rfl
set_option maxRecDepth 100000 in
set_option maxHeartbeats 8000000 in
theorem early0 (A0 : Option Addr) (n0 cap0 : Nat) (z0 : List Int) (B0 : Option Addr) (m0 cbp0 : Nat) (y0 : List Int) (w : World) (in0a : InL w w.heap.size A0 n0 z0) (in0b : InL w w.heap.size B0 m0 y0) (q0 : 1048576 < (n0 + m0)) (vn0 : n0 ≤ maxLen) (vm0 : m0 ≤ maxLen) :
    Calls Try.prog 3 #[.agg #[.slice A0 n0 cap0, .slice B0 m0 cbp0]] w fun e w' => e = .returned (.bool true) ∧ Below w.heap.size w w' := by
  have hB := Below.refl w.heap.size w
  go_enter Try.func3, Try.ntmps3
  go_wp2_with fail
  have hb_1 : Below w.heap.size w (w.alloc (.cells #[.slice A0 n0 cap0, .slice B0 m0 cbp0] 24)) := bnew _ _
  have sz_2 : w.heap.size < (w.alloc (.cells #[.slice A0 n0 cap0, .slice B0 m0 cbp0] 24)).heap.size := by simp
  have a0_0 : (w.alloc (.cells #[.slice A0 n0 cap0, .slice B0 m0 cbp0] 24)).cell? ⟨w.heap.size, 0, none⟩ = some (.slice A0 n0 cap0) := by simp
  have a0_1 : (w.alloc (.cells #[.slice A0 n0 cap0, .slice B0 m0 cbp0] 24)).cell? ⟨w.heap.size, 1, none⟩ = some (.slice B0 m0 cbp0) := by simp
  have a0_l := sz_2
  generalize w.alloc (.cells #[.slice A0 n0 cap0, .slice B0 m0 cbp0] 24) = w1 at hb_1 a0_0 a0_1 sz_2 a0_l ⊢
  replace in0a := in0a.next hb_1 (by omega)
  replace in0b := in0b.next hb_1 (by omega)
  replace hB := hB.trans (hb_1.mono hB.size)
  have sz_3 := hb_1.size
  refine (szState_k A0 n0 cap0 B0 m0 cbp0 _ _ (by omega) (by omega) (by first | assumption | (unfold maxLen; omega)) (by first | assumption | (unfold maxLen; omega))).mono ?_
  rintro e w2 ⟨rfl, hb_4⟩
  rw [szv_no (by omega)]
  replace in0a := in0a.next hb_4 (by omega)
  replace in0b := in0b.next hb_4 (by omega)
  replace a0_0 := cell_next a0_0 hb_4
  replace a0_1 := cell_next a0_1 hb_4
  replace a0_l := Nat.lt_of_lt_of_le a0_l hb_4.size
  replace hB := hB.trans (hb_4.mono hB.size)
  have sz_5 := hb_4.size
  go_wp2_with fail
  go_ret
  exact ⟨rfl, hB⟩

set_option maxRecDepth 100000 in
set_option maxHeartbeats 8000000 in
theorem road (A0 : Option Addr) (n0 cap0 : Nat) (z0 : List Int) (B0 : Option Addr) (m0 cbp0 : Nat) (y0 : List Int) (w : World) (in0a : InL w w.heap.size A0 n0 z0) (in0b : InL w w.heap.size B0 m0 y0) (h0ok : n0 ≤ 1048576) (h0gok : m0 ≤ 1048576) (h0sum : n0 + m0 ≤ 1048576) (r0 : Bool) 
    (HS0 : ∀ (w0 : World) (a00 : Option Addr) (u00 : Nat) (a01 : Option Addr) (u01 : Nat), InL w0 w0.heap.size a00 n0 z0 → InL w0 w0.heap.size a01 m0 y0 → Calls Try.prog 6 #[.agg #[.slice a00 n0 u00, .slice a01 m0 u01]] w0 fun e w1 => e = .returned (.bool r0) ∧ Below w0.heap.size w0 w1)
    (HI0 : ∀ (w0 : World) (a00 : Option Addr) (u00 : Nat) (a01 : Option Addr) (u01 : Nat), InL w0 w0.heap.size a00 n0 z0 → InL w0 w0.heap.size a01 m0 y0 → Calls Try.prog 8 #[.agg #[.slice a00 n0 u00, .slice a01 m0 u01]] w0 fun e w1 => e = .returned (.bool r0) ∧ Below w0.heap.size w0 w1) :
    Calls Try.prog 3 #[.agg #[.slice A0 n0 cap0, .slice B0 m0 cbp0]] w fun e w' => e = .returned (.bool true) ∧ Below w.heap.size w w' := by
  have HS := Lib.hid HS0
  have HI := Lib.hid HI0
  clear HS0 HI0
  have hB := Below.refl w.heap.size w
  have hl_5 : (0 : Int) ≤ 1048576 - ((n0 + m0 : Nat) : Int) := by omega
  go_enter Try.func3, Try.ntmps3
  go_wp2_with fail
  have hb_1 : Below w.heap.size w (w.alloc (.cells #[.slice A0 n0 cap0, .slice B0 m0 cbp0] 24)) := bnew _ _
  have sz_2 : w.heap.size < (w.alloc (.cells #[.slice A0 n0 cap0, .slice B0 m0 cbp0] 24)).heap.size := by simp
  have a0_0 : (w.alloc (.cells #[.slice A0 n0 cap0, .slice B0 m0 cbp0] 24)).cell? ⟨w.heap.size, 0, none⟩ = some (.slice A0 n0 cap0) := by simp
  have a0_1 : (w.alloc (.cells #[.slice A0 n0 cap0, .slice B0 m0 cbp0] 24)).cell? ⟨w.heap.size, 1, none⟩ = some (.slice B0 m0 cbp0) := by simp
  have a0_l := sz_2
  generalize w.alloc (.cells #[.slice A0 n0 cap0, .slice B0 m0 cbp0] 24) = w1 at hb_1 a0_0 a0_1 sz_2 a0_l ⊢
  replace in0a := in0a.next hb_1 (by omega)
  replace in0b := in0b.next hb_1 (by omega)
  replace hB := hB.trans (hb_1.mono hB.size)
  have sz_3 := hb_1.size
  refine (szState_k A0 n0 cap0 B0 m0 cbp0 _ _ (by omega) (by omega) (by first | assumption | (unfold maxLen; omega)) (by first | assumption | (unfold maxLen; omega))).mono ?_
  rintro e w2 ⟨rfl, hb_4⟩
  rw [szv_yes (by omega)]
  replace in0a := in0a.next hb_4 (by omega)
  replace in0b := in0b.next hb_4 (by omega)
  replace a0_0 := cell_next a0_0 hb_4
  replace a0_1 := cell_next a0_1 hb_4
  replace a0_l := Nat.lt_of_lt_of_le a0_l hb_4.size
  replace hB := hB.trans (hb_4.mono hB.size)
  have sz_6 := hb_4.size
  go_wp2_with fail
  refine (toState_k A0 n0 cap0 _ z0 B0 m0 cbp0 y0 _ in0a in0b (by omega) h0ok h0gok).mono ?_
  rintro e w3 ⟨g_7, g_8, mid_12, rfl, own_9, own_10, md_13, hb_11⟩
  replace in0a := in0a.next hb_11 (by omega)
  replace in0b := in0b.next hb_11 (by omega)
  replace a0_0 := cell_next a0_0 hb_11
  replace a0_1 := cell_next a0_1 hb_11
  replace a0_l := Nat.lt_of_lt_of_le a0_l hb_11.size
  replace hB := hB.trans (hb_11.mono hB.size)
  have sz_14 := hb_11.size
  go_wp2_with fail
  refine (HS.out w3 _ _ _ _ ((own_9.inn).more (by omega)) ((own_10.inn).more (by omega))).mono ?_
  rintro e w4 ⟨rfl, hb_15⟩
  clear own_9 own_10
  replace in0a := in0a.next hb_15 (by omega)
  replace in0b := in0b.next hb_15 (by omega)
  replace a0_0 := cell_next a0_0 hb_15
  replace a0_1 := cell_next a0_1 hb_15
  replace a0_l := Nat.lt_of_lt_of_le a0_l hb_15.size
  replace hB := hB.trans (hb_15.mono hB.size)
  have sz_16 := hb_15.size
  go_wp2_with fail
  refine (toState_k A0 n0 cap0 _ z0 B0 m0 cbp0 y0 _ in0a in0b (by omega) h0ok h0gok).mono ?_
  rintro e w5 ⟨g_17, g_18, mid_22, rfl, own_19, own_20, md_23, hb_21⟩
  replace in0a := in0a.next hb_21 (by omega)
  replace in0b := in0b.next hb_21 (by omega)
  replace a0_0 := cell_next a0_0 hb_21
  replace a0_1 := cell_next a0_1 hb_21
  replace a0_l := Nat.lt_of_lt_of_le a0_l hb_21.size
  replace hB := hB.trans (hb_21.mono hB.size)
  have sz_24 := hb_21.size
  go_wp2_with fail
  have hb_25 : Below w5.heap.size w5 (w5.alloc (.cells #[.slice (some ⟨g_17, 0, none⟩) n0 n0, .slice (some ⟨g_18, 0, none⟩) m0 m0] 27)) := bnew _ _
  have sz_26 : w5.heap.size < (w5.alloc (.cells #[.slice (some ⟨g_17, 0, none⟩) n0 n0, .slice (some ⟨g_18, 0, none⟩) m0 m0] 27)).heap.size := by simp
  have x0_0 : (w5.alloc (.cells #[.slice (some ⟨g_17, 0, none⟩) n0 n0, .slice (some ⟨g_18, 0, none⟩) m0 m0] 27)).cell? ⟨w5.heap.size, 0, none⟩ = some (.slice (some ⟨g_17, 0, none⟩) n0 n0) := by simp
  have x0_1 : (w5.alloc (.cells #[.slice (some ⟨g_17, 0, none⟩) n0 n0, .slice (some ⟨g_18, 0, none⟩) m0 m0] 27)).cell? ⟨w5.heap.size, 1, none⟩ = some (.slice (some ⟨g_18, 0, none⟩) m0 m0) := by simp
  have x0_l := sz_26
  generalize w5.alloc (.cells #[.slice (some ⟨g_17, 0, none⟩) n0 n0, .slice (some ⟨g_18, 0, none⟩) m0 m0] 27) = w6 at hb_25 x0_0 x0_1 sz_26 x0_l ⊢
  replace in0a := in0a.next hb_25 (by omega)
  replace in0b := in0b.next hb_25 (by omega)
  replace a0_0 := cell_next a0_0 hb_25
  replace a0_1 := cell_next a0_1 hb_25
  replace a0_l := Nat.lt_of_lt_of_le a0_l hb_25.size
  replace own_19 := own_19.next hb_25
  replace own_20 := own_20.next hb_25
  replace hB := hB.trans (hb_25.mono hB.size)
  have sz_27 := hb_25.size
  refine (HI.out w6 _ _ _ _ ((own_19.inn).more (by omega)) ((own_20.inn).more (by omega))).mono ?_
  rintro e w7 ⟨rfl, hb_28⟩
  replace in0a := in0a.next hb_28 (by omega)
  replace in0b := in0b.next hb_28 (by omega)
  replace a0_0 := cell_next a0_0 hb_28
  replace a0_1 := cell_next a0_1 hb_28
  replace a0_l := Nat.lt_of_lt_of_le a0_l hb_28.size
  replace own_19 := own_19.next hb_28
  replace own_20 := own_20.next hb_28
  replace x0_0 := cell_next x0_0 hb_28
  replace x0_1 := cell_next x0_1 hb_28
  replace x0_l := Nat.lt_of_lt_of_le x0_l hb_28.size
  replace hB := hB.trans (hb_28.mono hB.size)
  have sz_29 := hb_28.size
  go_wp2_with fail
  -- if g0 != w0 {
  have HT_30 := Lib.hid (toState_k A0 n0 cap0 _ z0 B0 m0 cbp0 y0 w7.drew in0a.drew in0b.drew (by show _ ≤ w7.heap.size; omega) h0ok h0gok)
  have HE_31 : Hid (∀ w8 g_32 g_33 mid_37, Below w7.drew.heap.size w7.drew w8 → OwnL w8 w7.drew.heap.size mid_37 (some ⟨g_32, 0, none⟩) n0 n0 z0 → OwnL w8 mid_37 w8.heap.size (some ⟨g_33, 0, none⟩) m0 m0 y0 → w7.drew.heap.size ≤ mid_37 ∧ mid_37 ≤ w8.heap.size → Calls Try.prog 9 #[.agg #[.slice (some ⟨g_17, 0, none⟩) n0 n0, .slice (some ⟨g_18, 0, none⟩) m0 m0], .agg #[.slice (some ⟨g_32, 0, none⟩) n0 n0, .slice (some ⟨g_33, 0, none⟩) m0 m0]] w8 fun e w' => e = .returned (.bool true) ∧ Below w8.heap.size w8 w') := fun w8 g_32 g_33 mid_37 hb_36 own_34 own_35 md_38 => eqState_k (some ⟨g_17, 0, none⟩) (some ⟨g_32, 0, none⟩) n0 n0 n0 z0 (some ⟨g_18, 0, none⟩) (some ⟨g_33, 0, none⟩) m0 m0 m0 y0 (w8.heap.size) (w8.heap.size) w8 (((own_19.inn).call (by omega) hb_36).more (le_call (by omega) hb_36)) (((own_20.inn).call (by omega) hb_36).more (le_call (by omega) hb_36)) ((own_34.inn).more (by omega)) ((own_35.inn).more (by omega)) (Nat.le_refl _) (Nat.le_refl _) h0ok h0gok
  go_region_held3 (fun w' => w'.cell? ⟨w.heap.size, 0, none⟩ = some (.slice A0 n0 cap0) ∧ w'.cell? ⟨w.heap.size, 1, none⟩ = some (.slice B0 m0 cbp0) ∧ w'.cell? ⟨w5.heap.size, 0, none⟩ = some (.slice (some ⟨g_17, 0, none⟩) n0 n0) ∧ w'.cell? ⟨w5.heap.size, 1, none⟩ = some (.slice (some ⟨g_18, 0, none⟩) m0 m0))
    (first | go_keep | exact ⟨cell_on a0_0 hb_36, cell_on a0_1 hb_36, cell_on x0_0 hb_36, cell_on x0_1 hb_36⟩ | exact ⟨cell_on2 a0_0 hb_36 hb_40, cell_on2 a0_1 hb_36 hb_40, cell_on2 x0_0 hb_36 hb_40, cell_on2 x0_1 hb_36 hb_40⟩)
    (first | (go_at_call 7; refine HT_30.out.mono ?_; rintro e w8 ⟨g_32, g_33, mid_37, rfl, own_34, own_35, md_38, hb_36⟩) | (go_at_call 9; refine (HE_31.out _ _ _ _ hb_36 own_34 own_35 md_38).mono ?_; rintro e w9 ⟨rfl, hb_40⟩))
  replace hb_36 := (bstep hb_36)
  replace in0a := in0a.next hb_36 (by omega)
  replace in0b := in0b.next hb_36 (by omega)
  replace a0_0 := cell_next a0_0 hb_36
  replace a0_1 := cell_next a0_1 hb_36
  replace a0_l := Nat.lt_of_lt_of_le a0_l hb_36.size
  replace own_19 := own_19.next hb_36
  replace own_20 := own_20.next hb_36
  replace x0_0 := cell_next x0_0 hb_36
  replace x0_1 := cell_next x0_1 hb_36
  replace x0_l := Nat.lt_of_lt_of_le x0_l hb_36.size
  replace hB := hB.trans (hb_36.mono hB.size)
  have sz_41 := hb_36.size
  replace in0a := in0a.next hb_40 (by omega)
  replace in0b := in0b.next hb_40 (by omega)
  replace a0_0 := cell_next a0_0 hb_40
  replace a0_1 := cell_next a0_1 hb_40
  replace a0_l := Nat.lt_of_lt_of_le a0_l hb_40.size
  replace own_19 := own_19.next hb_40
  replace own_20 := own_20.next hb_40
  replace x0_0 := cell_next x0_0 hb_40
  replace x0_1 := cell_next x0_1 hb_40
  replace x0_l := Nat.lt_of_lt_of_le x0_l hb_40.size
  replace hB := hB.trans (hb_40.mono hB.size)
  have sz_42 := hb_40.size
  clear HT_30 HE_31 own_34 own_35
  go_wp2_with fail
  go_ret
  exact ⟨rfl, hB⟩

set_option maxRecDepth 100000 in
set_option maxHeartbeats 4000000 in
theorem walk (A0 : Option Addr) (n0 cap0 : Nat) (z0 : List Int) (B0 : Option Addr) (m0 cbp0 : Nat) (y0 : List Int) (w : World) (h0row : Row w w.heap.size A0 (z0.map ic)) (h0len : z0.length = n0) (h0max : n0 ≤ maxLen) (h0glen : y0.length = m0) (h0gmax : m0 ≤ maxLen) (h0grow : Row w w.heap.size B0 (y0.map ic)) :
    Calls Try.prog 3 #[.agg #[.slice A0 n0 cap0, .slice B0 m0 cbp0]] w fun e w' => e = .returned (.bool true) ∧ Below w.heap.size w w' := by
  by_cases hn : n0 + m0 ≤ 1048576
  · exact road A0 n0 cap0 z0 B0 m0 cbp0 y0 w ⟨h0len, h0row⟩ ⟨h0glen, h0grow⟩ (by omega) (by omega) (by omega) (stB z0 y0)
      (fun w0 a00 u00 a01 u01 h h' => specState_c a00 n0 u00 _ z0 a01 m0 u01 y0 w0 h h' (Nat.le_refl _) (by omega) (by omega))
      (fun w0 a00 u00 a01 u01 h h' => implState_c a00 n0 u00 _ z0 a01 m0 u01 y0 w0 h h' (Nat.le_refl _) (by omega) (by omega))
  · exact early0 A0 n0 cap0 z0 B0 m0 cbp0 y0 w ⟨h0len, h0row⟩ ⟨h0glen, h0grow⟩ (by omega) h0max h0gmax

set_option maxRecDepth 100000 in
set_option maxHeartbeats 4000000 in
theorem lifted (os : Os) (started : os.Started) (H : Type) (enc : TypeId × Value → H) :
    ReturnsInHanded {} Try.checked os 3 .any (Rows.fnExactValidStateSpec.pre6 enc Try.prog Try.f3 Rows.fnExactValidStateRow.domain false) (Rows.fnExactValidStateSpec.post enc Try.prog Try.f3 false true false false) := by
  refine returnsInHanded_of_change (C := Try.checked) own started (by kernel_rfl) Try.func3
    (ChangeSpec.witness6 (enc := enc) (C := Try.checked) false ⟨#[], #[.agg #[.slice none 0 0, .slice none 0 0]], []⟩ 8 (by kernel_rfl) (by kernel_rfl) (by kernel_rfl) (by kernel_rfl)) ?_
  intro W base args ds gs before hval0 hW hcnd _
  have hval : ∀ (j : Nat) t v, Try.f3.params[j]? = some t → args[j]? = some v → Value.okWide Try.prog W .any base t v := hval0
  have hW' := hW
  obtain ⟨p, q, hA0, hV, rfl, hfz, hnd⟩ := hW
  have hA : DataW.TrodAll enc Try.prog W 0 (fun _ => true) true Try.f3.params.toList args.toList ds p := hA0
  rw [Try.params3] at hA hval
  obtain ⟨v0, vs0, d0, ds0, p0, q0, hargs, rfl, rfl, g0, r0⟩ := trodAll_cons hA
  obtain ⟨rfl, rfl, rfl⟩ := trodAll_nil r0
  obtain rfl : args = #[v0] := by cases args; simp_all
  obtain ⟨rfl, rfl⟩ := trodVars_none hV
  have k0 := g0
  have lt0 : ∀ x ∈ p0, x.block < W.heap.size := by obtain ⟨m, hm⟩ := k0; exact DataW.trod_lt m _ _ _ hm
  obtain ⟨A0, n0, cap0, z0, B0, m0, cbp0, y0, rfl, h0len, h0max, h0row, h0glen, h0gmax, h0grow⟩ := state_in (hval 0 24 v0 rfl rfl) g0
  clear hA0 hval0
  simp only [List.append_nil] at hW'
  refine (walk A0 n0 cap0 z0 B0 m0 cbp0 y0 W h0row h0len h0max h0glen h0gmax h0grow).mono fun e W' ⟨he, bel⟩ => ?_
  subst he
  exact ⟨_, rfl, _, _, _, [], _, [], hW', trodAll_mk1 (shut_bool Try.underlying4 _), (trodAll_cons_mk (Below.trod laidOut (by kernel_rfl) (of_decide_eq_true (by kernel_rfl)) k0 bel lt0) trodAll_mk0), rfl, bel.frame _, fun h => by cases h⟩

theorem over : Rows.fnExactValidStateRow.holds Try.pinned (OpenSpec.ofChange Rows.fnExactValidStateSpec) :=
  OpenClaim.holds_of_wide 3 Try.f3 rfl rfl rfl rfl rfl rfl rfl ⟨rfl, rfl, rfl, rfl, rfl⟩ rfl rfl rfl rfl rfl (by kernel_rfl) Try.func3 (by kernel_rfl)
    (of_decide_eq_true (by kernel_rfl)) (by unfold Func.isWrapper; first | (rw [if_pos (by decide +kernel)]; kernel_rfl) | (rw [if_neg (by decide +kernel)]; exact ⟨rfl, rfl⟩))
    (fun os started H enc _ => lifted os started H enc)

/-- The statement. -/
theorem proved : Rows.FnExactValidStateSaid := over
#print axioms proved
end Go.Proofs.Ytjffinlppfbipaa.fnExactValidState
