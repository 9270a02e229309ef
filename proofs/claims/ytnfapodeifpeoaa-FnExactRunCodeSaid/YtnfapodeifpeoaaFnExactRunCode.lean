/-
  For every list of instructions, state and number the program's RunCode answers as the model's, leaves both as they were, and its answer owns its memory.
  Conditions: none but those that the statement itself bears.
-/
import Derived.Test.YtnfapodeifpeoaaRows
import Derived.WalkKit
import Derived.ProofKit
import Derived.OpenShut
import Derived.ShutString
import Derived.ChangeOld
import Derived.Below
import Derived.WalkSmall
import Derived.Test.YtnfapodeifpeoaaTms
import Derived.Test.YtnfapodeifpeoaaRunG
import Derived.Test.YtnfapodeifpeoaaMarkC
import Derived.Test.YtnfapodeifpeoaaBoxC
namespace Go.Proofs.Ytnfapodeifpeoaa.fnExactRunCode
open Go.ChangeShapes Go.WideShapes Go.ChangeAt Go.RowKit
open Go.ChangeMaps (open_string shut_string)
set_option linter.unusedVariables false

theorem own : ownKnob Try.prog.godebug = none := by kernel_rfl
theorem laidOut : laidOutB Try.prog = true := by kernel_rfl
set_option maxRecDepth 100000 in
set_option maxHeartbeats 8000000 in
theorem early0 (A0 : Option Addr) (n0 cap0 : Nat) (t0 : List (Int × Int)) (A1 : Option Addr) (n1 cap1 : Nat) (z1 : List Int) (B1 : Option Addr) (m1 cbp1 : Nat) (y1 : List Int) (i2 : Int) (w : World) (in0 : InC w w.heap.size A0 n0 t0) (in1a : InL w w.heap.size A1 n1 z1) (in1b : InL w w.heap.size B1 m1 y1) (q0 : 1048576 < (n0)) (vn0 : n0 ≤ maxLen) (vn1 : n1 ≤ maxLen) (vm1 : m1 ≤ maxLen) :
    Calls Try.prog 7 #[.slice A0 n0 cap0, .agg #[.slice A1 n1 cap1, .slice B1 m1 cbp1], .int .i64 i2] w fun e w' => e = .returned (.bool true) ∧ Below w.heap.size w w' := by
  have hB := Below.refl w.heap.size w
  go_enter Try.func7, Try.ntmps7
  go_wp2_with fail
  have hb_1 : Below w.heap.size w (w.alloc (.cells #[.slice A1 n1 cap1, .slice B1 m1 cbp1] 37)) := bnew _ _
  have sz_2 : w.heap.size < (w.alloc (.cells #[.slice A1 n1 cap1, .slice B1 m1 cbp1] 37)).heap.size := by simp
  have a1_0 : (w.alloc (.cells #[.slice A1 n1 cap1, .slice B1 m1 cbp1] 37)).cell? ⟨w.heap.size, 0, none⟩ = some (.slice A1 n1 cap1) := by simp
  have a1_1 : (w.alloc (.cells #[.slice A1 n1 cap1, .slice B1 m1 cbp1] 37)).cell? ⟨w.heap.size, 1, none⟩ = some (.slice B1 m1 cbp1) := by simp
  have a1_l := sz_2
  generalize w.alloc (.cells #[.slice A1 n1 cap1, .slice B1 m1 cbp1] 37) = w1 at hb_1 a1_0 a1_1 sz_2 a1_l ⊢
  replace in0 := in0.next hb_1 (by omega)
  replace in1a := in1a.next hb_1 (by omega)
  replace in1b := in1b.next hb_1 (by omega)
  replace hB := hB.trans (hb_1.mono hB.size)
  have sz_3 := hb_1.size
  refine (szInstrS_k A0 n0 cap0 _ _ (by omega) (by omega) (by first | assumption | (unfold maxLen; omega))).mono ?_
  rintro e w2 ⟨rfl, hb_4⟩
  rw [szv_no (by omega)]
  replace in0 := in0.next hb_4 (by omega)
  replace in1a := in1a.next hb_4 (by omega)
  replace in1b := in1b.next hb_4 (by omega)
  replace a1_0 := cell_next a1_0 hb_4
  replace a1_1 := cell_next a1_1 hb_4
  replace a1_l := Nat.lt_of_lt_of_le a1_l hb_4.size
  replace hB := hB.trans (hb_4.mono hB.size)
  have sz_5 := hb_4.size
  go_wp2_with fail
  go_ret
  exact ⟨rfl, hB⟩

set_option maxRecDepth 100000 in
set_option maxHeartbeats 8000000 in
theorem early1 (A0 : Option Addr) (n0 cap0 : Nat) (t0 : List (Int × Int)) (A1 : Option Addr) (n1 cap1 : Nat) (z1 : List Int) (B1 : Option Addr) (m1 cbp1 : Nat) (y1 : List Int) (i2 : Int) (w : World) (in0 : InC w w.heap.size A0 n0 t0) (in1a : InL w w.heap.size A1 n1 z1) (in1b : InL w w.heap.size B1 m1 y1) (q0 : (n0) ≤ 1048576) (q1 : 1048576 < (n0) + (n1 + m1)) (vn0 : n0 ≤ maxLen) (vn1 : n1 ≤ maxLen) (vm1 : m1 ≤ maxLen) :
    Calls Try.prog 7 #[.slice A0 n0 cap0, .agg #[.slice A1 n1 cap1, .slice B1 m1 cbp1], .int .i64 i2] w fun e w' => e = .returned (.bool true) ∧ Below w.heap.size w w' := by
  have hB := Below.refl w.heap.size w
  have hl_5 : (0 : Int) ≤ 1048576 - (n0 : Int) := by omega
  go_enter Try.func7, Try.ntmps7
  go_wp2_with fail
  have hb_1 : Below w.heap.size w (w.alloc (.cells #[.slice A1 n1 cap1, .slice B1 m1 cbp1] 37)) := bnew _ _
  have sz_2 : w.heap.size < (w.alloc (.cells #[.slice A1 n1 cap1, .slice B1 m1 cbp1] 37)).heap.size := by simp
  have a1_0 : (w.alloc (.cells #[.slice A1 n1 cap1, .slice B1 m1 cbp1] 37)).cell? ⟨w.heap.size, 0, none⟩ = some (.slice A1 n1 cap1) := by simp
  have a1_1 : (w.alloc (.cells #[.slice A1 n1 cap1, .slice B1 m1 cbp1] 37)).cell? ⟨w.heap.size, 1, none⟩ = some (.slice B1 m1 cbp1) := by simp
  have a1_l := sz_2
  generalize w.alloc (.cells #[.slice A1 n1 cap1, .slice B1 m1 cbp1] 37) = w1 at hb_1 a1_0 a1_1 sz_2 a1_l ⊢
  replace in0 := in0.next hb_1 (by omega)
  replace in1a := in1a.next hb_1 (by omega)
  replace in1b := in1b.next hb_1 (by omega)
  replace hB := hB.trans (hb_1.mono hB.size)
  have sz_3 := hb_1.size
  refine (szInstrS_k A0 n0 cap0 _ _ (by omega) (by omega) (by first | assumption | (unfold maxLen; omega))).mono ?_
  rintro e w2 ⟨rfl, hb_4⟩
  rw [szv_yes (by omega)]
  replace in0 := in0.next hb_4 (by omega)
  replace in1a := in1a.next hb_4 (by omega)
  replace in1b := in1b.next hb_4 (by omega)
  replace a1_0 := cell_next a1_0 hb_4
  replace a1_1 := cell_next a1_1 hb_4
  replace a1_l := Nat.lt_of_lt_of_le a1_l hb_4.size
  replace hB := hB.trans (hb_4.mono hB.size)
  have sz_6 := hb_4.size
  go_wp2_with fail
  refine (szState_k A1 n1 cap1 B1 m1 cbp1 _ _ (by omega) (by omega) (by first | assumption | (unfold maxLen; omega)) (by first | assumption | (unfold maxLen; omega))).mono ?_
  rintro e w3 ⟨rfl, hb_7⟩
  rw [szv_no (by omega)]
  replace in0 := in0.next hb_7 (by omega)
  replace in1a := in1a.next hb_7 (by omega)
  replace in1b := in1b.next hb_7 (by omega)
  replace a1_0 := cell_next a1_0 hb_7
  replace a1_1 := cell_next a1_1 hb_7
  replace a1_l := Nat.lt_of_lt_of_le a1_l hb_7.size
  replace hB := hB.trans (hb_7.mono hB.size)
  have sz_8 := hb_7.size
  go_wp2_with fail
  go_ret
  exact ⟨rfl, hB⟩

set_option maxRecDepth 100000 in
set_option maxHeartbeats 8000000 in
theorem road (A0 : Option Addr) (n0 cap0 : Nat) (t0 : List (Int × Int)) (A1 : Option Addr) (n1 cap1 : Nat) (z1 : List Int) (B1 : Option Addr) (m1 cbp1 : Nat) (y1 : List Int) (i2 : Int) (w : World) (in0 : InC w w.heap.size A0 n0 t0) (h0ok : n0 ≤ 1048576) (in1a : InL w w.heap.size A1 n1 z1) (in1b : InL w w.heap.size B1 m1 y1) (h1ok : n1 ≤ 1048576) (h1gok : m1 ≤ 1048576) (h1sum : n1 + m1 ≤ 1048576) (hsum : (n0) + (n1 + m1) ≤ 1048576) (y00 : List Int) (l00 : Nat) (y01 : List Int) (l01 : Nat) (y10 : List Int) (l10 : Nat) (r2 : Int) (r3 : Bool) (k00 : l00 ≤ 2000) (k01 : l01 ≤ 2000) (k10 : l10 ≤ 2000)
    (HS0 : ∀ (w0 : World) (a00 : Option Addr) (u00 : Nat) (a10 : Option Addr) (u10 : Nat) (a11 : Option Addr) (u11 : Nat), InC w0 w0.heap.size a00 n0 t0 → InL w0 w0.heap.size a10 n1 z1 → InL w0 w0.heap.size a11 m1 y1 → Calls Try.prog 32 #[.slice a00 n0 u00, .agg #[.slice a10 n1 u10, .slice a11 m1 u11], .int .i64 i2] w0 fun e w1 => ∃ (R00 : Option Addr) (d00 : Nat) (R01 : Option Addr) (d01 : Nat) (R10 : Option Addr) (d10 : Nat), e = .returned (.tuple #[.agg #[.slice R00 l00 d00, .slice R01 l01 d01], .slice R10 l10 d10, .int .i64 r2, .bool r3]) ∧ OwnL w1 w0.heap.size w1.heap.size R00 l00 d00 y00 ∧ OwnL w1 w0.heap.size w1.heap.size R01 l01 d01 y01 ∧ OwnL w1 w0.heap.size w1.heap.size R10 l10 d10 y10 ∧ Below w0.heap.size w0 w1)
    (HI0 : ∀ (w0 : World) (a00 : Option Addr) (u00 : Nat) (a10 : Option Addr) (u10 : Nat) (a11 : Option Addr) (u11 : Nat), InC w0 w0.heap.size a00 n0 t0 → InL w0 w0.heap.size a10 n1 z1 → InL w0 w0.heap.size a11 m1 y1 → Calls Try.prog 34 #[.slice a00 n0 u00, .agg #[.slice a10 n1 u10, .slice a11 m1 u11], .int .i64 i2] w0 fun e w1 => ∃ (R00 : Option Addr) (d00 : Nat) (R01 : Option Addr) (d01 : Nat) (R10 : Option Addr) (d10 : Nat) (md0 md1 : Nat), e = .returned (.tuple #[.agg #[.slice R00 l00 d00, .slice R01 l01 d01], .slice R10 l10 d10, .int .i64 r2, .bool r3]) ∧ OwnL w1 md0 md1 R00 l00 d00 y00 ∧ OwnL w1 md1 w1.heap.size R01 l01 d01 y01 ∧ OwnL w1 w0.heap.size md0 R10 l10 d10 y10 ∧ (w0.heap.size ≤ md0 ∧ md0 ≤ md1 ∧ md1 ≤ w1.heap.size) ∧ Below w0.heap.size w0 w1) :
    Calls Try.prog 7 #[.slice A0 n0 cap0, .agg #[.slice A1 n1 cap1, .slice B1 m1 cbp1], .int .i64 i2] w fun e w' => e = .returned (.bool true) ∧ Below w.heap.size w w' := by
  have HS := Lib.hid HS0
  have HI := Lib.hid HI0
  clear HS0 HI0
  have hB := Below.refl w.heap.size w
  have hl_5 : (0 : Int) ≤ 1048576 - (n0 : Int) := by omega
  have hl_8 : (0 : Int) ≤ 1048576 - (n0 : Int) - ((n1 + m1 : Nat) : Int) := by omega
  go_enter Try.func7, Try.ntmps7
  go_wp2_with fail
  have hb_1 : Below w.heap.size w (w.alloc (.cells #[.slice A1 n1 cap1, .slice B1 m1 cbp1] 37)) := bnew _ _
  have sz_2 : w.heap.size < (w.alloc (.cells #[.slice A1 n1 cap1, .slice B1 m1 cbp1] 37)).heap.size := by simp
  have a1_0 : (w.alloc (.cells #[.slice A1 n1 cap1, .slice B1 m1 cbp1] 37)).cell? ⟨w.heap.size, 0, none⟩ = some (.slice A1 n1 cap1) := by simp
  have a1_1 : (w.alloc (.cells #[.slice A1 n1 cap1, .slice B1 m1 cbp1] 37)).cell? ⟨w.heap.size, 1, none⟩ = some (.slice B1 m1 cbp1) := by simp
  have a1_l := sz_2
  generalize w.alloc (.cells #[.slice A1 n1 cap1, .slice B1 m1 cbp1] 37) = w1 at hb_1 a1_0 a1_1 sz_2 a1_l ⊢
  replace in0 := in0.next hb_1 (by omega)
  replace in1a := in1a.next hb_1 (by omega)
  replace in1b := in1b.next hb_1 (by omega)
  replace hB := hB.trans (hb_1.mono hB.size)
  have sz_3 := hb_1.size
  refine (szInstrS_k A0 n0 cap0 _ _ (by omega) (by omega) (by first | assumption | (unfold maxLen; omega))).mono ?_
  rintro e w2 ⟨rfl, hb_4⟩
  rw [szv_yes (by omega)]
  replace in0 := in0.next hb_4 (by omega)
  replace in1a := in1a.next hb_4 (by omega)
  replace in1b := in1b.next hb_4 (by omega)
  replace a1_0 := cell_next a1_0 hb_4
  replace a1_1 := cell_next a1_1 hb_4
  replace a1_l := Nat.lt_of_lt_of_le a1_l hb_4.size
  replace hB := hB.trans (hb_4.mono hB.size)
  have sz_6 := hb_4.size
  go_wp2_with fail
  refine (szState_k A1 n1 cap1 B1 m1 cbp1 _ _ (by omega) (by omega) (by first | assumption | (unfold maxLen; omega)) (by first | assumption | (unfold maxLen; omega))).mono ?_
  rintro e w3 ⟨rfl, hb_7⟩
  rw [szv_yes (by omega)]
  replace in0 := in0.next hb_7 (by omega)
  replace in1a := in1a.next hb_7 (by omega)
  replace in1b := in1b.next hb_7 (by omega)
  replace a1_0 := cell_next a1_0 hb_7
  replace a1_1 := cell_next a1_1 hb_7
  replace a1_l := Nat.lt_of_lt_of_le a1_l hb_7.size
  replace hB := hB.trans (hb_7.mono hB.size)
  have sz_9 := hb_7.size
  go_wp2_with fail
  go_cut [8, 9, 10, 11] (fun s8 s9 s10 s11 wx => ∃ (R_10 : Option Addr) (d_11 : Nat) (R_12 : Option Addr) (d_13 : Nat) (R_14 : Option Addr) (d_15 : Nat) (bx_18 : Nat) (lo_21 hi_22 : Nat) (lo_25 hi_26 : Nat) (lo_29 hi_30 : Nat), s8 = .pointer (some ⟨bx_18, 0, none⟩) ∧ s9 = .slice R_14 l10 d_15 ∧ s10 = .int .i64 r2 ∧ s11 = .bool r3 ∧ wx.cell? ⟨bx_18, 0, none⟩ = some (.slice R_10 l00 d_11) ∧ wx.cell? ⟨bx_18, 1, none⟩ = some (.slice R_12 l01 d_13) ∧ bx_18 < wx.heap.size ∧ w3.heap.size ≤ bx_18 ∧ OwnL wx lo_21 hi_22 R_10 l00 d_11 y00 ∧ (w3.heap.size ≤ lo_21 ∧ lo_21 ≤ hi_22 ∧ hi_22 ≤ wx.heap.size) ∧ OwnL wx lo_25 hi_26 R_12 l01 d_13 y01 ∧ (w3.heap.size ≤ lo_25 ∧ lo_25 ≤ hi_26 ∧ hi_26 ≤ wx.heap.size) ∧ OwnL wx lo_29 hi_30 R_14 l10 d_15 y10 ∧ (w3.heap.size ≤ lo_29 ∧ lo_29 ≤ hi_30 ∧ hi_30 ≤ wx.heap.size) ∧ Below w3.heap.size w3 wx)
  case first =>
    have HT_33 := Lib.hid (fun (x : World) (h : Below w3.drew.heap.size w3.drew x) => toInstrS_k A0 n0 cap0 _ t0 x (in0.call (by omega) h) (le_call (by omega) h) h0ok)
    have HT_38 := Lib.hid (fun (x : World) (h : Below w3.drew.heap.size w3.drew x) => toState_k A1 n1 cap1 _ z1 B1 m1 cbp1 y1 x (in1a.call (by omega) h) (in1b.call (by omega) h) (le_call (by omega) h) h1ok h1gok)
    have hD0 : Below w3.drew.heap.size w3.drew w3.drew := Below.refl _ _
    have sc0_0 : w3.drew.cell? ⟨w.heap.size, 0, none⟩ = some (.slice A1 n1 cap1) := a1_0
    have sc1_0 : w3.drew.cell? ⟨w.heap.size, 1, none⟩ = some (.slice B1 m1 cbp1) := a1_1
    refine wp_region_held_drew (S := fun w' => w'.cell? ⟨w.heap.size, 0, none⟩ = some (.slice A1 n1 cap1) ∧ w'.cell? ⟨w.heap.size, 1, none⟩ = some (.slice B1 m1 cbp1)) (by kernel_rfl) ⟨sc0_0, sc1_0⟩ ?_
    intro hHeld0
    refine wpAnyH_take (i := 0) (v := ?_) rfl (by kernel_rfl) (by kernel_rfl) (by kernel_rfl) (fun _ _ _ h => h) (Or.inl ⟨by kernel_rfl, ?_⟩) (by assumption) ?_
    rotate_left
    · intro w9 hS9; (try dsimp only at hS9); go_simp; (try with_reducible rfl)
    set_option linter.unusedSimpArgs false in try simp only [Act.put, List.getElem_toArray, List.getElem_cons_succ, List.getElem_cons_zero, List.setIfInBounds_toArray, List.set_cons_zero, List.set_cons_succ]
    refine wpAnyH_take (i := 2) (v := ?_) rfl (by kernel_rfl) (by kernel_rfl) (by kernel_rfl) (fun _ _ _ h => h) (Or.inl ⟨by kernel_rfl, ?_⟩) (by assumption) ?_
    rotate_left
    · intro w9 hS9; (try dsimp only at hS9); go_simp; (try with_reducible rfl)
    set_option linter.unusedSimpArgs false in try simp only [Act.put, List.getElem_toArray, List.getElem_cons_succ, List.getElem_cons_zero, List.setIfInBounds_toArray, List.set_cons_zero, List.set_cons_succ]
    refine wpAnyH_take (i := 4) (v := ?_) rfl (by kernel_rfl) (by kernel_rfl) (by kernel_rfl) (fun _ _ _ h => h) (Or.inl ⟨by kernel_rfl, ?_⟩) (by assumption) ?_
    rotate_left
    · intro w9 hS9; (try dsimp only at hS9); go_simp; (try with_reducible rfl)
    set_option linter.unusedSimpArgs false in try simp only [Act.put, List.getElem_toArray, List.getElem_cons_succ, List.getElem_cons_zero, List.setIfInBounds_toArray, List.set_cons_zero, List.set_cons_succ]
    refine wpAnyH_ready (rs := [1, 11]) (by kernel_rfl) (by simp) ?_
    refine AllReadyH.cons rfl (fun K hK => ?_) (AllReadyH.cons rfl (fun K hK => ?_) AllReadyH.nil)
    · go_simp
      go_wp2_with (go_at_call 18; refine (HT_33.out _ (hD0)).mono ?_; rintro e v1 ⟨g_36, rfl, oa2, hb1⟩)
      have hw1 := bon (hD0) hb1
      have sc0_3 := cell_next (show w3.drew.cell? _ = _ from sc0_0) hb1
      have sc1_4 := cell_next (show w3.drew.cell? _ = _ from sc1_0) hb1
      refine hK.out _ _ ⟨sc0_3, sc1_4⟩ (fun hHeld5 => ?_)
      clear hK K hHeld0
      set_option linter.unusedSimpArgs false in try simp only [Act.put, List.getElem_toArray, List.getElem_cons_succ, List.getElem_cons_zero, List.setIfInBounds_toArray, List.set_cons_zero, List.set_cons_succ]
      refine wpAnyH_ready (rs := [3, 11]) (by kernel_rfl) (by simp) ?_
      refine AllReadyH.cons rfl (fun K hK => ?_) (AllReadyH.cons rfl (fun K hK => ?_) AllReadyH.nil)
      · go_simp
        go_wp2_with (go_at_call 33; refine (HT_38.out _ (hw1)).mono ?_; rintro e v6 ⟨g_41, g_42, mz0, rfl, oa7, oa8, mdz, hb6⟩)
        have hw6 := bon (hw1) hb6
        have sc0_9 := cell_next (show v1.cell? _ = _ from sc0_3) hb6
        have sc1_10 := cell_next (show v1.cell? _ = _ from sc1_4) hb6
        have oa2_11 := oa2.next hb6
        refine hK.out _ _ ⟨sc0_9, sc1_10⟩ (fun hHeld12 => ?_)
        clear hK K hHeld5
        set_option linter.unusedSimpArgs false in try simp only [Act.put, List.getElem_toArray, List.getElem_cons_succ, List.getElem_cons_zero, List.setIfInBounds_toArray, List.set_cons_zero, List.set_cons_succ]
        refine wpAnyH_ready (rs := [5, 11]) (by kernel_rfl) (by simp) ?_
        refine AllReadyH.cons rfl (fun K hK => ?_) (AllReadyH.cons rfl (fun K hK => ?_) AllReadyH.nil)
        · go_simp
          go_wp2_with (go_at_call 32; refine (HS.out _ _ _ _ _ _ _ oa2_11.all oa7.all oa8.all).mono ?_; rintro e v13 ⟨R_10, d_11, R_12, d_13, R_14, d_15, rfl, op14, op15, op16, hb13⟩)
          have hw13 := bon (hw6) hb13
          have sc0_17 := cell_next (show v6.cell? _ = _ from sc0_9) hb13
          have sc1_18 := cell_next (show v6.cell? _ = _ from sc1_10) hb13
          have oa2_11_19 := oa2_11.next hb13
          have oa7_20 := oa7.next hb13
          have oa8_21 := oa8.next hb13
          refine hK.out _ _ ⟨sc0_17, sc1_18⟩ (fun hHeld22 => ?_)
          clear hK K hHeld12
          set_option linter.unusedSimpArgs false in try simp only [Act.put, List.getElem_toArray, List.getElem_cons_succ, List.getElem_cons_zero, List.setIfInBounds_toArray, List.set_cons_zero, List.set_cons_succ]
          refine wpAnyH_take (i := 6) (v := ?_) rfl (by kernel_rfl) (by kernel_rfl) (by kernel_rfl) (fun _ _ _ h => h) (Or.inl ⟨by kernel_rfl, ?_⟩) (by assumption) ?_
          rotate_left
          · intro w9 hS9; (try dsimp only at hS9); go_simp; (try with_reducible rfl)
          set_option linter.unusedSimpArgs false in try simp only [Act.put, List.getElem_toArray, List.getElem_cons_succ, List.getElem_cons_zero, List.setIfInBounds_toArray, List.set_cons_zero, List.set_cons_succ]
          refine wpAnyH_take (i := 7) (v := ?_) rfl (by kernel_rfl) (by kernel_rfl) (by kernel_rfl) (fun _ _ _ h => h) (Or.inl ⟨by kernel_rfl, ?_⟩) (by assumption) ?_
          rotate_left
          · intro w9 hS9; (try dsimp only at hS9); go_simp; (try with_reducible rfl)
          set_option linter.unusedSimpArgs false in try simp only [Act.put, List.getElem_toArray, List.getElem_cons_succ, List.getElem_cons_zero, List.setIfInBounds_toArray, List.set_cons_zero, List.set_cons_succ]
          refine wpAnyH_take (i := 8) (v := ?_) rfl (by kernel_rfl) (by kernel_rfl) (by kernel_rfl) (fun _ _ _ h => h) (Or.inl ⟨by kernel_rfl, ?_⟩) (by assumption) ?_
          rotate_left
          · intro w9 hS9; (try dsimp only at hS9); go_simp; (try with_reducible rfl)
          set_option linter.unusedSimpArgs false in try simp only [Act.put, List.getElem_toArray, List.getElem_cons_succ, List.getElem_cons_zero, List.setIfInBounds_toArray, List.set_cons_zero, List.set_cons_succ]
          refine wpAnyH_take (i := 9) (v := ?_) rfl (by kernel_rfl) (by kernel_rfl) (by kernel_rfl) (fun _ _ _ h => h) (Or.inl ⟨by kernel_rfl, ?_⟩) (by assumption) ?_
          rotate_left
          · intro w9 hS9; (try dsimp only at hS9); go_simp; (try with_reducible rfl)
          set_option linter.unusedSimpArgs false in try simp only [Act.put, List.getElem_toArray, List.getElem_cons_succ, List.getElem_cons_zero, List.setIfInBounds_toArray, List.set_cons_zero, List.set_cons_succ]
          refine wpAnyH_take (i := 10) (v := ?_) rfl (by kernel_rfl) (by kernel_rfl) (by kernel_rfl) (fun _ _ _ h => h) (Or.inl ⟨by kernel_rfl, ?_⟩) (by assumption) ?_
          rotate_left
          · intro w9 hS9; (try dsimp only at hS9); go_simp; (try with_reducible rfl)
          set_option linter.unusedSimpArgs false in try simp only [Act.put, List.getElem_toArray, List.getElem_cons_succ, List.getElem_cons_zero, List.setIfInBounds_toArray, List.set_cons_zero, List.set_cons_succ]
          refine wpAnyH_ready (rs := [11]) (by kernel_rfl) (by simp) ?_
          refine AllReadyH.cons rfl (fun K hK => ?_) AllReadyH.nil
          go_simp
          have sc0_23 := cell_next sc0_17 (bnew v13 (.cells #[.slice none 0 0, .slice none 0 0] 42))
          have sc1_24 := cell_next sc1_18 (bnew v13 (.cells #[.slice none 0 0, .slice none 0 0] 42))
          refine hK.out _ _ ⟨sc0_23, sc1_24⟩ (fun hHeld25 => ?_)
          clear hK K hHeld22
          set_option linter.unusedSimpArgs false in try simp only [Act.put, List.getElem_toArray, List.getElem_cons_succ, List.getElem_cons_zero, List.setIfInBounds_toArray, List.set_cons_zero, List.set_cons_succ]
          refine wpAnyH_ready (rs := [12]) (by kernel_rfl) (by simp) ?_
          refine AllReadyH.cons rfl (fun K hK => ?_) AllReadyH.nil
          go_simp
          have sc0_26 := cell_next sc0_17 (bnew v13 (.cells #[.slice R_10 l00 d_11, .slice R_12 l01 d_13] 42))
          have sc1_27 := cell_next sc1_18 (bnew v13 (.cells #[.slice R_10 l00 d_11, .slice R_12 l01 d_13] 42))
          refine hK.out _ _ ⟨sc0_26, sc1_27⟩ (fun hHeld28 => ?_)
          clear hK K hHeld25
          set_option linter.unusedSimpArgs false in try simp only [Act.put, List.getElem_toArray, List.getElem_cons_succ, List.getElem_cons_zero, List.setIfInBounds_toArray, List.set_cons_zero, List.set_cons_succ]
          refine wpAnyH_take (i := 13) (v := ?_) rfl (by kernel_rfl) (by kernel_rfl) (by kernel_rfl) (fun _ _ _ h => h) (Or.inl ⟨by kernel_rfl, ?_⟩) (by assumption) ?_
          rotate_left
          · intro w9 hS9; (try dsimp only at hS9); go_simp; (try with_reducible rfl)
          set_option linter.unusedSimpArgs false in try simp only [Act.put, List.getElem_toArray, List.getElem_cons_succ, List.getElem_cons_zero, List.setIfInBounds_toArray, List.set_cons_zero, List.set_cons_succ]
          refine wpAnyH_take (i := 14) (v := ?_) rfl (by kernel_rfl) (by kernel_rfl) (by kernel_rfl) (fun _ _ _ h => h) (Or.inl ⟨by kernel_rfl, ?_⟩) (by assumption) ?_
          rotate_left
          · intro w9 hS9; (try dsimp only at hS9); go_simp; (try with_reducible rfl)
          set_option linter.unusedSimpArgs false in try simp only [Act.put, List.getElem_toArray, List.getElem_cons_succ, List.getElem_cons_zero, List.setIfInBounds_toArray, List.set_cons_zero, List.set_cons_succ]
          refine wpAnyH_take (i := 15) (v := ?_) rfl (by kernel_rfl) (by kernel_rfl) (by kernel_rfl) (fun _ _ _ h => h) (Or.inl ⟨by kernel_rfl, ?_⟩) (by assumption) ?_
          rotate_left
          · intro w9 hS9; (try dsimp only at hS9); go_simp; (try with_reducible rfl)
          set_option linter.unusedSimpArgs false in try simp only [Act.put, List.getElem_toArray, List.getElem_cons_succ, List.getElem_cons_zero, List.setIfInBounds_toArray, List.set_cons_zero, List.set_cons_succ]
          refine wpAnyH_done (by kernel_rfl) ?_ _
          go_wp2_with fail
          go_meet
          exact ⟨_, _, _, _, _, _, _, _, _, _, _, _, _, rfl, rfl, rfl, rfl, fin_new2 (bstep (hw6)) hb13 op14 (by have := hb13.size; omega) op15 (by have := hb13.size; omega) op16 (by have := hb13.size; omega)⟩
        · go_simp
          have hA29 : Below w3.drew.heap.size w3.drew (v6.alloc (.cells #[.slice none 0 0, .slice none 0 0] 42)) := bon (hw6) (bnew v6 _)
          have hA29b0 : BlkIs (v6.alloc (.cells #[.slice none 0 0, .slice none 0 0] 42)) v6.heap.size 42 #[.slice none 0 0, .slice none 0 0] := blk_new _ _ _ _ rfl
          have hA29b : BlkIs (v6.alloc (.cells #[.slice none 0 0, .slice none 0 0] 42)) v6.heap.size 42 #[.slice none 0 0, .slice none 0 0] := hA29b0
          have hA29g : w3.heap.size ≤ v6.heap.size := (bstep (hw6)).size
          have sc0_30 : (v6.alloc (.cells #[.slice none 0 0, .slice none 0 0] 42)).cell? ⟨w.heap.size, 0, none⟩ = some (.slice A1 n1 cap1) := cell_next (w1 := v6.alloc (.cells #[.slice none 0 0, .slice none 0 0] 42)) (show v6.cell? _ = _ from sc0_9) (bnew v6 _)
          have sc1_31 : (v6.alloc (.cells #[.slice none 0 0, .slice none 0 0] 42)).cell? ⟨w.heap.size, 1, none⟩ = some (.slice B1 m1 cbp1) := cell_next (w1 := v6.alloc (.cells #[.slice none 0 0, .slice none 0 0] 42)) (show v6.cell? _ = _ from sc1_10) (bnew v6 _)
          have oa2_11_32 := oa2_11.next (bnew v6 (.cells #[.slice none 0 0, .slice none 0 0] 42))
          have oa7_33 := oa7.next (bnew v6 (.cells #[.slice none 0 0, .slice none 0 0] 42))
          have oa8_34 := oa8.next (bnew v6 (.cells #[.slice none 0 0, .slice none 0 0] 42))
          refine hK.out _ _ ⟨sc0_30, sc1_31⟩ (fun hHeld35 => ?_)
          clear hK K hHeld12
          set_option linter.unusedSimpArgs false in try simp only [Act.put, List.getElem_toArray, List.getElem_cons_succ, List.getElem_cons_zero, List.setIfInBounds_toArray, List.set_cons_zero, List.set_cons_succ]
          refine wpAnyH_ready (rs := [5]) (by kernel_rfl) (by simp) ?_
          refine AllReadyH.cons rfl (fun K hK => ?_) AllReadyH.nil
          go_simp
          go_wp2_with (go_at_call 32; refine (HS.out _ _ _ _ _ _ _ oa2_11_32.all oa7_33.all oa8_34.all).mono ?_; rintro e v36 ⟨R_10, d_11, R_12, d_13, R_14, d_15, rfl, op37, op38, op39, hb36⟩)
          have hw36 := bon (hA29) hb36
          have sc0_40 := cell_next (show (v6.alloc (.cells #[.slice none 0 0, .slice none 0 0] 42)).cell? _ = _ from sc0_30) hb36
          have sc1_41 := cell_next (show (v6.alloc (.cells #[.slice none 0 0, .slice none 0 0] 42)).cell? _ = _ from sc1_31) hb36
          have oa2_11_32_42 := oa2_11_32.next hb36
          have oa7_33_43 := oa7_33.next hb36
          have oa8_34_44 := oa8_34.next hb36
          have bk45 := hA29b.next hb36
          refine hK.out _ _ ⟨sc0_40, sc1_41⟩ (fun hHeld46 => ?_)
          clear hK K hHeld35
          set_option linter.unusedSimpArgs false in try simp only [Act.put, List.getElem_toArray, List.getElem_cons_succ, List.getElem_cons_zero, List.setIfInBounds_toArray, List.set_cons_zero, List.set_cons_succ]
          refine wpAnyH_take (i := 6) (v := ?_) rfl (by kernel_rfl) (by kernel_rfl) (by kernel_rfl) (fun _ _ _ h => h) (Or.inl ⟨by kernel_rfl, ?_⟩) (by assumption) ?_
          rotate_left
          · intro w9 hS9; (try dsimp only at hS9); go_simp; (try with_reducible rfl)
          set_option linter.unusedSimpArgs false in try simp only [Act.put, List.getElem_toArray, List.getElem_cons_succ, List.getElem_cons_zero, List.setIfInBounds_toArray, List.set_cons_zero, List.set_cons_succ]
          refine wpAnyH_take (i := 7) (v := ?_) rfl (by kernel_rfl) (by kernel_rfl) (by kernel_rfl) (fun _ _ _ h => h) (Or.inl ⟨by kernel_rfl, ?_⟩) (by assumption) ?_
          rotate_left
          · intro w9 hS9; (try dsimp only at hS9); go_simp; (try with_reducible rfl)
          set_option linter.unusedSimpArgs false in try simp only [Act.put, List.getElem_toArray, List.getElem_cons_succ, List.getElem_cons_zero, List.setIfInBounds_toArray, List.set_cons_zero, List.set_cons_succ]
          refine wpAnyH_take (i := 8) (v := ?_) rfl (by kernel_rfl) (by kernel_rfl) (by kernel_rfl) (fun _ _ _ h => h) (Or.inl ⟨by kernel_rfl, ?_⟩) (by assumption) ?_
          rotate_left
          · intro w9 hS9; (try dsimp only at hS9); go_simp; (try with_reducible rfl)
          set_option linter.unusedSimpArgs false in try simp only [Act.put, List.getElem_toArray, List.getElem_cons_succ, List.getElem_cons_zero, List.setIfInBounds_toArray, List.set_cons_zero, List.set_cons_succ]
          refine wpAnyH_take (i := 9) (v := ?_) rfl (by kernel_rfl) (by kernel_rfl) (by kernel_rfl) (fun _ _ _ h => h) (Or.inl ⟨by kernel_rfl, ?_⟩) (by assumption) ?_
          rotate_left
          · intro w9 hS9; (try dsimp only at hS9); go_simp; (try with_reducible rfl)
          set_option linter.unusedSimpArgs false in try simp only [Act.put, List.getElem_toArray, List.getElem_cons_succ, List.getElem_cons_zero, List.setIfInBounds_toArray, List.set_cons_zero, List.set_cons_succ]
          refine wpAnyH_take (i := 10) (v := ?_) rfl (by kernel_rfl) (by kernel_rfl) (by kernel_rfl) (fun _ _ _ h => h) (Or.inl ⟨by kernel_rfl, ?_⟩) (by assumption) ?_
          rotate_left
          · intro w9 hS9; (try dsimp only at hS9); go_simp; (try with_reducible rfl)
          set_option linter.unusedSimpArgs false in try simp only [Act.put, List.getElem_toArray, List.getElem_cons_succ, List.getElem_cons_zero, List.setIfInBounds_toArray, List.set_cons_zero, List.set_cons_succ]
          have z0 := bk45.cell 0
          have f0 := bk45.frozen 0
          have z1 := bk45.cell 1
          have f1 := bk45.frozen 1
          simp at z0 z1
          have ho47 : Out (v6.heap.size) (v6.heap.size + 1) v36 ((v36.setCell ⟨v6.heap.size, 0, none⟩ (.slice R_10 l00 d_11)).setCell ⟨v6.heap.size, 1, none⟩ (.slice R_12 l01 d_13)) := out_set (out_set (Out.refl _ _ _) (by omega)) (by omega)
          have sc0_48 := ho47.cell sc0_40 (by omega)
          have sc1_49 := ho47.cell sc1_41 (by omega)
          refine wpAnyH_ready (rs := [12]) (by kernel_rfl) (by simp) ?_
          refine AllReadyH.cons rfl (fun K hK => ?_) AllReadyH.nil
          go_simp
          refine hK.out _ _ ⟨sc0_48, sc1_49⟩ (fun hHeld50 => ?_)
          clear hK K hHeld46
          set_option linter.unusedSimpArgs false in try simp only [Act.put, List.getElem_toArray, List.getElem_cons_succ, List.getElem_cons_zero, List.setIfInBounds_toArray, List.set_cons_zero, List.set_cons_succ]
          refine wpAnyH_take (i := 13) (v := ?_) rfl (by kernel_rfl) (by kernel_rfl) (by kernel_rfl) (fun _ _ _ h => h) (Or.inl ⟨by kernel_rfl, ?_⟩) (by assumption) ?_
          rotate_left
          · intro w9 hS9; (try dsimp only at hS9); go_simp; (try with_reducible rfl)
          set_option linter.unusedSimpArgs false in try simp only [Act.put, List.getElem_toArray, List.getElem_cons_succ, List.getElem_cons_zero, List.setIfInBounds_toArray, List.set_cons_zero, List.set_cons_succ]
          refine wpAnyH_take (i := 14) (v := ?_) rfl (by kernel_rfl) (by kernel_rfl) (by kernel_rfl) (fun _ _ _ h => h) (Or.inl ⟨by kernel_rfl, ?_⟩) (by assumption) ?_
          rotate_left
          · intro w9 hS9; (try dsimp only at hS9); go_simp; (try with_reducible rfl)
          set_option linter.unusedSimpArgs false in try simp only [Act.put, List.getElem_toArray, List.getElem_cons_succ, List.getElem_cons_zero, List.setIfInBounds_toArray, List.set_cons_zero, List.set_cons_succ]
          refine wpAnyH_take (i := 15) (v := ?_) rfl (by kernel_rfl) (by kernel_rfl) (by kernel_rfl) (fun _ _ _ h => h) (Or.inl ⟨by kernel_rfl, ?_⟩) (by assumption) ?_
          rotate_left
          · intro w9 hS9; (try dsimp only at hS9); go_simp; (try with_reducible rfl)
          set_option linter.unusedSimpArgs false in try simp only [Act.put, List.getElem_toArray, List.getElem_cons_succ, List.getElem_cons_zero, List.setIfInBounds_toArray, List.set_cons_zero, List.set_cons_succ]
          refine wpAnyH_done (by kernel_rfl) ?_ _
          go_wp2_with fail
          go_meet
          exact ⟨_, _, _, _, _, _, _, _, _, _, _, _, _, rfl, rfl, rfl, rfl, fin_box2 (bstep (hA29)) ⟨bk45, hA29b.lt, hA29g⟩ hb36 op37 (by have := hb36.size; omega) op38 (by have := hb36.size; omega) op39 (by have := hb36.size; omega)⟩
      · go_simp
        have hA51 : Below w3.drew.heap.size w3.drew (v1.alloc (.cells #[.slice none 0 0, .slice none 0 0] 42)) := bon (hw1) (bnew v1 _)
        have hA51b0 : BlkIs (v1.alloc (.cells #[.slice none 0 0, .slice none 0 0] 42)) v1.heap.size 42 #[.slice none 0 0, .slice none 0 0] := blk_new _ _ _ _ rfl
        have hA51b : BlkIs (v1.alloc (.cells #[.slice none 0 0, .slice none 0 0] 42)) v1.heap.size 42 #[.slice none 0 0, .slice none 0 0] := hA51b0
        have hA51g : w3.heap.size ≤ v1.heap.size := (bstep (hw1)).size
        have sc0_52 : (v1.alloc (.cells #[.slice none 0 0, .slice none 0 0] 42)).cell? ⟨w.heap.size, 0, none⟩ = some (.slice A1 n1 cap1) := cell_next (w1 := v1.alloc (.cells #[.slice none 0 0, .slice none 0 0] 42)) (show v1.cell? _ = _ from sc0_3) (bnew v1 _)
        have sc1_53 : (v1.alloc (.cells #[.slice none 0 0, .slice none 0 0] 42)).cell? ⟨w.heap.size, 1, none⟩ = some (.slice B1 m1 cbp1) := cell_next (w1 := v1.alloc (.cells #[.slice none 0 0, .slice none 0 0] 42)) (show v1.cell? _ = _ from sc1_4) (bnew v1 _)
        have oa2_54 := oa2.next (bnew v1 (.cells #[.slice none 0 0, .slice none 0 0] 42))
        refine hK.out _ _ ⟨sc0_52, sc1_53⟩ (fun hHeld55 => ?_)
        clear hK K hHeld5
        set_option linter.unusedSimpArgs false in try simp only [Act.put, List.getElem_toArray, List.getElem_cons_succ, List.getElem_cons_zero, List.setIfInBounds_toArray, List.set_cons_zero, List.set_cons_succ]
        refine wpAnyH_ready (rs := [3]) (by kernel_rfl) (by simp) ?_
        refine AllReadyH.cons rfl (fun K hK => ?_) AllReadyH.nil
        go_simp
        go_wp2_with (go_at_call 33; refine (HT_38.out _ (hA51)).mono ?_; rintro e v56 ⟨g_41, g_42, mz0, rfl, oa57, oa58, mdz, hb56⟩)
        have hw56 := bon (hA51) hb56
        have sc0_59 := cell_next (show (v1.alloc (.cells #[.slice none 0 0, .slice none 0 0] 42)).cell? _ = _ from sc0_52) hb56
        have sc1_60 := cell_next (show (v1.alloc (.cells #[.slice none 0 0, .slice none 0 0] 42)).cell? _ = _ from sc1_53) hb56
        have oa2_54_61 := oa2_54.next hb56
        have bk62 := hA51b.next hb56
        refine hK.out _ _ ⟨sc0_59, sc1_60⟩ (fun hHeld63 => ?_)
        clear hK K hHeld55
        set_option linter.unusedSimpArgs false in try simp only [Act.put, List.getElem_toArray, List.getElem_cons_succ, List.getElem_cons_zero, List.setIfInBounds_toArray, List.set_cons_zero, List.set_cons_succ]
        refine wpAnyH_ready (rs := [5]) (by kernel_rfl) (by simp) ?_
        refine AllReadyH.cons rfl (fun K hK => ?_) AllReadyH.nil
        go_simp
        go_wp2_with (go_at_call 32; refine (HS.out _ _ _ _ _ _ _ oa2_54_61.all oa57.all oa58.all).mono ?_; rintro e v64 ⟨R_10, d_11, R_12, d_13, R_14, d_15, rfl, op65, op66, op67, hb64⟩)
        have hw64 := bon (hw56) hb64
        have sc0_68 := cell_next (show v56.cell? _ = _ from sc0_59) hb64
        have sc1_69 := cell_next (show v56.cell? _ = _ from sc1_60) hb64
        have oa2_54_61_70 := oa2_54_61.next hb64
        have oa57_71 := oa57.next hb64
        have oa58_72 := oa58.next hb64
        have bk73 := bk62.next hb64
        refine hK.out _ _ ⟨sc0_68, sc1_69⟩ (fun hHeld74 => ?_)
        clear hK K hHeld63
        set_option linter.unusedSimpArgs false in try simp only [Act.put, List.getElem_toArray, List.getElem_cons_succ, List.getElem_cons_zero, List.setIfInBounds_toArray, List.set_cons_zero, List.set_cons_succ]
        refine wpAnyH_take (i := 6) (v := ?_) rfl (by kernel_rfl) (by kernel_rfl) (by kernel_rfl) (fun _ _ _ h => h) (Or.inl ⟨by kernel_rfl, ?_⟩) (by assumption) ?_
        rotate_left
        · intro w9 hS9; (try dsimp only at hS9); go_simp; (try with_reducible rfl)
        set_option linter.unusedSimpArgs false in try simp only [Act.put, List.getElem_toArray, List.getElem_cons_succ, List.getElem_cons_zero, List.setIfInBounds_toArray, List.set_cons_zero, List.set_cons_succ]
        refine wpAnyH_take (i := 7) (v := ?_) rfl (by kernel_rfl) (by kernel_rfl) (by kernel_rfl) (fun _ _ _ h => h) (Or.inl ⟨by kernel_rfl, ?_⟩) (by assumption) ?_
        rotate_left
        · intro w9 hS9; (try dsimp only at hS9); go_simp; (try with_reducible rfl)
        set_option linter.unusedSimpArgs false in try simp only [Act.put, List.getElem_toArray, List.getElem_cons_succ, List.getElem_cons_zero, List.setIfInBounds_toArray, List.set_cons_zero, List.set_cons_succ]
        refine wpAnyH_take (i := 8) (v := ?_) rfl (by kernel_rfl) (by kernel_rfl) (by kernel_rfl) (fun _ _ _ h => h) (Or.inl ⟨by kernel_rfl, ?_⟩) (by assumption) ?_
        rotate_left
        · intro w9 hS9; (try dsimp only at hS9); go_simp; (try with_reducible rfl)
        set_option linter.unusedSimpArgs false in try simp only [Act.put, List.getElem_toArray, List.getElem_cons_succ, List.getElem_cons_zero, List.setIfInBounds_toArray, List.set_cons_zero, List.set_cons_succ]
        refine wpAnyH_take (i := 9) (v := ?_) rfl (by kernel_rfl) (by kernel_rfl) (by kernel_rfl) (fun _ _ _ h => h) (Or.inl ⟨by kernel_rfl, ?_⟩) (by assumption) ?_
        rotate_left
        · intro w9 hS9; (try dsimp only at hS9); go_simp; (try with_reducible rfl)
        set_option linter.unusedSimpArgs false in try simp only [Act.put, List.getElem_toArray, List.getElem_cons_succ, List.getElem_cons_zero, List.setIfInBounds_toArray, List.set_cons_zero, List.set_cons_succ]
        refine wpAnyH_take (i := 10) (v := ?_) rfl (by kernel_rfl) (by kernel_rfl) (by kernel_rfl) (fun _ _ _ h => h) (Or.inl ⟨by kernel_rfl, ?_⟩) (by assumption) ?_
        rotate_left
        · intro w9 hS9; (try dsimp only at hS9); go_simp; (try with_reducible rfl)
        set_option linter.unusedSimpArgs false in try simp only [Act.put, List.getElem_toArray, List.getElem_cons_succ, List.getElem_cons_zero, List.setIfInBounds_toArray, List.set_cons_zero, List.set_cons_succ]
        have z0 := bk73.cell 0
        have f0 := bk73.frozen 0
        have z1 := bk73.cell 1
        have f1 := bk73.frozen 1
        simp at z0 z1
        have ho75 : Out (v1.heap.size) (v1.heap.size + 1) v64 ((v64.setCell ⟨v1.heap.size, 0, none⟩ (.slice R_10 l00 d_11)).setCell ⟨v1.heap.size, 1, none⟩ (.slice R_12 l01 d_13)) := out_set (out_set (Out.refl _ _ _) (by omega)) (by omega)
        have sc0_76 := ho75.cell sc0_68 (by omega)
        have sc1_77 := ho75.cell sc1_69 (by omega)
        refine wpAnyH_ready (rs := [12]) (by kernel_rfl) (by simp) ?_
        refine AllReadyH.cons rfl (fun K hK => ?_) AllReadyH.nil
        go_simp
        refine hK.out _ _ ⟨sc0_76, sc1_77⟩ (fun hHeld78 => ?_)
        clear hK K hHeld74
        set_option linter.unusedSimpArgs false in try simp only [Act.put, List.getElem_toArray, List.getElem_cons_succ, List.getElem_cons_zero, List.setIfInBounds_toArray, List.set_cons_zero, List.set_cons_succ]
        refine wpAnyH_take (i := 13) (v := ?_) rfl (by kernel_rfl) (by kernel_rfl) (by kernel_rfl) (fun _ _ _ h => h) (Or.inl ⟨by kernel_rfl, ?_⟩) (by assumption) ?_
        rotate_left
        · intro w9 hS9; (try dsimp only at hS9); go_simp; (try with_reducible rfl)
        set_option linter.unusedSimpArgs false in try simp only [Act.put, List.getElem_toArray, List.getElem_cons_succ, List.getElem_cons_zero, List.setIfInBounds_toArray, List.set_cons_zero, List.set_cons_succ]
        refine wpAnyH_take (i := 14) (v := ?_) rfl (by kernel_rfl) (by kernel_rfl) (by kernel_rfl) (fun _ _ _ h => h) (Or.inl ⟨by kernel_rfl, ?_⟩) (by assumption) ?_
        rotate_left
        · intro w9 hS9; (try dsimp only at hS9); go_simp; (try with_reducible rfl)
        set_option linter.unusedSimpArgs false in try simp only [Act.put, List.getElem_toArray, List.getElem_cons_succ, List.getElem_cons_zero, List.setIfInBounds_toArray, List.set_cons_zero, List.set_cons_succ]
        refine wpAnyH_take (i := 15) (v := ?_) rfl (by kernel_rfl) (by kernel_rfl) (by kernel_rfl) (fun _ _ _ h => h) (Or.inl ⟨by kernel_rfl, ?_⟩) (by assumption) ?_
        rotate_left
        · intro w9 hS9; (try dsimp only at hS9); go_simp; (try with_reducible rfl)
        set_option linter.unusedSimpArgs false in try simp only [Act.put, List.getElem_toArray, List.getElem_cons_succ, List.getElem_cons_zero, List.setIfInBounds_toArray, List.set_cons_zero, List.set_cons_succ]
        refine wpAnyH_done (by kernel_rfl) ?_ _
        go_wp2_with fail
        go_meet
        exact ⟨_, _, _, _, _, _, _, _, _, _, _, _, _, rfl, rfl, rfl, rfl, fin_box2 (bstep (hw56)) ⟨bk73, bk62.lt, hA51g⟩ hb64 op65 (by have := hb64.size; omega) op66 (by have := hb64.size; omega) op67 (by have := hb64.size; omega)⟩
    · go_simp
      have hA79 : Below w3.drew.heap.size w3.drew (w3.alloc (.cells #[.slice none 0 0, .slice none 0 0] 42)).drew := bel_ad w3 _
      have hA79b0 : BlkIs (w3.alloc (.cells #[.slice none 0 0, .slice none 0 0] 42)) w3.heap.size 42 #[.slice none 0 0, .slice none 0 0] := blk_new _ _ _ _ rfl
      have hA79b : BlkIs (w3.alloc (.cells #[.slice none 0 0, .slice none 0 0] 42)).drew w3.heap.size 42 #[.slice none 0 0, .slice none 0 0] := hA79b0
      have hA79g : w3.heap.size ≤ w3.heap.size := Nat.le_refl _
      have sc0_80 : (w3.alloc (.cells #[.slice none 0 0, .slice none 0 0] 42)).drew.cell? ⟨w.heap.size, 0, none⟩ = some (.slice A1 n1 cap1) := cell_next (w1 := w3.alloc (.cells #[.slice none 0 0, .slice none 0 0] 42)) (show w3.cell? _ = _ from sc0_0) (bnew w3 _)
      have sc1_81 : (w3.alloc (.cells #[.slice none 0 0, .slice none 0 0] 42)).drew.cell? ⟨w.heap.size, 1, none⟩ = some (.slice B1 m1 cbp1) := cell_next (w1 := w3.alloc (.cells #[.slice none 0 0, .slice none 0 0] 42)) (show w3.cell? _ = _ from sc1_0) (bnew w3 _)
      refine hK.out _ _ ⟨sc0_80, sc1_81⟩ (fun hHeld82 => ?_)
      clear hK K hHeld0
      set_option linter.unusedSimpArgs false in try simp only [Act.put, List.getElem_toArray, List.getElem_cons_succ, List.getElem_cons_zero, List.setIfInBounds_toArray, List.set_cons_zero, List.set_cons_succ]
      refine wpAnyH_ready (rs := [1]) (by kernel_rfl) (by simp) ?_
      refine AllReadyH.cons rfl (fun K hK => ?_) AllReadyH.nil
      go_simp
      go_wp2_with (go_at_call 18; refine (HT_33.out _ (hA79)).mono ?_; rintro e v83 ⟨g_36, rfl, oa84, hb83⟩)
      have hw83 := bon (hA79) hb83
      have sc0_85 := cell_next (show (w3.alloc (.cells #[.slice none 0 0, .slice none 0 0] 42)).drew.cell? _ = _ from sc0_80) hb83
      have sc1_86 := cell_next (show (w3.alloc (.cells #[.slice none 0 0, .slice none 0 0] 42)).drew.cell? _ = _ from sc1_81) hb83
      have bk87 := hA79b.next hb83
      refine hK.out _ _ ⟨sc0_85, sc1_86⟩ (fun hHeld88 => ?_)
      clear hK K hHeld82
      set_option linter.unusedSimpArgs false in try simp only [Act.put, List.getElem_toArray, List.getElem_cons_succ, List.getElem_cons_zero, List.setIfInBounds_toArray, List.set_cons_zero, List.set_cons_succ]
      refine wpAnyH_ready (rs := [3]) (by kernel_rfl) (by simp) ?_
      refine AllReadyH.cons rfl (fun K hK => ?_) AllReadyH.nil
      go_simp
      go_wp2_with (go_at_call 33; refine (HT_38.out _ (hw83)).mono ?_; rintro e v89 ⟨g_41, g_42, mz0, rfl, oa90, oa91, mdz, hb89⟩)
      have hw89 := bon (hw83) hb89
      have sc0_92 := cell_next (show v83.cell? _ = _ from sc0_85) hb89
      have sc1_93 := cell_next (show v83.cell? _ = _ from sc1_86) hb89
      have oa84_94 := oa84.next hb89
      have bk95 := bk87.next hb89
      refine hK.out _ _ ⟨sc0_92, sc1_93⟩ (fun hHeld96 => ?_)
      clear hK K hHeld88
      set_option linter.unusedSimpArgs false in try simp only [Act.put, List.getElem_toArray, List.getElem_cons_succ, List.getElem_cons_zero, List.setIfInBounds_toArray, List.set_cons_zero, List.set_cons_succ]
      refine wpAnyH_ready (rs := [5]) (by kernel_rfl) (by simp) ?_
      refine AllReadyH.cons rfl (fun K hK => ?_) AllReadyH.nil
      go_simp
      go_wp2_with (go_at_call 32; refine (HS.out _ _ _ _ _ _ _ oa84_94.all oa90.all oa91.all).mono ?_; rintro e v97 ⟨R_10, d_11, R_12, d_13, R_14, d_15, rfl, op98, op99, op100, hb97⟩)
      have hw97 := bon (hw89) hb97
      have sc0_101 := cell_next (show v89.cell? _ = _ from sc0_92) hb97
      have sc1_102 := cell_next (show v89.cell? _ = _ from sc1_93) hb97
      have oa84_94_103 := oa84_94.next hb97
      have oa90_104 := oa90.next hb97
      have oa91_105 := oa91.next hb97
      have bk106 := bk95.next hb97
      refine hK.out _ _ ⟨sc0_101, sc1_102⟩ (fun hHeld107 => ?_)
      clear hK K hHeld96
      set_option linter.unusedSimpArgs false in try simp only [Act.put, List.getElem_toArray, List.getElem_cons_succ, List.getElem_cons_zero, List.setIfInBounds_toArray, List.set_cons_zero, List.set_cons_succ]
      refine wpAnyH_take (i := 6) (v := ?_) rfl (by kernel_rfl) (by kernel_rfl) (by kernel_rfl) (fun _ _ _ h => h) (Or.inl ⟨by kernel_rfl, ?_⟩) (by assumption) ?_
      rotate_left
      · intro w9 hS9; (try dsimp only at hS9); go_simp; (try with_reducible rfl)
      set_option linter.unusedSimpArgs false in try simp only [Act.put, List.getElem_toArray, List.getElem_cons_succ, List.getElem_cons_zero, List.setIfInBounds_toArray, List.set_cons_zero, List.set_cons_succ]
      refine wpAnyH_take (i := 7) (v := ?_) rfl (by kernel_rfl) (by kernel_rfl) (by kernel_rfl) (fun _ _ _ h => h) (Or.inl ⟨by kernel_rfl, ?_⟩) (by assumption) ?_
      rotate_left
      · intro w9 hS9; (try dsimp only at hS9); go_simp; (try with_reducible rfl)
      set_option linter.unusedSimpArgs false in try simp only [Act.put, List.getElem_toArray, List.getElem_cons_succ, List.getElem_cons_zero, List.setIfInBounds_toArray, List.set_cons_zero, List.set_cons_succ]
      refine wpAnyH_take (i := 8) (v := ?_) rfl (by kernel_rfl) (by kernel_rfl) (by kernel_rfl) (fun _ _ _ h => h) (Or.inl ⟨by kernel_rfl, ?_⟩) (by assumption) ?_
      rotate_left
      · intro w9 hS9; (try dsimp only at hS9); go_simp; (try with_reducible rfl)
      set_option linter.unusedSimpArgs false in try simp only [Act.put, List.getElem_toArray, List.getElem_cons_succ, List.getElem_cons_zero, List.setIfInBounds_toArray, List.set_cons_zero, List.set_cons_succ]
      refine wpAnyH_take (i := 9) (v := ?_) rfl (by kernel_rfl) (by kernel_rfl) (by kernel_rfl) (fun _ _ _ h => h) (Or.inl ⟨by kernel_rfl, ?_⟩) (by assumption) ?_
      rotate_left
      · intro w9 hS9; (try dsimp only at hS9); go_simp; (try with_reducible rfl)
      set_option linter.unusedSimpArgs false in try simp only [Act.put, List.getElem_toArray, List.getElem_cons_succ, List.getElem_cons_zero, List.setIfInBounds_toArray, List.set_cons_zero, List.set_cons_succ]
      refine wpAnyH_take (i := 10) (v := ?_) rfl (by kernel_rfl) (by kernel_rfl) (by kernel_rfl) (fun _ _ _ h => h) (Or.inl ⟨by kernel_rfl, ?_⟩) (by assumption) ?_
      rotate_left
      · intro w9 hS9; (try dsimp only at hS9); go_simp; (try with_reducible rfl)
      set_option linter.unusedSimpArgs false in try simp only [Act.put, List.getElem_toArray, List.getElem_cons_succ, List.getElem_cons_zero, List.setIfInBounds_toArray, List.set_cons_zero, List.set_cons_succ]
      have z0 := bk106.cell 0
      have f0 := bk106.frozen 0
      have z1 := bk106.cell 1
      have f1 := bk106.frozen 1
      simp at z0 z1
      have ho108 : Out (w3.heap.size) (w3.heap.size + 1) v97 ((v97.setCell ⟨w3.heap.size, 0, none⟩ (.slice R_10 l00 d_11)).setCell ⟨w3.heap.size, 1, none⟩ (.slice R_12 l01 d_13)) := out_set (out_set (Out.refl _ _ _) (by omega)) (by omega)
      have sc0_109 := ho108.cell sc0_101 (by omega)
      have sc1_110 := ho108.cell sc1_102 (by omega)
      refine wpAnyH_ready (rs := [12]) (by kernel_rfl) (by simp) ?_
      refine AllReadyH.cons rfl (fun K hK => ?_) AllReadyH.nil
      go_simp
      refine hK.out _ _ ⟨sc0_109, sc1_110⟩ (fun hHeld111 => ?_)
      clear hK K hHeld107
      set_option linter.unusedSimpArgs false in try simp only [Act.put, List.getElem_toArray, List.getElem_cons_succ, List.getElem_cons_zero, List.setIfInBounds_toArray, List.set_cons_zero, List.set_cons_succ]
      refine wpAnyH_take (i := 13) (v := ?_) rfl (by kernel_rfl) (by kernel_rfl) (by kernel_rfl) (fun _ _ _ h => h) (Or.inl ⟨by kernel_rfl, ?_⟩) (by assumption) ?_
      rotate_left
      · intro w9 hS9; (try dsimp only at hS9); go_simp; (try with_reducible rfl)
      set_option linter.unusedSimpArgs false in try simp only [Act.put, List.getElem_toArray, List.getElem_cons_succ, List.getElem_cons_zero, List.setIfInBounds_toArray, List.set_cons_zero, List.set_cons_succ]
      refine wpAnyH_take (i := 14) (v := ?_) rfl (by kernel_rfl) (by kernel_rfl) (by kernel_rfl) (fun _ _ _ h => h) (Or.inl ⟨by kernel_rfl, ?_⟩) (by assumption) ?_
      rotate_left
      · intro w9 hS9; (try dsimp only at hS9); go_simp; (try with_reducible rfl)
      set_option linter.unusedSimpArgs false in try simp only [Act.put, List.getElem_toArray, List.getElem_cons_succ, List.getElem_cons_zero, List.setIfInBounds_toArray, List.set_cons_zero, List.set_cons_succ]
      refine wpAnyH_take (i := 15) (v := ?_) rfl (by kernel_rfl) (by kernel_rfl) (by kernel_rfl) (fun _ _ _ h => h) (Or.inl ⟨by kernel_rfl, ?_⟩) (by assumption) ?_
      rotate_left
      · intro w9 hS9; (try dsimp only at hS9); go_simp; (try with_reducible rfl)
      set_option linter.unusedSimpArgs false in try simp only [Act.put, List.getElem_toArray, List.getElem_cons_succ, List.getElem_cons_zero, List.setIfInBounds_toArray, List.set_cons_zero, List.set_cons_succ]
      refine wpAnyH_done (by kernel_rfl) ?_ _
      go_wp2_with fail
      go_meet
      exact ⟨_, _, _, _, _, _, _, _, _, _, _, _, _, rfl, rfl, rfl, rfl, fin_box2 (bstep (hw89)) ⟨bk106, bk95.lt, hA79g⟩ hb97 op98 (by have := hb97.size; omega) op99 (by have := hb97.size; omega) op100 (by have := hb97.size; omega)⟩
  case rest =>
    obtain ⟨R_10, d_11, R_12, d_13, R_14, d_15, bx_18, lo_21, hi_22, lo_25, hi_26, lo_29, hi_30, rfl, rfl, rfl, rfl, w0_0, w0_1, w0_l, sz_19, own_20, sz_23, own_24, sz_27, own_28, sz_31, hb_32⟩ := hcut
    obtain ⟨w4, hwx⟩ : ∃ x, x = wc := ⟨_, rfl⟩
    subst hwx
    have sz_54 := w0_l
    replace in0 := in0.next hb_32 (by omega)
    replace in1a := in1a.next hb_32 (by omega)
    replace in1b := in1b.next hb_32 (by omega)
    replace a1_0 := cell_next a1_0 hb_32
    replace a1_1 := cell_next a1_1 hb_32
    replace a1_l := Nat.lt_of_lt_of_le a1_l hb_32.size
    replace hB := hB.trans (hb_32.mono hB.size)
    have sz_55 := hb_32.size
    go_wp2_with fail
    refine (toInstrS_k A0 n0 cap0 _ t0 _ in0 (by omega) h0ok).mono ?_
    rintro e w5 ⟨g_56, rfl, own_57, hb_58⟩
    replace in0 := in0.next hb_58 (by omega)
    replace in1a := in1a.next hb_58 (by omega)
    replace in1b := in1b.next hb_58 (by omega)
    replace a1_0 := cell_next a1_0 hb_58
    replace a1_1 := cell_next a1_1 hb_58
    replace a1_l := Nat.lt_of_lt_of_le a1_l hb_58.size
    replace w0_0 := cell_next w0_0 hb_58
    replace w0_1 := cell_next w0_1 hb_58
    replace w0_l := Nat.lt_of_lt_of_le w0_l hb_58.size
    replace own_20 := own_20.next hb_58
    replace own_24 := own_24.next hb_58
    replace own_28 := own_28.next hb_58
    replace hB := hB.trans (hb_58.mono hB.size)
    have sz_59 := hb_58.size
    go_wp2_with fail
    refine (toState_k A1 n1 cap1 _ z1 B1 m1 cbp1 y1 _ in1a in1b (by omega) h1ok h1gok).mono ?_
    rintro e w6 ⟨g_60, g_61, mid_65, rfl, own_62, own_63, md_66, hb_64⟩
    replace in0 := in0.next hb_64 (by omega)
    replace in1a := in1a.next hb_64 (by omega)
    replace in1b := in1b.next hb_64 (by omega)
    replace a1_0 := cell_next a1_0 hb_64
    replace a1_1 := cell_next a1_1 hb_64
    replace a1_l := Nat.lt_of_lt_of_le a1_l hb_64.size
    replace w0_0 := cell_next w0_0 hb_64
    replace w0_1 := cell_next w0_1 hb_64
    replace w0_l := Nat.lt_of_lt_of_le w0_l hb_64.size
    replace own_20 := own_20.next hb_64
    replace own_24 := own_24.next hb_64
    replace own_28 := own_28.next hb_64
    replace own_57 := own_57.next hb_64
    replace hB := hB.trans (hb_64.mono hB.size)
    have sz_67 := hb_64.size
    go_wp2_with fail
    have hb_68 : Below w6.heap.size w6 (w6.alloc (.cells #[.slice (some ⟨g_60, 0, none⟩) n1 n1, .slice (some ⟨g_61, 0, none⟩) m1 m1] 42)) := bnew _ _
    have sz_69 : w6.heap.size < (w6.alloc (.cells #[.slice (some ⟨g_60, 0, none⟩) n1 n1, .slice (some ⟨g_61, 0, none⟩) m1 m1] 42)).heap.size := by simp
    have x1_0 : (w6.alloc (.cells #[.slice (some ⟨g_60, 0, none⟩) n1 n1, .slice (some ⟨g_61, 0, none⟩) m1 m1] 42)).cell? ⟨w6.heap.size, 0, none⟩ = some (.slice (some ⟨g_60, 0, none⟩) n1 n1) := by simp
    have x1_1 : (w6.alloc (.cells #[.slice (some ⟨g_60, 0, none⟩) n1 n1, .slice (some ⟨g_61, 0, none⟩) m1 m1] 42)).cell? ⟨w6.heap.size, 1, none⟩ = some (.slice (some ⟨g_61, 0, none⟩) m1 m1) := by simp
    have x1_l := sz_69
    generalize w6.alloc (.cells #[.slice (some ⟨g_60, 0, none⟩) n1 n1, .slice (some ⟨g_61, 0, none⟩) m1 m1] 42) = w7 at hb_68 x1_0 x1_1 sz_69 x1_l ⊢
    replace in0 := in0.next hb_68 (by omega)
    replace in1a := in1a.next hb_68 (by omega)
    replace in1b := in1b.next hb_68 (by omega)
    replace a1_0 := cell_next a1_0 hb_68
    replace a1_1 := cell_next a1_1 hb_68
    replace a1_l := Nat.lt_of_lt_of_le a1_l hb_68.size
    replace w0_0 := cell_next w0_0 hb_68
    replace w0_1 := cell_next w0_1 hb_68
    replace w0_l := Nat.lt_of_lt_of_le w0_l hb_68.size
    replace own_20 := own_20.next hb_68
    replace own_24 := own_24.next hb_68
    replace own_28 := own_28.next hb_68
    replace own_57 := own_57.next hb_68
    replace own_62 := own_62.next hb_68
    replace own_63 := own_63.next hb_68
    replace hB := hB.trans (hb_68.mono hB.size)
    have sz_70 := hb_68.size
    refine (HI.out w7 _ _ _ _ _ _ ((own_57.inn).more (by omega)) ((own_62.inn).more (by omega)) ((own_63.inn).more (by omega))).mono ?_
    rintro e w8 ⟨R_72, d_73, R_74, d_75, R_76, d_77, mid_78, mid_79, rfl, own_81, own_82, own_83, md_80, hb_71⟩
    replace in0 := in0.next hb_71 (by omega)
    replace in1a := in1a.next hb_71 (by omega)
    replace in1b := in1b.next hb_71 (by omega)
    replace a1_0 := cell_next a1_0 hb_71
    replace a1_1 := cell_next a1_1 hb_71
    replace a1_l := Nat.lt_of_lt_of_le a1_l hb_71.size
    replace w0_0 := cell_next w0_0 hb_71
    replace w0_1 := cell_next w0_1 hb_71
    replace w0_l := Nat.lt_of_lt_of_le w0_l hb_71.size
    replace own_20 := own_20.next hb_71
    replace own_24 := own_24.next hb_71
    replace own_28 := own_28.next hb_71
    replace own_57 := own_57.next hb_71
    replace own_62 := own_62.next hb_71
    replace own_63 := own_63.next hb_71
    replace x1_0 := cell_next x1_0 hb_71
    replace x1_1 := cell_next x1_1 hb_71
    replace x1_l := Nat.lt_of_lt_of_le x1_l hb_71.size
    replace hB := hB.trans (hb_71.mono hB.size)
    have sz_84 := hb_71.size
    go_wp2_with fail
    have hb_85 : Below w8.heap.size w8 (w8.alloc (.cells #[.slice R_72 l00 d_73, .slice R_74 l01 d_75] 42)) := bnew _ _
    have sz_86 : w8.heap.size < (w8.alloc (.cells #[.slice R_72 l00 d_73, .slice R_74 l01 d_75] 42)).heap.size := by simp
    have g0_0 : (w8.alloc (.cells #[.slice R_72 l00 d_73, .slice R_74 l01 d_75] 42)).cell? ⟨w8.heap.size, 0, none⟩ = some (.slice R_72 l00 d_73) := by simp
    have g0_1 : (w8.alloc (.cells #[.slice R_72 l00 d_73, .slice R_74 l01 d_75] 42)).cell? ⟨w8.heap.size, 1, none⟩ = some (.slice R_74 l01 d_75) := by simp
    have g0_l := sz_86
    generalize w8.alloc (.cells #[.slice R_72 l00 d_73, .slice R_74 l01 d_75] 42) = w9 at hb_85 g0_0 g0_1 sz_86 g0_l ⊢
    replace in0 := in0.next hb_85 (by omega)
    replace in1a := in1a.next hb_85 (by omega)
    replace in1b := in1b.next hb_85 (by omega)
    replace a1_0 := cell_next a1_0 hb_85
    replace a1_1 := cell_next a1_1 hb_85
    replace a1_l := Nat.lt_of_lt_of_le a1_l hb_85.size
    replace w0_0 := cell_next w0_0 hb_85
    replace w0_1 := cell_next w0_1 hb_85
    replace w0_l := Nat.lt_of_lt_of_le w0_l hb_85.size
    replace own_20 := own_20.next hb_85
    replace own_24 := own_24.next hb_85
    replace own_28 := own_28.next hb_85
    replace own_57 := own_57.next hb_85
    replace own_62 := own_62.next hb_85
    replace own_63 := own_63.next hb_85
    replace x1_0 := cell_next x1_0 hb_85
    replace x1_1 := cell_next x1_1 hb_85
    replace x1_l := Nat.lt_of_lt_of_le x1_l hb_85.size
    replace own_81 := own_81.next hb_85
    replace own_82 := own_82.next hb_85
    replace own_83 := own_83.next hb_85
    replace hB := hB.trans (hb_85.mono hB.size)
    have sz_87 := hb_85.size
    -- if !eqState(g0, w0) || !eqInt64S(g1, w1) || g2 != w2 || g3 != w3 {
    refine (eqState_k R_72 R_10 l00 d_73 d_11 y00 R_74 R_12 l01 d_75 d_13 y01 (w9.heap.size) (w9.heap.size) w9 (own_81.inn.more (by omega)) (own_82.inn.more (by omega)) (own_20.inn.more (by omega)) (own_24.inn.more (by omega)) (by omega) (by omega) (by omega) (by omega)).mono ?_
    rintro e w10 ⟨rfl, hb_88⟩
    replace in0 := in0.next hb_88 (by omega)
    replace in1a := in1a.next hb_88 (by omega)
    replace in1b := in1b.next hb_88 (by omega)
    replace a1_0 := cell_next a1_0 hb_88
    replace a1_1 := cell_next a1_1 hb_88
    replace a1_l := Nat.lt_of_lt_of_le a1_l hb_88.size
    replace w0_0 := cell_next w0_0 hb_88
    replace w0_1 := cell_next w0_1 hb_88
    replace w0_l := Nat.lt_of_lt_of_le w0_l hb_88.size
    replace own_20 := own_20.next hb_88
    replace own_24 := own_24.next hb_88
    replace own_28 := own_28.next hb_88
    replace own_57 := own_57.next hb_88
    replace own_62 := own_62.next hb_88
    replace own_63 := own_63.next hb_88
    replace x1_0 := cell_next x1_0 hb_88
    replace x1_1 := cell_next x1_1 hb_88
    replace x1_l := Nat.lt_of_lt_of_le x1_l hb_88.size
    replace own_81 := own_81.next hb_88
    replace own_82 := own_82.next hb_88
    replace own_83 := own_83.next hb_88
    replace g0_0 := cell_next g0_0 hb_88
    replace g0_1 := cell_next g0_1 hb_88
    replace g0_l := Nat.lt_of_lt_of_le g0_l hb_88.size
    replace hB := hB.trans (hb_88.mono hB.size)
    have sz_89 := hb_88.size
    go_wp2_with fail
    refine (eqInt64S_k R_76 R_14 l10 d_77 d_15 _ _ y10 _ own_83.inn own_28.inn (by omega) (by omega) (by omega)).mono ?_
    rintro e w11 ⟨rfl, hb_90⟩
    replace in0 := in0.next hb_90 (by omega)
    replace in1a := in1a.next hb_90 (by omega)
    replace in1b := in1b.next hb_90 (by omega)
    replace a1_0 := cell_next a1_0 hb_90
    replace a1_1 := cell_next a1_1 hb_90
    replace a1_l := Nat.lt_of_lt_of_le a1_l hb_90.size
    replace w0_0 := cell_next w0_0 hb_90
    replace w0_1 := cell_next w0_1 hb_90
    replace w0_l := Nat.lt_of_lt_of_le w0_l hb_90.size
    replace own_20 := own_20.next hb_90
    replace own_24 := own_24.next hb_90
    replace own_28 := own_28.next hb_90
    replace own_57 := own_57.next hb_90
    replace own_62 := own_62.next hb_90
    replace own_63 := own_63.next hb_90
    replace x1_0 := cell_next x1_0 hb_90
    replace x1_1 := cell_next x1_1 hb_90
    replace x1_l := Nat.lt_of_lt_of_le x1_l hb_90.size
    replace own_81 := own_81.next hb_90
    replace own_82 := own_82.next hb_90
    replace own_83 := own_83.next hb_90
    replace g0_0 := cell_next g0_0 hb_90
    replace g0_1 := cell_next g0_1 hb_90
    replace g0_l := Nat.lt_of_lt_of_le g0_l hb_90.size
    replace hB := hB.trans (hb_90.mono hB.size)
    have sz_91 := hb_90.size
    go_wp2_with fail
    refine (toInstrS_k A0 n0 cap0 _ t0 _ in0 (by omega) h0ok).mono ?_
    rintro e w12 ⟨g_92, rfl, own_93, hb_94⟩
    replace in0 := in0.next hb_94 (by omega)
    replace in1a := in1a.next hb_94 (by omega)
    replace in1b := in1b.next hb_94 (by omega)
    replace a1_0 := cell_next a1_0 hb_94
    replace a1_1 := cell_next a1_1 hb_94
    replace a1_l := Nat.lt_of_lt_of_le a1_l hb_94.size
    replace w0_0 := cell_next w0_0 hb_94
    replace w0_1 := cell_next w0_1 hb_94
    replace w0_l := Nat.lt_of_lt_of_le w0_l hb_94.size
    replace own_20 := own_20.next hb_94
    replace own_24 := own_24.next hb_94
    replace own_28 := own_28.next hb_94
    replace own_57 := own_57.next hb_94
    replace own_62 := own_62.next hb_94
    replace own_63 := own_63.next hb_94
    replace x1_0 := cell_next x1_0 hb_94
    replace x1_1 := cell_next x1_1 hb_94
    replace x1_l := Nat.lt_of_lt_of_le x1_l hb_94.size
    replace own_81 := own_81.next hb_94
    replace own_82 := own_82.next hb_94
    replace own_83 := own_83.next hb_94
    replace g0_0 := cell_next g0_0 hb_94
    replace g0_1 := cell_next g0_1 hb_94
    replace g0_l := Nat.lt_of_lt_of_le g0_l hb_94.size
    replace hB := hB.trans (hb_94.mono hB.size)
    have sz_95 := hb_94.size
    go_wp2_with fail
    refine (eqInstrS_k (some ⟨g_56, 0, none⟩) (some ⟨g_92, 0, none⟩) n0 n0 n0 _ _ t0 _ own_57.inn own_93.inn (by omega) (by omega) h0ok).mono ?_
    rintro e w13 ⟨rfl, hb_96⟩
    clear own_93
    replace in0 := in0.next hb_96 (by omega)
    replace in1a := in1a.next hb_96 (by omega)
    replace in1b := in1b.next hb_96 (by omega)
    replace a1_0 := cell_next a1_0 hb_96
    replace a1_1 := cell_next a1_1 hb_96
    replace a1_l := Nat.lt_of_lt_of_le a1_l hb_96.size
    replace w0_0 := cell_next w0_0 hb_96
    replace w0_1 := cell_next w0_1 hb_96
    replace w0_l := Nat.lt_of_lt_of_le w0_l hb_96.size
    replace own_20 := own_20.next hb_96
    replace own_24 := own_24.next hb_96
    replace own_28 := own_28.next hb_96
    replace own_57 := own_57.next hb_96
    replace own_62 := own_62.next hb_96
    replace own_63 := own_63.next hb_96
    replace x1_0 := cell_next x1_0 hb_96
    replace x1_1 := cell_next x1_1 hb_96
    replace x1_l := Nat.lt_of_lt_of_le x1_l hb_96.size
    replace own_81 := own_81.next hb_96
    replace own_82 := own_82.next hb_96
    replace own_83 := own_83.next hb_96
    replace g0_0 := cell_next g0_0 hb_96
    replace g0_1 := cell_next g0_1 hb_96
    replace g0_l := Nat.lt_of_lt_of_le g0_l hb_96.size
    replace hB := hB.trans (hb_96.mono hB.size)
    have sz_97 := hb_96.size
    go_wp2_with fail
    have HT_98 := Lib.hid (toState_k A1 n1 cap1 _ z1 B1 m1 cbp1 y1 w13.drew in1a.drew in1b.drew (by show _ ≤ w13.heap.size; omega) h1ok h1gok)
    have HE_99 : Hid (∀ w14 g_100 g_101 mid_105, Below w13.drew.heap.size w13.drew w14 → OwnL w14 w13.drew.heap.size mid_105 (some ⟨g_100, 0, none⟩) n1 n1 z1 → OwnL w14 mid_105 w14.heap.size (some ⟨g_101, 0, none⟩) m1 m1 y1 → w13.drew.heap.size ≤ mid_105 ∧ mid_105 ≤ w14.heap.size → Calls Try.prog 35 #[.agg #[.slice (some ⟨g_60, 0, none⟩) n1 n1, .slice (some ⟨g_61, 0, none⟩) m1 m1], .agg #[.slice (some ⟨g_100, 0, none⟩) n1 n1, .slice (some ⟨g_101, 0, none⟩) m1 m1]] w14 fun e w' => e = .returned (.bool true) ∧ Below w14.heap.size w14 w') := fun w14 g_100 g_101 mid_105 hb_104 own_102 own_103 md_106 => eqState_k (some ⟨g_60, 0, none⟩) (some ⟨g_100, 0, none⟩) n1 n1 n1 z1 (some ⟨g_61, 0, none⟩) (some ⟨g_101, 0, none⟩) m1 m1 m1 y1 (w14.heap.size) (w14.heap.size) w14 (((own_62.inn).call (by omega) hb_104).more (le_call (by omega) hb_104)) (((own_63.inn).call (by omega) hb_104).more (le_call (by omega) hb_104)) ((own_102.inn).more (by omega)) ((own_103.inn).more (by omega)) (Nat.le_refl _) (Nat.le_refl _) h1ok h1gok
    go_region_held3 (fun w' => w'.cell? ⟨w.heap.size, 0, none⟩ = some (.slice A1 n1 cap1) ∧ w'.cell? ⟨w.heap.size, 1, none⟩ = some (.slice B1 m1 cbp1) ∧ w'.cell? ⟨w6.heap.size, 0, none⟩ = some (.slice (some ⟨g_60, 0, none⟩) n1 n1) ∧ w'.cell? ⟨w6.heap.size, 1, none⟩ = some (.slice (some ⟨g_61, 0, none⟩) m1 m1))
      (first | go_keep | exact ⟨cell_on a1_0 hb_104, cell_on a1_1 hb_104, cell_on x1_0 hb_104, cell_on x1_1 hb_104⟩ | exact ⟨cell_on2 a1_0 hb_104 hb_108, cell_on2 a1_1 hb_104 hb_108, cell_on2 x1_0 hb_104 hb_108, cell_on2 x1_1 hb_104 hb_108⟩)
      (first | (go_at_call 33; refine HT_98.out.mono ?_; rintro e w14 ⟨g_100, g_101, mid_105, rfl, own_102, own_103, md_106, hb_104⟩) | (go_at_call 35; refine (HE_99.out _ _ _ _ hb_104 own_102 own_103 md_106).mono ?_; rintro e w15 ⟨rfl, hb_108⟩))
    replace hb_104 := (bstep hb_104)
    replace in0 := in0.next hb_104 (by omega)
    replace in1a := in1a.next hb_104 (by omega)
    replace in1b := in1b.next hb_104 (by omega)
    replace a1_0 := cell_next a1_0 hb_104
    replace a1_1 := cell_next a1_1 hb_104
    replace a1_l := Nat.lt_of_lt_of_le a1_l hb_104.size
    replace w0_0 := cell_next w0_0 hb_104
    replace w0_1 := cell_next w0_1 hb_104
    replace w0_l := Nat.lt_of_lt_of_le w0_l hb_104.size
    replace own_20 := own_20.next hb_104
    replace own_24 := own_24.next hb_104
    replace own_28 := own_28.next hb_104
    replace own_57 := own_57.next hb_104
    replace own_62 := own_62.next hb_104
    replace own_63 := own_63.next hb_104
    replace x1_0 := cell_next x1_0 hb_104
    replace x1_1 := cell_next x1_1 hb_104
    replace x1_l := Nat.lt_of_lt_of_le x1_l hb_104.size
    replace own_81 := own_81.next hb_104
    replace own_82 := own_82.next hb_104
    replace own_83 := own_83.next hb_104
    replace g0_0 := cell_next g0_0 hb_104
    replace g0_1 := cell_next g0_1 hb_104
    replace g0_l := Nat.lt_of_lt_of_le g0_l hb_104.size
    replace hB := hB.trans (hb_104.mono hB.size)
    have sz_109 := hb_104.size
    replace in0 := in0.next hb_108 (by omega)
    replace in1a := in1a.next hb_108 (by omega)
    replace in1b := in1b.next hb_108 (by omega)
    replace a1_0 := cell_next a1_0 hb_108
    replace a1_1 := cell_next a1_1 hb_108
    replace a1_l := Nat.lt_of_lt_of_le a1_l hb_108.size
    replace w0_0 := cell_next w0_0 hb_108
    replace w0_1 := cell_next w0_1 hb_108
    replace w0_l := Nat.lt_of_lt_of_le w0_l hb_108.size
    replace own_20 := own_20.next hb_108
    replace own_24 := own_24.next hb_108
    replace own_28 := own_28.next hb_108
    replace own_57 := own_57.next hb_108
    replace own_62 := own_62.next hb_108
    replace own_63 := own_63.next hb_108
    replace x1_0 := cell_next x1_0 hb_108
    replace x1_1 := cell_next x1_1 hb_108
    replace x1_l := Nat.lt_of_lt_of_le x1_l hb_108.size
    replace own_81 := own_81.next hb_108
    replace own_82 := own_82.next hb_108
    replace own_83 := own_83.next hb_108
    replace g0_0 := cell_next g0_0 hb_108
    replace g0_1 := cell_next g0_1 hb_108
    replace g0_l := Nat.lt_of_lt_of_le g0_l hb_108.size
    replace hB := hB.trans (hb_108.mono hB.size)
    have sz_110 := hb_108.size
    clear HT_98 HE_99 own_102 own_103
    go_wp2_with fail
    refine (markInstrS_k w4.heap.size w5.heap.size (some ⟨g_56, 0, none⟩) n0 n0 t0 1 _ own_57 (by omega) (by omega) (by omega)).mono ?_
    rintro e w16 ⟨rfl, own_112, ho_111⟩
    replace in0 := in0.out ho_111 (by omega) (by omega)
    replace in1a := in1a.out ho_111 (by omega) (by omega)
    replace in1b := in1b.out ho_111 (by omega) (by omega)
    replace a1_0 := ho_111.cell a1_0 (by omega)
    replace a1_1 := ho_111.cell a1_1 (by omega)
    replace a1_l := Nat.lt_of_lt_of_le a1_l ho_111.size
    replace w0_0 := ho_111.cell w0_0 (by omega)
    replace w0_1 := ho_111.cell w0_1 (by omega)
    replace w0_l := Nat.lt_of_lt_of_le w0_l ho_111.size
    replace own_20 := own_20.out ho_111 (by omega)
    replace own_24 := own_24.out ho_111 (by omega)
    replace own_28 := own_28.out ho_111 (by omega)
    replace own_62 := own_62.out ho_111 (by omega)
    replace own_63 := own_63.out ho_111 (by omega)
    replace x1_0 := ho_111.cell x1_0 (by omega)
    replace x1_1 := ho_111.cell x1_1 (by omega)
    replace x1_l := Nat.lt_of_lt_of_le x1_l ho_111.size
    replace own_81 := own_81.out ho_111 (by omega)
    replace own_82 := own_82.out ho_111 (by omega)
    replace own_83 := own_83.out ho_111 (by omega)
    replace g0_0 := ho_111.cell g0_0 (by omega)
    replace g0_1 := ho_111.cell g0_1 (by omega)
    replace g0_l := Nat.lt_of_lt_of_le g0_l ho_111.size
    replace hB := hB.trans (ho_111.below (by omega) (by omega))
    have sz_113 := ho_111.size
    clear own_57
    have mk_114 : (0 : Int) ≤ 1 + 2 * (n0 : Int) := by omega
    clear own_112
    go_wp2_with fail
    refine (markState_k w5.heap.size mid_65 w6.heap.size (some ⟨g_60, 0, none⟩) n1 n1 z1 (some ⟨g_61, 0, none⟩) m1 m1 y1 (1 + 2 * (n0 : Int)) _ own_62 own_63 (by omega) (by omega) (by omega) (by omega) (by omega) (by omega)).mono ?_
    rintro e w17 ⟨rfl, own_116, own_117, ho_115⟩
    replace in0 := in0.out ho_115 (by omega) (by omega)
    replace in1a := in1a.out ho_115 (by omega) (by omega)
    replace in1b := in1b.out ho_115 (by omega) (by omega)
    replace a1_0 := ho_115.cell a1_0 (by omega)
    replace a1_1 := ho_115.cell a1_1 (by omega)
    replace a1_l := Nat.lt_of_lt_of_le a1_l ho_115.size
    replace w0_0 := ho_115.cell w0_0 (by omega)
    replace w0_1 := ho_115.cell w0_1 (by omega)
    replace w0_l := Nat.lt_of_lt_of_le w0_l ho_115.size
    replace own_20 := own_20.out ho_115 (by omega)
    replace own_24 := own_24.out ho_115 (by omega)
    replace own_28 := own_28.out ho_115 (by omega)
    replace x1_0 := ho_115.cell x1_0 (by omega)
    replace x1_1 := ho_115.cell x1_1 (by omega)
    replace x1_l := Nat.lt_of_lt_of_le x1_l ho_115.size
    replace own_81 := own_81.out ho_115 (by omega)
    replace own_82 := own_82.out ho_115 (by omega)
    replace own_83 := own_83.out ho_115 (by omega)
    replace g0_0 := ho_115.cell g0_0 (by omega)
    replace g0_1 := ho_115.cell g0_1 (by omega)
    replace g0_l := Nat.lt_of_lt_of_le g0_l ho_115.size
    replace hB := hB.trans (ho_115.below (by omega) (by omega))
    have sz_118 := ho_115.size
    clear own_62 own_63
    have mk_119 : (0 : Int) ≤ 1 + 2 * (n0 : Int) + (n1 : Int) + (m1 : Int) := by omega
    clear x1_0 x1_1 x1_l
    clear own_116 own_117
    go_wp2_with fail
    -- if k < 0 || !eqState(g0, w0) || !eqInt64S(g1, w1) || g2 != w2 || g3 != w3 {
    refine (eqState_k R_72 R_10 l00 d_73 d_11 y00 R_74 R_12 l01 d_75 d_13 y01 (w17.heap.size) (w17.heap.size) w17 (own_81.inn.more (by omega)) (own_82.inn.more (by omega)) (own_20.inn.more (by omega)) (own_24.inn.more (by omega)) (by omega) (by omega) (by omega) (by omega)).mono ?_
    rintro e w18 ⟨rfl, hb_120⟩
    replace in0 := in0.next hb_120 (by omega)
    replace in1a := in1a.next hb_120 (by omega)
    replace in1b := in1b.next hb_120 (by omega)
    replace a1_0 := cell_next a1_0 hb_120
    replace a1_1 := cell_next a1_1 hb_120
    replace a1_l := Nat.lt_of_lt_of_le a1_l hb_120.size
    replace w0_0 := cell_next w0_0 hb_120
    replace w0_1 := cell_next w0_1 hb_120
    replace w0_l := Nat.lt_of_lt_of_le w0_l hb_120.size
    replace own_20 := own_20.next hb_120
    replace own_24 := own_24.next hb_120
    replace own_28 := own_28.next hb_120
    replace own_81 := own_81.next hb_120
    replace own_82 := own_82.next hb_120
    replace own_83 := own_83.next hb_120
    replace g0_0 := cell_next g0_0 hb_120
    replace g0_1 := cell_next g0_1 hb_120
    replace g0_l := Nat.lt_of_lt_of_le g0_l hb_120.size
    replace hB := hB.trans (hb_120.mono hB.size)
    have sz_121 := hb_120.size
    go_wp2_with fail
    refine (eqInt64S_k R_76 R_14 l10 d_77 d_15 _ _ y10 _ own_83.inn own_28.inn (by omega) (by omega) (by omega)).mono ?_
    rintro e w19 ⟨rfl, hb_122⟩
    replace in0 := in0.next hb_122 (by omega)
    replace in1a := in1a.next hb_122 (by omega)
    replace in1b := in1b.next hb_122 (by omega)
    replace a1_0 := cell_next a1_0 hb_122
    replace a1_1 := cell_next a1_1 hb_122
    replace a1_l := Nat.lt_of_lt_of_le a1_l hb_122.size
    replace w0_0 := cell_next w0_0 hb_122
    replace w0_1 := cell_next w0_1 hb_122
    replace w0_l := Nat.lt_of_lt_of_le w0_l hb_122.size
    replace own_20 := own_20.next hb_122
    replace own_24 := own_24.next hb_122
    replace own_28 := own_28.next hb_122
    replace own_81 := own_81.next hb_122
    replace own_82 := own_82.next hb_122
    replace own_83 := own_83.next hb_122
    replace g0_0 := cell_next g0_0 hb_122
    replace g0_1 := cell_next g0_1 hb_122
    replace g0_l := Nat.lt_of_lt_of_le g0_l hb_122.size
    replace hB := hB.trans (hb_122.mono hB.size)
    have sz_123 := hb_122.size
    go_wp2_with fail
    refine (markState_k mid_78 mid_79 w8.heap.size R_72 l00 d_73 y00 R_74 l01 d_75 y01 1 _ own_81 own_82 (by omega) (by omega) (by omega) (by omega) (by omega) (by omega)).mono ?_
    rintro e w20 ⟨rfl, own_125, own_126, ho_124⟩
    replace in0 := in0.out ho_124 (by omega) (by omega)
    replace in1a := in1a.out ho_124 (by omega) (by omega)
    replace in1b := in1b.out ho_124 (by omega) (by omega)
    replace a1_0 := ho_124.cell a1_0 (by omega)
    replace a1_1 := ho_124.cell a1_1 (by omega)
    replace a1_l := Nat.lt_of_lt_of_le a1_l ho_124.size
    replace w0_0 := ho_124.cell w0_0 (by omega)
    replace w0_1 := ho_124.cell w0_1 (by omega)
    replace w0_l := Nat.lt_of_lt_of_le w0_l ho_124.size
    replace own_20 := own_20.out ho_124 (by omega)
    replace own_24 := own_24.out ho_124 (by omega)
    replace own_28 := own_28.out ho_124 (by omega)
    replace own_83 := own_83.out ho_124 (by omega)
    replace g0_0 := ho_124.cell g0_0 (by omega)
    replace g0_1 := ho_124.cell g0_1 (by omega)
    replace g0_l := Nat.lt_of_lt_of_le g0_l ho_124.size
    replace hB := hB.trans (ho_124.below (by omega) (by omega))
    have sz_127 := ho_124.size
    clear own_81 own_82
    have mk_128 : (0 : Int) ≤ 1 + (l00 : Int) + (l01 : Int) := by omega
    go_wp2_with fail
    refine (markInt64S_k w7.heap.size mid_78 R_76 l10 d_77 y10 (1 + (l00 : Int) + (l01 : Int)) _ own_83 (by omega) (by omega) (by omega)).mono ?_
    rintro e w21 ⟨rfl, own_130, ho_129⟩
    replace in0 := in0.out ho_129 (by omega) (by omega)
    replace in1a := in1a.out ho_129 (by omega) (by omega)
    replace in1b := in1b.out ho_129 (by omega) (by omega)
    replace a1_0 := ho_129.cell a1_0 (by omega)
    replace a1_1 := ho_129.cell a1_1 (by omega)
    replace a1_l := Nat.lt_of_lt_of_le a1_l ho_129.size
    replace w0_0 := ho_129.cell w0_0 (by omega)
    replace w0_1 := ho_129.cell w0_1 (by omega)
    replace w0_l := Nat.lt_of_lt_of_le w0_l ho_129.size
    replace own_20 := own_20.out ho_129 (by omega)
    replace own_24 := own_24.out ho_129 (by omega)
    replace own_28 := own_28.out ho_129 (by omega)
    replace g0_0 := ho_129.cell g0_0 (by omega)
    replace g0_1 := ho_129.cell g0_1 (by omega)
    replace g0_l := Nat.lt_of_lt_of_le g0_l ho_129.size
    replace own_125 := own_125.out ho_129 (by omega)
    replace own_126 := own_126.out ho_129 (by omega)
    replace hB := hB.trans (ho_129.below (by omega) (by omega))
    have sz_131 := ho_129.size
    clear own_83
    have mk_132 : (0 : Int) ≤ 1 + (l00 : Int) + (l01 : Int) + (l10 : Int) := by omega
    go_wp2_with fail
    refine (heldState_k R_72 l00 d_73 R_74 l01 d_75 _ 1 _ own_125.all own_126.all (Nat.le_refl _) (by omega) (by omega) (by omega) (by omega)).mono ?_
    rintro e w22 ⟨rfl, hb_133⟩
    replace in0 := in0.next hb_133 (by omega)
    replace in1a := in1a.next hb_133 (by omega)
    replace in1b := in1b.next hb_133 (by omega)
    replace a1_0 := cell_next a1_0 hb_133
    replace a1_1 := cell_next a1_1 hb_133
    replace a1_l := Nat.lt_of_lt_of_le a1_l hb_133.size
    replace w0_0 := cell_next w0_0 hb_133
    replace w0_1 := cell_next w0_1 hb_133
    replace w0_l := Nat.lt_of_lt_of_le w0_l hb_133.size
    replace own_20 := own_20.next hb_133
    replace own_24 := own_24.next hb_133
    replace own_28 := own_28.next hb_133
    replace g0_0 := cell_next g0_0 hb_133
    replace g0_1 := cell_next g0_1 hb_133
    replace g0_l := Nat.lt_of_lt_of_le g0_l hb_133.size
    replace own_125 := own_125.next hb_133
    replace own_126 := own_126.next hb_133
    replace own_130 := own_130.next hb_133
    replace hB := hB.trans (hb_133.mono hB.size)
    have sz_134 := hb_133.size
    have mk_135 : (0 : Int) ≤ 1 + (l00 : Int) + (l01 : Int) := by omega
    go_wp2_with fail
    refine (heldInt64S_k R_76 l10 d_77 _ (1 + (l00 : Int) + (l01 : Int)) _ own_130.inn (by omega) (by omega) (by omega)).mono ?_
    rintro e w23 ⟨rfl, hb_136⟩
    replace in0 := in0.next hb_136 (by omega)
    replace in1a := in1a.next hb_136 (by omega)
    replace in1b := in1b.next hb_136 (by omega)
    replace a1_0 := cell_next a1_0 hb_136
    replace a1_1 := cell_next a1_1 hb_136
    replace a1_l := Nat.lt_of_lt_of_le a1_l hb_136.size
    replace w0_0 := cell_next w0_0 hb_136
    replace w0_1 := cell_next w0_1 hb_136
    replace w0_l := Nat.lt_of_lt_of_le w0_l hb_136.size
    replace own_20 := own_20.next hb_136
    replace own_24 := own_24.next hb_136
    replace own_28 := own_28.next hb_136
    replace g0_0 := cell_next g0_0 hb_136
    replace g0_1 := cell_next g0_1 hb_136
    replace g0_l := Nat.lt_of_lt_of_le g0_l hb_136.size
    replace own_125 := own_125.next hb_136
    replace own_126 := own_126.next hb_136
    replace own_130 := own_130.next hb_136
    replace hB := hB.trans (hb_136.mono hB.size)
    have sz_137 := hb_136.size
    have mk_138 : (0 : Int) ≤ 1 + (l00 : Int) + (l01 : Int) + (l10 : Int) := by omega
    go_wp2_with fail
    go_cut [21, 22, 23, 24] (fun s21 s22 s23 s24 wx => ∃ (R_139 : Option Addr) (d_140 : Nat) (R_141 : Option Addr) (d_142 : Nat) (R_143 : Option Addr) (d_144 : Nat) (bx_147 : Nat) (lo_150 hi_151 : Nat) (lo_154 hi_155 : Nat) (lo_158 hi_159 : Nat), s21 = .pointer (some ⟨bx_147, 0, none⟩) ∧ s22 = .slice R_143 l10 d_144 ∧ s23 = .int .i64 r2 ∧ s24 = .bool r3 ∧ wx.cell? ⟨bx_147, 0, none⟩ = some (.slice R_139 l00 d_140) ∧ wx.cell? ⟨bx_147, 1, none⟩ = some (.slice R_141 l01 d_142) ∧ bx_147 < wx.heap.size ∧ w23.heap.size ≤ bx_147 ∧ OwnL wx lo_150 hi_151 R_139 l00 d_140 y00 ∧ (w23.heap.size ≤ lo_150 ∧ lo_150 ≤ hi_151 ∧ hi_151 ≤ wx.heap.size) ∧ OwnL wx lo_154 hi_155 R_141 l01 d_142 y01 ∧ (w23.heap.size ≤ lo_154 ∧ lo_154 ≤ hi_155 ∧ hi_155 ≤ wx.heap.size) ∧ OwnL wx lo_158 hi_159 R_143 l10 d_144 y10 ∧ (w23.heap.size ≤ lo_158 ∧ lo_158 ≤ hi_159 ∧ hi_159 ≤ wx.heap.size) ∧ Below w23.heap.size w23 wx)
    case first =>
      have HT_162 := Lib.hid (fun (x : World) (h : Below w23.drew.heap.size w23.drew x) => toInstrS_k A0 n0 cap0 _ t0 x (in0.call (by omega) h) (le_call (by omega) h) h0ok)
      have HT_167 := Lib.hid (fun (x : World) (h : Below w23.drew.heap.size w23.drew x) => toState_k A1 n1 cap1 _ z1 B1 m1 cbp1 y1 x (in1a.call (by omega) h) (in1b.call (by omega) h) (le_call (by omega) h) h1ok h1gok)
      have hD0 : Below w23.drew.heap.size w23.drew w23.drew := Below.refl _ _
      have sc0_0 : w23.drew.cell? ⟨w.heap.size, 0, none⟩ = some (.slice A1 n1 cap1) := a1_0
      have sc1_0 : w23.drew.cell? ⟨w.heap.size, 1, none⟩ = some (.slice B1 m1 cbp1) := a1_1
      refine wp_region_held_drew (S := fun w' => w'.cell? ⟨w.heap.size, 0, none⟩ = some (.slice A1 n1 cap1) ∧ w'.cell? ⟨w.heap.size, 1, none⟩ = some (.slice B1 m1 cbp1)) (by kernel_rfl) ⟨sc0_0, sc1_0⟩ ?_
      intro hHeld0
      refine wpAnyH_take (i := 0) (v := ?_) rfl (by kernel_rfl) (by kernel_rfl) (by kernel_rfl) (fun _ _ _ h => h) (Or.inl ⟨by kernel_rfl, ?_⟩) (by assumption) ?_
      rotate_left
      · intro w9 hS9; (try dsimp only at hS9); go_simp; (try with_reducible rfl)
      set_option linter.unusedSimpArgs false in try simp only [Act.put, List.getElem_toArray, List.getElem_cons_succ, List.getElem_cons_zero, List.setIfInBounds_toArray, List.set_cons_zero, List.set_cons_succ]
      refine wpAnyH_take (i := 2) (v := ?_) rfl (by kernel_rfl) (by kernel_rfl) (by kernel_rfl) (fun _ _ _ h => h) (Or.inl ⟨by kernel_rfl, ?_⟩) (by assumption) ?_
      rotate_left
      · intro w9 hS9; (try dsimp only at hS9); go_simp; (try with_reducible rfl)
      set_option linter.unusedSimpArgs false in try simp only [Act.put, List.getElem_toArray, List.getElem_cons_succ, List.getElem_cons_zero, List.setIfInBounds_toArray, List.set_cons_zero, List.set_cons_succ]
      refine wpAnyH_take (i := 4) (v := ?_) rfl (by kernel_rfl) (by kernel_rfl) (by kernel_rfl) (fun _ _ _ h => h) (Or.inl ⟨by kernel_rfl, ?_⟩) (by assumption) ?_
      rotate_left
      · intro w9 hS9; (try dsimp only at hS9); go_simp; (try with_reducible rfl)
      set_option linter.unusedSimpArgs false in try simp only [Act.put, List.getElem_toArray, List.getElem_cons_succ, List.getElem_cons_zero, List.setIfInBounds_toArray, List.set_cons_zero, List.set_cons_succ]
      refine wpAnyH_ready (rs := [1, 11]) (by kernel_rfl) (by simp) ?_
      refine AllReadyH.cons rfl (fun K hK => ?_) (AllReadyH.cons rfl (fun K hK => ?_) AllReadyH.nil)
      · go_simp
        go_wp2_with (go_at_call 18; refine (HT_162.out _ (hD0)).mono ?_; rintro e v1 ⟨g_165, rfl, oa2, hb1⟩)
        have hw1 := bon (hD0) hb1
        have sc0_3 := cell_next (show w23.drew.cell? _ = _ from sc0_0) hb1
        have sc1_4 := cell_next (show w23.drew.cell? _ = _ from sc1_0) hb1
        refine hK.out _ _ ⟨sc0_3, sc1_4⟩ (fun hHeld5 => ?_)
        clear hK K hHeld0
        set_option linter.unusedSimpArgs false in try simp only [Act.put, List.getElem_toArray, List.getElem_cons_succ, List.getElem_cons_zero, List.setIfInBounds_toArray, List.set_cons_zero, List.set_cons_succ]
        refine wpAnyH_ready (rs := [3, 11]) (by kernel_rfl) (by simp) ?_
        refine AllReadyH.cons rfl (fun K hK => ?_) (AllReadyH.cons rfl (fun K hK => ?_) AllReadyH.nil)
        · go_simp
          go_wp2_with (go_at_call 33; refine (HT_167.out _ (hw1)).mono ?_; rintro e v6 ⟨g_170, g_171, mz0, rfl, oa7, oa8, mdz, hb6⟩)
          have hw6 := bon (hw1) hb6
          have sc0_9 := cell_next (show v1.cell? _ = _ from sc0_3) hb6
          have sc1_10 := cell_next (show v1.cell? _ = _ from sc1_4) hb6
          have oa2_11 := oa2.next hb6
          refine hK.out _ _ ⟨sc0_9, sc1_10⟩ (fun hHeld12 => ?_)
          clear hK K hHeld5
          set_option linter.unusedSimpArgs false in try simp only [Act.put, List.getElem_toArray, List.getElem_cons_succ, List.getElem_cons_zero, List.setIfInBounds_toArray, List.set_cons_zero, List.set_cons_succ]
          refine wpAnyH_ready (rs := [5, 11]) (by kernel_rfl) (by simp) ?_
          refine AllReadyH.cons rfl (fun K hK => ?_) (AllReadyH.cons rfl (fun K hK => ?_) AllReadyH.nil)
          · go_simp
            go_wp2_with (go_at_call 34; refine (HI.out _ _ _ _ _ _ _ oa2_11.all oa7.all oa8.all).mono ?_; rintro e v13 ⟨R_139, d_140, R_141, d_142, R_143, d_144, mx0, mx1, rfl, op14, op15, op16, mdx, hb13⟩)
            have hw13 := bon (hw6) hb13
            have sc0_17 := cell_next (show v6.cell? _ = _ from sc0_9) hb13
            have sc1_18 := cell_next (show v6.cell? _ = _ from sc1_10) hb13
            have oa2_11_19 := oa2_11.next hb13
            have oa7_20 := oa7.next hb13
            have oa8_21 := oa8.next hb13
            refine hK.out _ _ ⟨sc0_17, sc1_18⟩ (fun hHeld22 => ?_)
            clear hK K hHeld12
            set_option linter.unusedSimpArgs false in try simp only [Act.put, List.getElem_toArray, List.getElem_cons_succ, List.getElem_cons_zero, List.setIfInBounds_toArray, List.set_cons_zero, List.set_cons_succ]
            refine wpAnyH_take (i := 6) (v := ?_) rfl (by kernel_rfl) (by kernel_rfl) (by kernel_rfl) (fun _ _ _ h => h) (Or.inl ⟨by kernel_rfl, ?_⟩) (by assumption) ?_
            rotate_left
            · intro w9 hS9; (try dsimp only at hS9); go_simp; (try with_reducible rfl)
            set_option linter.unusedSimpArgs false in try simp only [Act.put, List.getElem_toArray, List.getElem_cons_succ, List.getElem_cons_zero, List.setIfInBounds_toArray, List.set_cons_zero, List.set_cons_succ]
            refine wpAnyH_take (i := 7) (v := ?_) rfl (by kernel_rfl) (by kernel_rfl) (by kernel_rfl) (fun _ _ _ h => h) (Or.inl ⟨by kernel_rfl, ?_⟩) (by assumption) ?_
            rotate_left
            · intro w9 hS9; (try dsimp only at hS9); go_simp; (try with_reducible rfl)
            set_option linter.unusedSimpArgs false in try simp only [Act.put, List.getElem_toArray, List.getElem_cons_succ, List.getElem_cons_zero, List.setIfInBounds_toArray, List.set_cons_zero, List.set_cons_succ]
            refine wpAnyH_take (i := 8) (v := ?_) rfl (by kernel_rfl) (by kernel_rfl) (by kernel_rfl) (fun _ _ _ h => h) (Or.inl ⟨by kernel_rfl, ?_⟩) (by assumption) ?_
            rotate_left
            · intro w9 hS9; (try dsimp only at hS9); go_simp; (try with_reducible rfl)
            set_option linter.unusedSimpArgs false in try simp only [Act.put, List.getElem_toArray, List.getElem_cons_succ, List.getElem_cons_zero, List.setIfInBounds_toArray, List.set_cons_zero, List.set_cons_succ]
            refine wpAnyH_take (i := 9) (v := ?_) rfl (by kernel_rfl) (by kernel_rfl) (by kernel_rfl) (fun _ _ _ h => h) (Or.inl ⟨by kernel_rfl, ?_⟩) (by assumption) ?_
            rotate_left
            · intro w9 hS9; (try dsimp only at hS9); go_simp; (try with_reducible rfl)
            set_option linter.unusedSimpArgs false in try simp only [Act.put, List.getElem_toArray, List.getElem_cons_succ, List.getElem_cons_zero, List.setIfInBounds_toArray, List.set_cons_zero, List.set_cons_succ]
            refine wpAnyH_take (i := 10) (v := ?_) rfl (by kernel_rfl) (by kernel_rfl) (by kernel_rfl) (fun _ _ _ h => h) (Or.inl ⟨by kernel_rfl, ?_⟩) (by assumption) ?_
            rotate_left
            · intro w9 hS9; (try dsimp only at hS9); go_simp; (try with_reducible rfl)
            set_option linter.unusedSimpArgs false in try simp only [Act.put, List.getElem_toArray, List.getElem_cons_succ, List.getElem_cons_zero, List.setIfInBounds_toArray, List.set_cons_zero, List.set_cons_succ]
            refine wpAnyH_ready (rs := [11]) (by kernel_rfl) (by simp) ?_
            refine AllReadyH.cons rfl (fun K hK => ?_) AllReadyH.nil
            go_simp
            have sc0_23 := cell_next sc0_17 (bnew v13 (.cells #[.slice none 0 0, .slice none 0 0] 42))
            have sc1_24 := cell_next sc1_18 (bnew v13 (.cells #[.slice none 0 0, .slice none 0 0] 42))
            refine hK.out _ _ ⟨sc0_23, sc1_24⟩ (fun hHeld25 => ?_)
            clear hK K hHeld22
            set_option linter.unusedSimpArgs false in try simp only [Act.put, List.getElem_toArray, List.getElem_cons_succ, List.getElem_cons_zero, List.setIfInBounds_toArray, List.set_cons_zero, List.set_cons_succ]
            refine wpAnyH_ready (rs := [12]) (by kernel_rfl) (by simp) ?_
            refine AllReadyH.cons rfl (fun K hK => ?_) AllReadyH.nil
            go_simp
            have sc0_26 := cell_next sc0_17 (bnew v13 (.cells #[.slice R_139 l00 d_140, .slice R_141 l01 d_142] 42))
            have sc1_27 := cell_next sc1_18 (bnew v13 (.cells #[.slice R_139 l00 d_140, .slice R_141 l01 d_142] 42))
            refine hK.out _ _ ⟨sc0_26, sc1_27⟩ (fun hHeld28 => ?_)
            clear hK K hHeld25
            set_option linter.unusedSimpArgs false in try simp only [Act.put, List.getElem_toArray, List.getElem_cons_succ, List.getElem_cons_zero, List.setIfInBounds_toArray, List.set_cons_zero, List.set_cons_succ]
            refine wpAnyH_take (i := 13) (v := ?_) rfl (by kernel_rfl) (by kernel_rfl) (by kernel_rfl) (fun _ _ _ h => h) (Or.inl ⟨by kernel_rfl, ?_⟩) (by assumption) ?_
            rotate_left
            · intro w9 hS9; (try dsimp only at hS9); go_simp; (try with_reducible rfl)
            set_option linter.unusedSimpArgs false in try simp only [Act.put, List.getElem_toArray, List.getElem_cons_succ, List.getElem_cons_zero, List.setIfInBounds_toArray, List.set_cons_zero, List.set_cons_succ]
            refine wpAnyH_take (i := 14) (v := ?_) rfl (by kernel_rfl) (by kernel_rfl) (by kernel_rfl) (fun _ _ _ h => h) (Or.inl ⟨by kernel_rfl, ?_⟩) (by assumption) ?_
            rotate_left
            · intro w9 hS9; (try dsimp only at hS9); go_simp; (try with_reducible rfl)
            set_option linter.unusedSimpArgs false in try simp only [Act.put, List.getElem_toArray, List.getElem_cons_succ, List.getElem_cons_zero, List.setIfInBounds_toArray, List.set_cons_zero, List.set_cons_succ]
            refine wpAnyH_take (i := 15) (v := ?_) rfl (by kernel_rfl) (by kernel_rfl) (by kernel_rfl) (fun _ _ _ h => h) (Or.inl ⟨by kernel_rfl, ?_⟩) (by assumption) ?_
            rotate_left
            · intro w9 hS9; (try dsimp only at hS9); go_simp; (try with_reducible rfl)
            set_option linter.unusedSimpArgs false in try simp only [Act.put, List.getElem_toArray, List.getElem_cons_succ, List.getElem_cons_zero, List.setIfInBounds_toArray, List.set_cons_zero, List.set_cons_succ]
            refine wpAnyH_done (by kernel_rfl) ?_ _
            go_wp2_with fail
            go_meet
            exact ⟨_, _, _, _, _, _, _, _, _, _, _, _, _, rfl, rfl, rfl, rfl, fin_new2 (bstep (hw6)) hb13 op14 (by have := hb13.size; omega) op15 (by have := hb13.size; omega) op16 (by have := hb13.size; omega)⟩
          · go_simp
            have hA29 : Below w23.drew.heap.size w23.drew (v6.alloc (.cells #[.slice none 0 0, .slice none 0 0] 42)) := bon (hw6) (bnew v6 _)
            have hA29b0 : BlkIs (v6.alloc (.cells #[.slice none 0 0, .slice none 0 0] 42)) v6.heap.size 42 #[.slice none 0 0, .slice none 0 0] := blk_new _ _ _ _ rfl
            have hA29b : BlkIs (v6.alloc (.cells #[.slice none 0 0, .slice none 0 0] 42)) v6.heap.size 42 #[.slice none 0 0, .slice none 0 0] := hA29b0
            have hA29g : w23.heap.size ≤ v6.heap.size := (bstep (hw6)).size
            have sc0_30 : (v6.alloc (.cells #[.slice none 0 0, .slice none 0 0] 42)).cell? ⟨w.heap.size, 0, none⟩ = some (.slice A1 n1 cap1) := cell_next (w1 := v6.alloc (.cells #[.slice none 0 0, .slice none 0 0] 42)) (show v6.cell? _ = _ from sc0_9) (bnew v6 _)
            have sc1_31 : (v6.alloc (.cells #[.slice none 0 0, .slice none 0 0] 42)).cell? ⟨w.heap.size, 1, none⟩ = some (.slice B1 m1 cbp1) := cell_next (w1 := v6.alloc (.cells #[.slice none 0 0, .slice none 0 0] 42)) (show v6.cell? _ = _ from sc1_10) (bnew v6 _)
            have oa2_11_32 := oa2_11.next (bnew v6 (.cells #[.slice none 0 0, .slice none 0 0] 42))
            have oa7_33 := oa7.next (bnew v6 (.cells #[.slice none 0 0, .slice none 0 0] 42))
            have oa8_34 := oa8.next (bnew v6 (.cells #[.slice none 0 0, .slice none 0 0] 42))
            refine hK.out _ _ ⟨sc0_30, sc1_31⟩ (fun hHeld35 => ?_)
            clear hK K hHeld12
            set_option linter.unusedSimpArgs false in try simp only [Act.put, List.getElem_toArray, List.getElem_cons_succ, List.getElem_cons_zero, List.setIfInBounds_toArray, List.set_cons_zero, List.set_cons_succ]
            refine wpAnyH_ready (rs := [5]) (by kernel_rfl) (by simp) ?_
            refine AllReadyH.cons rfl (fun K hK => ?_) AllReadyH.nil
            go_simp
            go_wp2_with (go_at_call 34; refine (HI.out _ _ _ _ _ _ _ oa2_11_32.all oa7_33.all oa8_34.all).mono ?_; rintro e v36 ⟨R_139, d_140, R_141, d_142, R_143, d_144, mx0, mx1, rfl, op37, op38, op39, mdx, hb36⟩)
            have hw36 := bon (hA29) hb36
            have sc0_40 := cell_next (show (v6.alloc (.cells #[.slice none 0 0, .slice none 0 0] 42)).cell? _ = _ from sc0_30) hb36
            have sc1_41 := cell_next (show (v6.alloc (.cells #[.slice none 0 0, .slice none 0 0] 42)).cell? _ = _ from sc1_31) hb36
            have oa2_11_32_42 := oa2_11_32.next hb36
            have oa7_33_43 := oa7_33.next hb36
            have oa8_34_44 := oa8_34.next hb36
            have bk45 := hA29b.next hb36
            refine hK.out _ _ ⟨sc0_40, sc1_41⟩ (fun hHeld46 => ?_)
            clear hK K hHeld35
            set_option linter.unusedSimpArgs false in try simp only [Act.put, List.getElem_toArray, List.getElem_cons_succ, List.getElem_cons_zero, List.setIfInBounds_toArray, List.set_cons_zero, List.set_cons_succ]
            refine wpAnyH_take (i := 6) (v := ?_) rfl (by kernel_rfl) (by kernel_rfl) (by kernel_rfl) (fun _ _ _ h => h) (Or.inl ⟨by kernel_rfl, ?_⟩) (by assumption) ?_
            rotate_left
            · intro w9 hS9; (try dsimp only at hS9); go_simp; (try with_reducible rfl)
            set_option linter.unusedSimpArgs false in try simp only [Act.put, List.getElem_toArray, List.getElem_cons_succ, List.getElem_cons_zero, List.setIfInBounds_toArray, List.set_cons_zero, List.set_cons_succ]
            refine wpAnyH_take (i := 7) (v := ?_) rfl (by kernel_rfl) (by kernel_rfl) (by kernel_rfl) (fun _ _ _ h => h) (Or.inl ⟨by kernel_rfl, ?_⟩) (by assumption) ?_
            rotate_left
            · intro w9 hS9; (try dsimp only at hS9); go_simp; (try with_reducible rfl)
            set_option linter.unusedSimpArgs false in try simp only [Act.put, List.getElem_toArray, List.getElem_cons_succ, List.getElem_cons_zero, List.setIfInBounds_toArray, List.set_cons_zero, List.set_cons_succ]
            refine wpAnyH_take (i := 8) (v := ?_) rfl (by kernel_rfl) (by kernel_rfl) (by kernel_rfl) (fun _ _ _ h => h) (Or.inl ⟨by kernel_rfl, ?_⟩) (by assumption) ?_
            rotate_left
            · intro w9 hS9; (try dsimp only at hS9); go_simp; (try with_reducible rfl)
            set_option linter.unusedSimpArgs false in try simp only [Act.put, List.getElem_toArray, List.getElem_cons_succ, List.getElem_cons_zero, List.setIfInBounds_toArray, List.set_cons_zero, List.set_cons_succ]
            refine wpAnyH_take (i := 9) (v := ?_) rfl (by kernel_rfl) (by kernel_rfl) (by kernel_rfl) (fun _ _ _ h => h) (Or.inl ⟨by kernel_rfl, ?_⟩) (by assumption) ?_
            rotate_left
            · intro w9 hS9; (try dsimp only at hS9); go_simp; (try with_reducible rfl)
            set_option linter.unusedSimpArgs false in try simp only [Act.put, List.getElem_toArray, List.getElem_cons_succ, List.getElem_cons_zero, List.setIfInBounds_toArray, List.set_cons_zero, List.set_cons_succ]
            refine wpAnyH_take (i := 10) (v := ?_) rfl (by kernel_rfl) (by kernel_rfl) (by kernel_rfl) (fun _ _ _ h => h) (Or.inl ⟨by kernel_rfl, ?_⟩) (by assumption) ?_
            rotate_left
            · intro w9 hS9; (try dsimp only at hS9); go_simp; (try with_reducible rfl)
            set_option linter.unusedSimpArgs false in try simp only [Act.put, List.getElem_toArray, List.getElem_cons_succ, List.getElem_cons_zero, List.setIfInBounds_toArray, List.set_cons_zero, List.set_cons_succ]
            have z0 := bk45.cell 0
            have f0 := bk45.frozen 0
            have z1 := bk45.cell 1
            have f1 := bk45.frozen 1
            simp at z0 z1
            have ho47 : Out (v6.heap.size) (v6.heap.size + 1) v36 ((v36.setCell ⟨v6.heap.size, 0, none⟩ (.slice R_139 l00 d_140)).setCell ⟨v6.heap.size, 1, none⟩ (.slice R_141 l01 d_142)) := out_set (out_set (Out.refl _ _ _) (by omega)) (by omega)
            have sc0_48 := ho47.cell sc0_40 (by omega)
            have sc1_49 := ho47.cell sc1_41 (by omega)
            refine wpAnyH_ready (rs := [12]) (by kernel_rfl) (by simp) ?_
            refine AllReadyH.cons rfl (fun K hK => ?_) AllReadyH.nil
            go_simp
            refine hK.out _ _ ⟨sc0_48, sc1_49⟩ (fun hHeld50 => ?_)
            clear hK K hHeld46
            set_option linter.unusedSimpArgs false in try simp only [Act.put, List.getElem_toArray, List.getElem_cons_succ, List.getElem_cons_zero, List.setIfInBounds_toArray, List.set_cons_zero, List.set_cons_succ]
            refine wpAnyH_take (i := 13) (v := ?_) rfl (by kernel_rfl) (by kernel_rfl) (by kernel_rfl) (fun _ _ _ h => h) (Or.inl ⟨by kernel_rfl, ?_⟩) (by assumption) ?_
            rotate_left
            · intro w9 hS9; (try dsimp only at hS9); go_simp; (try with_reducible rfl)
            set_option linter.unusedSimpArgs false in try simp only [Act.put, List.getElem_toArray, List.getElem_cons_succ, List.getElem_cons_zero, List.setIfInBounds_toArray, List.set_cons_zero, List.set_cons_succ]
            refine wpAnyH_take (i := 14) (v := ?_) rfl (by kernel_rfl) (by kernel_rfl) (by kernel_rfl) (fun _ _ _ h => h) (Or.inl ⟨by kernel_rfl, ?_⟩) (by assumption) ?_
            rotate_left
            · intro w9 hS9; (try dsimp only at hS9); go_simp; (try with_reducible rfl)
            set_option linter.unusedSimpArgs false in try simp only [Act.put, List.getElem_toArray, List.getElem_cons_succ, List.getElem_cons_zero, List.setIfInBounds_toArray, List.set_cons_zero, List.set_cons_succ]
            refine wpAnyH_take (i := 15) (v := ?_) rfl (by kernel_rfl) (by kernel_rfl) (by kernel_rfl) (fun _ _ _ h => h) (Or.inl ⟨by kernel_rfl, ?_⟩) (by assumption) ?_
            rotate_left
            · intro w9 hS9; (try dsimp only at hS9); go_simp; (try with_reducible rfl)
            set_option linter.unusedSimpArgs false in try simp only [Act.put, List.getElem_toArray, List.getElem_cons_succ, List.getElem_cons_zero, List.setIfInBounds_toArray, List.set_cons_zero, List.set_cons_succ]
            refine wpAnyH_done (by kernel_rfl) ?_ _
            go_wp2_with fail
            go_meet
            exact ⟨_, _, _, _, _, _, _, _, _, _, _, _, _, rfl, rfl, rfl, rfl, fin_box2 (bstep (hA29)) ⟨bk45, hA29b.lt, hA29g⟩ hb36 op37 (by have := hb36.size; omega) op38 (by have := hb36.size; omega) op39 (by have := hb36.size; omega)⟩
        · go_simp
          have hA51 : Below w23.drew.heap.size w23.drew (v1.alloc (.cells #[.slice none 0 0, .slice none 0 0] 42)) := bon (hw1) (bnew v1 _)
          have hA51b0 : BlkIs (v1.alloc (.cells #[.slice none 0 0, .slice none 0 0] 42)) v1.heap.size 42 #[.slice none 0 0, .slice none 0 0] := blk_new _ _ _ _ rfl
          have hA51b : BlkIs (v1.alloc (.cells #[.slice none 0 0, .slice none 0 0] 42)) v1.heap.size 42 #[.slice none 0 0, .slice none 0 0] := hA51b0
          have hA51g : w23.heap.size ≤ v1.heap.size := (bstep (hw1)).size
          have sc0_52 : (v1.alloc (.cells #[.slice none 0 0, .slice none 0 0] 42)).cell? ⟨w.heap.size, 0, none⟩ = some (.slice A1 n1 cap1) := cell_next (w1 := v1.alloc (.cells #[.slice none 0 0, .slice none 0 0] 42)) (show v1.cell? _ = _ from sc0_3) (bnew v1 _)
          have sc1_53 : (v1.alloc (.cells #[.slice none 0 0, .slice none 0 0] 42)).cell? ⟨w.heap.size, 1, none⟩ = some (.slice B1 m1 cbp1) := cell_next (w1 := v1.alloc (.cells #[.slice none 0 0, .slice none 0 0] 42)) (show v1.cell? _ = _ from sc1_4) (bnew v1 _)
          have oa2_54 := oa2.next (bnew v1 (.cells #[.slice none 0 0, .slice none 0 0] 42))
          refine hK.out _ _ ⟨sc0_52, sc1_53⟩ (fun hHeld55 => ?_)
          clear hK K hHeld5
          set_option linter.unusedSimpArgs false in try simp only [Act.put, List.getElem_toArray, List.getElem_cons_succ, List.getElem_cons_zero, List.setIfInBounds_toArray, List.set_cons_zero, List.set_cons_succ]
          refine wpAnyH_ready (rs := [3]) (by kernel_rfl) (by simp) ?_
          refine AllReadyH.cons rfl (fun K hK => ?_) AllReadyH.nil
          go_simp
          go_wp2_with (go_at_call 33; refine (HT_167.out _ (hA51)).mono ?_; rintro e v56 ⟨g_170, g_171, mz0, rfl, oa57, oa58, mdz, hb56⟩)
          have hw56 := bon (hA51) hb56
          have sc0_59 := cell_next (show (v1.alloc (.cells #[.slice none 0 0, .slice none 0 0] 42)).cell? _ = _ from sc0_52) hb56
          have sc1_60 := cell_next (show (v1.alloc (.cells #[.slice none 0 0, .slice none 0 0] 42)).cell? _ = _ from sc1_53) hb56
          have oa2_54_61 := oa2_54.next hb56
          have bk62 := hA51b.next hb56
          refine hK.out _ _ ⟨sc0_59, sc1_60⟩ (fun hHeld63 => ?_)
          clear hK K hHeld55
          set_option linter.unusedSimpArgs false in try simp only [Act.put, List.getElem_toArray, List.getElem_cons_succ, List.getElem_cons_zero, List.setIfInBounds_toArray, List.set_cons_zero, List.set_cons_succ]
          refine wpAnyH_ready (rs := [5]) (by kernel_rfl) (by simp) ?_
          refine AllReadyH.cons rfl (fun K hK => ?_) AllReadyH.nil
          go_simp
          go_wp2_with (go_at_call 34; refine (HI.out _ _ _ _ _ _ _ oa2_54_61.all oa57.all oa58.all).mono ?_; rintro e v64 ⟨R_139, d_140, R_141, d_142, R_143, d_144, mx0, mx1, rfl, op65, op66, op67, mdx, hb64⟩)
          have hw64 := bon (hw56) hb64
          have sc0_68 := cell_next (show v56.cell? _ = _ from sc0_59) hb64
          have sc1_69 := cell_next (show v56.cell? _ = _ from sc1_60) hb64
          have oa2_54_61_70 := oa2_54_61.next hb64
          have oa57_71 := oa57.next hb64
          have oa58_72 := oa58.next hb64
          have bk73 := bk62.next hb64
          refine hK.out _ _ ⟨sc0_68, sc1_69⟩ (fun hHeld74 => ?_)
          clear hK K hHeld63
          set_option linter.unusedSimpArgs false in try simp only [Act.put, List.getElem_toArray, List.getElem_cons_succ, List.getElem_cons_zero, List.setIfInBounds_toArray, List.set_cons_zero, List.set_cons_succ]
          refine wpAnyH_take (i := 6) (v := ?_) rfl (by kernel_rfl) (by kernel_rfl) (by kernel_rfl) (fun _ _ _ h => h) (Or.inl ⟨by kernel_rfl, ?_⟩) (by assumption) ?_
          rotate_left
          · intro w9 hS9; (try dsimp only at hS9); go_simp; (try with_reducible rfl)
          set_option linter.unusedSimpArgs false in try simp only [Act.put, List.getElem_toArray, List.getElem_cons_succ, List.getElem_cons_zero, List.setIfInBounds_toArray, List.set_cons_zero, List.set_cons_succ]
          refine wpAnyH_take (i := 7) (v := ?_) rfl (by kernel_rfl) (by kernel_rfl) (by kernel_rfl) (fun _ _ _ h => h) (Or.inl ⟨by kernel_rfl, ?_⟩) (by assumption) ?_
          rotate_left
          · intro w9 hS9; (try dsimp only at hS9); go_simp; (try with_reducible rfl)
          set_option linter.unusedSimpArgs false in try simp only [Act.put, List.getElem_toArray, List.getElem_cons_succ, List.getElem_cons_zero, List.setIfInBounds_toArray, List.set_cons_zero, List.set_cons_succ]
          refine wpAnyH_take (i := 8) (v := ?_) rfl (by kernel_rfl) (by kernel_rfl) (by kernel_rfl) (fun _ _ _ h => h) (Or.inl ⟨by kernel_rfl, ?_⟩) (by assumption) ?_
          rotate_left
          · intro w9 hS9; (try dsimp only at hS9); go_simp; (try with_reducible rfl)
          set_option linter.unusedSimpArgs false in try simp only [Act.put, List.getElem_toArray, List.getElem_cons_succ, List.getElem_cons_zero, List.setIfInBounds_toArray, List.set_cons_zero, List.set_cons_succ]
          refine wpAnyH_take (i := 9) (v := ?_) rfl (by kernel_rfl) (by kernel_rfl) (by kernel_rfl) (fun _ _ _ h => h) (Or.inl ⟨by kernel_rfl, ?_⟩) (by assumption) ?_
          rotate_left
          · intro w9 hS9; (try dsimp only at hS9); go_simp; (try with_reducible rfl)
          set_option linter.unusedSimpArgs false in try simp only [Act.put, List.getElem_toArray, List.getElem_cons_succ, List.getElem_cons_zero, List.setIfInBounds_toArray, List.set_cons_zero, List.set_cons_succ]
          refine wpAnyH_take (i := 10) (v := ?_) rfl (by kernel_rfl) (by kernel_rfl) (by kernel_rfl) (fun _ _ _ h => h) (Or.inl ⟨by kernel_rfl, ?_⟩) (by assumption) ?_
          rotate_left
          · intro w9 hS9; (try dsimp only at hS9); go_simp; (try with_reducible rfl)
          set_option linter.unusedSimpArgs false in try simp only [Act.put, List.getElem_toArray, List.getElem_cons_succ, List.getElem_cons_zero, List.setIfInBounds_toArray, List.set_cons_zero, List.set_cons_succ]
          have z0 := bk73.cell 0
          have f0 := bk73.frozen 0
          have z1 := bk73.cell 1
          have f1 := bk73.frozen 1
          simp at z0 z1
          have ho75 : Out (v1.heap.size) (v1.heap.size + 1) v64 ((v64.setCell ⟨v1.heap.size, 0, none⟩ (.slice R_139 l00 d_140)).setCell ⟨v1.heap.size, 1, none⟩ (.slice R_141 l01 d_142)) := out_set (out_set (Out.refl _ _ _) (by omega)) (by omega)
          have sc0_76 := ho75.cell sc0_68 (by omega)
          have sc1_77 := ho75.cell sc1_69 (by omega)
          refine wpAnyH_ready (rs := [12]) (by kernel_rfl) (by simp) ?_
          refine AllReadyH.cons rfl (fun K hK => ?_) AllReadyH.nil
          go_simp
          refine hK.out _ _ ⟨sc0_76, sc1_77⟩ (fun hHeld78 => ?_)
          clear hK K hHeld74
          set_option linter.unusedSimpArgs false in try simp only [Act.put, List.getElem_toArray, List.getElem_cons_succ, List.getElem_cons_zero, List.setIfInBounds_toArray, List.set_cons_zero, List.set_cons_succ]
          refine wpAnyH_take (i := 13) (v := ?_) rfl (by kernel_rfl) (by kernel_rfl) (by kernel_rfl) (fun _ _ _ h => h) (Or.inl ⟨by kernel_rfl, ?_⟩) (by assumption) ?_
          rotate_left
          · intro w9 hS9; (try dsimp only at hS9); go_simp; (try with_reducible rfl)
          set_option linter.unusedSimpArgs false in try simp only [Act.put, List.getElem_toArray, List.getElem_cons_succ, List.getElem_cons_zero, List.setIfInBounds_toArray, List.set_cons_zero, List.set_cons_succ]
          refine wpAnyH_take (i := 14) (v := ?_) rfl (by kernel_rfl) (by kernel_rfl) (by kernel_rfl) (fun _ _ _ h => h) (Or.inl ⟨by kernel_rfl, ?_⟩) (by assumption) ?_
          rotate_left
          · intro w9 hS9; (try dsimp only at hS9); go_simp; (try with_reducible rfl)
          set_option linter.unusedSimpArgs false in try simp only [Act.put, List.getElem_toArray, List.getElem_cons_succ, List.getElem_cons_zero, List.setIfInBounds_toArray, List.set_cons_zero, List.set_cons_succ]
          refine wpAnyH_take (i := 15) (v := ?_) rfl (by kernel_rfl) (by kernel_rfl) (by kernel_rfl) (fun _ _ _ h => h) (Or.inl ⟨by kernel_rfl, ?_⟩) (by assumption) ?_
          rotate_left
          · intro w9 hS9; (try dsimp only at hS9); go_simp; (try with_reducible rfl)
          set_option linter.unusedSimpArgs false in try simp only [Act.put, List.getElem_toArray, List.getElem_cons_succ, List.getElem_cons_zero, List.setIfInBounds_toArray, List.set_cons_zero, List.set_cons_succ]
          refine wpAnyH_done (by kernel_rfl) ?_ _
          go_wp2_with fail
          go_meet
          exact ⟨_, _, _, _, _, _, _, _, _, _, _, _, _, rfl, rfl, rfl, rfl, fin_box2 (bstep (hw56)) ⟨bk73, bk62.lt, hA51g⟩ hb64 op65 (by have := hb64.size; omega) op66 (by have := hb64.size; omega) op67 (by have := hb64.size; omega)⟩
      · go_simp
        have hA79 : Below w23.drew.heap.size w23.drew (w23.alloc (.cells #[.slice none 0 0, .slice none 0 0] 42)).drew := bel_ad w23 _
        have hA79b0 : BlkIs (w23.alloc (.cells #[.slice none 0 0, .slice none 0 0] 42)) w23.heap.size 42 #[.slice none 0 0, .slice none 0 0] := blk_new _ _ _ _ rfl
        have hA79b : BlkIs (w23.alloc (.cells #[.slice none 0 0, .slice none 0 0] 42)).drew w23.heap.size 42 #[.slice none 0 0, .slice none 0 0] := hA79b0
        have hA79g : w23.heap.size ≤ w23.heap.size := Nat.le_refl _
        have sc0_80 : (w23.alloc (.cells #[.slice none 0 0, .slice none 0 0] 42)).drew.cell? ⟨w.heap.size, 0, none⟩ = some (.slice A1 n1 cap1) := cell_next (w1 := w23.alloc (.cells #[.slice none 0 0, .slice none 0 0] 42)) (show w23.cell? _ = _ from sc0_0) (bnew w23 _)
        have sc1_81 : (w23.alloc (.cells #[.slice none 0 0, .slice none 0 0] 42)).drew.cell? ⟨w.heap.size, 1, none⟩ = some (.slice B1 m1 cbp1) := cell_next (w1 := w23.alloc (.cells #[.slice none 0 0, .slice none 0 0] 42)) (show w23.cell? _ = _ from sc1_0) (bnew w23 _)
        refine hK.out _ _ ⟨sc0_80, sc1_81⟩ (fun hHeld82 => ?_)
        clear hK K hHeld0
        set_option linter.unusedSimpArgs false in try simp only [Act.put, List.getElem_toArray, List.getElem_cons_succ, List.getElem_cons_zero, List.setIfInBounds_toArray, List.set_cons_zero, List.set_cons_succ]
        refine wpAnyH_ready (rs := [1]) (by kernel_rfl) (by simp) ?_
        refine AllReadyH.cons rfl (fun K hK => ?_) AllReadyH.nil
        go_simp
        go_wp2_with (go_at_call 18; refine (HT_162.out _ (hA79)).mono ?_; rintro e v83 ⟨g_165, rfl, oa84, hb83⟩)
        have hw83 := bon (hA79) hb83
        have sc0_85 := cell_next (show (w23.alloc (.cells #[.slice none 0 0, .slice none 0 0] 42)).drew.cell? _ = _ from sc0_80) hb83
        have sc1_86 := cell_next (show (w23.alloc (.cells #[.slice none 0 0, .slice none 0 0] 42)).drew.cell? _ = _ from sc1_81) hb83
        have bk87 := hA79b.next hb83
        refine hK.out _ _ ⟨sc0_85, sc1_86⟩ (fun hHeld88 => ?_)
        clear hK K hHeld82
        set_option linter.unusedSimpArgs false in try simp only [Act.put, List.getElem_toArray, List.getElem_cons_succ, List.getElem_cons_zero, List.setIfInBounds_toArray, List.set_cons_zero, List.set_cons_succ]
        refine wpAnyH_ready (rs := [3]) (by kernel_rfl) (by simp) ?_
        refine AllReadyH.cons rfl (fun K hK => ?_) AllReadyH.nil
        go_simp
        go_wp2_with (go_at_call 33; refine (HT_167.out _ (hw83)).mono ?_; rintro e v89 ⟨g_170, g_171, mz0, rfl, oa90, oa91, mdz, hb89⟩)
        have hw89 := bon (hw83) hb89
        have sc0_92 := cell_next (show v83.cell? _ = _ from sc0_85) hb89
        have sc1_93 := cell_next (show v83.cell? _ = _ from sc1_86) hb89
        have oa84_94 := oa84.next hb89
        have bk95 := bk87.next hb89
        refine hK.out _ _ ⟨sc0_92, sc1_93⟩ (fun hHeld96 => ?_)
        clear hK K hHeld88
        set_option linter.unusedSimpArgs false in try simp only [Act.put, List.getElem_toArray, List.getElem_cons_succ, List.getElem_cons_zero, List.setIfInBounds_toArray, List.set_cons_zero, List.set_cons_succ]
        refine wpAnyH_ready (rs := [5]) (by kernel_rfl) (by simp) ?_
        refine AllReadyH.cons rfl (fun K hK => ?_) AllReadyH.nil
        go_simp
        go_wp2_with (go_at_call 34; refine (HI.out _ _ _ _ _ _ _ oa84_94.all oa90.all oa91.all).mono ?_; rintro e v97 ⟨R_139, d_140, R_141, d_142, R_143, d_144, mx0, mx1, rfl, op98, op99, op100, mdx, hb97⟩)
        have hw97 := bon (hw89) hb97
        have sc0_101 := cell_next (show v89.cell? _ = _ from sc0_92) hb97
        have sc1_102 := cell_next (show v89.cell? _ = _ from sc1_93) hb97
        have oa84_94_103 := oa84_94.next hb97
        have oa90_104 := oa90.next hb97
        have oa91_105 := oa91.next hb97
        have bk106 := bk95.next hb97
        refine hK.out _ _ ⟨sc0_101, sc1_102⟩ (fun hHeld107 => ?_)
        clear hK K hHeld96
        set_option linter.unusedSimpArgs false in try simp only [Act.put, List.getElem_toArray, List.getElem_cons_succ, List.getElem_cons_zero, List.setIfInBounds_toArray, List.set_cons_zero, List.set_cons_succ]
        refine wpAnyH_take (i := 6) (v := ?_) rfl (by kernel_rfl) (by kernel_rfl) (by kernel_rfl) (fun _ _ _ h => h) (Or.inl ⟨by kernel_rfl, ?_⟩) (by assumption) ?_
        rotate_left
        · intro w9 hS9; (try dsimp only at hS9); go_simp; (try with_reducible rfl)
        set_option linter.unusedSimpArgs false in try simp only [Act.put, List.getElem_toArray, List.getElem_cons_succ, List.getElem_cons_zero, List.setIfInBounds_toArray, List.set_cons_zero, List.set_cons_succ]
        refine wpAnyH_take (i := 7) (v := ?_) rfl (by kernel_rfl) (by kernel_rfl) (by kernel_rfl) (fun _ _ _ h => h) (Or.inl ⟨by kernel_rfl, ?_⟩) (by assumption) ?_
        rotate_left
        · intro w9 hS9; (try dsimp only at hS9); go_simp; (try with_reducible rfl)
        set_option linter.unusedSimpArgs false in try simp only [Act.put, List.getElem_toArray, List.getElem_cons_succ, List.getElem_cons_zero, List.setIfInBounds_toArray, List.set_cons_zero, List.set_cons_succ]
        refine wpAnyH_take (i := 8) (v := ?_) rfl (by kernel_rfl) (by kernel_rfl) (by kernel_rfl) (fun _ _ _ h => h) (Or.inl ⟨by kernel_rfl, ?_⟩) (by assumption) ?_
        rotate_left
        · intro w9 hS9; (try dsimp only at hS9); go_simp; (try with_reducible rfl)
        set_option linter.unusedSimpArgs false in try simp only [Act.put, List.getElem_toArray, List.getElem_cons_succ, List.getElem_cons_zero, List.setIfInBounds_toArray, List.set_cons_zero, List.set_cons_succ]
        refine wpAnyH_take (i := 9) (v := ?_) rfl (by kernel_rfl) (by kernel_rfl) (by kernel_rfl) (fun _ _ _ h => h) (Or.inl ⟨by kernel_rfl, ?_⟩) (by assumption) ?_
        rotate_left
        · intro w9 hS9; (try dsimp only at hS9); go_simp; (try with_reducible rfl)
        set_option linter.unusedSimpArgs false in try simp only [Act.put, List.getElem_toArray, List.getElem_cons_succ, List.getElem_cons_zero, List.setIfInBounds_toArray, List.set_cons_zero, List.set_cons_succ]
        refine wpAnyH_take (i := 10) (v := ?_) rfl (by kernel_rfl) (by kernel_rfl) (by kernel_rfl) (fun _ _ _ h => h) (Or.inl ⟨by kernel_rfl, ?_⟩) (by assumption) ?_
        rotate_left
        · intro w9 hS9; (try dsimp only at hS9); go_simp; (try with_reducible rfl)
        set_option linter.unusedSimpArgs false in try simp only [Act.put, List.getElem_toArray, List.getElem_cons_succ, List.getElem_cons_zero, List.setIfInBounds_toArray, List.set_cons_zero, List.set_cons_succ]
        have z0 := bk106.cell 0
        have f0 := bk106.frozen 0
        have z1 := bk106.cell 1
        have f1 := bk106.frozen 1
        simp at z0 z1
        have ho108 : Out (w23.heap.size) (w23.heap.size + 1) v97 ((v97.setCell ⟨w23.heap.size, 0, none⟩ (.slice R_139 l00 d_140)).setCell ⟨w23.heap.size, 1, none⟩ (.slice R_141 l01 d_142)) := out_set (out_set (Out.refl _ _ _) (by omega)) (by omega)
        have sc0_109 := ho108.cell sc0_101 (by omega)
        have sc1_110 := ho108.cell sc1_102 (by omega)
        refine wpAnyH_ready (rs := [12]) (by kernel_rfl) (by simp) ?_
        refine AllReadyH.cons rfl (fun K hK => ?_) AllReadyH.nil
        go_simp
        refine hK.out _ _ ⟨sc0_109, sc1_110⟩ (fun hHeld111 => ?_)
        clear hK K hHeld107
        set_option linter.unusedSimpArgs false in try simp only [Act.put, List.getElem_toArray, List.getElem_cons_succ, List.getElem_cons_zero, List.setIfInBounds_toArray, List.set_cons_zero, List.set_cons_succ]
        refine wpAnyH_take (i := 13) (v := ?_) rfl (by kernel_rfl) (by kernel_rfl) (by kernel_rfl) (fun _ _ _ h => h) (Or.inl ⟨by kernel_rfl, ?_⟩) (by assumption) ?_
        rotate_left
        · intro w9 hS9; (try dsimp only at hS9); go_simp; (try with_reducible rfl)
        set_option linter.unusedSimpArgs false in try simp only [Act.put, List.getElem_toArray, List.getElem_cons_succ, List.getElem_cons_zero, List.setIfInBounds_toArray, List.set_cons_zero, List.set_cons_succ]
        refine wpAnyH_take (i := 14) (v := ?_) rfl (by kernel_rfl) (by kernel_rfl) (by kernel_rfl) (fun _ _ _ h => h) (Or.inl ⟨by kernel_rfl, ?_⟩) (by assumption) ?_
        rotate_left
        · intro w9 hS9; (try dsimp only at hS9); go_simp; (try with_reducible rfl)
        set_option linter.unusedSimpArgs false in try simp only [Act.put, List.getElem_toArray, List.getElem_cons_succ, List.getElem_cons_zero, List.setIfInBounds_toArray, List.set_cons_zero, List.set_cons_succ]
        refine wpAnyH_take (i := 15) (v := ?_) rfl (by kernel_rfl) (by kernel_rfl) (by kernel_rfl) (fun _ _ _ h => h) (Or.inl ⟨by kernel_rfl, ?_⟩) (by assumption) ?_
        rotate_left
        · intro w9 hS9; (try dsimp only at hS9); go_simp; (try with_reducible rfl)
        set_option linter.unusedSimpArgs false in try simp only [Act.put, List.getElem_toArray, List.getElem_cons_succ, List.getElem_cons_zero, List.setIfInBounds_toArray, List.set_cons_zero, List.set_cons_succ]
        refine wpAnyH_done (by kernel_rfl) ?_ _
        go_wp2_with fail
        go_meet
        exact ⟨_, _, _, _, _, _, _, _, _, _, _, _, _, rfl, rfl, rfl, rfl, fin_box2 (bstep (hw89)) ⟨bk106, bk95.lt, hA79g⟩ hb97 op98 (by have := hb97.size; omega) op99 (by have := hb97.size; omega) op100 (by have := hb97.size; omega)⟩
    case rest =>
      obtain ⟨R_139, d_140, R_141, d_142, R_143, d_144, bx_147, lo_150, hi_151, lo_154, hi_155, lo_158, hi_159, rfl, rfl, rfl, rfl, h0_0, h0_1, h0_l, sz_148, own_149, sz_152, own_153, sz_156, own_157, sz_160, hb_161⟩ := hcut
      obtain ⟨w24, hwx⟩ : ∃ x, x = wc := ⟨_, rfl⟩
      subst hwx
      have sz_185 := h0_l
      replace in0 := in0.next hb_161 (by omega)
      replace in1a := in1a.next hb_161 (by omega)
      replace in1b := in1b.next hb_161 (by omega)
      replace a1_0 := cell_next a1_0 hb_161
      replace a1_1 := cell_next a1_1 hb_161
      replace a1_l := Nat.lt_of_lt_of_le a1_l hb_161.size
      replace w0_0 := cell_next w0_0 hb_161
      replace w0_1 := cell_next w0_1 hb_161
      replace w0_l := Nat.lt_of_lt_of_le w0_l hb_161.size
      replace own_20 := own_20.next hb_161
      replace own_24 := own_24.next hb_161
      replace own_28 := own_28.next hb_161
      replace g0_0 := cell_next g0_0 hb_161
      replace g0_1 := cell_next g0_1 hb_161
      replace g0_l := Nat.lt_of_lt_of_le g0_l hb_161.size
      replace own_125 := own_125.next hb_161
      replace own_126 := own_126.next hb_161
      replace own_130 := own_130.next hb_161
      replace hB := hB.trans (hb_161.mono hB.size)
      have sz_186 := hb_161.size
      go_wp2_with fail
      -- if !eqState(h0, w0) || !eqInt64S(h1, w1) || h2 != w2 || h3 != w3 {
      refine (eqState_k R_139 R_10 l00 d_140 d_11 y00 R_141 R_12 l01 d_142 d_13 y01 (w24.heap.size) (w24.heap.size) w24 (own_149.inn.more (by omega)) (own_153.inn.more (by omega)) (own_20.inn.more (by omega)) (own_24.inn.more (by omega)) (by omega) (by omega) (by omega) (by omega)).mono ?_
      rintro e w25 ⟨rfl, hb_187⟩
      replace in0 := in0.next hb_187 (by omega)
      replace in1a := in1a.next hb_187 (by omega)
      replace in1b := in1b.next hb_187 (by omega)
      replace a1_0 := cell_next a1_0 hb_187
      replace a1_1 := cell_next a1_1 hb_187
      replace a1_l := Nat.lt_of_lt_of_le a1_l hb_187.size
      replace w0_0 := cell_next w0_0 hb_187
      replace w0_1 := cell_next w0_1 hb_187
      replace w0_l := Nat.lt_of_lt_of_le w0_l hb_187.size
      replace own_20 := own_20.next hb_187
      replace own_24 := own_24.next hb_187
      replace own_28 := own_28.next hb_187
      replace g0_0 := cell_next g0_0 hb_187
      replace g0_1 := cell_next g0_1 hb_187
      replace g0_l := Nat.lt_of_lt_of_le g0_l hb_187.size
      replace own_125 := own_125.next hb_187
      replace own_126 := own_126.next hb_187
      replace own_130 := own_130.next hb_187
      replace h0_0 := cell_next h0_0 hb_187
      replace h0_1 := cell_next h0_1 hb_187
      replace h0_l := Nat.lt_of_lt_of_le h0_l hb_187.size
      replace own_149 := own_149.next hb_187
      replace own_153 := own_153.next hb_187
      replace own_157 := own_157.next hb_187
      replace hB := hB.trans (hb_187.mono hB.size)
      have sz_188 := hb_187.size
      go_wp2_with fail
      refine (eqInt64S_k R_143 R_14 l10 d_144 d_15 _ _ y10 _ own_157.inn own_28.inn (by omega) (by omega) (by omega)).mono ?_
      rintro e w26 ⟨rfl, hb_189⟩
      replace in0 := in0.next hb_189 (by omega)
      replace in1a := in1a.next hb_189 (by omega)
      replace in1b := in1b.next hb_189 (by omega)
      replace a1_0 := cell_next a1_0 hb_189
      replace a1_1 := cell_next a1_1 hb_189
      replace a1_l := Nat.lt_of_lt_of_le a1_l hb_189.size
      replace w0_0 := cell_next w0_0 hb_189
      replace w0_1 := cell_next w0_1 hb_189
      replace w0_l := Nat.lt_of_lt_of_le w0_l hb_189.size
      replace own_20 := own_20.next hb_189
      replace own_24 := own_24.next hb_189
      replace own_28 := own_28.next hb_189
      replace g0_0 := cell_next g0_0 hb_189
      replace g0_1 := cell_next g0_1 hb_189
      replace g0_l := Nat.lt_of_lt_of_le g0_l hb_189.size
      replace own_125 := own_125.next hb_189
      replace own_126 := own_126.next hb_189
      replace own_130 := own_130.next hb_189
      replace h0_0 := cell_next h0_0 hb_189
      replace h0_1 := cell_next h0_1 hb_189
      replace h0_l := Nat.lt_of_lt_of_le h0_l hb_189.size
      replace own_149 := own_149.next hb_189
      replace own_153 := own_153.next hb_189
      replace own_157 := own_157.next hb_189
      replace hB := hB.trans (hb_189.mono hB.size)
      have sz_190 := hb_189.size
      go_wp2_with fail
      clear own_149 own_153
      clear h0_0 h0_1 h0_l
      clear own_157
      refine (heldState_k R_72 l00 d_73 R_74 l01 d_75 _ 1 _ own_125.all own_126.all (Nat.le_refl _) (by omega) (by omega) (by omega) (by omega)).mono ?_
      rintro e w27 ⟨rfl, hb_191⟩
      replace in0 := in0.next hb_191 (by omega)
      replace in1a := in1a.next hb_191 (by omega)
      replace in1b := in1b.next hb_191 (by omega)
      replace a1_0 := cell_next a1_0 hb_191
      replace a1_1 := cell_next a1_1 hb_191
      replace a1_l := Nat.lt_of_lt_of_le a1_l hb_191.size
      replace w0_0 := cell_next w0_0 hb_191
      replace w0_1 := cell_next w0_1 hb_191
      replace w0_l := Nat.lt_of_lt_of_le w0_l hb_191.size
      replace own_20 := own_20.next hb_191
      replace own_24 := own_24.next hb_191
      replace own_28 := own_28.next hb_191
      replace g0_0 := cell_next g0_0 hb_191
      replace g0_1 := cell_next g0_1 hb_191
      replace g0_l := Nat.lt_of_lt_of_le g0_l hb_191.size
      replace own_125 := own_125.next hb_191
      replace own_126 := own_126.next hb_191
      replace own_130 := own_130.next hb_191
      replace hB := hB.trans (hb_191.mono hB.size)
      have sz_192 := hb_191.size
      have mk_193 : (0 : Int) ≤ 1 + (l00 : Int) + (l01 : Int) := by omega
      go_wp2_with fail
      refine (heldInt64S_k R_76 l10 d_77 _ (1 + (l00 : Int) + (l01 : Int)) _ own_130.inn (by omega) (by omega) (by omega)).mono ?_
      rintro e w28 ⟨rfl, hb_194⟩
      replace in0 := in0.next hb_194 (by omega)
      replace in1a := in1a.next hb_194 (by omega)
      replace in1b := in1b.next hb_194 (by omega)
      replace a1_0 := cell_next a1_0 hb_194
      replace a1_1 := cell_next a1_1 hb_194
      replace a1_l := Nat.lt_of_lt_of_le a1_l hb_194.size
      replace w0_0 := cell_next w0_0 hb_194
      replace w0_1 := cell_next w0_1 hb_194
      replace w0_l := Nat.lt_of_lt_of_le w0_l hb_194.size
      replace own_20 := own_20.next hb_194
      replace own_24 := own_24.next hb_194
      replace own_28 := own_28.next hb_194
      replace g0_0 := cell_next g0_0 hb_194
      replace g0_1 := cell_next g0_1 hb_194
      replace g0_l := Nat.lt_of_lt_of_le g0_l hb_194.size
      replace own_125 := own_125.next hb_194
      replace own_126 := own_126.next hb_194
      replace own_130 := own_130.next hb_194
      replace hB := hB.trans (hb_194.mono hB.size)
      have sz_195 := hb_194.size
      have mk_196 : (0 : Int) ≤ 1 + (l00 : Int) + (l01 : Int) + (l10 : Int) := by omega
      go_wp2_with fail
      go_ret
      exact ⟨rfl, hB⟩

set_option maxRecDepth 100000 in
set_option maxHeartbeats 4000000 in
theorem walk (A0 : Option Addr) (n0 cap0 : Nat) (t0 : List (Int × Int)) (A1 : Option Addr) (n1 cap1 : Nat) (z1 : List Int) (B1 : Option Addr) (m1 cbp1 : Nat) (y1 : List Int) (i2 : Int) (w : World) (h0in : InC w w.heap.size A0 n0 t0) (h0max : n0 ≤ maxLen) (h0each : ∀ y ∈ t0, (Lit.int .i64 y.1).wf = true ∧ (Lit.int .i64 y.2).wf = true) (h1row : Row w w.heap.size A1 (z1.map ic)) (h1len : z1.length = n1) (h1max : n1 ≤ maxLen) (h1glen : y1.length = m1) (h1gmax : m1 ≤ maxLen) (h1grow : Row w w.heap.size B1 (y1.map ic)) (h2wf : (Lit.int .i64 i2).wf = true) :
    Calls Try.prog 7 #[.slice A0 n0 cap0, .agg #[.slice A1 n1 cap1, .slice B1 m1 cbp1], .int .i64 i2] w fun e w' => e = .returned (.bool true) ∧ Below w.heap.size w w' := by
  by_cases hn : n0 ≤ 1048576
  · by_cases hm : n0 + (n1 + m1) ≤ 1048576
    · have hl := runR_len t0 z1 y1 i2
      have hs := specRun_c (cs := t0) (vs := z1) (zs := y1) (f := i2)
      have hi := implRun_c (cs := t0) (vs := z1) (zs := y1) (f := i2)
      generalize runR t0 z1 y1 i2 = R at hl hs hi
      exact road A0 n0 cap0 t0 A1 n1 cap1 z1 B1 m1 cbp1 y1 i2 w h0in (by omega) ⟨h1len, h1row⟩ ⟨h1glen, h1grow⟩ (by omega) (by omega) (by omega) (by omega)
        R.1.1 R.1.1.length R.1.2 R.1.2.length R.2.1 R.2.1.length R.2.2.1 R.2.2.2 (by omega) (by omega) hl.2.2
        (fun w0 a00 u00 a10 u10 a11 u11 h g0 g1 => hs a00 n0 u00 a10 n1 u10 a11 m1 u11 w0 h g0 g1 (by omega) (by omega) (by omega))
        (fun w0 a00 u00 a10 u10 a11 u11 h g0 g1 => hi a00 n0 u00 a10 n1 u10 a11 m1 u11 w0 h g0 g1 (by omega) (by omega) (by omega))
    · exact early1 A0 n0 cap0 t0 A1 n1 cap1 z1 B1 m1 cbp1 y1 i2 w h0in ⟨h1len, h1row⟩ ⟨h1glen, h1grow⟩ (by omega) (by omega) h0max h1max h1gmax
  · exact early0 A0 n0 cap0 t0 A1 n1 cap1 z1 B1 m1 cbp1 y1 i2 w h0in ⟨h1len, h1row⟩ ⟨h1glen, h1grow⟩ (by omega) h0max h1max h1gmax

set_option maxRecDepth 100000 in
set_option maxHeartbeats 4000000 in
theorem lifted (os : Os) (started : os.Started) (H : Type) (enc : TypeId × Value → H) :
    ReturnsInHanded {} Try.checked os 7 .any (Rows.fnExactRunCodeSpec.pre6 enc Try.prog Try.f7 Rows.fnExactRunCodeRow.domain false) (Rows.fnExactRunCodeSpec.post enc Try.prog Try.f7 false true false false) := by
  refine returnsInHanded_of_change (C := Try.checked) own started (by kernel_rfl) Try.func7
    (ChangeSpec.witness6 (enc := enc) (C := Try.checked) false ⟨#[], #[.slice none 0 0, .agg #[.slice none 0 0, .slice none 0 0], .int .i64 0], []⟩ 8 (by kernel_rfl) (by kernel_rfl) (by kernel_rfl) (by kernel_rfl)) ?_
  intro W base args ds gs before hval0 hW hcnd _
  have hval : ∀ (j : Nat) t v, Try.f7.params[j]? = some t → args[j]? = some v → Value.okWide Try.prog W .any base t v := hval0
  have hW' := hW
  obtain ⟨p, q, hA0, hV, rfl, hfz, hnd⟩ := hW
  have hA : DataW.TrodAll enc Try.prog W 0 (fun _ => true) true Try.f7.params.toList args.toList ds p := hA0
  rw [Try.params7] at hA hval
  obtain ⟨v0, vs0, d0, ds0, p0, q0, hargs, rfl, rfl, g0, r0⟩ := trodAll_cons hA
  obtain ⟨v1, vs1, d1, ds1, p1, q1, rfl, rfl, rfl, g1, r1⟩ := trodAll_cons r0
  obtain ⟨v2, vs2, d2, ds2, p2, q2, rfl, rfl, rfl, g2, r2⟩ := trodAll_cons r1
  obtain ⟨rfl, rfl, rfl⟩ := trodAll_nil r2
  obtain rfl : args = #[v0, v1, v2] := by cases args; simp_all
  obtain ⟨rfl, rfl⟩ := trodVars_none hV
  have k0 := g0
  have lt0 : ∀ x ∈ p0, x.block < W.heap.size := by obtain ⟨m, hm⟩ := k0; exact DataW.trod_lt m _ _ _ hm
  have k1 := g1
  have lt1 : ∀ x ∈ p1, x.block < W.heap.size := by obtain ⟨m, hm⟩ := k1; exact DataW.trod_lt m _ _ _ hm
  obtain ⟨a0, b0, e0, rfl⟩ := okWide_slice Try.underlying28 (hval 0 28 v0 rfl rfl)
  obtain ⟨A0, n0, cap0, t0, q0, h0max, h0in, h0each⟩ := (fun (h : ∃ fuel, DataW.trod enc Try.prog W 0 (fun _ => true) true fuel 28 [.slice a0 b0 e0] = some _) => instrs_in h.choose_spec) (by obtain ⟨m, hm⟩ := g0; exact ⟨m, by simpa [Value.cells] using hm⟩)
  obtain ⟨rfl, rfl, rfl⟩ : a0 = A0 ∧ b0 = n0 ∧ e0 = cap0 := by simpa using q0
  obtain ⟨A1, n1, cap1, z1, B1, m1, cbp1, y1, rfl, h1len, h1max, h1row, h1glen, h1gmax, h1grow⟩ := state_in (hval 1 37 v1 rfl rfl) g1
  obtain ⟨i2, rfl, rfl, rfl, h2wf⟩ := open_int Try.underlying2 (hval 2 2 v2 rfl rfl) g2
  clear hA0 hval0
  simp only [List.append_nil] at hW'
  refine (walk _ _ _ t0 A1 n1 cap1 z1 B1 m1 cbp1 y1 i2 W h0in h0max h0each h1row h1len h1max h1glen h1gmax h1grow h2wf).mono fun e W' ⟨he, bel⟩ => ?_
  subst he
  exact ⟨_, rfl, _, _, _, [], _, [], hW', trodAll_mk1 (shut_bool Try.underlying4 _), (trodAll_cons_mk (Below.trod laidOut (by kernel_rfl) (of_decide_eq_true (by kernel_rfl)) k0 bel lt0) (trodAll_cons_mk (Below.trod laidOut (by kernel_rfl) (of_decide_eq_true (by kernel_rfl)) k1 bel lt1) (trodAll_cons_mk (shut_int Try.underlying2 h2wf) trodAll_mk0))), rfl, bel.frame _, fun h => by cases h⟩

theorem over : Rows.fnExactRunCodeRow.holds Try.pinned (OpenSpec.ofChange Rows.fnExactRunCodeSpec) :=
  OpenClaim.holds_of_wide 7 Try.f7 rfl rfl rfl rfl rfl rfl rfl ⟨rfl, rfl, rfl, rfl, rfl⟩ rfl rfl rfl rfl rfl (by kernel_rfl) Try.func7 (by kernel_rfl)
    (of_decide_eq_true (by kernel_rfl)) (by unfold Func.isWrapper; first | (rw [if_pos (by decide +kernel)]; kernel_rfl) | (rw [if_neg (by decide +kernel)]; exact ⟨rfl, rfl⟩))
    (fun os started H enc _ => lifted os started H enc)

/-- The statement. -/
theorem proved : Rows.FnExactRunCodeSaid := over
#print axioms proved
end Go.Proofs.Ytnfapodeifpeoaa.fnExactRunCode
