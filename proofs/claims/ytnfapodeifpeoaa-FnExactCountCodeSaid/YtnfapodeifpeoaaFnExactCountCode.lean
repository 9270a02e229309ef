/-
  For every list of instructions, state and number the program's CountCode answers as the model's, leaves both as they were, and its answer owns its memory.
  Conditions: none but those that the statement itself bears.
-/
import Derived.Test.YtnfapodeifpeoaaRows
import Derived.WalkKit
import Derived.ProofKit
import Derived.OpenShut
import Derived.ShutString
import Derived.ChangeOld
import Derived.Below
import Derived.WalkSmall
import Derived.Test.YtnfapodeifpeoaaTms
import Derived.Test.YtnfapodeifpeoaaRunI
import Derived.Test.YtnfapodeifpeoaaRunC
import Derived.Test.YtnfapodeifpeoaaMarkC
import Derived.Test.YtnfapodeifpeoaaBoxA
namespace Go.Proofs.Ytnfapodeifpeoaa.fnExactCountCode
open Go.ChangeShapes Go.WideShapes Go.ChangeAt Go.RowKit
open Go.ChangeMaps (open_string shut_string)
set_option linter.unusedVariables false

theorem own : ownKnob Try.prog.godebug = none := by kernel_rfl
theorem laidOut : laidOutB Try.prog = true := by kernel_rfl
set_option maxRecDepth 100000 in
set_option maxHeartbeats 8000000 in
theorem early0 (A0 : Option Addr) (n0 cap0 : Nat) (t0 : List (Int × Int)) (A1 : Option Addr) (n1 cap1 : Nat) (z1 : List Int) (B1 : Option Addr) (m1 cbp1 : Nat) (y1 : List Int) (i2 : Int) (w : World) (in0 : InC w w.heap.size A0 n0 t0) (in1a : InL w w.heap.size A1 n1 z1) (in1b : InL w w.heap.size B1 m1 y1) (q0 : 1048576 < (n0)) (vn0 : n0 ≤ maxLen) (vn1 : n1 ≤ maxLen) (vm1 : m1 ≤ maxLen) :
    Calls Try.prog 8 #[.slice A0 n0 cap0, .agg #[.slice A1 n1 cap1, .slice B1 m1 cbp1], .int .i64 i2] w fun e w' => e = .returned (.bool true) ∧ Below w.heap.size w w' := by
  have hB := Below.refl w.heap.size w
  go_enter Try.func8, Try.ntmps8
  go_wp2_with fail
  have hb_1 : Below w.heap.size w (w.alloc (.cells #[.slice A1 n1 cap1, .slice B1 m1 cbp1] 37)) := bnew _ _
  have sz_2 : w.heap.size < (w.alloc (.cells #[.slice A1 n1 cap1, .slice B1 m1 cbp1] 37)).heap.size := by simp
  have a1_0 : (w.alloc (.cells #[.slice A1 n1 cap1, .slice B1 m1 cbp1] 37)).cell? ⟨w.heap.size, 0, none⟩ = some (.slice A1 n1 cap1) := by simp
  have a1_1 : (w.alloc (.cells #[.slice A1 n1 cap1, .slice B1 m1 cbp1] 37)).cell? ⟨w.heap.size, 1, none⟩ = some (.slice B1 m1 cbp1) := by simp
  have a1_l := sz_2
  generalize w.alloc (.cells #[.slice A1 n1 cap1, .slice B1 m1 cbp1] 37) = w1 at hb_1 a1_0 a1_1 sz_2 a1_l ⊢
  replace in0 := in0.next hb_1 (by omega)
  replace in1a := in1a.next hb_1 (by omega)
  replace in1b := in1b.next hb_1 (by omega)
  replace hB := hB.trans (hb_1.mono hB.size)
  have sz_3 := hb_1.size
  refine (szInstrS_k A0 n0 cap0 _ _ (by omega) (by omega) (by first | assumption | (unfold maxLen; omega))).mono ?_
  rintro e w2 ⟨rfl, hb_4⟩
  rw [szv_no (by omega)]
  replace in0 := in0.next hb_4 (by omega)
  replace in1a := in1a.next hb_4 (by omega)
  replace in1b := in1b.next hb_4 (by omega)
  replace a1_0 := cell_next a1_0 hb_4
  replace a1_1 := cell_next a1_1 hb_4
  replace a1_l := Nat.lt_of_lt_of_le a1_l hb_4.size
  replace hB := hB.trans (hb_4.mono hB.size)
  have sz_5 := hb_4.size
  go_wp2_with fail
  go_ret
  exact ⟨rfl, hB⟩

set_option maxRecDepth 100000 in
set_option maxHeartbeats 8000000 in
theorem early1 (A0 : Option Addr) (n0 cap0 : Nat) (t0 : List (Int × Int)) (A1 : Option Addr) (n1 cap1 : Nat) (z1 : List Int) (B1 : Option Addr) (m1 cbp1 : Nat) (y1 : List Int) (i2 : Int) (w : World) (in0 : InC w w.heap.size A0 n0 t0) (in1a : InL w w.heap.size A1 n1 z1) (in1b : InL w w.heap.size B1 m1 y1) (q0 : (n0) ≤ 1048576) (q1 : 1048576 < (n0) + (n1 + m1)) (vn0 : n0 ≤ maxLen) (vn1 : n1 ≤ maxLen) (vm1 : m1 ≤ maxLen) :
    Calls Try.prog 8 #[.slice A0 n0 cap0, .agg #[.slice A1 n1 cap1, .slice B1 m1 cbp1], .int .i64 i2] w fun e w' => e = .returned (.bool true) ∧ Below w.heap.size w w' := by
  have hB := Below.refl w.heap.size w
  have hl_5 : (0 : Int) ≤ 1048576 - (n0 : Int) := by omega
  go_enter Try.func8, Try.ntmps8
  go_wp2_with fail
  have hb_1 : Below w.heap.size w (w.alloc (.cells #[.slice A1 n1 cap1, .slice B1 m1 cbp1] 37)) := bnew _ _
  have sz_2 : w.heap.size < (w.alloc (.cells #[.slice A1 n1 cap1, .slice B1 m1 cbp1] 37)).heap.size := by simp
  have a1_0 : (w.alloc (.cells #[.slice A1 n1 cap1, .slice B1 m1 cbp1] 37)).cell? ⟨w.heap.size, 0, none⟩ = some (.slice A1 n1 cap1) := by simp
  have a1_1 : (w.alloc (.cells #[.slice A1 n1 cap1, .slice B1 m1 cbp1] 37)).cell? ⟨w.heap.size, 1, none⟩ = some (.slice B1 m1 cbp1) := by simp
  have a1_l := sz_2
  generalize w.alloc (.cells #[.slice A1 n1 cap1, .slice B1 m1 cbp1] 37) = w1 at hb_1 a1_0 a1_1 sz_2 a1_l ⊢
  replace in0 := in0.next hb_1 (by omega)
  replace in1a := in1a.next hb_1 (by omega)
  replace in1b := in1b.next hb_1 (by omega)
  replace hB := hB.trans (hb_1.mono hB.size)
  have sz_3 := hb_1.size
  refine (szInstrS_k A0 n0 cap0 _ _ (by omega) (by omega) (by first | assumption | (unfold maxLen; omega))).mono ?_
  rintro e w2 ⟨rfl, hb_4⟩
  rw [szv_yes (by omega)]
  replace in0 := in0.next hb_4 (by omega)
  replace in1a := in1a.next hb_4 (by omega)
  replace in1b := in1b.next hb_4 (by omega)
  replace a1_0 := cell_next a1_0 hb_4
  replace a1_1 := cell_next a1_1 hb_4
  replace a1_l := Nat.lt_of_lt_of_le a1_l hb_4.size
  replace hB := hB.trans (hb_4.mono hB.size)
  have sz_6 := hb_4.size
  go_wp2_with fail
  refine (szState_k A1 n1 cap1 B1 m1 cbp1 _ _ (by omega) (by omega) (by first | assumption | (unfold maxLen; omega)) (by first | assumption | (unfold maxLen; omega))).mono ?_
  rintro e w3 ⟨rfl, hb_7⟩
  rw [szv_no (by omega)]
  replace in0 := in0.next hb_7 (by omega)
  replace in1a := in1a.next hb_7 (by omega)
  replace in1b := in1b.next hb_7 (by omega)
  replace a1_0 := cell_next a1_0 hb_7
  replace a1_1 := cell_next a1_1 hb_7
  replace a1_l := Nat.lt_of_lt_of_le a1_l hb_7.size
  replace hB := hB.trans (hb_7.mono hB.size)
  have sz_8 := hb_7.size
  go_wp2_with fail
  go_ret
  exact ⟨rfl, hB⟩

set_option maxRecDepth 100000 in
set_option maxHeartbeats 8000000 in
theorem road (A0 : Option Addr) (n0 cap0 : Nat) (t0 : List (Int × Int)) (A1 : Option Addr) (n1 cap1 : Nat) (z1 : List Int) (B1 : Option Addr) (m1 cbp1 : Nat) (y1 : List Int) (i2 : Int) (w : World) (in0 : InC w w.heap.size A0 n0 t0) (h0ok : n0 ≤ 1048576) (in1a : InL w w.heap.size A1 n1 z1) (in1b : InL w w.heap.size B1 m1 y1) (h1ok : n1 ≤ 1048576) (h1gok : m1 ≤ 1048576) (h1sum : n1 + m1 ≤ 1048576) (hsum : (n0) + (n1 + m1) ≤ 1048576) (y00 : List Int) (l00 : Nat) (r1 : Bool) (k00 : l00 ≤ 1000)
    (HS0 : ∀ (w0 : World) (a00 : Option Addr) (u00 : Nat) (a10 : Option Addr) (u10 : Nat) (a11 : Option Addr) (u11 : Nat), InC w0 w0.heap.size a00 n0 t0 → InL w0 w0.heap.size a10 n1 z1 → InL w0 w0.heap.size a11 m1 y1 → Calls Try.prog 41 #[.slice a00 n0 u00, .agg #[.slice a10 n1 u10, .slice a11 m1 u11], .int .i64 i2] w0 fun e w1 => ∃ (R00 : Option Addr) (d00 : Nat), e = .returned (.tuple #[.slice R00 l00 d00, .bool r1]) ∧ OwnL w1 w0.heap.size w1.heap.size R00 l00 d00 y00 ∧ Below w0.heap.size w0 w1)
    (HI0 : ∀ (w0 : World) (a00 : Option Addr) (u00 : Nat) (a10 : Option Addr) (u10 : Nat) (a11 : Option Addr) (u11 : Nat), InC w0 w0.heap.size a00 n0 t0 → InL w0 w0.heap.size a10 n1 z1 → InL w0 w0.heap.size a11 m1 y1 → Calls Try.prog 42 #[.slice a00 n0 u00, .agg #[.slice a10 n1 u10, .slice a11 m1 u11], .int .i64 i2] w0 fun e w1 => ∃ (R00 : Option Addr) (d00 : Nat), e = .returned (.tuple #[.slice R00 l00 d00, .bool r1]) ∧ OwnL w1 w0.heap.size w1.heap.size R00 l00 d00 y00 ∧ Below w0.heap.size w0 w1) :
    Calls Try.prog 8 #[.slice A0 n0 cap0, .agg #[.slice A1 n1 cap1, .slice B1 m1 cbp1], .int .i64 i2] w fun e w' => e = .returned (.bool true) ∧ Below w.heap.size w w' := by
  have HS := Lib.hid HS0
  have HI := Lib.hid HI0
  clear HS0 HI0
  have hB := Below.refl w.heap.size w
  have hl_5 : (0 : Int) ≤ 1048576 - (n0 : Int) := by omega
  have hl_8 : (0 : Int) ≤ 1048576 - (n0 : Int) - ((n1 + m1 : Nat) : Int) := by omega
  go_enter Try.func8, Try.ntmps8
  go_wp2_with fail
  have hb_1 : Below w.heap.size w (w.alloc (.cells #[.slice A1 n1 cap1, .slice B1 m1 cbp1] 37)) := bnew _ _
  have sz_2 : w.heap.size < (w.alloc (.cells #[.slice A1 n1 cap1, .slice B1 m1 cbp1] 37)).heap.size := by simp
  have a1_0 : (w.alloc (.cells #[.slice A1 n1 cap1, .slice B1 m1 cbp1] 37)).cell? ⟨w.heap.size, 0, none⟩ = some (.slice A1 n1 cap1) := by simp
  have a1_1 : (w.alloc (.cells #[.slice A1 n1 cap1, .slice B1 m1 cbp1] 37)).cell? ⟨w.heap.size, 1, none⟩ = some (.slice B1 m1 cbp1) := by simp
  have a1_l := sz_2
  generalize w.alloc (.cells #[.slice A1 n1 cap1, .slice B1 m1 cbp1] 37) = w1 at hb_1 a1_0 a1_1 sz_2 a1_l ⊢
  replace in0 := in0.next hb_1 (by omega)
  replace in1a := in1a.next hb_1 (by omega)
  replace in1b := in1b.next hb_1 (by omega)
  replace hB := hB.trans (hb_1.mono hB.size)
  have sz_3 := hb_1.size
  refine (szInstrS_k A0 n0 cap0 _ _ (by omega) (by omega) (by first | assumption | (unfold maxLen; omega))).mono ?_
  rintro e w2 ⟨rfl, hb_4⟩
  rw [szv_yes (by omega)]
  replace in0 := in0.next hb_4 (by omega)
  replace in1a := in1a.next hb_4 (by omega)
  replace in1b := in1b.next hb_4 (by omega)
  replace a1_0 := cell_next a1_0 hb_4
  replace a1_1 := cell_next a1_1 hb_4
  replace a1_l := Nat.lt_of_lt_of_le a1_l hb_4.size
  replace hB := hB.trans (hb_4.mono hB.size)
  have sz_6 := hb_4.size
  go_wp2_with fail
  refine (szState_k A1 n1 cap1 B1 m1 cbp1 _ _ (by omega) (by omega) (by first | assumption | (unfold maxLen; omega)) (by first | assumption | (unfold maxLen; omega))).mono ?_
  rintro e w3 ⟨rfl, hb_7⟩
  rw [szv_yes (by omega)]
  replace in0 := in0.next hb_7 (by omega)
  replace in1a := in1a.next hb_7 (by omega)
  replace in1b := in1b.next hb_7 (by omega)
  replace a1_0 := cell_next a1_0 hb_7
  replace a1_1 := cell_next a1_1 hb_7
  replace a1_l := Nat.lt_of_lt_of_le a1_l hb_7.size
  replace hB := hB.trans (hb_7.mono hB.size)
  have sz_9 := hb_7.size
  go_wp2_with fail
  go_cut [8, 9] (fun s8 s9 wx => ∃ (R_10 : Option Addr) (d_11 : Nat) (lo_15 hi_16 : Nat), s8 = .slice R_10 l00 d_11 ∧ s9 = .bool r1 ∧ OwnL wx lo_15 hi_16 R_10 l00 d_11 y00 ∧ (w3.heap.size ≤ lo_15 ∧ lo_15 ≤ hi_16 ∧ hi_16 ≤ wx.heap.size) ∧ Below w3.heap.size w3 wx)
  case first =>
    have HT_19 := Lib.hid (fun (x : World) (h : Below w3.drew.heap.size w3.drew x) => toInstrS_k A0 n0 cap0 _ t0 x (in0.call (by omega) h) (le_call (by omega) h) h0ok)
    have HT_24 := Lib.hid (fun (x : World) (h : Below w3.drew.heap.size w3.drew x) => toState_k A1 n1 cap1 _ z1 B1 m1 cbp1 y1 x (in1a.call (by omega) h) (in1b.call (by omega) h) (le_call (by omega) h) h1ok h1gok)
    have hD0 : Below w3.drew.heap.size w3.drew w3.drew := Below.refl _ _
    have sc0_0 : w3.drew.cell? ⟨w.heap.size, 0, none⟩ = some (.slice A1 n1 cap1) := a1_0
    have sc1_0 : w3.drew.cell? ⟨w.heap.size, 1, none⟩ = some (.slice B1 m1 cbp1) := a1_1
    refine wp_region_held_drew (S := fun w' => w'.cell? ⟨w.heap.size, 0, none⟩ = some (.slice A1 n1 cap1) ∧ w'.cell? ⟨w.heap.size, 1, none⟩ = some (.slice B1 m1 cbp1)) (by kernel_rfl) ⟨sc0_0, sc1_0⟩ ?_
    intro hHeld0
    refine wpAnyH_take (i := 0) (v := ?_) rfl (by kernel_rfl) (by kernel_rfl) (by kernel_rfl) (fun _ _ _ h => h) (Or.inl ⟨by kernel_rfl, ?_⟩) (by assumption) ?_
    rotate_left
    · intro w9 hS9; (try dsimp only at hS9); go_simp; (try with_reducible rfl)
    set_option linter.unusedSimpArgs false in try simp only [Act.put, List.getElem_toArray, List.getElem_cons_succ, List.getElem_cons_zero, List.setIfInBounds_toArray, List.set_cons_zero, List.set_cons_succ]
    refine wpAnyH_take (i := 2) (v := ?_) rfl (by kernel_rfl) (by kernel_rfl) (by kernel_rfl) (fun _ _ _ h => h) (Or.inl ⟨by kernel_rfl, ?_⟩) (by assumption) ?_
    rotate_left
    · intro w9 hS9; (try dsimp only at hS9); go_simp; (try with_reducible rfl)
    set_option linter.unusedSimpArgs false in try simp only [Act.put, List.getElem_toArray, List.getElem_cons_succ, List.getElem_cons_zero, List.setIfInBounds_toArray, List.set_cons_zero, List.set_cons_succ]
    refine wpAnyH_take (i := 4) (v := ?_) rfl (by kernel_rfl) (by kernel_rfl) (by kernel_rfl) (fun _ _ _ h => h) (Or.inl ⟨by kernel_rfl, ?_⟩) (by assumption) ?_
    rotate_left
    · intro w9 hS9; (try dsimp only at hS9); go_simp; (try with_reducible rfl)
    set_option linter.unusedSimpArgs false in try simp only [Act.put, List.getElem_toArray, List.getElem_cons_succ, List.getElem_cons_zero, List.setIfInBounds_toArray, List.set_cons_zero, List.set_cons_succ]
    refine wpAnyH_ready (rs := [1]) (by kernel_rfl) (by simp) ?_
    refine AllReadyH.cons rfl (fun K hK => ?_) AllReadyH.nil
    go_simp
    go_wp2_with (go_at_call 18; refine (HT_19.out _ (hD0)).mono ?_; rintro e v1 ⟨g_22, rfl, oa2, hb1⟩)
    have hw1 := bon (hD0) hb1
    have sc0_3 := cell_next (show w3.drew.cell? _ = _ from sc0_0) hb1
    have sc1_4 := cell_next (show w3.drew.cell? _ = _ from sc1_0) hb1
    refine hK.out _ _ ⟨sc0_3, sc1_4⟩ (fun hHeld5 => ?_)
    clear hK K hHeld0
    set_option linter.unusedSimpArgs false in try simp only [Act.put, List.getElem_toArray, List.getElem_cons_succ, List.getElem_cons_zero, List.setIfInBounds_toArray, List.set_cons_zero, List.set_cons_succ]
    refine wpAnyH_ready (rs := [3]) (by kernel_rfl) (by simp) ?_
    refine AllReadyH.cons rfl (fun K hK => ?_) AllReadyH.nil
    go_simp
    go_wp2_with (go_at_call 33; refine (HT_24.out _ (hw1)).mono ?_; rintro e v6 ⟨g_27, g_28, mz0, rfl, oa7, oa8, mdz, hb6⟩)
    have hw6 := bon (hw1) hb6
    have sc0_9 := cell_next (show v1.cell? _ = _ from sc0_3) hb6
    have sc1_10 := cell_next (show v1.cell? _ = _ from sc1_4) hb6
    have oa2_11 := oa2.next hb6
    refine hK.out _ _ ⟨sc0_9, sc1_10⟩ (fun hHeld12 => ?_)
    clear hK K hHeld5
    set_option linter.unusedSimpArgs false in try simp only [Act.put, List.getElem_toArray, List.getElem_cons_succ, List.getElem_cons_zero, List.setIfInBounds_toArray, List.set_cons_zero, List.set_cons_succ]
    refine wpAnyH_ready (rs := [5]) (by kernel_rfl) (by simp) ?_
    refine AllReadyH.cons rfl (fun K hK => ?_) AllReadyH.nil
    go_simp
    go_wp2_with (go_at_call 41; refine (HS.out _ _ _ _ _ _ _ oa2_11.all oa7.all oa8.all).mono ?_; rintro e v13 ⟨R_10, d_11, rfl, op14, hb13⟩)
    have hw13 := bon (hw6) hb13
    have sc0_15 := cell_next (show v6.cell? _ = _ from sc0_9) hb13
    have sc1_16 := cell_next (show v6.cell? _ = _ from sc1_10) hb13
    have oa2_11_17 := oa2_11.next hb13
    have oa7_18 := oa7.next hb13
    have oa8_19 := oa8.next hb13
    refine hK.out _ _ ⟨sc0_15, sc1_16⟩ (fun hHeld20 => ?_)
    clear hK K hHeld12
    set_option linter.unusedSimpArgs false in try simp only [Act.put, List.getElem_toArray, List.getElem_cons_succ, List.getElem_cons_zero, List.setIfInBounds_toArray, List.set_cons_zero, List.set_cons_succ]
    refine wpAnyH_take (i := 6) (v := ?_) rfl (by kernel_rfl) (by kernel_rfl) (by kernel_rfl) (fun _ _ _ h => h) (Or.inl ⟨by kernel_rfl, ?_⟩) (by assumption) ?_
    rotate_left
    · intro w9 hS9; (try dsimp only at hS9); go_simp; (try with_reducible rfl)
    set_option linter.unusedSimpArgs false in try simp only [Act.put, List.getElem_toArray, List.getElem_cons_succ, List.getElem_cons_zero, List.setIfInBounds_toArray, List.set_cons_zero, List.set_cons_succ]
    refine wpAnyH_take (i := 7) (v := ?_) rfl (by kernel_rfl) (by kernel_rfl) (by kernel_rfl) (fun _ _ _ h => h) (Or.inl ⟨by kernel_rfl, ?_⟩) (by assumption) ?_
    rotate_left
    · intro w9 hS9; (try dsimp only at hS9); go_simp; (try with_reducible rfl)
    set_option linter.unusedSimpArgs false in try simp only [Act.put, List.getElem_toArray, List.getElem_cons_succ, List.getElem_cons_zero, List.setIfInBounds_toArray, List.set_cons_zero, List.set_cons_succ]
    refine wpAnyH_take (i := 8) (v := ?_) rfl (by kernel_rfl) (by kernel_rfl) (by kernel_rfl) (fun _ _ _ h => h) (Or.inl ⟨by kernel_rfl, ?_⟩) (by assumption) ?_
    rotate_left
    · intro w9 hS9; (try dsimp only at hS9); go_simp; (try with_reducible rfl)
    set_option linter.unusedSimpArgs false in try simp only [Act.put, List.getElem_toArray, List.getElem_cons_succ, List.getElem_cons_zero, List.setIfInBounds_toArray, List.set_cons_zero, List.set_cons_succ]
    refine wpAnyH_take (i := 9) (v := ?_) rfl (by kernel_rfl) (by kernel_rfl) (by kernel_rfl) (fun _ _ _ h => h) (Or.inl ⟨by kernel_rfl, ?_⟩) (by assumption) ?_
    rotate_left
    · intro w9 hS9; (try dsimp only at hS9); go_simp; (try with_reducible rfl)
    set_option linter.unusedSimpArgs false in try simp only [Act.put, List.getElem_toArray, List.getElem_cons_succ, List.getElem_cons_zero, List.setIfInBounds_toArray, List.set_cons_zero, List.set_cons_succ]
    refine wpAnyH_take (i := 10) (v := ?_) rfl (by kernel_rfl) (by kernel_rfl) (by kernel_rfl) (fun _ _ _ h => h) (Or.inl ⟨by kernel_rfl, ?_⟩) (by assumption) ?_
    rotate_left
    · intro w9 hS9; (try dsimp only at hS9); go_simp; (try with_reducible rfl)
    set_option linter.unusedSimpArgs false in try simp only [Act.put, List.getElem_toArray, List.getElem_cons_succ, List.getElem_cons_zero, List.setIfInBounds_toArray, List.set_cons_zero, List.set_cons_succ]
    refine wpAnyH_done (by kernel_rfl) ?_ _
    go_wp2_with fail
    go_meet
    exact ⟨_, _, _, _, rfl, rfl, op14, ⟨(bstep (hw6)).size, hb13.size, Nat.le_refl _⟩, bon (bstep (hw6)) hb13⟩
  case rest =>
    obtain ⟨R_10, d_11, lo_15, hi_16, rfl, rfl, own_14, sz_17, hb_18⟩ := hcut
    obtain ⟨w4, hwx⟩ : ∃ x, x = wc := ⟨_, rfl⟩
    subst hwx
    replace in0 := in0.next hb_18 (by omega)
    replace in1a := in1a.next hb_18 (by omega)
    replace in1b := in1b.next hb_18 (by omega)
    replace a1_0 := cell_next a1_0 hb_18
    replace a1_1 := cell_next a1_1 hb_18
    replace a1_l := Nat.lt_of_lt_of_le a1_l hb_18.size
    replace hB := hB.trans (hb_18.mono hB.size)
    have sz_38 := hb_18.size
    go_wp2_with fail
    refine (toInstrS_k A0 n0 cap0 _ t0 _ in0 (by omega) h0ok).mono ?_
    rintro e w5 ⟨g_39, rfl, own_40, hb_41⟩
    replace in0 := in0.next hb_41 (by omega)
    replace in1a := in1a.next hb_41 (by omega)
    replace in1b := in1b.next hb_41 (by omega)
    replace a1_0 := cell_next a1_0 hb_41
    replace a1_1 := cell_next a1_1 hb_41
    replace a1_l := Nat.lt_of_lt_of_le a1_l hb_41.size
    replace own_14 := own_14.next hb_41
    replace hB := hB.trans (hb_41.mono hB.size)
    have sz_42 := hb_41.size
    go_wp2_with fail
    refine (toState_k A1 n1 cap1 _ z1 B1 m1 cbp1 y1 _ in1a in1b (by omega) h1ok h1gok).mono ?_
    rintro e w6 ⟨g_43, g_44, mid_48, rfl, own_45, own_46, md_49, hb_47⟩
    replace in0 := in0.next hb_47 (by omega)
    replace in1a := in1a.next hb_47 (by omega)
    replace in1b := in1b.next hb_47 (by omega)
    replace a1_0 := cell_next a1_0 hb_47
    replace a1_1 := cell_next a1_1 hb_47
    replace a1_l := Nat.lt_of_lt_of_le a1_l hb_47.size
    replace own_14 := own_14.next hb_47
    replace own_40 := own_40.next hb_47
    replace hB := hB.trans (hb_47.mono hB.size)
    have sz_50 := hb_47.size
    go_wp2_with fail
    have hb_51 : Below w6.heap.size w6 (w6.alloc (.cells #[.slice (some ⟨g_43, 0, none⟩) n1 n1, .slice (some ⟨g_44, 0, none⟩) m1 m1] 42)) := bnew _ _
    have sz_52 : w6.heap.size < (w6.alloc (.cells #[.slice (some ⟨g_43, 0, none⟩) n1 n1, .slice (some ⟨g_44, 0, none⟩) m1 m1] 42)).heap.size := by simp
    have x1_0 : (w6.alloc (.cells #[.slice (some ⟨g_43, 0, none⟩) n1 n1, .slice (some ⟨g_44, 0, none⟩) m1 m1] 42)).cell? ⟨w6.heap.size, 0, none⟩ = some (.slice (some ⟨g_43, 0, none⟩) n1 n1) := by simp
    have x1_1 : (w6.alloc (.cells #[.slice (some ⟨g_43, 0, none⟩) n1 n1, .slice (some ⟨g_44, 0, none⟩) m1 m1] 42)).cell? ⟨w6.heap.size, 1, none⟩ = some (.slice (some ⟨g_44, 0, none⟩) m1 m1) := by simp
    have x1_l := sz_52
    generalize w6.alloc (.cells #[.slice (some ⟨g_43, 0, none⟩) n1 n1, .slice (some ⟨g_44, 0, none⟩) m1 m1] 42) = w7 at hb_51 x1_0 x1_1 sz_52 x1_l ⊢
    replace in0 := in0.next hb_51 (by omega)
    replace in1a := in1a.next hb_51 (by omega)
    replace in1b := in1b.next hb_51 (by omega)
    replace a1_0 := cell_next a1_0 hb_51
    replace a1_1 := cell_next a1_1 hb_51
    replace a1_l := Nat.lt_of_lt_of_le a1_l hb_51.size
    replace own_14 := own_14.next hb_51
    replace own_40 := own_40.next hb_51
    replace own_45 := own_45.next hb_51
    replace own_46 := own_46.next hb_51
    replace hB := hB.trans (hb_51.mono hB.size)
    have sz_53 := hb_51.size
    refine (HI.out w7 _ _ _ _ _ _ ((own_40.inn).more (by omega)) ((own_45.inn).more (by omega)) ((own_46.inn).more (by omega))).mono ?_
    rintro e w8 ⟨R_55, d_56, rfl, own_57, hb_54⟩
    replace in0 := in0.next hb_54 (by omega)
    replace in1a := in1a.next hb_54 (by omega)
    replace in1b := in1b.next hb_54 (by omega)
    replace a1_0 := cell_next a1_0 hb_54
    replace a1_1 := cell_next a1_1 hb_54
    replace a1_l := Nat.lt_of_lt_of_le a1_l hb_54.size
    replace own_14 := own_14.next hb_54
    replace own_40 := own_40.next hb_54
    replace own_45 := own_45.next hb_54
    replace own_46 := own_46.next hb_54
    replace x1_0 := cell_next x1_0 hb_54
    replace x1_1 := cell_next x1_1 hb_54
    replace x1_l := Nat.lt_of_lt_of_le x1_l hb_54.size
    replace hB := hB.trans (hb_54.mono hB.size)
    have sz_58 := hb_54.size
    go_wp2_with fail
    -- if !eqInt64S(g0, w0) || g1 != w1 {
    refine (eqInt64S_k R_55 R_10 l00 d_56 d_11 _ _ y00 _ own_57.inn own_14.inn (by omega) (by omega) (by omega)).mono ?_
    rintro e w9 ⟨rfl, hb_59⟩
    replace in0 := in0.next hb_59 (by omega)
    replace in1a := in1a.next hb_59 (by omega)
    replace in1b := in1b.next hb_59 (by omega)
    replace a1_0 := cell_next a1_0 hb_59
    replace a1_1 := cell_next a1_1 hb_59
    replace a1_l := Nat.lt_of_lt_of_le a1_l hb_59.size
    replace own_14 := own_14.next hb_59
    replace own_40 := own_40.next hb_59
    replace own_45 := own_45.next hb_59
    replace own_46 := own_46.next hb_59
    replace x1_0 := cell_next x1_0 hb_59
    replace x1_1 := cell_next x1_1 hb_59
    replace x1_l := Nat.lt_of_lt_of_le x1_l hb_59.size
    replace own_57 := own_57.next hb_59
    replace hB := hB.trans (hb_59.mono hB.size)
    have sz_60 := hb_59.size
    go_wp2_with fail
    refine (toInstrS_k A0 n0 cap0 _ t0 _ in0 (by omega) h0ok).mono ?_
    rintro e w10 ⟨g_61, rfl, own_62, hb_63⟩
    replace in0 := in0.next hb_63 (by omega)
    replace in1a := in1a.next hb_63 (by omega)
    replace in1b := in1b.next hb_63 (by omega)
    replace a1_0 := cell_next a1_0 hb_63
    replace a1_1 := cell_next a1_1 hb_63
    replace a1_l := Nat.lt_of_lt_of_le a1_l hb_63.size
    replace own_14 := own_14.next hb_63
    replace own_40 := own_40.next hb_63
    replace own_45 := own_45.next hb_63
    replace own_46 := own_46.next hb_63
    replace x1_0 := cell_next x1_0 hb_63
    replace x1_1 := cell_next x1_1 hb_63
    replace x1_l := Nat.lt_of_lt_of_le x1_l hb_63.size
    replace own_57 := own_57.next hb_63
    replace hB := hB.trans (hb_63.mono hB.size)
    have sz_64 := hb_63.size
    go_wp2_with fail
    refine (eqInstrS_k (some ⟨g_39, 0, none⟩) (some ⟨g_61, 0, none⟩) n0 n0 n0 _ _ t0 _ own_40.inn own_62.inn (by omega) (by omega) h0ok).mono ?_
    rintro e w11 ⟨rfl, hb_65⟩
    clear own_62
    replace in0 := in0.next hb_65 (by omega)
    replace in1a := in1a.next hb_65 (by omega)
    replace in1b := in1b.next hb_65 (by omega)
    replace a1_0 := cell_next a1_0 hb_65
    replace a1_1 := cell_next a1_1 hb_65
    replace a1_l := Nat.lt_of_lt_of_le a1_l hb_65.size
    replace own_14 := own_14.next hb_65
    replace own_40 := own_40.next hb_65
    replace own_45 := own_45.next hb_65
    replace own_46 := own_46.next hb_65
    replace x1_0 := cell_next x1_0 hb_65
    replace x1_1 := cell_next x1_1 hb_65
    replace x1_l := Nat.lt_of_lt_of_le x1_l hb_65.size
    replace own_57 := own_57.next hb_65
    replace hB := hB.trans (hb_65.mono hB.size)
    have sz_66 := hb_65.size
    go_wp2_with fail
    have HT_67 := Lib.hid (toState_k A1 n1 cap1 _ z1 B1 m1 cbp1 y1 w11.drew in1a.drew in1b.drew (by show _ ≤ w11.heap.size; omega) h1ok h1gok)
    have HE_68 : Hid (∀ w12 g_69 g_70 mid_74, Below w11.drew.heap.size w11.drew w12 → OwnL w12 w11.drew.heap.size mid_74 (some ⟨g_69, 0, none⟩) n1 n1 z1 → OwnL w12 mid_74 w12.heap.size (some ⟨g_70, 0, none⟩) m1 m1 y1 → w11.drew.heap.size ≤ mid_74 ∧ mid_74 ≤ w12.heap.size → Calls Try.prog 35 #[.agg #[.slice (some ⟨g_43, 0, none⟩) n1 n1, .slice (some ⟨g_44, 0, none⟩) m1 m1], .agg #[.slice (some ⟨g_69, 0, none⟩) n1 n1, .slice (some ⟨g_70, 0, none⟩) m1 m1]] w12 fun e w' => e = .returned (.bool true) ∧ Below w12.heap.size w12 w') := fun w12 g_69 g_70 mid_74 hb_73 own_71 own_72 md_75 => eqState_k (some ⟨g_43, 0, none⟩) (some ⟨g_69, 0, none⟩) n1 n1 n1 z1 (some ⟨g_44, 0, none⟩) (some ⟨g_70, 0, none⟩) m1 m1 m1 y1 (w12.heap.size) (w12.heap.size) w12 (((own_45.inn).call (by omega) hb_73).more (le_call (by omega) hb_73)) (((own_46.inn).call (by omega) hb_73).more (le_call (by omega) hb_73)) ((own_71.inn).more (by omega)) ((own_72.inn).more (by omega)) (Nat.le_refl _) (Nat.le_refl _) h1ok h1gok
    go_region_held3 (fun w' => w'.cell? ⟨w.heap.size, 0, none⟩ = some (.slice A1 n1 cap1) ∧ w'.cell? ⟨w.heap.size, 1, none⟩ = some (.slice B1 m1 cbp1) ∧ w'.cell? ⟨w6.heap.size, 0, none⟩ = some (.slice (some ⟨g_43, 0, none⟩) n1 n1) ∧ w'.cell? ⟨w6.heap.size, 1, none⟩ = some (.slice (some ⟨g_44, 0, none⟩) m1 m1))
      (first | go_keep | exact ⟨cell_on a1_0 hb_73, cell_on a1_1 hb_73, cell_on x1_0 hb_73, cell_on x1_1 hb_73⟩ | exact ⟨cell_on2 a1_0 hb_73 hb_77, cell_on2 a1_1 hb_73 hb_77, cell_on2 x1_0 hb_73 hb_77, cell_on2 x1_1 hb_73 hb_77⟩)
      (first | (go_at_call 33; refine HT_67.out.mono ?_; rintro e w12 ⟨g_69, g_70, mid_74, rfl, own_71, own_72, md_75, hb_73⟩) | (go_at_call 35; refine (HE_68.out _ _ _ _ hb_73 own_71 own_72 md_75).mono ?_; rintro e w13 ⟨rfl, hb_77⟩))
    replace hb_73 := (bstep hb_73)
    replace in0 := in0.next hb_73 (by omega)
    replace in1a := in1a.next hb_73 (by omega)
    replace in1b := in1b.next hb_73 (by omega)
    replace a1_0 := cell_next a1_0 hb_73
    replace a1_1 := cell_next a1_1 hb_73
    replace a1_l := Nat.lt_of_lt_of_le a1_l hb_73.size
    replace own_14 := own_14.next hb_73
    replace own_40 := own_40.next hb_73
    replace own_45 := own_45.next hb_73
    replace own_46 := own_46.next hb_73
    replace x1_0 := cell_next x1_0 hb_73
    replace x1_1 := cell_next x1_1 hb_73
    replace x1_l := Nat.lt_of_lt_of_le x1_l hb_73.size
    replace own_57 := own_57.next hb_73
    replace hB := hB.trans (hb_73.mono hB.size)
    have sz_78 := hb_73.size
    replace in0 := in0.next hb_77 (by omega)
    replace in1a := in1a.next hb_77 (by omega)
    replace in1b := in1b.next hb_77 (by omega)
    replace a1_0 := cell_next a1_0 hb_77
    replace a1_1 := cell_next a1_1 hb_77
    replace a1_l := Nat.lt_of_lt_of_le a1_l hb_77.size
    replace own_14 := own_14.next hb_77
    replace own_40 := own_40.next hb_77
    replace own_45 := own_45.next hb_77
    replace own_46 := own_46.next hb_77
    replace x1_0 := cell_next x1_0 hb_77
    replace x1_1 := cell_next x1_1 hb_77
    replace x1_l := Nat.lt_of_lt_of_le x1_l hb_77.size
    replace own_57 := own_57.next hb_77
    replace hB := hB.trans (hb_77.mono hB.size)
    have sz_79 := hb_77.size
    clear HT_67 HE_68 own_71 own_72
    go_wp2_with fail
    refine (markInstrS_k w4.heap.size w5.heap.size (some ⟨g_39, 0, none⟩) n0 n0 t0 1 _ own_40 (by omega) (by omega) (by omega)).mono ?_
    rintro e w14 ⟨rfl, own_81, ho_80⟩
    replace in0 := in0.out ho_80 (by omega) (by omega)
    replace in1a := in1a.out ho_80 (by omega) (by omega)
    replace in1b := in1b.out ho_80 (by omega) (by omega)
    replace a1_0 := ho_80.cell a1_0 (by omega)
    replace a1_1 := ho_80.cell a1_1 (by omega)
    replace a1_l := Nat.lt_of_lt_of_le a1_l ho_80.size
    replace own_14 := own_14.out ho_80 (by omega)
    replace own_45 := own_45.out ho_80 (by omega)
    replace own_46 := own_46.out ho_80 (by omega)
    replace x1_0 := ho_80.cell x1_0 (by omega)
    replace x1_1 := ho_80.cell x1_1 (by omega)
    replace x1_l := Nat.lt_of_lt_of_le x1_l ho_80.size
    replace own_57 := own_57.out ho_80 (by omega)
    replace hB := hB.trans (ho_80.below (by omega) (by omega))
    have sz_82 := ho_80.size
    clear own_40
    clear own_81
    go_wp2_with fail
    refine (markState_k w5.heap.size mid_48 w6.heap.size (some ⟨g_43, 0, none⟩) n1 n1 z1 (some ⟨g_44, 0, none⟩) m1 m1 y1 (1 + 2 * (n0 : Int)) _ own_45 own_46 (by omega) (by omega) (by omega) (by omega) (by omega) (by omega)).mono ?_
    rintro e w15 ⟨rfl, own_84, own_85, ho_83⟩
    replace in0 := in0.out ho_83 (by omega) (by omega)
    replace in1a := in1a.out ho_83 (by omega) (by omega)
    replace in1b := in1b.out ho_83 (by omega) (by omega)
    replace a1_0 := ho_83.cell a1_0 (by omega)
    replace a1_1 := ho_83.cell a1_1 (by omega)
    replace a1_l := Nat.lt_of_lt_of_le a1_l ho_83.size
    replace own_14 := own_14.out ho_83 (by omega)
    replace x1_0 := ho_83.cell x1_0 (by omega)
    replace x1_1 := ho_83.cell x1_1 (by omega)
    replace x1_l := Nat.lt_of_lt_of_le x1_l ho_83.size
    replace own_57 := own_57.out ho_83 (by omega)
    replace hB := hB.trans (ho_83.below (by omega) (by omega))
    have sz_86 := ho_83.size
    clear own_45 own_46
    have mk_87 : (0 : Int) ≤ 1 + 2 * (n0 : Int) + (n1 : Int) + (m1 : Int) := by omega
    clear x1_0 x1_1 x1_l
    clear own_84 own_85
    go_wp2_with fail
    -- if k < 0 || !eqInt64S(g0, w0) || g1 != w1 {
    refine (eqInt64S_k R_55 R_10 l00 d_56 d_11 _ _ y00 _ own_57.inn own_14.inn (by omega) (by omega) (by omega)).mono ?_
    rintro e w16 ⟨rfl, hb_88⟩
    replace in0 := in0.next hb_88 (by omega)
    replace in1a := in1a.next hb_88 (by omega)
    replace in1b := in1b.next hb_88 (by omega)
    replace a1_0 := cell_next a1_0 hb_88
    replace a1_1 := cell_next a1_1 hb_88
    replace a1_l := Nat.lt_of_lt_of_le a1_l hb_88.size
    replace own_14 := own_14.next hb_88
    replace own_57 := own_57.next hb_88
    replace hB := hB.trans (hb_88.mono hB.size)
    have sz_89 := hb_88.size
    go_wp2_with fail
    refine (markInt64S_k w7.heap.size w8.heap.size R_55 l00 d_56 y00 1 _ own_57 (by omega) (by omega) (by omega)).mono ?_
    rintro e w17 ⟨rfl, own_91, ho_90⟩
    replace in0 := in0.out ho_90 (by omega) (by omega)
    replace in1a := in1a.out ho_90 (by omega) (by omega)
    replace in1b := in1b.out ho_90 (by omega) (by omega)
    replace a1_0 := ho_90.cell a1_0 (by omega)
    replace a1_1 := ho_90.cell a1_1 (by omega)
    replace a1_l := Nat.lt_of_lt_of_le a1_l ho_90.size
    replace own_14 := own_14.out ho_90 (by omega)
    replace hB := hB.trans (ho_90.below (by omega) (by omega))
    have sz_92 := ho_90.size
    clear own_57
    go_wp2_with fail
    refine (heldInt64S_k R_55 l00 d_56 _ 1 _ own_91.inn (by omega) (by omega) (by omega)).mono ?_
    rintro e w18 ⟨rfl, hb_93⟩
    replace in0 := in0.next hb_93 (by omega)
    replace in1a := in1a.next hb_93 (by omega)
    replace in1b := in1b.next hb_93 (by omega)
    replace a1_0 := cell_next a1_0 hb_93
    replace a1_1 := cell_next a1_1 hb_93
    replace a1_l := Nat.lt_of_lt_of_le a1_l hb_93.size
    replace own_14 := own_14.next hb_93
    replace own_91 := own_91.next hb_93
    replace hB := hB.trans (hb_93.mono hB.size)
    have sz_94 := hb_93.size
    go_wp2_with fail
    go_cut [17, 18] (fun s17 s18 wx => ∃ (R_95 : Option Addr) (d_96 : Nat) (lo_100 hi_101 : Nat), s17 = .slice R_95 l00 d_96 ∧ s18 = .bool r1 ∧ OwnL wx lo_100 hi_101 R_95 l00 d_96 y00 ∧ (w18.heap.size ≤ lo_100 ∧ lo_100 ≤ hi_101 ∧ hi_101 ≤ wx.heap.size) ∧ Below w18.heap.size w18 wx)
    case first =>
      have HT_104 := Lib.hid (fun (x : World) (h : Below w18.drew.heap.size w18.drew x) => toInstrS_k A0 n0 cap0 _ t0 x (in0.call (by omega) h) (le_call (by omega) h) h0ok)
      have HT_109 := Lib.hid (fun (x : World) (h : Below w18.drew.heap.size w18.drew x) => toState_k A1 n1 cap1 _ z1 B1 m1 cbp1 y1 x (in1a.call (by omega) h) (in1b.call (by omega) h) (le_call (by omega) h) h1ok h1gok)
      have hD0 : Below w18.drew.heap.size w18.drew w18.drew := Below.refl _ _
      have sc0_0 : w18.drew.cell? ⟨w.heap.size, 0, none⟩ = some (.slice A1 n1 cap1) := a1_0
      have sc1_0 : w18.drew.cell? ⟨w.heap.size, 1, none⟩ = some (.slice B1 m1 cbp1) := a1_1
      refine wp_region_held_drew (S := fun w' => w'.cell? ⟨w.heap.size, 0, none⟩ = some (.slice A1 n1 cap1) ∧ w'.cell? ⟨w.heap.size, 1, none⟩ = some (.slice B1 m1 cbp1)) (by kernel_rfl) ⟨sc0_0, sc1_0⟩ ?_
      intro hHeld0
      refine wpAnyH_take (i := 0) (v := ?_) rfl (by kernel_rfl) (by kernel_rfl) (by kernel_rfl) (fun _ _ _ h => h) (Or.inl ⟨by kernel_rfl, ?_⟩) (by assumption) ?_
      rotate_left
      · intro w9 hS9; (try dsimp only at hS9); go_simp; (try with_reducible rfl)
      set_option linter.unusedSimpArgs false in try simp only [Act.put, List.getElem_toArray, List.getElem_cons_succ, List.getElem_cons_zero, List.setIfInBounds_toArray, List.set_cons_zero, List.set_cons_succ]
      refine wpAnyH_take (i := 2) (v := ?_) rfl (by kernel_rfl) (by kernel_rfl) (by kernel_rfl) (fun _ _ _ h => h) (Or.inl ⟨by kernel_rfl, ?_⟩) (by assumption) ?_
      rotate_left
      · intro w9 hS9; (try dsimp only at hS9); go_simp; (try with_reducible rfl)
      set_option linter.unusedSimpArgs false in try simp only [Act.put, List.getElem_toArray, List.getElem_cons_succ, List.getElem_cons_zero, List.setIfInBounds_toArray, List.set_cons_zero, List.set_cons_succ]
      refine wpAnyH_take (i := 4) (v := ?_) rfl (by kernel_rfl) (by kernel_rfl) (by kernel_rfl) (fun _ _ _ h => h) (Or.inl ⟨by kernel_rfl, ?_⟩) (by assumption) ?_
      rotate_left
      · intro w9 hS9; (try dsimp only at hS9); go_simp; (try with_reducible rfl)
      set_option linter.unusedSimpArgs false in try simp only [Act.put, List.getElem_toArray, List.getElem_cons_succ, List.getElem_cons_zero, List.setIfInBounds_toArray, List.set_cons_zero, List.set_cons_succ]
      refine wpAnyH_ready (rs := [1]) (by kernel_rfl) (by simp) ?_
      refine AllReadyH.cons rfl (fun K hK => ?_) AllReadyH.nil
      go_simp
      go_wp2_with (go_at_call 18; refine (HT_104.out _ (hD0)).mono ?_; rintro e v1 ⟨g_107, rfl, oa2, hb1⟩)
      have hw1 := bon (hD0) hb1
      have sc0_3 := cell_next (show w18.drew.cell? _ = _ from sc0_0) hb1
      have sc1_4 := cell_next (show w18.drew.cell? _ = _ from sc1_0) hb1
      refine hK.out _ _ ⟨sc0_3, sc1_4⟩ (fun hHeld5 => ?_)
      clear hK K hHeld0
      set_option linter.unusedSimpArgs false in try simp only [Act.put, List.getElem_toArray, List.getElem_cons_succ, List.getElem_cons_zero, List.setIfInBounds_toArray, List.set_cons_zero, List.set_cons_succ]
      refine wpAnyH_ready (rs := [3]) (by kernel_rfl) (by simp) ?_
      refine AllReadyH.cons rfl (fun K hK => ?_) AllReadyH.nil
      go_simp
      go_wp2_with (go_at_call 33; refine (HT_109.out _ (hw1)).mono ?_; rintro e v6 ⟨g_112, g_113, mz0, rfl, oa7, oa8, mdz, hb6⟩)
      have hw6 := bon (hw1) hb6
      have sc0_9 := cell_next (show v1.cell? _ = _ from sc0_3) hb6
      have sc1_10 := cell_next (show v1.cell? _ = _ from sc1_4) hb6
      have oa2_11 := oa2.next hb6
      refine hK.out _ _ ⟨sc0_9, sc1_10⟩ (fun hHeld12 => ?_)
      clear hK K hHeld5
      set_option linter.unusedSimpArgs false in try simp only [Act.put, List.getElem_toArray, List.getElem_cons_succ, List.getElem_cons_zero, List.setIfInBounds_toArray, List.set_cons_zero, List.set_cons_succ]
      refine wpAnyH_ready (rs := [5]) (by kernel_rfl) (by simp) ?_
      refine AllReadyH.cons rfl (fun K hK => ?_) AllReadyH.nil
      go_simp
      go_wp2_with (go_at_call 42; refine (HI.out _ _ _ _ _ _ _ oa2_11.all oa7.all oa8.all).mono ?_; rintro e v13 ⟨R_95, d_96, rfl, op14, hb13⟩)
      have hw13 := bon (hw6) hb13
      have sc0_15 := cell_next (show v6.cell? _ = _ from sc0_9) hb13
      have sc1_16 := cell_next (show v6.cell? _ = _ from sc1_10) hb13
      have oa2_11_17 := oa2_11.next hb13
      have oa7_18 := oa7.next hb13
      have oa8_19 := oa8.next hb13
      refine hK.out _ _ ⟨sc0_15, sc1_16⟩ (fun hHeld20 => ?_)
      clear hK K hHeld12
      set_option linter.unusedSimpArgs false in try simp only [Act.put, List.getElem_toArray, List.getElem_cons_succ, List.getElem_cons_zero, List.setIfInBounds_toArray, List.set_cons_zero, List.set_cons_succ]
      refine wpAnyH_take (i := 6) (v := ?_) rfl (by kernel_rfl) (by kernel_rfl) (by kernel_rfl) (fun _ _ _ h => h) (Or.inl ⟨by kernel_rfl, ?_⟩) (by assumption) ?_
      rotate_left
      · intro w9 hS9; (try dsimp only at hS9); go_simp; (try with_reducible rfl)
      set_option linter.unusedSimpArgs false in try simp only [Act.put, List.getElem_toArray, List.getElem_cons_succ, List.getElem_cons_zero, List.setIfInBounds_toArray, List.set_cons_zero, List.set_cons_succ]
      refine wpAnyH_take (i := 7) (v := ?_) rfl (by kernel_rfl) (by kernel_rfl) (by kernel_rfl) (fun _ _ _ h => h) (Or.inl ⟨by kernel_rfl, ?_⟩) (by assumption) ?_
      rotate_left
      · intro w9 hS9; (try dsimp only at hS9); go_simp; (try with_reducible rfl)
      set_option linter.unusedSimpArgs false in try simp only [Act.put, List.getElem_toArray, List.getElem_cons_succ, List.getElem_cons_zero, List.setIfInBounds_toArray, List.set_cons_zero, List.set_cons_succ]
      refine wpAnyH_take (i := 8) (v := ?_) rfl (by kernel_rfl) (by kernel_rfl) (by kernel_rfl) (fun _ _ _ h => h) (Or.inl ⟨by kernel_rfl, ?_⟩) (by assumption) ?_
      rotate_left
      · intro w9 hS9; (try dsimp only at hS9); go_simp; (try with_reducible rfl)
      set_option linter.unusedSimpArgs false in try simp only [Act.put, List.getElem_toArray, List.getElem_cons_succ, List.getElem_cons_zero, List.setIfInBounds_toArray, List.set_cons_zero, List.set_cons_succ]
      refine wpAnyH_take (i := 9) (v := ?_) rfl (by kernel_rfl) (by kernel_rfl) (by kernel_rfl) (fun _ _ _ h => h) (Or.inl ⟨by kernel_rfl, ?_⟩) (by assumption) ?_
      rotate_left
      · intro w9 hS9; (try dsimp only at hS9); go_simp; (try with_reducible rfl)
      set_option linter.unusedSimpArgs false in try simp only [Act.put, List.getElem_toArray, List.getElem_cons_succ, List.getElem_cons_zero, List.setIfInBounds_toArray, List.set_cons_zero, List.set_cons_succ]
      refine wpAnyH_take (i := 10) (v := ?_) rfl (by kernel_rfl) (by kernel_rfl) (by kernel_rfl) (fun _ _ _ h => h) (Or.inl ⟨by kernel_rfl, ?_⟩) (by assumption) ?_
      rotate_left
      · intro w9 hS9; (try dsimp only at hS9); go_simp; (try with_reducible rfl)
      set_option linter.unusedSimpArgs false in try simp only [Act.put, List.getElem_toArray, List.getElem_cons_succ, List.getElem_cons_zero, List.setIfInBounds_toArray, List.set_cons_zero, List.set_cons_succ]
      refine wpAnyH_done (by kernel_rfl) ?_ _
      go_wp2_with fail
      go_meet
      exact ⟨_, _, _, _, rfl, rfl, op14, ⟨(bstep (hw6)).size, hb13.size, Nat.le_refl _⟩, bon (bstep (hw6)) hb13⟩
    case rest =>
      obtain ⟨R_95, d_96, lo_100, hi_101, rfl, rfl, own_99, sz_102, hb_103⟩ := hcut
      obtain ⟨w19, hwx⟩ : ∃ x, x = wc := ⟨_, rfl⟩
      subst hwx
      replace in0 := in0.next hb_103 (by omega)
      replace in1a := in1a.next hb_103 (by omega)
      replace in1b := in1b.next hb_103 (by omega)
      replace a1_0 := cell_next a1_0 hb_103
      replace a1_1 := cell_next a1_1 hb_103
      replace a1_l := Nat.lt_of_lt_of_le a1_l hb_103.size
      replace own_14 := own_14.next hb_103
      replace own_91 := own_91.next hb_103
      replace hB := hB.trans (hb_103.mono hB.size)
      have sz_123 := hb_103.size
      go_wp2_with fail
      -- if !eqInt64S(h0, w0) || h1 != w1 {
      refine (eqInt64S_k R_95 R_10 l00 d_96 d_11 _ _ y00 _ own_99.inn own_14.inn (by omega) (by omega) (by omega)).mono ?_
      rintro e w20 ⟨rfl, hb_124⟩
      replace in0 := in0.next hb_124 (by omega)
      replace in1a := in1a.next hb_124 (by omega)
      replace in1b := in1b.next hb_124 (by omega)
      replace a1_0 := cell_next a1_0 hb_124
      replace a1_1 := cell_next a1_1 hb_124
      replace a1_l := Nat.lt_of_lt_of_le a1_l hb_124.size
      replace own_14 := own_14.next hb_124
      replace own_91 := own_91.next hb_124
      replace own_99 := own_99.next hb_124
      replace hB := hB.trans (hb_124.mono hB.size)
      have sz_125 := hb_124.size
      go_wp2_with fail
      clear own_99
      refine (heldInt64S_k R_55 l00 d_56 _ 1 _ own_91.inn (by omega) (by omega) (by omega)).mono ?_
      rintro e w21 ⟨rfl, hb_126⟩
      replace in0 := in0.next hb_126 (by omega)
      replace in1a := in1a.next hb_126 (by omega)
      replace in1b := in1b.next hb_126 (by omega)
      replace a1_0 := cell_next a1_0 hb_126
      replace a1_1 := cell_next a1_1 hb_126
      replace a1_l := Nat.lt_of_lt_of_le a1_l hb_126.size
      replace own_14 := own_14.next hb_126
      replace own_91 := own_91.next hb_126
      replace hB := hB.trans (hb_126.mono hB.size)
      have sz_127 := hb_126.size
      go_wp2_with fail
      go_ret
      exact ⟨rfl, hB⟩

set_option maxRecDepth 100000 in
set_option maxHeartbeats 4000000 in
theorem walk (A0 : Option Addr) (n0 cap0 : Nat) (t0 : List (Int × Int)) (A1 : Option Addr) (n1 cap1 : Nat) (z1 : List Int) (B1 : Option Addr) (m1 cbp1 : Nat) (y1 : List Int) (i2 : Int) (w : World) (h0in : InC w w.heap.size A0 n0 t0) (h0max : n0 ≤ maxLen) (h0each : ∀ y ∈ t0, (Lit.int .i64 y.1).wf = true ∧ (Lit.int .i64 y.2).wf = true) (h1row : Row w w.heap.size A1 (z1.map ic)) (h1len : z1.length = n1) (h1max : n1 ≤ maxLen) (h1glen : y1.length = m1) (h1gmax : m1 ≤ maxLen) (h1grow : Row w w.heap.size B1 (y1.map ic)) (h2wf : (Lit.int .i64 i2).wf = true) :
    Calls Try.prog 8 #[.slice A0 n0 cap0, .agg #[.slice A1 n1 cap1, .slice B1 m1 cbp1], .int .i64 i2] w fun e w' => e = .returned (.bool true) ∧ Below w.heap.size w w' := by
  by_cases hn : n0 ≤ 1048576
  · by_cases hm : n0 + (n1 + m1) ≤ 1048576
    · exact road A0 n0 cap0 t0 A1 n1 cap1 z1 B1 m1 cbp1 y1 i2 w h0in (by omega) ⟨h1len, h1row⟩ ⟨h1glen, h1grow⟩ (by omega) (by omega) (by omega) (by omega)
        (cntR t0 z1 y1 i2).1 (cntR t0 z1 y1 i2).1.length (cntR t0 z1 y1 i2).2 (cntR_len t0 z1 y1 i2)
        (fun w0 a00 u00 a10 u10 a11 u11 h g0 g1 => specCount_c a00 n0 u00 t0 a10 n1 u10 z1 a11 m1 u11 y1 i2 w0 h g0 g1 (by omega) (by omega) (by omega))
        (fun w0 a00 u00 a10 u10 a11 u11 h g0 g1 => implCount_c a00 n0 u00 t0 a10 n1 u10 z1 a11 m1 u11 y1 i2 w0 h g0 g1 (by omega) (by omega) (by omega))
    · exact early1 A0 n0 cap0 t0 A1 n1 cap1 z1 B1 m1 cbp1 y1 i2 w h0in ⟨h1len, h1row⟩ ⟨h1glen, h1grow⟩ (by omega) (by omega) h0max h1max h1gmax
  · exact early0 A0 n0 cap0 t0 A1 n1 cap1 z1 B1 m1 cbp1 y1 i2 w h0in ⟨h1len, h1row⟩ ⟨h1glen, h1grow⟩ (by omega) h0max h1max h1gmax

set_option maxRecDepth 100000 in
set_option maxHeartbeats 4000000 in
theorem lifted (os : Os) (started : os.Started) (H : Type) (enc : TypeId × Value → H) :
    ReturnsInHanded {} Try.checked os 8 .any (Rows.fnExactCountCodeSpec.pre6 enc Try.prog Try.f8 Rows.fnExactCountCodeRow.domain false) (Rows.fnExactCountCodeSpec.post enc Try.prog Try.f8 false true false false) := by
  refine returnsInHanded_of_change (C := Try.checked) own started (by kernel_rfl) Try.func8
    (ChangeSpec.witness6 (enc := enc) (C := Try.checked) false ⟨#[], #[.slice none 0 0, .agg #[.slice none 0 0, .slice none 0 0], .int .i64 0], []⟩ 8 (by kernel_rfl) (by kernel_rfl) (by kernel_rfl) (by kernel_rfl)) ?_
  intro W base args ds gs before hval0 hW hcnd _
  have hval : ∀ (j : Nat) t v, Try.f8.params[j]? = some t → args[j]? = some v → Value.okWide Try.prog W .any base t v := hval0
  have hW' := hW
  obtain ⟨p, q, hA0, hV, rfl, hfz, hnd⟩ := hW
  have hA : DataW.TrodAll enc Try.prog W 0 (fun _ => true) true Try.f8.params.toList args.toList ds p := hA0
  rw [Try.params8] at hA hval
  obtain ⟨v0, vs0, d0, ds0, p0, q0, hargs, rfl, rfl, g0, r0⟩ := trodAll_cons hA
  obtain ⟨v1, vs1, d1, ds1, p1, q1, rfl, rfl, rfl, g1, r1⟩ := trodAll_cons r0
  obtain ⟨v2, vs2, d2, ds2, p2, q2, rfl, rfl, rfl, g2, r2⟩ := trodAll_cons r1
  obtain ⟨rfl, rfl, rfl⟩ := trodAll_nil r2
  obtain rfl : args = #[v0, v1, v2] := by cases args; simp_all
  obtain ⟨rfl, rfl⟩ := trodVars_none hV
  have k0 := g0
  have lt0 : ∀ x ∈ p0, x.block < W.heap.size := by obtain ⟨m, hm⟩ := k0; exact DataW.trod_lt m _ _ _ hm
  have k1 := g1
  have lt1 : ∀ x ∈ p1, x.block < W.heap.size := by obtain ⟨m, hm⟩ := k1; exact DataW.trod_lt m _ _ _ hm
  obtain ⟨a0, b0, e0, rfl⟩ := okWide_slice Try.underlying28 (hval 0 28 v0 rfl rfl)
  obtain ⟨A0, n0, cap0, t0, q0, h0max, h0in, h0each⟩ := (fun (h : ∃ fuel, DataW.trod enc Try.prog W 0 (fun _ => true) true fuel 28 [.slice a0 b0 e0] = some _) => instrs_in h.choose_spec) (by obtain ⟨m, hm⟩ := g0; exact ⟨m, by simpa [Value.cells] using hm⟩)
  obtain ⟨rfl, rfl, rfl⟩ : a0 = A0 ∧ b0 = n0 ∧ e0 = cap0 := by simpa using q0
  obtain ⟨A1, n1, cap1, z1, B1, m1, cbp1, y1, rfl, h1len, h1max, h1row, h1glen, h1gmax, h1grow⟩ := state_in (hval 1 37 v1 rfl rfl) g1
  obtain ⟨i2, rfl, rfl, rfl, h2wf⟩ := open_int Try.underlying2 (hval 2 2 v2 rfl rfl) g2
  clear hA0 hval0
  simp only [List.append_nil] at hW'
  refine (walk _ _ _ t0 A1 n1 cap1 z1 B1 m1 cbp1 y1 i2 W h0in h0max h0each h1row h1len h1max h1glen h1gmax h1grow h2wf).mono fun e W' ⟨he, bel⟩ => ?_
  subst he
  exact ⟨_, rfl, _, _, _, [], _, [], hW', trodAll_mk1 (shut_bool Try.underlying4 _), (trodAll_cons_mk (Below.trod laidOut (by kernel_rfl) (of_decide_eq_true (by kernel_rfl)) k0 bel lt0) (trodAll_cons_mk (Below.trod laidOut (by kernel_rfl) (of_decide_eq_true (by kernel_rfl)) k1 bel lt1) (trodAll_cons_mk (shut_int Try.underlying2 h2wf) trodAll_mk0))), rfl, bel.frame _, fun h => by cases h⟩

theorem over : Rows.fnExactCountCodeRow.holds Try.pinned (OpenSpec.ofChange Rows.fnExactCountCodeSpec) :=
  OpenClaim.holds_of_wide 8 Try.f8 rfl rfl rfl rfl rfl rfl rfl ⟨rfl, rfl, rfl, rfl, rfl⟩ rfl rfl rfl rfl rfl (by kernel_rfl) Try.func8 (by kernel_rfl)
    (of_decide_eq_true (by kernel_rfl)) (by unfold Func.isWrapper; first | (rw [if_pos (by decide +kernel)]; kernel_rfl) | (rw [if_neg (by decide +kernel)]; exact ⟨rfl, rfl⟩))
    (fun os started H enc _ => lifted os started H enc)

/-- The statement. -/
theorem proved : Rows.FnExactCountCodeSaid := over
#print axioms proved
end Go.Proofs.Ytnfapodeifpeoaa.fnExactCountCode
