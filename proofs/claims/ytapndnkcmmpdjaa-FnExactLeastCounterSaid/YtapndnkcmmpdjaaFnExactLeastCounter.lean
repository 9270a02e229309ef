/-
  For every sequent and every reach the program's LeastCounter answers as the model's, leaves the sequent as it was, and gives memory of its own.
  Conditions: none but those that the statement itself bears.
-/
import Derived.Test.YtapndnkcmmpdjaaRows
import Derived.WalkKit
import Derived.ProofKit
import Derived.OpenShut
import Derived.ShutString
import Derived.ChangeOld
import Derived.Below
import Derived.WalkSmall
import Derived.Test.YtapndnkcmmpdjaaTms
import Derived.Test.YtapndnkcmmpdjaaLeastG
import Derived.Test.YtapndnkcmmpdjaaLeastI
import Derived.Test.YtapndnkcmmpdjaaMarkQ
namespace Go.Proofs.Ytapndnkcmmpdjaa.fnExactLeastCounter
open Go.ChangeShapes Go.WideShapes Go.ChangeAt Go.RowKit
open Go.ChangeMaps (open_string shut_string)
set_option linter.unusedVariables false

theorem own : ownKnob Try.prog.godebug = none := by kernel_rfl
theorem laidOut : laidOutB Try.prog = true := by kernel_rfl
set_option maxRecDepth 100000 in
set_option maxHeartbeats 8000000 in
theorem early0 (c0 : Int) (A0 : Option Addr) (n0 cap0 : Nat) (t0 : List (Int × List Int)) (B0 : Option Addr) (m0 cbp0 : Nat) (z0 : List Int) (i1 : Int) (w : World) (in0a : InTS w w.heap.size A0 n0 t0) (in0b : InL w w.heap.size B0 m0 z0) (q0 : 1048576 < (n0 + totT t0 + m0)) (vn0 : n0 ≤ maxLen) (en0 : ∀ t ∈ t0, t.2.length ≤ maxLen) (vm0 : m0 ≤ maxLen) :
    Calls Try.prog 5 #[.agg #[.slice A0 n0 cap0, .int .i64 c0, .slice B0 m0 cbp0], .int .i64 i1] w fun e w' => e = .returned (.bool true) ∧ Below w.heap.size w w' := by
  have hB := Below.refl w.heap.size w
  go_enter Try.func5, Try.ntmps5
  go_wp2_with fail
  have hb_1 : Below w.heap.size w (w.alloc (.cells #[.slice A0 n0 cap0, .int .i64 c0, .slice B0 m0 cbp0] 37)) := bnew _ _
  have sz_2 : w.heap.size < (w.alloc (.cells #[.slice A0 n0 cap0, .int .i64 c0, .slice B0 m0 cbp0] 37)).heap.size := by simp
  have a0_0 : (w.alloc (.cells #[.slice A0 n0 cap0, .int .i64 c0, .slice B0 m0 cbp0] 37)).cell? ⟨w.heap.size, 0, none⟩ = some (.slice A0 n0 cap0) := by simp
  have a0_1 : (w.alloc (.cells #[.slice A0 n0 cap0, .int .i64 c0, .slice B0 m0 cbp0] 37)).cell? ⟨w.heap.size, 1, none⟩ = some (.int .i64 c0) := by simp
  have a0_2 : (w.alloc (.cells #[.slice A0 n0 cap0, .int .i64 c0, .slice B0 m0 cbp0] 37)).cell? ⟨w.heap.size, 2, none⟩ = some (.slice B0 m0 cbp0) := by simp
  have a0_l := sz_2
  generalize w.alloc (.cells #[.slice A0 n0 cap0, .int .i64 c0, .slice B0 m0 cbp0] 37) = w1 at hb_1 a0_0 a0_1 a0_2 sz_2 a0_l ⊢
  replace in0a := in0a.next hb_1 (by omega)
  replace in0b := in0b.next hb_1 (by omega)
  replace hB := hB.trans (hb_1.mono hB.size)
  have sz_3 := hb_1.size
  refine (szSequent_k c0 A0 n0 cap0 _ t0 B0 m0 cbp0 _ _ in0a (by omega) (by omega) (by omega) (by first | assumption | (unfold maxLen; omega)) (by first | assumption | exact each_of (by omega)) (by first | assumption | (unfold maxLen; omega))).mono ?_
  rintro e w2 ⟨rfl, hb_4⟩
  rw [szv_no (by omega)]
  replace in0a := in0a.next hb_4 (by omega)
  replace in0b := in0b.next hb_4 (by omega)
  replace a0_0 := cell_next a0_0 hb_4
  replace a0_1 := cell_next a0_1 hb_4
  replace a0_2 := cell_next a0_2 hb_4
  replace a0_l := Nat.lt_of_lt_of_le a0_l hb_4.size
  replace hB := hB.trans (hb_4.mono hB.size)
  have sz_5 := hb_4.size
  go_wp2_with fail
  go_ret
  exact ⟨rfl, hB⟩

set_option maxRecDepth 100000 in
set_option maxHeartbeats 8000000 in
theorem road (c0 : Int) (A0 : Option Addr) (n0 cap0 : Nat) (t0 : List (Int × List Int)) (B0 : Option Addr) (m0 cbp0 : Nat) (z0 : List Int) (i1 : Int) (w : World) (in0a : InTS w w.heap.size A0 n0 t0) (in0b : InL w w.heap.size B0 m0 z0) (h0ok : n0 ≤ 1048576) (h0eok : totT t0 ≤ 1048576) (h0gok : m0 ≤ 1048576) (h0sum : n0 + totT t0 + m0 ≤ 1048576) (y00 : List Int) (l00 : Nat) (r1 : Bool) (k00 : l00 ≤ 1000)
    (HS0 : ∀ (w0 : World) (a00 : Option Addr) (u00 : Nat) (a01 : Option Addr) (u01 : Nat), InTS w0 w0.heap.size a00 n0 t0 → InL w0 w0.heap.size a01 m0 z0 → Calls Try.prog 23 #[.agg #[.slice a00 n0 u00, .int .i64 c0, .slice a01 m0 u01], .int .i64 i1] w0 fun e w1 => ∃ (R00 : Option Addr) (d00 : Nat), e = .returned (.tuple #[.slice R00 l00 d00, .bool r1]) ∧ OwnL w1 w0.heap.size w1.heap.size R00 l00 d00 y00 ∧ Below w0.heap.size w0 w1)
    (HI0 : ∀ (w0 : World) (a00 : Option Addr) (u00 : Nat) (a01 : Option Addr) (u01 : Nat), InTS w0 w0.heap.size a00 n0 t0 → InL w0 w0.heap.size a01 m0 z0 → Calls Try.prog 24 #[.agg #[.slice a00 n0 u00, .int .i64 c0, .slice a01 m0 u01], .int .i64 i1] w0 fun e w1 => ∃ (R00 : Option Addr) (d00 : Nat), e = .returned (.tuple #[.slice R00 l00 d00, .bool r1]) ∧ OwnL w1 w0.heap.size w1.heap.size R00 l00 d00 y00 ∧ Below w0.heap.size w0 w1) :
    Calls Try.prog 5 #[.agg #[.slice A0 n0 cap0, .int .i64 c0, .slice B0 m0 cbp0], .int .i64 i1] w fun e w' => e = .returned (.bool true) ∧ Below w.heap.size w w' := by
  have HS := Lib.hid HS0
  have HI := Lib.hid HI0
  clear HS0 HI0
  have hB := Below.refl w.heap.size w
  have hl_5 : (0 : Int) ≤ 1048576 - ((n0 + totT t0 + m0 : Nat) : Int) := by omega
  go_enter Try.func5, Try.ntmps5
  go_wp2_with fail
  have hb_1 : Below w.heap.size w (w.alloc (.cells #[.slice A0 n0 cap0, .int .i64 c0, .slice B0 m0 cbp0] 37)) := bnew _ _
  have sz_2 : w.heap.size < (w.alloc (.cells #[.slice A0 n0 cap0, .int .i64 c0, .slice B0 m0 cbp0] 37)).heap.size := by simp
  have a0_0 : (w.alloc (.cells #[.slice A0 n0 cap0, .int .i64 c0, .slice B0 m0 cbp0] 37)).cell? ⟨w.heap.size, 0, none⟩ = some (.slice A0 n0 cap0) := by simp
  have a0_1 : (w.alloc (.cells #[.slice A0 n0 cap0, .int .i64 c0, .slice B0 m0 cbp0] 37)).cell? ⟨w.heap.size, 1, none⟩ = some (.int .i64 c0) := by simp
  have a0_2 : (w.alloc (.cells #[.slice A0 n0 cap0, .int .i64 c0, .slice B0 m0 cbp0] 37)).cell? ⟨w.heap.size, 2, none⟩ = some (.slice B0 m0 cbp0) := by simp
  have a0_l := sz_2
  generalize w.alloc (.cells #[.slice A0 n0 cap0, .int .i64 c0, .slice B0 m0 cbp0] 37) = w1 at hb_1 a0_0 a0_1 a0_2 sz_2 a0_l ⊢
  replace in0a := in0a.next hb_1 (by omega)
  replace in0b := in0b.next hb_1 (by omega)
  replace hB := hB.trans (hb_1.mono hB.size)
  have sz_3 := hb_1.size
  refine (szSequent_k c0 A0 n0 cap0 _ t0 B0 m0 cbp0 _ _ in0a (by omega) (by omega) (by omega) (by first | assumption | (unfold maxLen; omega)) (by first | assumption | exact each_of (by omega)) (by first | assumption | (unfold maxLen; omega))).mono ?_
  rintro e w2 ⟨rfl, hb_4⟩
  rw [szv_yes (by omega)]
  replace in0a := in0a.next hb_4 (by omega)
  replace in0b := in0b.next hb_4 (by omega)
  replace a0_0 := cell_next a0_0 hb_4
  replace a0_1 := cell_next a0_1 hb_4
  replace a0_2 := cell_next a0_2 hb_4
  replace a0_l := Nat.lt_of_lt_of_le a0_l hb_4.size
  replace hB := hB.trans (hb_4.mono hB.size)
  have sz_6 := hb_4.size
  go_wp2_with fail
  refine (toSequent_k c0 A0 n0 cap0 _ t0 B0 m0 cbp0 z0 _ in0a in0b (by omega) h0ok h0eok h0gok).mono ?_
  rintro e w3 ⟨g_7, g_8, mid_12, rfl, own_9, own_10, md_13, hb_11⟩
  replace in0a := in0a.next hb_11 (by omega)
  replace in0b := in0b.next hb_11 (by omega)
  replace a0_0 := cell_next a0_0 hb_11
  replace a0_1 := cell_next a0_1 hb_11
  replace a0_2 := cell_next a0_2 hb_11
  replace a0_l := Nat.lt_of_lt_of_le a0_l hb_11.size
  replace hB := hB.trans (hb_11.mono hB.size)
  have sz_14 := hb_11.size
  go_wp2_with fail
  refine (HS.out w3 _ _ _ _ ((own_9.inn).more (by omega)) ((own_10.inn).more (by omega))).mono ?_
  rintro e w4 ⟨R_16, d_17, rfl, own_18, hb_15⟩
  clear own_9 own_10
  replace in0a := in0a.next hb_15 (by omega)
  replace in0b := in0b.next hb_15 (by omega)
  replace a0_0 := cell_next a0_0 hb_15
  replace a0_1 := cell_next a0_1 hb_15
  replace a0_2 := cell_next a0_2 hb_15
  replace a0_l := Nat.lt_of_lt_of_le a0_l hb_15.size
  replace hB := hB.trans (hb_15.mono hB.size)
  have sz_19 := hb_15.size
  go_wp2_with fail
  refine (toSequent_k c0 A0 n0 cap0 _ t0 B0 m0 cbp0 z0 _ in0a in0b (by omega) h0ok h0eok h0gok).mono ?_
  rintro e w5 ⟨g_20, g_21, mid_25, rfl, own_22, own_23, md_26, hb_24⟩
  replace in0a := in0a.next hb_24 (by omega)
  replace in0b := in0b.next hb_24 (by omega)
  replace a0_0 := cell_next a0_0 hb_24
  replace a0_1 := cell_next a0_1 hb_24
  replace a0_2 := cell_next a0_2 hb_24
  replace a0_l := Nat.lt_of_lt_of_le a0_l hb_24.size
  replace own_18 := own_18.next hb_24
  replace hB := hB.trans (hb_24.mono hB.size)
  have sz_27 := hb_24.size
  go_wp2_with fail
  have hb_28 : Below w5.heap.size w5 (w5.alloc (.cells #[.slice (some ⟨g_20, 0, none⟩) n0 n0, .int .i64 c0, .slice (some ⟨g_21, 0, none⟩) m0 m0] 43)) := bnew _ _
  have sz_29 : w5.heap.size < (w5.alloc (.cells #[.slice (some ⟨g_20, 0, none⟩) n0 n0, .int .i64 c0, .slice (some ⟨g_21, 0, none⟩) m0 m0] 43)).heap.size := by simp
  have x0_0 : (w5.alloc (.cells #[.slice (some ⟨g_20, 0, none⟩) n0 n0, .int .i64 c0, .slice (some ⟨g_21, 0, none⟩) m0 m0] 43)).cell? ⟨w5.heap.size, 0, none⟩ = some (.slice (some ⟨g_20, 0, none⟩) n0 n0) := by simp
  have x0_1 : (w5.alloc (.cells #[.slice (some ⟨g_20, 0, none⟩) n0 n0, .int .i64 c0, .slice (some ⟨g_21, 0, none⟩) m0 m0] 43)).cell? ⟨w5.heap.size, 1, none⟩ = some (.int .i64 c0) := by simp
  have x0_2 : (w5.alloc (.cells #[.slice (some ⟨g_20, 0, none⟩) n0 n0, .int .i64 c0, .slice (some ⟨g_21, 0, none⟩) m0 m0] 43)).cell? ⟨w5.heap.size, 2, none⟩ = some (.slice (some ⟨g_21, 0, none⟩) m0 m0) := by simp
  have x0_l := sz_29
  generalize w5.alloc (.cells #[.slice (some ⟨g_20, 0, none⟩) n0 n0, .int .i64 c0, .slice (some ⟨g_21, 0, none⟩) m0 m0] 43) = w6 at hb_28 x0_0 x0_1 x0_2 sz_29 x0_l ⊢
  replace in0a := in0a.next hb_28 (by omega)
  replace in0b := in0b.next hb_28 (by omega)
  replace a0_0 := cell_next a0_0 hb_28
  replace a0_1 := cell_next a0_1 hb_28
  replace a0_2 := cell_next a0_2 hb_28
  replace a0_l := Nat.lt_of_lt_of_le a0_l hb_28.size
  replace own_18 := own_18.next hb_28
  replace own_22 := own_22.next hb_28
  replace own_23 := own_23.next hb_28
  replace hB := hB.trans (hb_28.mono hB.size)
  have sz_30 := hb_28.size
  refine (HI.out w6 _ _ _ _ ((own_22.inn).more (by omega)) ((own_23.inn).more (by omega))).mono ?_
  rintro e w7 ⟨R_32, d_33, rfl, own_34, hb_31⟩
  replace in0a := in0a.next hb_31 (by omega)
  replace in0b := in0b.next hb_31 (by omega)
  replace a0_0 := cell_next a0_0 hb_31
  replace a0_1 := cell_next a0_1 hb_31
  replace a0_2 := cell_next a0_2 hb_31
  replace a0_l := Nat.lt_of_lt_of_le a0_l hb_31.size
  replace own_18 := own_18.next hb_31
  replace own_22 := own_22.next hb_31
  replace own_23 := own_23.next hb_31
  replace x0_0 := cell_next x0_0 hb_31
  replace x0_1 := cell_next x0_1 hb_31
  replace x0_2 := cell_next x0_2 hb_31
  replace x0_l := Nat.lt_of_lt_of_le x0_l hb_31.size
  replace hB := hB.trans (hb_31.mono hB.size)
  have sz_35 := hb_31.size
  go_wp2_with fail
  -- if !eqInt64S(g0, w0) || g1 != w1 {
  refine (eqInt64S_k R_32 R_16 l00 d_33 d_17 _ _ y00 _ own_34.inn own_18.inn (by omega) (by omega) (by omega)).mono ?_
  rintro e w8 ⟨rfl, hb_36⟩
  replace in0a := in0a.next hb_36 (by omega)
  replace in0b := in0b.next hb_36 (by omega)
  replace a0_0 := cell_next a0_0 hb_36
  replace a0_1 := cell_next a0_1 hb_36
  replace a0_2 := cell_next a0_2 hb_36
  replace a0_l := Nat.lt_of_lt_of_le a0_l hb_36.size
  replace own_18 := own_18.next hb_36
  replace own_22 := own_22.next hb_36
  replace own_23 := own_23.next hb_36
  replace x0_0 := cell_next x0_0 hb_36
  replace x0_1 := cell_next x0_1 hb_36
  replace x0_2 := cell_next x0_2 hb_36
  replace x0_l := Nat.lt_of_lt_of_le x0_l hb_36.size
  replace own_34 := own_34.next hb_36
  replace hB := hB.trans (hb_36.mono hB.size)
  have sz_37 := hb_36.size
  go_wp2_with fail
  have HT_38 := Lib.hid (toSequent_k c0 A0 n0 cap0 _ t0 B0 m0 cbp0 z0 w8.drew in0a.drew in0b.drew (by show _ ≤ w8.heap.size; omega) h0ok h0eok h0gok)
  have HE_39 : Hid (∀ w9 g_40 g_41 mid_45, Below w8.drew.heap.size w8.drew w9 → OwnTS w9 w8.drew.heap.size mid_45 (some ⟨g_40, 0, none⟩) n0 n0 t0 → OwnL w9 mid_45 w9.heap.size (some ⟨g_41, 0, none⟩) m0 m0 z0 → w8.drew.heap.size ≤ mid_45 ∧ mid_45 ≤ w9.heap.size → Calls Try.prog 20 #[.agg #[.slice (some ⟨g_20, 0, none⟩) n0 n0, .int .i64 c0, .slice (some ⟨g_21, 0, none⟩) m0 m0], .agg #[.slice (some ⟨g_40, 0, none⟩) n0 n0, .int .i64 c0, .slice (some ⟨g_41, 0, none⟩) m0 m0]] w9 fun e w' => e = .returned (.bool true) ∧ Below w9.heap.size w9 w') := fun w9 g_40 g_41 mid_45 hb_44 own_42 own_43 md_46 => eqSequent_k c0 (some ⟨g_20, 0, none⟩) (some ⟨g_40, 0, none⟩) n0 n0 n0 t0 (some ⟨g_21, 0, none⟩) (some ⟨g_41, 0, none⟩) m0 m0 m0 z0 (w9.heap.size) (w9.heap.size) w9 (((own_22.inn).call (by omega) hb_44).more (le_call (by omega) hb_44)) (((own_23.inn).call (by omega) hb_44).more (le_call (by omega) hb_44)) ((own_42.inn).more (by omega)) ((own_43.inn).more (by omega)) (Nat.le_refl _) (Nat.le_refl _) h0ok h0eok h0gok
  go_region_held3 (fun w' => w'.cell? ⟨w.heap.size, 0, none⟩ = some (.slice A0 n0 cap0) ∧ w'.cell? ⟨w.heap.size, 1, none⟩ = some (.int .i64 c0) ∧ w'.cell? ⟨w.heap.size, 2, none⟩ = some (.slice B0 m0 cbp0) ∧ w'.cell? ⟨w5.heap.size, 0, none⟩ = some (.slice (some ⟨g_20, 0, none⟩) n0 n0) ∧ w'.cell? ⟨w5.heap.size, 1, none⟩ = some (.int .i64 c0) ∧ w'.cell? ⟨w5.heap.size, 2, none⟩ = some (.slice (some ⟨g_21, 0, none⟩) m0 m0))
    (first | go_keep | exact ⟨cell_on a0_0 hb_44, cell_on a0_1 hb_44, cell_on a0_2 hb_44, cell_on x0_0 hb_44, cell_on x0_1 hb_44, cell_on x0_2 hb_44⟩ | exact ⟨cell_on2 a0_0 hb_44 hb_48, cell_on2 a0_1 hb_44 hb_48, cell_on2 a0_2 hb_44 hb_48, cell_on2 x0_0 hb_44 hb_48, cell_on2 x0_1 hb_44 hb_48, cell_on2 x0_2 hb_44 hb_48⟩)
    (first | (go_at_call 18; refine HT_38.out.mono ?_; rintro e w9 ⟨g_40, g_41, mid_45, rfl, own_42, own_43, md_46, hb_44⟩) | (go_at_call 20; refine (HE_39.out _ _ _ _ hb_44 own_42 own_43 md_46).mono ?_; rintro e w10 ⟨rfl, hb_48⟩))
  replace hb_44 := (bstep hb_44)
  replace in0a := in0a.next hb_44 (by omega)
  replace in0b := in0b.next hb_44 (by omega)
  replace a0_0 := cell_next a0_0 hb_44
  replace a0_1 := cell_next a0_1 hb_44
  replace a0_2 := cell_next a0_2 hb_44
  replace a0_l := Nat.lt_of_lt_of_le a0_l hb_44.size
  replace own_18 := own_18.next hb_44
  replace own_22 := own_22.next hb_44
  replace own_23 := own_23.next hb_44
  replace x0_0 := cell_next x0_0 hb_44
  replace x0_1 := cell_next x0_1 hb_44
  replace x0_2 := cell_next x0_2 hb_44
  replace x0_l := Nat.lt_of_lt_of_le x0_l hb_44.size
  replace own_34 := own_34.next hb_44
  replace hB := hB.trans (hb_44.mono hB.size)
  have sz_49 := hb_44.size
  replace in0a := in0a.next hb_48 (by omega)
  replace in0b := in0b.next hb_48 (by omega)
  replace a0_0 := cell_next a0_0 hb_48
  replace a0_1 := cell_next a0_1 hb_48
  replace a0_2 := cell_next a0_2 hb_48
  replace a0_l := Nat.lt_of_lt_of_le a0_l hb_48.size
  replace own_18 := own_18.next hb_48
  replace own_22 := own_22.next hb_48
  replace own_23 := own_23.next hb_48
  replace x0_0 := cell_next x0_0 hb_48
  replace x0_1 := cell_next x0_1 hb_48
  replace x0_2 := cell_next x0_2 hb_48
  replace x0_l := Nat.lt_of_lt_of_le x0_l hb_48.size
  replace own_34 := own_34.next hb_48
  replace hB := hB.trans (hb_48.mono hB.size)
  have sz_50 := hb_48.size
  clear HT_38 HE_39 own_42 own_43
  go_wp2_with fail
  refine (markSequent_w w4.heap.size mid_25 w5.heap.size c0 (some ⟨g_20, 0, none⟩) n0 n0 t0 (some ⟨g_21, 0, none⟩) m0 m0 z0 1 _ own_22 own_23 (by omega) (by omega) (by omega) (by omega) (by omega) (by omega) (by omega)).mono ?_
  rintro e w11 ⟨rfl, own_52, ho_51⟩
  replace in0a := in0a.out ho_51 (by omega) (by omega)
  replace in0b := in0b.out ho_51 (by omega) (by omega)
  replace a0_0 := ho_51.cell a0_0 (by omega)
  replace a0_1 := ho_51.cell a0_1 (by omega)
  replace a0_2 := ho_51.cell a0_2 (by omega)
  replace a0_l := Nat.lt_of_lt_of_le a0_l ho_51.size
  replace own_18 := own_18.out ho_51 (by omega)
  replace x0_0 := ho_51.cell x0_0 (by omega)
  replace x0_1 := ho_51.cell x0_1 (by omega)
  replace x0_2 := ho_51.cell x0_2 (by omega)
  replace x0_l := Nat.lt_of_lt_of_le x0_l ho_51.size
  replace own_34 := own_34.out ho_51 (by omega)
  replace hB := hB.trans (ho_51.below (by omega) (by omega))
  have sz_53 := ho_51.size
  clear own_22 own_23
  clear x0_0 x0_1 x0_2 x0_l
  clear own_52
  go_wp2_with fail
  -- if k < 0 || !eqInt64S(g0, w0) || g1 != w1 {
  refine (eqInt64S_k R_32 R_16 l00 d_33 d_17 _ _ y00 _ own_34.inn own_18.inn (by omega) (by omega) (by omega)).mono ?_
  rintro e w12 ⟨rfl, hb_54⟩
  replace in0a := in0a.next hb_54 (by omega)
  replace in0b := in0b.next hb_54 (by omega)
  replace a0_0 := cell_next a0_0 hb_54
  replace a0_1 := cell_next a0_1 hb_54
  replace a0_2 := cell_next a0_2 hb_54
  replace a0_l := Nat.lt_of_lt_of_le a0_l hb_54.size
  replace own_18 := own_18.next hb_54
  replace own_34 := own_34.next hb_54
  replace hB := hB.trans (hb_54.mono hB.size)
  have sz_55 := hb_54.size
  go_wp2_with fail
  refine (markInt64S_k w6.heap.size w7.heap.size R_32 l00 d_33 y00 1 _ own_34 (by omega) (by omega) (by omega)).mono ?_
  rintro e w13 ⟨rfl, own_57, ho_56⟩
  replace in0a := in0a.out ho_56 (by omega) (by omega)
  replace in0b := in0b.out ho_56 (by omega) (by omega)
  replace a0_0 := ho_56.cell a0_0 (by omega)
  replace a0_1 := ho_56.cell a0_1 (by omega)
  replace a0_2 := ho_56.cell a0_2 (by omega)
  replace a0_l := Nat.lt_of_lt_of_le a0_l ho_56.size
  replace own_18 := own_18.out ho_56 (by omega)
  replace hB := hB.trans (ho_56.below (by omega) (by omega))
  have sz_58 := ho_56.size
  clear own_34
  go_wp2_with fail
  refine (heldInt64S_k R_32 l00 d_33 _ 1 _ own_57.inn (by omega) (by omega) (by omega)).mono ?_
  rintro e w14 ⟨rfl, hb_59⟩
  replace in0a := in0a.next hb_59 (by omega)
  replace in0b := in0b.next hb_59 (by omega)
  replace a0_0 := cell_next a0_0 hb_59
  replace a0_1 := cell_next a0_1 hb_59
  replace a0_2 := cell_next a0_2 hb_59
  replace a0_l := Nat.lt_of_lt_of_le a0_l hb_59.size
  replace own_18 := own_18.next hb_59
  replace own_57 := own_57.next hb_59
  replace hB := hB.trans (hb_59.mono hB.size)
  have sz_60 := hb_59.size
  go_wp2_with fail
  refine (toSequent_k c0 A0 n0 cap0 _ t0 B0 m0 cbp0 z0 _ in0a in0b (by omega) h0ok h0eok h0gok).mono ?_
  rintro e w15 ⟨g_61, g_62, mid_66, rfl, own_63, own_64, md_67, hb_65⟩
  replace in0a := in0a.next hb_65 (by omega)
  replace in0b := in0b.next hb_65 (by omega)
  replace a0_0 := cell_next a0_0 hb_65
  replace a0_1 := cell_next a0_1 hb_65
  replace a0_2 := cell_next a0_2 hb_65
  replace a0_l := Nat.lt_of_lt_of_le a0_l hb_65.size
  replace own_18 := own_18.next hb_65
  replace own_57 := own_57.next hb_65
  replace hB := hB.trans (hb_65.mono hB.size)
  have sz_68 := hb_65.size
  go_wp2_with fail
  refine (HI.out w15 _ _ _ _ ((own_63.inn).more (by omega)) ((own_64.inn).more (by omega))).mono ?_
  rintro e w16 ⟨R_70, d_71, rfl, own_72, hb_69⟩
  clear own_63 own_64
  replace in0a := in0a.next hb_69 (by omega)
  replace in0b := in0b.next hb_69 (by omega)
  replace a0_0 := cell_next a0_0 hb_69
  replace a0_1 := cell_next a0_1 hb_69
  replace a0_2 := cell_next a0_2 hb_69
  replace a0_l := Nat.lt_of_lt_of_le a0_l hb_69.size
  replace own_18 := own_18.next hb_69
  replace own_57 := own_57.next hb_69
  replace hB := hB.trans (hb_69.mono hB.size)
  have sz_73 := hb_69.size
  go_wp2_with fail
  -- if !eqInt64S(h0, w0) || h1 != w1 {
  refine (eqInt64S_k R_70 R_16 l00 d_71 d_17 _ _ y00 _ own_72.inn own_18.inn (by omega) (by omega) (by omega)).mono ?_
  rintro e w17 ⟨rfl, hb_74⟩
  replace in0a := in0a.next hb_74 (by omega)
  replace in0b := in0b.next hb_74 (by omega)
  replace a0_0 := cell_next a0_0 hb_74
  replace a0_1 := cell_next a0_1 hb_74
  replace a0_2 := cell_next a0_2 hb_74
  replace a0_l := Nat.lt_of_lt_of_le a0_l hb_74.size
  replace own_18 := own_18.next hb_74
  replace own_57 := own_57.next hb_74
  replace own_72 := own_72.next hb_74
  replace hB := hB.trans (hb_74.mono hB.size)
  have sz_75 := hb_74.size
  go_wp2_with fail
  clear own_72
  refine (heldInt64S_k R_32 l00 d_33 _ 1 _ own_57.inn (by omega) (by omega) (by omega)).mono ?_
  rintro e w18 ⟨rfl, hb_76⟩
  replace in0a := in0a.next hb_76 (by omega)
  replace in0b := in0b.next hb_76 (by omega)
  replace a0_0 := cell_next a0_0 hb_76
  replace a0_1 := cell_next a0_1 hb_76
  replace a0_2 := cell_next a0_2 hb_76
  replace a0_l := Nat.lt_of_lt_of_le a0_l hb_76.size
  replace own_18 := own_18.next hb_76
  replace own_57 := own_57.next hb_76
  replace hB := hB.trans (hb_76.mono hB.size)
  have sz_77 := hb_76.size
  go_wp2_with fail
  go_ret
  exact ⟨rfl, hB⟩

set_option maxRecDepth 100000 in
set_option maxHeartbeats 4000000 in
theorem walk (A0 : Option Addr) (n0 cap0 : Nat) (t0 : List (Int × List Int)) (c0 : Int) (B0 : Option Addr) (m0 cbp0 : Nat) (z0 : List Int) (i1 : Int) (w : World) (h0row : TRow w w.heap.size A0 t0) (h0len : t0.length = n0) (h0max : n0 ≤ maxLen) (h0each : ∀ t ∈ t0, t.2.length ≤ maxLen) (h0glen : z0.length = m0) (h0gmax : m0 ≤ maxLen) (h0grow : Row w w.heap.size B0 (z0.map ic)) (h1wf : (Lit.int .i64 i1).wf = true) :
    Calls Try.prog 5 #[.agg #[.slice A0 n0 cap0, .int .i64 c0, .slice B0 m0 cbp0], .int .i64 i1] w fun e w' => e = .returned (.bool true) ∧ Below w.heap.size w w' := by
  by_cases h : n0 + totT t0 + m0 ≤ 1048576
  · have hk := lcR_small t0 (c0, z0) i1
    exact road c0 A0 n0 cap0 t0 B0 m0 cbp0 z0 i1 w ⟨h0len, h0row⟩ ⟨h0glen, h0grow⟩ (by omega) (by omega) (by omega) h (lcR t0 (c0, z0) i1).1 (lcR t0 (c0, z0) i1).1.length (lcR t0 (c0, z0) i1).2 (by omega)
      (fun w0 a b d e h g => specLeast_c c0 i1 a n0 b w0.heap.size t0 d m0 e z0 w0 h g (Nat.le_refl _) (by omega) (by omega) (by omega))
      (fun w0 a b d e h g => implLeast_c c0 i1 a n0 b w0.heap.size t0 d m0 e z0 w0 h g (Nat.le_refl _) (by omega) (by omega) (by omega))
  · exact early0 c0 A0 n0 cap0 t0 B0 m0 cbp0 z0 i1 w ⟨h0len, h0row⟩ ⟨h0glen, h0grow⟩ (by omega) h0max h0each h0gmax

set_option maxRecDepth 100000 in
set_option maxHeartbeats 4000000 in
theorem lifted (os : Os) (started : os.Started) (H : Type) (enc : TypeId × Value → H) :
    ReturnsInHanded {} Try.checked os 5 .any (Rows.fnExactLeastCounterSpec.pre6 enc Try.prog Try.f5 Rows.fnExactLeastCounterRow.domain false) (Rows.fnExactLeastCounterSpec.post enc Try.prog Try.f5 false true false false) := by
  refine returnsInHanded_of_change (C := Try.checked) own started (by kernel_rfl) Try.func5
    (ChangeSpec.witness6 (enc := enc) (C := Try.checked) false ⟨#[], #[.agg #[.slice none 0 0, .int .i64 0, .slice none 0 0], .int .i64 0], []⟩ 8 (by kernel_rfl) (by kernel_rfl) (by kernel_rfl) (by kernel_rfl)) ?_
  intro W base args ds gs before hval0 hW hcnd _
  have hval : ∀ (j : Nat) t v, Try.f5.params[j]? = some t → args[j]? = some v → Value.okWide Try.prog W .any base t v := hval0
  have hW' := hW
  obtain ⟨p, q, hA0, hV, rfl, hfz, hnd⟩ := hW
  have hA : DataW.TrodAll enc Try.prog W 0 (fun _ => true) true Try.f5.params.toList args.toList ds p := hA0
  rw [Try.params5] at hA hval
  obtain ⟨v0, vs0, d0, ds0, p0, q0, hargs, rfl, rfl, g0, r0⟩ := trodAll_cons hA
  obtain ⟨v1, vs1, d1, ds1, p1, q1, rfl, rfl, rfl, g1, r1⟩ := trodAll_cons r0
  obtain ⟨rfl, rfl, rfl⟩ := trodAll_nil r1
  obtain rfl : args = #[v0, v1] := by cases args; simp_all
  obtain ⟨rfl, rfl⟩ := trodVars_none hV
  have k0 := g0
  have lt0 : ∀ x ∈ p0, x.block < W.heap.size := by obtain ⟨m, hm⟩ := k0; exact DataW.trod_lt m _ _ _ hm
  obtain ⟨A0, n0, cap0, t0, c0, B0, m0, cbp0, z0, rfl, h0len, h0max, h0row, h0each, h0glen, h0gmax, h0grow⟩ := sequent_in (hval 0 37 v0 rfl rfl) g0
  obtain ⟨i1, rfl, rfl, rfl, h1wf⟩ := open_int Try.underlying2 (hval 1 2 v1 rfl rfl) g1
  clear hA0 hval0
  simp only [List.append_nil] at hW'
  refine (walk A0 n0 cap0 t0 c0 B0 m0 cbp0 z0 i1 W h0row h0len h0max h0each h0glen h0gmax h0grow h1wf).mono fun e W' ⟨he, bel⟩ => ?_
  subst he
  exact ⟨_, rfl, _, _, _, [], _, [], hW', trodAll_mk1 (shut_bool Try.underlying4 _), (trodAll_cons_mk (Below.trod laidOut (by kernel_rfl) (of_decide_eq_true (by kernel_rfl)) k0 bel lt0) (trodAll_cons_mk (shut_int Try.underlying2 h1wf) trodAll_mk0)), rfl, bel.frame _, fun h => by cases h⟩

theorem over : Rows.fnExactLeastCounterRow.holds Try.pinned (OpenSpec.ofChange Rows.fnExactLeastCounterSpec) :=
  OpenClaim.holds_of_wide 5 Try.f5 rfl rfl rfl rfl rfl rfl rfl ⟨rfl, rfl, rfl, rfl, rfl⟩ rfl rfl rfl rfl rfl (by kernel_rfl) Try.func5 (by kernel_rfl)
    (of_decide_eq_true (by kernel_rfl)) (by unfold Func.isWrapper; first | (rw [if_pos (by decide +kernel)]; kernel_rfl) | (rw [if_neg (by decide +kernel)]; exact ⟨rfl, rfl⟩))
    (fun os started H enc _ => lifted os started H enc)

/-- The statement. -/
theorem proved : Rows.FnExactLeastCounterSaid := over
#print axioms proved
end Go.Proofs.Ytapndnkcmmpdjaa.fnExactLeastCounter
