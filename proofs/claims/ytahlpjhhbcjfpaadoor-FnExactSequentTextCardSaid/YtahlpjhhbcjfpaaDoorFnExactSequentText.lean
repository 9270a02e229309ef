/-
  For every sequent the program's SequentText answers as the model's, and leaves the sequent as it was.
  Conditions: those that the card itself bears (the tables that the program's text lays).
-/
import Derived.Test.YtahlpjhhbcjfpaaDoorRows
import Derived.WalkKit
import Derived.ProofKit
import Derived.OpenShut
import Derived.ShutString
import Derived.ChangeOld
import Derived.Below
import Derived.WalkSmall
import Derived.Test.YtahlpjhhbcjfpaaDoorTms
import Derived.Test.YtahlpjhhbcjfpaaDoorCards
import Derived.Test.YtahlpjhhbcjfpaaDoorTie
import Derived.ChangeSame
import Derived.ChangeVars
import Derived.JoinedOf
import Derived.RowKit
import Derived.RowKitTokens
import Derived.LaidLaws
import Derived.LaidHandle
import Derived.Stop.LaidErr
import Derived.Stop.Joined
import Derived.SevenTiedAt
import Derived.Test.YtahlpjhhbcjfpaaDoorSqT
namespace Go.Proofs.YtahlpjhhbcjfpaaDoor.fnExactSequentText
open Go.ChangeShapes Go.WideShapes Go.ChangeAt Go.RowKit
open Go.ChangeMaps (open_string shut_string)
set_option linter.unusedVariables false

theorem own : ownKnob Tryd.prog.godebug = none := by kernel_rfl
theorem laidOut : laidOutB Tryd.prog = true := by kernel_rfl
set_option maxRecDepth 100000 in
set_option maxHeartbeats 8000000 in
theorem early0 (c0 : Int) (A0 : Option Addr) (n0 cap0 : Nat) (t0 : List (Int × List Int)) (B0 : Option Addr) (m0 cbp0 : Nat) (z0 : List Int) (w : World) (in0a : InTS w w.heap.size A0 n0 t0) (in0b : InL w w.heap.size B0 m0 z0) (q0 : 1048576 < (n0 + totT t0 + m0)) (vn0 : n0 ≤ maxLen) (en0 : ∀ t ∈ t0, t.2.length ≤ maxLen) (vm0 : m0 ≤ maxLen) :
    Calls Tryd.prog 7 #[.agg #[.slice A0 n0 cap0, .int .i64 c0, .slice B0 m0 cbp0]] w fun e w' => e = .returned (.bool true) ∧ Below w.heap.size w w' := by
  have hB := Below.refl w.heap.size w
  go_enter Tryd.func7, Tryd.ntmps7
  go_wp2_with fail
  have hb_1 : Below w.heap.size w (w.alloc (.cells #[.slice A0 n0 cap0, .int .i64 c0, .slice B0 m0 cbp0] 51)) := bnew _ _
  have sz_2 : w.heap.size < (w.alloc (.cells #[.slice A0 n0 cap0, .int .i64 c0, .slice B0 m0 cbp0] 51)).heap.size := by simp
  have a0_0 : (w.alloc (.cells #[.slice A0 n0 cap0, .int .i64 c0, .slice B0 m0 cbp0] 51)).cell? ⟨w.heap.size, 0, none⟩ = some (.slice A0 n0 cap0) := by simp
  have a0_1 : (w.alloc (.cells #[.slice A0 n0 cap0, .int .i64 c0, .slice B0 m0 cbp0] 51)).cell? ⟨w.heap.size, 1, none⟩ = some (.int .i64 c0) := by simp
  have a0_2 : (w.alloc (.cells #[.slice A0 n0 cap0, .int .i64 c0, .slice B0 m0 cbp0] 51)).cell? ⟨w.heap.size, 2, none⟩ = some (.slice B0 m0 cbp0) := by simp
  have a0_l := sz_2
  generalize w.alloc (.cells #[.slice A0 n0 cap0, .int .i64 c0, .slice B0 m0 cbp0] 51) = w1 at hb_1 a0_0 a0_1 a0_2 sz_2 a0_l ⊢
  replace in0a := in0a.next hb_1 (by omega)
  replace in0b := in0b.next hb_1 (by omega)
  replace hB := hB.trans (hb_1.mono hB.size)
  have sz_3 := hb_1.size
  refine (szSequent_k c0 A0 n0 cap0 _ t0 B0 m0 cbp0 _ _ in0a (by omega) (by omega) (by omega) (by first | assumption | (unfold maxLen; omega)) (by first | assumption | exact each_of (by omega)) (by first | assumption | (unfold maxLen; omega))).mono ?_
  rintro e w2 ⟨rfl, hb_4⟩
  rw [szv_no (by omega)]
  replace in0a := in0a.next hb_4 (by omega)
  replace in0b := in0b.next hb_4 (by omega)
  replace a0_0 := cell_next a0_0 hb_4
  replace a0_1 := cell_next a0_1 hb_4
  replace a0_2 := cell_next a0_2 hb_4
  replace a0_l := Nat.lt_of_lt_of_le a0_l hb_4.size
  replace hB := hB.trans (hb_4.mono hB.size)
  have sz_5 := hb_4.size
  go_wp2_with fail
  go_ret
  exact ⟨rfl, hB⟩

set_option maxRecDepth 100000 in
set_option maxHeartbeats 8000000 in
theorem road (c0 : Int) (A0 : Option Addr) (n0 cap0 : Nat) (t0 : List (Int × List Int)) (B0 : Option Addr) (m0 cbp0 : Nat) (z0 : List Int) (w : World) (in0a : InTS w w.heap.size A0 n0 t0) (in0b : InL w w.heap.size B0 m0 z0) (h0ok : n0 ≤ 1048576) (h0eok : totT t0 ≤ 1048576) (h0gok : m0 ≤ 1048576) (h0sum : n0 + totT t0 + m0 ≤ 1048576) (r0 : ByteArray) (r1 : Bool) 
    (HS0 : ∀ (w0 : World) (a00 : Option Addr) (u00 : Nat) (a01 : Option Addr) (u01 : Nat), Below w.heap.size w w0 → InTS w0 w0.heap.size a00 n0 t0 → InL w0 w0.heap.size a01 m0 z0 → Calls Tryd.prog 27 #[.agg #[.slice a00 n0 u00, .int .i64 c0, .slice a01 m0 u01]] w0 fun e w1 => e = .returned (.tuple #[.string r0, .bool r1]) ∧ Below w0.heap.size w0 w1)
    (HI0 : ∀ (w0 : World) (a00 : Option Addr) (u00 : Nat) (a01 : Option Addr) (u01 : Nat), Below w.heap.size w w0 → InTS w0 w0.heap.size a00 n0 t0 → InL w0 w0.heap.size a01 m0 z0 → Calls Tryd.prog 29 #[.agg #[.slice a00 n0 u00, .int .i64 c0, .slice a01 m0 u01]] w0 fun e w1 => e = .returned (.tuple #[.string r0, .bool r1]) ∧ Below w0.heap.size w0 w1) :
    Calls Tryd.prog 7 #[.agg #[.slice A0 n0 cap0, .int .i64 c0, .slice B0 m0 cbp0]] w fun e w' => e = .returned (.bool true) ∧ Below w.heap.size w w' := by
  have HS := Lib.hid HS0
  have HI := Lib.hid HI0
  clear HS0 HI0
  have hB := Below.refl w.heap.size w
  have hl_5 : (0 : Int) ≤ 1048576 - ((n0 + totT t0 + m0 : Nat) : Int) := by omega
  go_enter Tryd.func7, Tryd.ntmps7
  go_wp2_with fail
  have hb_1 : Below w.heap.size w (w.alloc (.cells #[.slice A0 n0 cap0, .int .i64 c0, .slice B0 m0 cbp0] 51)) := bnew _ _
  have sz_2 : w.heap.size < (w.alloc (.cells #[.slice A0 n0 cap0, .int .i64 c0, .slice B0 m0 cbp0] 51)).heap.size := by simp
  have a0_0 : (w.alloc (.cells #[.slice A0 n0 cap0, .int .i64 c0, .slice B0 m0 cbp0] 51)).cell? ⟨w.heap.size, 0, none⟩ = some (.slice A0 n0 cap0) := by simp
  have a0_1 : (w.alloc (.cells #[.slice A0 n0 cap0, .int .i64 c0, .slice B0 m0 cbp0] 51)).cell? ⟨w.heap.size, 1, none⟩ = some (.int .i64 c0) := by simp
  have a0_2 : (w.alloc (.cells #[.slice A0 n0 cap0, .int .i64 c0, .slice B0 m0 cbp0] 51)).cell? ⟨w.heap.size, 2, none⟩ = some (.slice B0 m0 cbp0) := by simp
  have a0_l := sz_2
  generalize w.alloc (.cells #[.slice A0 n0 cap0, .int .i64 c0, .slice B0 m0 cbp0] 51) = w1 at hb_1 a0_0 a0_1 a0_2 sz_2 a0_l ⊢
  replace in0a := in0a.next hb_1 (by omega)
  replace in0b := in0b.next hb_1 (by omega)
  replace hB := hB.trans (hb_1.mono hB.size)
  have sz_3 := hb_1.size
  refine (szSequent_k c0 A0 n0 cap0 _ t0 B0 m0 cbp0 _ _ in0a (by omega) (by omega) (by omega) (by first | assumption | (unfold maxLen; omega)) (by first | assumption | exact each_of (by omega)) (by first | assumption | (unfold maxLen; omega))).mono ?_
  rintro e w2 ⟨rfl, hb_4⟩
  rw [szv_yes (by omega)]
  replace in0a := in0a.next hb_4 (by omega)
  replace in0b := in0b.next hb_4 (by omega)
  replace a0_0 := cell_next a0_0 hb_4
  replace a0_1 := cell_next a0_1 hb_4
  replace a0_2 := cell_next a0_2 hb_4
  replace a0_l := Nat.lt_of_lt_of_le a0_l hb_4.size
  replace hB := hB.trans (hb_4.mono hB.size)
  have sz_6 := hb_4.size
  go_wp2_with fail
  refine (toSequent_k c0 A0 n0 cap0 _ t0 B0 m0 cbp0 z0 _ in0a in0b (by omega) h0ok h0eok h0gok).mono ?_
  rintro e w3 ⟨g_7, g_8, mid_12, rfl, own_9, own_10, md_13, hb_11⟩
  replace in0a := in0a.next hb_11 (by omega)
  replace in0b := in0b.next hb_11 (by omega)
  replace a0_0 := cell_next a0_0 hb_11
  replace a0_1 := cell_next a0_1 hb_11
  replace a0_2 := cell_next a0_2 hb_11
  replace a0_l := Nat.lt_of_lt_of_le a0_l hb_11.size
  replace hB := hB.trans (hb_11.mono hB.size)
  have sz_14 := hb_11.size
  go_wp2_with fail
  refine (HS.out w3 _ _ _ _ hB ((own_9.inn).more (by omega)) ((own_10.inn).more (by omega))).mono ?_
  rintro e w4 ⟨rfl, hb_15⟩
  clear own_9 own_10
  replace in0a := in0a.next hb_15 (by omega)
  replace in0b := in0b.next hb_15 (by omega)
  replace a0_0 := cell_next a0_0 hb_15
  replace a0_1 := cell_next a0_1 hb_15
  replace a0_2 := cell_next a0_2 hb_15
  replace a0_l := Nat.lt_of_lt_of_le a0_l hb_15.size
  replace hB := hB.trans (hb_15.mono hB.size)
  have sz_16 := hb_15.size
  go_wp2_with fail
  refine (toSequent_k c0 A0 n0 cap0 _ t0 B0 m0 cbp0 z0 _ in0a in0b (by omega) h0ok h0eok h0gok).mono ?_
  rintro e w5 ⟨g_17, g_18, mid_22, rfl, own_19, own_20, md_23, hb_21⟩
  replace in0a := in0a.next hb_21 (by omega)
  replace in0b := in0b.next hb_21 (by omega)
  replace a0_0 := cell_next a0_0 hb_21
  replace a0_1 := cell_next a0_1 hb_21
  replace a0_2 := cell_next a0_2 hb_21
  replace a0_l := Nat.lt_of_lt_of_le a0_l hb_21.size
  replace hB := hB.trans (hb_21.mono hB.size)
  have sz_24 := hb_21.size
  go_wp2_with fail
  have hb_25 : Below w5.heap.size w5 (w5.alloc (.cells #[.slice (some ⟨g_17, 0, none⟩) n0 n0, .int .i64 c0, .slice (some ⟨g_18, 0, none⟩) m0 m0] 56)) := bnew _ _
  have sz_26 : w5.heap.size < (w5.alloc (.cells #[.slice (some ⟨g_17, 0, none⟩) n0 n0, .int .i64 c0, .slice (some ⟨g_18, 0, none⟩) m0 m0] 56)).heap.size := by simp
  have x0_0 : (w5.alloc (.cells #[.slice (some ⟨g_17, 0, none⟩) n0 n0, .int .i64 c0, .slice (some ⟨g_18, 0, none⟩) m0 m0] 56)).cell? ⟨w5.heap.size, 0, none⟩ = some (.slice (some ⟨g_17, 0, none⟩) n0 n0) := by simp
  have x0_1 : (w5.alloc (.cells #[.slice (some ⟨g_17, 0, none⟩) n0 n0, .int .i64 c0, .slice (some ⟨g_18, 0, none⟩) m0 m0] 56)).cell? ⟨w5.heap.size, 1, none⟩ = some (.int .i64 c0) := by simp
  have x0_2 : (w5.alloc (.cells #[.slice (some ⟨g_17, 0, none⟩) n0 n0, .int .i64 c0, .slice (some ⟨g_18, 0, none⟩) m0 m0] 56)).cell? ⟨w5.heap.size, 2, none⟩ = some (.slice (some ⟨g_18, 0, none⟩) m0 m0) := by simp
  have x0_l := sz_26
  generalize w5.alloc (.cells #[.slice (some ⟨g_17, 0, none⟩) n0 n0, .int .i64 c0, .slice (some ⟨g_18, 0, none⟩) m0 m0] 56) = w6 at hb_25 x0_0 x0_1 x0_2 sz_26 x0_l ⊢
  replace in0a := in0a.next hb_25 (by omega)
  replace in0b := in0b.next hb_25 (by omega)
  replace a0_0 := cell_next a0_0 hb_25
  replace a0_1 := cell_next a0_1 hb_25
  replace a0_2 := cell_next a0_2 hb_25
  replace a0_l := Nat.lt_of_lt_of_le a0_l hb_25.size
  replace own_19 := own_19.next hb_25
  replace own_20 := own_20.next hb_25
  replace hB := hB.trans (hb_25.mono hB.size)
  have sz_27 := hb_25.size
  refine (HI.out w6 _ _ _ _ hB ((own_19.inn).more (by omega)) ((own_20.inn).more (by omega))).mono ?_
  rintro e w7 ⟨rfl, hb_28⟩
  replace in0a := in0a.next hb_28 (by omega)
  replace in0b := in0b.next hb_28 (by omega)
  replace a0_0 := cell_next a0_0 hb_28
  replace a0_1 := cell_next a0_1 hb_28
  replace a0_2 := cell_next a0_2 hb_28
  replace a0_l := Nat.lt_of_lt_of_le a0_l hb_28.size
  replace own_19 := own_19.next hb_28
  replace own_20 := own_20.next hb_28
  replace x0_0 := cell_next x0_0 hb_28
  replace x0_1 := cell_next x0_1 hb_28
  replace x0_2 := cell_next x0_2 hb_28
  replace x0_l := Nat.lt_of_lt_of_le x0_l hb_28.size
  replace hB := hB.trans (hb_28.mono hB.size)
  have sz_29 := hb_28.size
  go_wp2_with fail
  -- if g0 != w0 || g1 != w1 {
  have HT_30 := Lib.hid (toSequent_k c0 A0 n0 cap0 _ t0 B0 m0 cbp0 z0 w7.drew in0a.drew in0b.drew (by show _ ≤ w7.heap.size; omega) h0ok h0eok h0gok)
  have HE_31 : Hid (∀ w8 g_32 g_33 mid_37, Below w7.drew.heap.size w7.drew w8 → OwnTS w8 w7.drew.heap.size mid_37 (some ⟨g_32, 0, none⟩) n0 n0 t0 → OwnL w8 mid_37 w8.heap.size (some ⟨g_33, 0, none⟩) m0 m0 z0 → w7.drew.heap.size ≤ mid_37 ∧ mid_37 ≤ w8.heap.size → Calls Tryd.prog 30 #[.agg #[.slice (some ⟨g_17, 0, none⟩) n0 n0, .int .i64 c0, .slice (some ⟨g_18, 0, none⟩) m0 m0], .agg #[.slice (some ⟨g_32, 0, none⟩) n0 n0, .int .i64 c0, .slice (some ⟨g_33, 0, none⟩) m0 m0]] w8 fun e w' => e = .returned (.bool true) ∧ Below w8.heap.size w8 w') := fun w8 g_32 g_33 mid_37 hb_36 own_34 own_35 md_38 => eqSequent_k c0 (some ⟨g_17, 0, none⟩) (some ⟨g_32, 0, none⟩) n0 n0 n0 t0 (some ⟨g_18, 0, none⟩) (some ⟨g_33, 0, none⟩) m0 m0 m0 z0 (w8.heap.size) (w8.heap.size) w8 (((own_19.inn).call (by omega) hb_36).more (le_call (by omega) hb_36)) (((own_20.inn).call (by omega) hb_36).more (le_call (by omega) hb_36)) ((own_34.inn).more (by omega)) ((own_35.inn).more (by omega)) (Nat.le_refl _) (Nat.le_refl _) h0ok h0eok h0gok
  go_region_held3 (fun w' => w'.cell? ⟨w.heap.size, 0, none⟩ = some (.slice A0 n0 cap0) ∧ w'.cell? ⟨w.heap.size, 1, none⟩ = some (.int .i64 c0) ∧ w'.cell? ⟨w.heap.size, 2, none⟩ = some (.slice B0 m0 cbp0) ∧ w'.cell? ⟨w5.heap.size, 0, none⟩ = some (.slice (some ⟨g_17, 0, none⟩) n0 n0) ∧ w'.cell? ⟨w5.heap.size, 1, none⟩ = some (.int .i64 c0) ∧ w'.cell? ⟨w5.heap.size, 2, none⟩ = some (.slice (some ⟨g_18, 0, none⟩) m0 m0))
    (first | go_keep | exact ⟨cell_on a0_0 hb_36, cell_on a0_1 hb_36, cell_on a0_2 hb_36, cell_on x0_0 hb_36, cell_on x0_1 hb_36, cell_on x0_2 hb_36⟩ | exact ⟨cell_on2 a0_0 hb_36 hb_40, cell_on2 a0_1 hb_36 hb_40, cell_on2 a0_2 hb_36 hb_40, cell_on2 x0_0 hb_36 hb_40, cell_on2 x0_1 hb_36 hb_40, cell_on2 x0_2 hb_36 hb_40⟩)
    (first | (go_at_call 28; refine HT_30.out.mono ?_; rintro e w8 ⟨g_32, g_33, mid_37, rfl, own_34, own_35, md_38, hb_36⟩) | (go_at_call 30; refine (HE_31.out _ _ _ _ hb_36 own_34 own_35 md_38).mono ?_; rintro e w9 ⟨rfl, hb_40⟩))
  replace hb_36 := (bstep hb_36)
  replace in0a := in0a.next hb_36 (by omega)
  replace in0b := in0b.next hb_36 (by omega)
  replace a0_0 := cell_next a0_0 hb_36
  replace a0_1 := cell_next a0_1 hb_36
  replace a0_2 := cell_next a0_2 hb_36
  replace a0_l := Nat.lt_of_lt_of_le a0_l hb_36.size
  replace own_19 := own_19.next hb_36
  replace own_20 := own_20.next hb_36
  replace x0_0 := cell_next x0_0 hb_36
  replace x0_1 := cell_next x0_1 hb_36
  replace x0_2 := cell_next x0_2 hb_36
  replace x0_l := Nat.lt_of_lt_of_le x0_l hb_36.size
  replace hB := hB.trans (hb_36.mono hB.size)
  have sz_41 := hb_36.size
  replace in0a := in0a.next hb_40 (by omega)
  replace in0b := in0b.next hb_40 (by omega)
  replace a0_0 := cell_next a0_0 hb_40
  replace a0_1 := cell_next a0_1 hb_40
  replace a0_2 := cell_next a0_2 hb_40
  replace a0_l := Nat.lt_of_lt_of_le a0_l hb_40.size
  replace own_19 := own_19.next hb_40
  replace own_20 := own_20.next hb_40
  replace x0_0 := cell_next x0_0 hb_40
  replace x0_1 := cell_next x0_1 hb_40
  replace x0_2 := cell_next x0_2 hb_40
  replace x0_l := Nat.lt_of_lt_of_le x0_l hb_40.size
  replace hB := hB.trans (hb_40.mono hB.size)
  have sz_42 := hb_40.size
  clear HT_30 HE_31 own_34 own_35
  go_wp2_with fail
  go_ret
  exact ⟨rfl, hB⟩

set_option maxRecDepth 100000 in
set_option maxHeartbeats 4000000 in
theorem walk (A0 : Option Addr) (n0 cap0 : Nat) (t0 : List (Int × List Int)) (c0 : Int) (B0 : Option Addr) (m0 cbp0 : Nat) (z0 : List Int) (w : World) (hT : Tab10 w) (h0row : TRow w w.heap.size A0 t0) (h0len : t0.length = n0) (h0max : n0 ≤ maxLen) (h0each : ∀ t ∈ t0, t.2.length ≤ maxLen) (h0glen : z0.length = m0) (h0gmax : m0 ≤ maxLen) (h0grow : Row w w.heap.size B0 (z0.map ic)) :
    Calls Tryd.prog 7 #[.agg #[.slice A0 n0 cap0, .int .i64 c0, .slice B0 m0 cbp0]] w fun e w' => e = .returned (.bool true) ∧ Below w.heap.size w w' := by
  by_cases hn : n0 + totT t0 + m0 ≤ 1048576
  · exact road c0 A0 n0 cap0 t0 B0 m0 cbp0 z0 w ⟨h0len, h0row⟩ ⟨h0glen, h0grow⟩ (by omega) (by omega) (by omega) (by omega) (sqR t0 (c0, z0)).1 (sqR t0 (c0, z0)).2
      (fun w0 a00 u00 a01 u01 hb h h' => specSeqText_c c0 a00 n0 u00 t0 a01 m0 u01 z0 w0 h h' (by omega) (by omega) (by omega))
      (fun w0 a00 u00 a01 u01 hb h h' => implSeqText_c c0 a00 n0 u00 t0 a01 m0 u01 z0 w0 (hT.next hb) h h' (by omega) (by omega) (by omega))
  · exact early0 c0 A0 n0 cap0 t0 B0 m0 cbp0 z0 w ⟨h0len, h0row⟩ ⟨h0glen, h0grow⟩ (by omega) h0max h0each h0gmax

/-- The cells of a table. -/
def litCells : DataW Unit → List Value
  | .lit (.int k z) => [Value.int k z]
  | .lit (.bool b) => [Value.bool b]
  | .lit (.string l) => [Value.string ⟨l.toArray⟩]
  | _ => []
def tabCells : DataW Unit → List Value
  | .agg l => l.flatMap fun x => match x with
    | .agg r => r.flatMap litCells
    | x => litCells x
  | _ => []
/-- A world that meets the list. -/
noncomputable def laidWorld (os : Os) : World :=
  let w0 := World.holding Tryd.prog os ⟨#[], #[], []⟩
  let put (g : Nat) (d : DataW Unit) (h : Array Obj) : Array Obj := h.modify g fun
      | .cells _ t frozen => .cells (tabCells d).toArray t frozen
      | o => o
  { w0 with heap := put 2 (Rows.laid_internal_strconv_uint64pow10) (put 6 (Rows.laid_math_bits_deBruijn64tab) (put 5 (Rows.laid_math_bits_deBruijn32tab) w0.heap)) }
theorem laidWorld_met (os : Os) (args : Array Value) : laidMetH Tryd.prog Rows.fnExactSequentTextRow.laid ((laidWorld os).forCall (fun _ _ => 0) ⟨#[], args, []⟩).memory :=
  laidMetH_of_parts (laidMet_of_run' 8 (by kernel_rfl) (by kernel_rfl)) (by kernel_rfl)

set_option maxRecDepth 100000 in
set_option maxHeartbeats 4000000 in
theorem lifted (os : Os) (started : os.Started) (H : Type) (enc : TypeId × Value → H) :
    ReturnsInHanded {} Tryd.checked os 7 .any (fun w args => (Rows.fnExactSequentTextSpec.pre enc Tryd.prog Tryd.f7 [] false w args ∧ laidMetH Tryd.prog Rows.fnExactSequentTextRow.laid w) ∧ sizedMet enc Tryd.prog Tryd.f7 (OpenSpec.ofChange Rows.fnExactSequentTextSpec) false w args) (Rows.fnExactSequentTextSpec.post enc Tryd.prog Tryd.f7 false true false false) := by
  refine returnsInHanded_of_change_and (C := Tryd.checked) (X := fun w _ => laidMetH Tryd.prog Rows.fnExactSequentTextRow.laid w) (fun _ _ _ hh h => h.of_heap hh) own started (by kernel_rfl) Tryd.func7
    (ChangeSpec.witness_at (enc := enc) (C := Tryd.checked) (os := os) (X := fun w _ => laidMetH Tryd.prog Rows.fnExactSequentTextRow.laid w) false (laidWorld os) #[.agg #[.slice none 0 0, .int .i64 0, .slice none 0 0]] 8 rfl (by kernel_rfl) (by kernel_rfl) (by kernel_rfl) (by kernel_rfl) (by kernel_rfl) (laidWorld_met os _)) ?_
  intro W base args ds gs before hval0 hW _ _ hL _
  have hval : ∀ (j : Nat) t v, Tryd.f7.params[j]? = some t → args[j]? = some v → Value.okWide Tryd.prog W .any base t v := hval0
  have hW' := hW
  obtain ⟨p, q, hA0, hV, rfl, hfz, hnd⟩ := hW
  have hA : DataW.TrodAll enc Tryd.prog W 0 (fun _ => true) true Tryd.f7.params.toList args.toList ds p := hA0
  rw [Tryd.params7] at hA hval
  obtain ⟨v0, vs0, d0, ds0, p0, q0, hargs, rfl, rfl, g0, r0⟩ := trodAll_cons hA
  obtain ⟨rfl, rfl, rfl⟩ := trodAll_nil r0
  obtain rfl : args = #[v0] := by cases args; simp_all
  obtain ⟨rfl, rfl⟩ := trodVars_none hV
  have k0 := g0
  have lt0 : ∀ x ∈ p0, x.block < W.heap.size := by obtain ⟨m, hm⟩ := k0; exact DataW.trod_lt m _ _ _ hm
  obtain ⟨A0, n0, cap0, t0, c0, B0, m0, cbp0, z0, rfl, h0len, h0max, h0row, h0each, h0glen, h0gmax, h0grow⟩ := sequent_in (hval 0 51 v0 rfl rfl) g0
  clear hA0 hval0
  simp only [List.append_nil] at hW'
  have hg := tab10_of_laid (laid := Rows.fnExactSequentTextRow.laid) rfl hL
  refine (walk A0 n0 cap0 t0 c0 B0 m0 cbp0 z0 W hg h0row h0len h0max h0each h0glen h0gmax h0grow).mono fun e W' ⟨he, bel⟩ => ?_
  subst he
  exact ⟨_, rfl, _, _, _, [], _, [], hW', trodAll_mk1 (shut_bool Tryd.underlying4 _), (trodAll_cons_mk (Below.trod laidOut (by kernel_rfl) (of_decide_eq_true (by kernel_rfl)) k0 bel lt0) trodAll_mk0), rfl, bel.frame _, fun h => by cases h⟩

theorem said : Rows.FnExactSequentTextSaid :=
  OpenClaim.holds_of_wide 7 Tryd.f7 rfl rfl rfl rfl rfl rfl rfl ⟨rfl, rfl, rfl, rfl, rfl⟩ rfl rfl rfl rfl rfl (by kernel_rfl) Tryd.func7 (by kernel_rfl)
    (of_decide_eq_true (by kernel_rfl)) (by unfold Func.isWrapper; first | (rw [if_pos (by decide +kernel)]; kernel_rfl) | (rw [if_neg (by decide +kernel)]; exact ⟨rfl, rfl⟩))
    (fun os started H enc _ => lifted os started H enc)

/-- No parameter wants a stand-in; the program's own looks are as told: what the card asks. -/
theorem plain (f : FuncId) (fn : Func) (hf : Tryd.pinned.checked.prog.funcNamed "loop.example/g01105/laws.FnExactSequentText" = some f) (hfn : Tryd.pinned.checked.prog.funcs[f]? = some fn) :
    true = Tryd.pinned.checked.prog.looks [] ∧ ∀ (j : Nat) t, fn.params[j]? = some t → Tryd.pinned.checked.prog.wantsStandIn t = false := by
  obtain rfl : f = 7 := Option.some.inj ((show Tryd.prog.funcNamed "loop.example/g01105/laws.FnExactSequentText" = some 7 by kernel_rfl).symm.trans hf) |>.symm
  obtain rfl : fn = Tryd.f7 := (Option.some.inj (Tryd.func7.symm.trans hfn)).symm
  refine ⟨by kernel_rfl, fun j t ht => ?_⟩
  rw [Tryd.params7] at ht
  have hm : t = 51 := by simpa using Array.mem_of_getElem? ht
  subst hm
  exact (show Tryd.prog.wantsStandIn 51 = false by kernel_rfl)

/-- The card. -/
theorem proved : Rows.FnExactSequentTextCardSaid :=
  Claim7.holds_tied_plain_at .later [] _ _ _ _ said (fun _ h => by cases h) (by kernel_rfl) (fun _ h => by cases h) fnExactSequentText_row_tie rfl ⟨rfl, rfl⟩ (by kernel_rfl) rfl plain (by kernel_rfl)
#print axioms proved
end Go.Proofs.YtahlpjhhbcjfpaaDoor.fnExactSequentText
