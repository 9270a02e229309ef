/-
  For every two terms the program's AddTerms answers as the model's, leaves the terms as they were, and gives memory of its own.
  Conditions: none but those that the statement itself bears.
-/
import Derived.Test.YtddmpdpmgjggoaaRows
import Derived.WalkKit
import Derived.ProofKit
import Derived.OpenShut
import Derived.ShutString
import Derived.ChangeOld
import Derived.Below
import Derived.WalkSmall
import Derived.Test.YtddmpdpmgjggoaaTms
import Derived.Test.YtddmpdpmgjggoaaTermK
import Derived.Test.YtddmpdpmgjggoaaAddT
import Derived.Test.YtddmpdpmgjggoaaBox
namespace Go.Proofs.Ytddmpdpmgjggoaa.fnExactAddTerms
open Go.ChangeShapes Go.WideShapes Go.ChangeAt Go.RowKit
open Go.ChangeMaps (open_string shut_string)
set_option linter.unusedVariables false

theorem own : ownKnob Try.prog.godebug = none := by kernel_rfl
theorem laidOut : laidOutB Try.prog = true := by kernel_rfl
theorem givesT_is {f : FuncId} {vs : Array Value} {R : (Int × List Int) × Bool} {w0 : World} (h : Calls Try.prog f vs w0 (GivesT R w0)) :
    Calls Try.prog f vs w0 fun e w1 => ∃ (R00 : Option Addr) (d00 : Nat), e = .returned (.tuple #[.agg #[.int .i64 R.1.1, .slice R00 R.1.2.length d00], .bool R.2]) ∧ OwnL w1 w0.heap.size w1.heap.size R00 R.1.2.length d00 R.1.2 ∧ Below w0.heap.size w0 w1 :=
  h.mono fun e w1 ⟨A, k, c, he, ho, hb⟩ => by
    obtain rfl := ho.1
    exact ⟨A, c, he, ho, hb⟩
set_option maxRecDepth 100000 in
set_option maxHeartbeats 8000000 in
theorem early0 (c0 : Int) (A0 : Option Addr) (n0 cap0 : Nat) (z0 : List Int) (c1 : Int) (A1 : Option Addr) (n1 cap1 : Nat) (z1 : List Int) (w : World) (in0 : InL w w.heap.size A0 n0 z0) (in1 : InL w w.heap.size A1 n1 z1) (q0 : 1048576 < (n0)) (vn0 : n0 ≤ maxLen) (vn1 : n1 ≤ maxLen) :
    Calls Try.prog 6 #[.agg #[.int .i64 c0, .slice A0 n0 cap0], .agg #[.int .i64 c1, .slice A1 n1 cap1]] w fun e w' => e = .returned (.bool true) ∧ Below w.heap.size w w' := by
  have hB := Below.refl w.heap.size w
  go_enter Try.func6, Try.ntmps6
  go_wp2_with fail
  have hb_1 : Below w.heap.size w ((w.alloc (.cells #[.int .i64 c0, .slice A0 n0 cap0] 43)).alloc (.cells #[.int .i64 c1, .slice A1 n1 cap1] 43)) := bon (bnew _ _) (bnew _ _)
  have sz_2 : w.heap.size < ((w.alloc (.cells #[.int .i64 c0, .slice A0 n0 cap0] 43)).alloc (.cells #[.int .i64 c1, .slice A1 n1 cap1] 43)).heap.size := by simp <;> omega
  have a0_0 : ((w.alloc (.cells #[.int .i64 c0, .slice A0 n0 cap0] 43)).alloc (.cells #[.int .i64 c1, .slice A1 n1 cap1] 43)).cell? ⟨w.heap.size, 0, none⟩ = some (.int .i64 c0) := by simp
  have a0_1 : ((w.alloc (.cells #[.int .i64 c0, .slice A0 n0 cap0] 43)).alloc (.cells #[.int .i64 c1, .slice A1 n1 cap1] 43)).cell? ⟨w.heap.size, 1, none⟩ = some (.slice A0 n0 cap0) := by simp
  have a0_l := sz_2
  have sz_3 : w.heap.size + 1 < ((w.alloc (.cells #[.int .i64 c0, .slice A0 n0 cap0] 43)).alloc (.cells #[.int .i64 c1, .slice A1 n1 cap1] 43)).heap.size := by simp
  have a1_0 : ((w.alloc (.cells #[.int .i64 c0, .slice A0 n0 cap0] 43)).alloc (.cells #[.int .i64 c1, .slice A1 n1 cap1] 43)).cell? ⟨w.heap.size + 1, 0, none⟩ = some (.int .i64 c1) := by simp
  have a1_1 : ((w.alloc (.cells #[.int .i64 c0, .slice A0 n0 cap0] 43)).alloc (.cells #[.int .i64 c1, .slice A1 n1 cap1] 43)).cell? ⟨w.heap.size + 1, 1, none⟩ = some (.slice A1 n1 cap1) := by simp
  have a1_l := sz_3
  generalize (w.alloc (.cells #[.int .i64 c0, .slice A0 n0 cap0] 43)).alloc (.cells #[.int .i64 c1, .slice A1 n1 cap1] 43) = w1 at hb_1 a0_0 a0_1 a1_0 a1_1 sz_2 a0_l sz_3 a1_l ⊢
  replace in0 := in0.next hb_1 (by omega)
  replace in1 := in1.next hb_1 (by omega)
  replace hB := hB.trans (hb_1.mono hB.size)
  have sz_4 := hb_1.size
  refine (szTerm_c c0 A0 n0 cap0 _ _ (by omega) (by omega) (by first | assumption | (unfold maxLen; omega))).mono ?_
  rintro e w2 ⟨rfl, hb_5⟩
  rw [szv_no (by omega)]
  replace in0 := in0.next hb_5 (by omega)
  replace in1 := in1.next hb_5 (by omega)
  replace a0_0 := cell_next a0_0 hb_5
  replace a0_1 := cell_next a0_1 hb_5
  replace a1_0 := cell_next a1_0 hb_5
  replace a1_1 := cell_next a1_1 hb_5
  replace a0_l := Nat.lt_of_lt_of_le a0_l hb_5.size
  replace a1_l := Nat.lt_of_lt_of_le a1_l hb_5.size
  replace hB := hB.trans (hb_5.mono hB.size)
  have sz_6 := hb_5.size
  go_wp2_with fail
  go_ret
  exact ⟨rfl, hB⟩

set_option maxRecDepth 100000 in
set_option maxHeartbeats 8000000 in
theorem early1 (c0 : Int) (A0 : Option Addr) (n0 cap0 : Nat) (z0 : List Int) (c1 : Int) (A1 : Option Addr) (n1 cap1 : Nat) (z1 : List Int) (w : World) (in0 : InL w w.heap.size A0 n0 z0) (in1 : InL w w.heap.size A1 n1 z1) (q0 : (n0) ≤ 1048576) (q1 : 1048576 < (n0) + (n1)) (vn0 : n0 ≤ maxLen) (vn1 : n1 ≤ maxLen) :
    Calls Try.prog 6 #[.agg #[.int .i64 c0, .slice A0 n0 cap0], .agg #[.int .i64 c1, .slice A1 n1 cap1]] w fun e w' => e = .returned (.bool true) ∧ Below w.heap.size w w' := by
  have hB := Below.refl w.heap.size w
  have hl_6 : (0 : Int) ≤ 1048576 - (n0 : Int) := by omega
  go_enter Try.func6, Try.ntmps6
  go_wp2_with fail
  have hb_1 : Below w.heap.size w ((w.alloc (.cells #[.int .i64 c0, .slice A0 n0 cap0] 43)).alloc (.cells #[.int .i64 c1, .slice A1 n1 cap1] 43)) := bon (bnew _ _) (bnew _ _)
  have sz_2 : w.heap.size < ((w.alloc (.cells #[.int .i64 c0, .slice A0 n0 cap0] 43)).alloc (.cells #[.int .i64 c1, .slice A1 n1 cap1] 43)).heap.size := by simp <;> omega
  have a0_0 : ((w.alloc (.cells #[.int .i64 c0, .slice A0 n0 cap0] 43)).alloc (.cells #[.int .i64 c1, .slice A1 n1 cap1] 43)).cell? ⟨w.heap.size, 0, none⟩ = some (.int .i64 c0) := by simp
  have a0_1 : ((w.alloc (.cells #[.int .i64 c0, .slice A0 n0 cap0] 43)).alloc (.cells #[.int .i64 c1, .slice A1 n1 cap1] 43)).cell? ⟨w.heap.size, 1, none⟩ = some (.slice A0 n0 cap0) := by simp
  have a0_l := sz_2
  have sz_3 : w.heap.size + 1 < ((w.alloc (.cells #[.int .i64 c0, .slice A0 n0 cap0] 43)).alloc (.cells #[.int .i64 c1, .slice A1 n1 cap1] 43)).heap.size := by simp
  have a1_0 : ((w.alloc (.cells #[.int .i64 c0, .slice A0 n0 cap0] 43)).alloc (.cells #[.int .i64 c1, .slice A1 n1 cap1] 43)).cell? ⟨w.heap.size + 1, 0, none⟩ = some (.int .i64 c1) := by simp
  have a1_1 : ((w.alloc (.cells #[.int .i64 c0, .slice A0 n0 cap0] 43)).alloc (.cells #[.int .i64 c1, .slice A1 n1 cap1] 43)).cell? ⟨w.heap.size + 1, 1, none⟩ = some (.slice A1 n1 cap1) := by simp
  have a1_l := sz_3
  generalize (w.alloc (.cells #[.int .i64 c0, .slice A0 n0 cap0] 43)).alloc (.cells #[.int .i64 c1, .slice A1 n1 cap1] 43) = w1 at hb_1 a0_0 a0_1 a1_0 a1_1 sz_2 a0_l sz_3 a1_l ⊢
  replace in0 := in0.next hb_1 (by omega)
  replace in1 := in1.next hb_1 (by omega)
  replace hB := hB.trans (hb_1.mono hB.size)
  have sz_4 := hb_1.size
  refine (szTerm_c c0 A0 n0 cap0 _ _ (by omega) (by omega) (by first | assumption | (unfold maxLen; omega))).mono ?_
  rintro e w2 ⟨rfl, hb_5⟩
  rw [szv_yes (by omega)]
  replace in0 := in0.next hb_5 (by omega)
  replace in1 := in1.next hb_5 (by omega)
  replace a0_0 := cell_next a0_0 hb_5
  replace a0_1 := cell_next a0_1 hb_5
  replace a1_0 := cell_next a1_0 hb_5
  replace a1_1 := cell_next a1_1 hb_5
  replace a0_l := Nat.lt_of_lt_of_le a0_l hb_5.size
  replace a1_l := Nat.lt_of_lt_of_le a1_l hb_5.size
  replace hB := hB.trans (hb_5.mono hB.size)
  have sz_7 := hb_5.size
  go_wp2_with fail
  refine (szTerm_c c1 A1 n1 cap1 _ _ (by omega) (by omega) (by first | assumption | (unfold maxLen; omega))).mono ?_
  rintro e w3 ⟨rfl, hb_8⟩
  rw [szv_no (by omega)]
  replace in0 := in0.next hb_8 (by omega)
  replace in1 := in1.next hb_8 (by omega)
  replace a0_0 := cell_next a0_0 hb_8
  replace a0_1 := cell_next a0_1 hb_8
  replace a1_0 := cell_next a1_0 hb_8
  replace a1_1 := cell_next a1_1 hb_8
  replace a0_l := Nat.lt_of_lt_of_le a0_l hb_8.size
  replace a1_l := Nat.lt_of_lt_of_le a1_l hb_8.size
  replace hB := hB.trans (hb_8.mono hB.size)
  have sz_9 := hb_8.size
  go_wp2_with fail
  go_ret
  exact ⟨rfl, hB⟩

set_option maxRecDepth 100000 in
set_option maxHeartbeats 8000000 in
theorem road (c0 : Int) (A0 : Option Addr) (n0 cap0 : Nat) (z0 : List Int) (c1 : Int) (A1 : Option Addr) (n1 cap1 : Nat) (z1 : List Int) (w : World) (in0 : InL w w.heap.size A0 n0 z0) (h0ok : n0 ≤ 1048576) (in1 : InL w w.heap.size A1 n1 z1) (h1ok : n1 ≤ 1048576) (hsum : (n0) + (n1) ≤ 1048576) (r0 : Int) (y00 : List Int) (l00 : Nat) (r1 : Bool) (k00 : l00 ≤ 1000)
    (HS0 : ∀ (w0 : World) (a00 : Option Addr) (u00 : Nat) (a10 : Option Addr) (u10 : Nat), InL w0 w0.heap.size a00 n0 z0 → InL w0 w0.heap.size a10 n1 z1 → Calls Try.prog 26 #[.agg #[.int .i64 c0, .slice a00 n0 u00], .agg #[.int .i64 c1, .slice a10 n1 u10]] w0 fun e w1 => ∃ (R00 : Option Addr) (d00 : Nat), e = .returned (.tuple #[.agg #[.int .i64 r0, .slice R00 l00 d00], .bool r1]) ∧ OwnL w1 w0.heap.size w1.heap.size R00 l00 d00 y00 ∧ Below w0.heap.size w0 w1)
    (HI0 : ∀ (w0 : World) (a00 : Option Addr) (u00 : Nat) (a10 : Option Addr) (u10 : Nat), InL w0 w0.heap.size a00 n0 z0 → InL w0 w0.heap.size a10 n1 z1 → Calls Try.prog 15 #[.agg #[.int .i64 c0, .slice a00 n0 u00], .agg #[.int .i64 c1, .slice a10 n1 u10]] w0 fun e w1 => ∃ (R00 : Option Addr) (d00 : Nat), e = .returned (.tuple #[.agg #[.int .i64 r0, .slice R00 l00 d00], .bool r1]) ∧ OwnL w1 w0.heap.size w1.heap.size R00 l00 d00 y00 ∧ Below w0.heap.size w0 w1) :
    Calls Try.prog 6 #[.agg #[.int .i64 c0, .slice A0 n0 cap0], .agg #[.int .i64 c1, .slice A1 n1 cap1]] w fun e w' => e = .returned (.bool true) ∧ Below w.heap.size w w' := by
  have HS := Lib.hid HS0
  have HI := Lib.hid HI0
  clear HS0 HI0
  have hB := Below.refl w.heap.size w
  have hl_6 : (0 : Int) ≤ 1048576 - (n0 : Int) := by omega
  have hl_9 : (0 : Int) ≤ 1048576 - (n0 : Int) - (n1 : Int) := by omega
  go_enter Try.func6, Try.ntmps6
  go_wp2_with fail
  have hb_1 : Below w.heap.size w ((w.alloc (.cells #[.int .i64 c0, .slice A0 n0 cap0] 43)).alloc (.cells #[.int .i64 c1, .slice A1 n1 cap1] 43)) := bon (bnew _ _) (bnew _ _)
  have sz_2 : w.heap.size < ((w.alloc (.cells #[.int .i64 c0, .slice A0 n0 cap0] 43)).alloc (.cells #[.int .i64 c1, .slice A1 n1 cap1] 43)).heap.size := by simp <;> omega
  have a0_0 : ((w.alloc (.cells #[.int .i64 c0, .slice A0 n0 cap0] 43)).alloc (.cells #[.int .i64 c1, .slice A1 n1 cap1] 43)).cell? ⟨w.heap.size, 0, none⟩ = some (.int .i64 c0) := by simp
  have a0_1 : ((w.alloc (.cells #[.int .i64 c0, .slice A0 n0 cap0] 43)).alloc (.cells #[.int .i64 c1, .slice A1 n1 cap1] 43)).cell? ⟨w.heap.size, 1, none⟩ = some (.slice A0 n0 cap0) := by simp
  have a0_l := sz_2
  have sz_3 : w.heap.size + 1 < ((w.alloc (.cells #[.int .i64 c0, .slice A0 n0 cap0] 43)).alloc (.cells #[.int .i64 c1, .slice A1 n1 cap1] 43)).heap.size := by simp
  have a1_0 : ((w.alloc (.cells #[.int .i64 c0, .slice A0 n0 cap0] 43)).alloc (.cells #[.int .i64 c1, .slice A1 n1 cap1] 43)).cell? ⟨w.heap.size + 1, 0, none⟩ = some (.int .i64 c1) := by simp
  have a1_1 : ((w.alloc (.cells #[.int .i64 c0, .slice A0 n0 cap0] 43)).alloc (.cells #[.int .i64 c1, .slice A1 n1 cap1] 43)).cell? ⟨w.heap.size + 1, 1, none⟩ = some (.slice A1 n1 cap1) := by simp
  have a1_l := sz_3
  generalize (w.alloc (.cells #[.int .i64 c0, .slice A0 n0 cap0] 43)).alloc (.cells #[.int .i64 c1, .slice A1 n1 cap1] 43) = w1 at hb_1 a0_0 a0_1 a1_0 a1_1 sz_2 a0_l sz_3 a1_l ⊢
  replace in0 := in0.next hb_1 (by omega)
  replace in1 := in1.next hb_1 (by omega)
  replace hB := hB.trans (hb_1.mono hB.size)
  have sz_4 := hb_1.size
  refine (szTerm_c c0 A0 n0 cap0 _ _ (by omega) (by omega) (by first | assumption | (unfold maxLen; omega))).mono ?_
  rintro e w2 ⟨rfl, hb_5⟩
  rw [szv_yes (by omega)]
  replace in0 := in0.next hb_5 (by omega)
  replace in1 := in1.next hb_5 (by omega)
  replace a0_0 := cell_next a0_0 hb_5
  replace a0_1 := cell_next a0_1 hb_5
  replace a1_0 := cell_next a1_0 hb_5
  replace a1_1 := cell_next a1_1 hb_5
  replace a0_l := Nat.lt_of_lt_of_le a0_l hb_5.size
  replace a1_l := Nat.lt_of_lt_of_le a1_l hb_5.size
  replace hB := hB.trans (hb_5.mono hB.size)
  have sz_7 := hb_5.size
  go_wp2_with fail
  refine (szTerm_c c1 A1 n1 cap1 _ _ (by omega) (by omega) (by first | assumption | (unfold maxLen; omega))).mono ?_
  rintro e w3 ⟨rfl, hb_8⟩
  rw [szv_yes (by omega)]
  replace in0 := in0.next hb_8 (by omega)
  replace in1 := in1.next hb_8 (by omega)
  replace a0_0 := cell_next a0_0 hb_8
  replace a0_1 := cell_next a0_1 hb_8
  replace a1_0 := cell_next a1_0 hb_8
  replace a1_1 := cell_next a1_1 hb_8
  replace a0_l := Nat.lt_of_lt_of_le a0_l hb_8.size
  replace a1_l := Nat.lt_of_lt_of_le a1_l hb_8.size
  replace hB := hB.trans (hb_8.mono hB.size)
  have sz_10 := hb_8.size
  go_wp2_with fail
  go_cut [6, 7] (fun s6 s7 wx => ∃ (R_11 : Option Addr) (d_12 : Nat) (bx_15 : Nat) (lo_18 hi_19 : Nat), s6 = .pointer (some ⟨bx_15, 0, none⟩) ∧ s7 = .bool r1 ∧ wx.cell? ⟨bx_15, 0, none⟩ = some (.int .i64 r0) ∧ wx.cell? ⟨bx_15, 1, none⟩ = some (.slice R_11 l00 d_12) ∧ bx_15 < wx.heap.size ∧ w3.heap.size ≤ bx_15 ∧ OwnL wx lo_18 hi_19 R_11 l00 d_12 y00 ∧ (w3.heap.size ≤ lo_18 ∧ lo_18 ≤ hi_19 ∧ hi_19 ≤ wx.heap.size) ∧ Below w3.heap.size w3 wx)
  case first =>
    have HT_22 := Lib.hid (fun (x : World) (h : Below w3.drew.heap.size w3.drew x) => toTerm_k c0 A0 n0 cap0 _ z0 x (in0.call (by omega) h) (le_call (by omega) h) h0ok)
    have HT_27 := Lib.hid (fun (x : World) (h : Below w3.drew.heap.size w3.drew x) => toTerm_k c1 A1 n1 cap1 _ z1 x (in1.call (by omega) h) (le_call (by omega) h) h1ok)
    go_region_held3 (fun w' => w'.cell? ⟨w.heap.size, 0, none⟩ = some (.int .i64 c0) ∧ w'.cell? ⟨w.heap.size, 1, none⟩ = some (.slice A0 n0 cap0) ∧ w'.cell? ⟨w.heap.size + 1, 0, none⟩ = some (.int .i64 c1) ∧ w'.cell? ⟨w.heap.size + 1, 1, none⟩ = some (.slice A1 n1 cap1))
      (first | go_keep | exact ⟨cell_on a0_0 (by with_reducible repeat' (first | exact Below.refl _ _ | refine bon ?_ hb_24 | refine bon ?_ hb_29 | refine bon ?_ hb_33 | refine bon ?_ (bnew _ _) | exact bk_34.2.2 | refine below_set ?_ ?_ | exact bel_ad _ _ | fail)), cell_on a0_1 (by with_reducible repeat' (first | exact Below.refl _ _ | refine bon ?_ hb_24 | refine bon ?_ hb_29 | refine bon ?_ hb_33 | refine bon ?_ (bnew _ _) | exact bk_34.2.2 | refine below_set ?_ ?_ | exact bel_ad _ _ | fail)), cell_on a1_0 (by with_reducible repeat' (first | exact Below.refl _ _ | refine bon ?_ hb_24 | refine bon ?_ hb_29 | refine bon ?_ hb_33 | refine bon ?_ (bnew _ _) | exact bk_34.2.2 | refine below_set ?_ ?_ | exact bel_ad _ _ | fail)), cell_on a1_1 (by with_reducible repeat' (first | exact Below.refl _ _ | refine bon ?_ hb_24 | refine bon ?_ hb_29 | refine bon ?_ hb_33 | refine bon ?_ (bnew _ _) | exact bk_34.2.2 | refine below_set ?_ ?_ | exact bel_ad _ _ | fail))⟩ | fail "none keeps")
      (first | (go_at_call_of 27 A0; with_reducible refine (HT_22.out _ (by with_reducible repeat' (first | exact Below.refl _ _ | refine bon ?_ hb_24 | refine bon ?_ hb_29 | refine bon ?_ hb_33 | refine bon ?_ (bnew _ _) | exact bk_34.2.2 | refine below_set ?_ ?_ | exact bel_ad _ _ | fail))).mono ?_; rintro e v_23 ⟨g_25, rfl, own_26, hb_24⟩; (try have bk_34 := blk_step bk_34 hb_24); (try have bk_34 := blk_call (D := w3.drew) hb_24 (by with_reducible repeat' (first | exact Below.refl _ _ | refine bon ?_ hb_24 | refine bon ?_ hb_29 | refine bon ?_ hb_33 | refine bon ?_ (bnew _ _) | exact bk_34.2.2 | refine below_set ?_ ?_ | exact bel_ad _ _ | fail))); (try have bk_34 := blk_call_d hb_24)) | (go_at_call_of 27 A1; with_reducible refine (HT_27.out _ (by with_reducible repeat' (first | exact Below.refl _ _ | refine bon ?_ hb_24 | refine bon ?_ hb_29 | refine bon ?_ hb_33 | refine bon ?_ (bnew _ _) | exact bk_34.2.2 | refine below_set ?_ ?_ | exact bel_ad _ _ | fail))).mono ?_; rintro e v_28 ⟨g_30, rfl, own_31, hb_29⟩; (try have bk_34 := blk_step bk_34 hb_29); (try have bk_34 := blk_call (D := w3.drew) hb_29 (by with_reducible repeat' (first | exact Below.refl _ _ | refine bon ?_ hb_24 | refine bon ?_ hb_29 | refine bon ?_ hb_33 | refine bon ?_ (bnew _ _) | exact bk_34.2.2 | refine below_set ?_ ?_ | exact bel_ad _ _ | fail))); (try have bk_34 := blk_call_d hb_29)) | (go_at_call 26; with_reducible refine (HS.out _ _ _ _ _ (by with_reducible refine OwnL.all (lo := ?_) (hi := ?_) (c := ?_) ?_; with_reducible repeat' (first | exact own_26 | refine OwnL.next ?_ hb_29 | refine OwnL.next ?_ hb_24 | refine OwnL.next ?_ (bnew _ _) | fail)) (by with_reducible refine OwnL.all (lo := ?_) (hi := ?_) (c := ?_) ?_; with_reducible repeat' (first | exact own_31 | refine OwnL.next ?_ hb_29 | refine OwnL.next ?_ hb_24 | refine OwnL.next ?_ (bnew _ _) | fail))).mono ?_; rintro e v_32 ⟨R_11, d_12, rfl, own_35, hb_33⟩; (try have bk_34 := blk_step bk_34 hb_33); (try have bk_34 := blk_call (D := w3.drew) hb_33 (by with_reducible repeat' (first | exact Below.refl _ _ | refine bon ?_ hb_24 | refine bon ?_ hb_29 | refine bon ?_ hb_33 | refine bon ?_ (bnew _ _) | exact bk_34.2.2 | refine below_set ?_ ?_ | exact bel_ad _ _ | fail))); (try have bk_34 := blk_call_d hb_33); (try (have z0_bk_34 := bk_34.1.cell 0; have z1_bk_34 := bk_34.1.cell 1; have f0_bk_34 := bk_34.1.frozen 0; have f1_bk_34 := bk_34.1.frozen 1; simp at z0_bk_34 z1_bk_34))) | fail "no arm")
    all_goals (go_wp2_with fail; go_meet; first | exact ⟨_, _, _, _, _, rfl, rfl, fin_new (bstep (by with_reducible repeat' (first | exact Below.refl _ _ | refine bon ?_ hb_24 | refine bon ?_ hb_29 | refine bon ?_ hb_33 | refine bon ?_ (bnew _ _) | exact bk_34.2.2 | refine below_set ?_ ?_ | exact bel_ad _ _ | fail))) own_35 hb_33⟩ | exact ⟨_, _, _, _, _, rfl, rfl, fin_box (bstep (by with_reducible repeat' (first | exact Below.refl _ _ | refine bon ?_ hb_24 | refine bon ?_ hb_29 | refine bon ?_ hb_33 | refine bon ?_ (bnew _ _) | exact bk_34.2.2 | refine below_set ?_ ?_ | exact bel_ad _ _ | fail))) bk_34 own_35 hb_33⟩ | fail "no end")
  case rest =>
    obtain ⟨R_11, d_12, bx_15, lo_18, hi_19, rfl, rfl, w0_0, w0_1, w0_l, sz_16, own_17, sz_20, hb_21⟩ := hcut
    obtain ⟨w4, hwx⟩ : ∃ x, x = wc := ⟨_, rfl⟩
    subst hwx
    have sz_36 := w0_l
    replace in0 := in0.next hb_21 (by omega)
    replace in1 := in1.next hb_21 (by omega)
    replace a0_0 := cell_next a0_0 hb_21
    replace a0_1 := cell_next a0_1 hb_21
    replace a1_0 := cell_next a1_0 hb_21
    replace a1_1 := cell_next a1_1 hb_21
    replace a0_l := Nat.lt_of_lt_of_le a0_l hb_21.size
    replace a1_l := Nat.lt_of_lt_of_le a1_l hb_21.size
    replace hB := hB.trans (hb_21.mono hB.size)
    have sz_37 := hb_21.size
    go_wp2_with fail
    refine (toTerm_k c0 A0 n0 cap0 _ z0 _ in0 (by omega) h0ok).mono ?_
    rintro e w5 ⟨g_38, rfl, own_39, hb_40⟩
    replace in0 := in0.next hb_40 (by omega)
    replace in1 := in1.next hb_40 (by omega)
    replace a0_0 := cell_next a0_0 hb_40
    replace a0_1 := cell_next a0_1 hb_40
    replace a1_0 := cell_next a1_0 hb_40
    replace a1_1 := cell_next a1_1 hb_40
    replace a0_l := Nat.lt_of_lt_of_le a0_l hb_40.size
    replace a1_l := Nat.lt_of_lt_of_le a1_l hb_40.size
    replace w0_0 := cell_next w0_0 hb_40
    replace w0_1 := cell_next w0_1 hb_40
    replace w0_l := Nat.lt_of_lt_of_le w0_l hb_40.size
    replace own_17 := own_17.next hb_40
    replace hB := hB.trans (hb_40.mono hB.size)
    have sz_41 := hb_40.size
    go_wp2_with fail
    have hb_42 : Below w5.heap.size w5 (w5.alloc (.cells #[.int .i64 c0, .slice (some ⟨g_38, 0, none⟩) n0 n0] 26)) := bnew _ _
    have sz_43 : w5.heap.size < (w5.alloc (.cells #[.int .i64 c0, .slice (some ⟨g_38, 0, none⟩) n0 n0] 26)).heap.size := by simp
    have x0_0 : (w5.alloc (.cells #[.int .i64 c0, .slice (some ⟨g_38, 0, none⟩) n0 n0] 26)).cell? ⟨w5.heap.size, 0, none⟩ = some (.int .i64 c0) := by simp
    have x0_1 : (w5.alloc (.cells #[.int .i64 c0, .slice (some ⟨g_38, 0, none⟩) n0 n0] 26)).cell? ⟨w5.heap.size, 1, none⟩ = some (.slice (some ⟨g_38, 0, none⟩) n0 n0) := by simp
    have x0_l := sz_43
    generalize w5.alloc (.cells #[.int .i64 c0, .slice (some ⟨g_38, 0, none⟩) n0 n0] 26) = w6 at hb_42 x0_0 x0_1 sz_43 x0_l ⊢
    replace in0 := in0.next hb_42 (by omega)
    replace in1 := in1.next hb_42 (by omega)
    replace a0_0 := cell_next a0_0 hb_42
    replace a0_1 := cell_next a0_1 hb_42
    replace a1_0 := cell_next a1_0 hb_42
    replace a1_1 := cell_next a1_1 hb_42
    replace a0_l := Nat.lt_of_lt_of_le a0_l hb_42.size
    replace a1_l := Nat.lt_of_lt_of_le a1_l hb_42.size
    replace w0_0 := cell_next w0_0 hb_42
    replace w0_1 := cell_next w0_1 hb_42
    replace w0_l := Nat.lt_of_lt_of_le w0_l hb_42.size
    replace own_17 := own_17.next hb_42
    replace own_39 := own_39.next hb_42
    replace hB := hB.trans (hb_42.mono hB.size)
    have sz_44 := hb_42.size
    refine (toTerm_k c1 A1 n1 cap1 _ z1 _ in1 (by omega) h1ok).mono ?_
    rintro e w7 ⟨g_45, rfl, own_46, hb_47⟩
    replace in0 := in0.next hb_47 (by omega)
    replace in1 := in1.next hb_47 (by omega)
    replace a0_0 := cell_next a0_0 hb_47
    replace a0_1 := cell_next a0_1 hb_47
    replace a1_0 := cell_next a1_0 hb_47
    replace a1_1 := cell_next a1_1 hb_47
    replace a0_l := Nat.lt_of_lt_of_le a0_l hb_47.size
    replace a1_l := Nat.lt_of_lt_of_le a1_l hb_47.size
    replace w0_0 := cell_next w0_0 hb_47
    replace w0_1 := cell_next w0_1 hb_47
    replace w0_l := Nat.lt_of_lt_of_le w0_l hb_47.size
    replace own_17 := own_17.next hb_47
    replace own_39 := own_39.next hb_47
    replace x0_0 := cell_next x0_0 hb_47
    replace x0_1 := cell_next x0_1 hb_47
    replace x0_l := Nat.lt_of_lt_of_le x0_l hb_47.size
    replace hB := hB.trans (hb_47.mono hB.size)
    have sz_48 := hb_47.size
    go_wp2_with fail
    have hb_49 : Below w7.heap.size w7 (w7.alloc (.cells #[.int .i64 c1, .slice (some ⟨g_45, 0, none⟩) n1 n1] 26)) := bnew _ _
    have sz_50 : w7.heap.size < (w7.alloc (.cells #[.int .i64 c1, .slice (some ⟨g_45, 0, none⟩) n1 n1] 26)).heap.size := by simp
    have x1_0 : (w7.alloc (.cells #[.int .i64 c1, .slice (some ⟨g_45, 0, none⟩) n1 n1] 26)).cell? ⟨w7.heap.size, 0, none⟩ = some (.int .i64 c1) := by simp
    have x1_1 : (w7.alloc (.cells #[.int .i64 c1, .slice (some ⟨g_45, 0, none⟩) n1 n1] 26)).cell? ⟨w7.heap.size, 1, none⟩ = some (.slice (some ⟨g_45, 0, none⟩) n1 n1) := by simp
    have x1_l := sz_50
    generalize w7.alloc (.cells #[.int .i64 c1, .slice (some ⟨g_45, 0, none⟩) n1 n1] 26) = w8 at hb_49 x1_0 x1_1 sz_50 x1_l ⊢
    replace in0 := in0.next hb_49 (by omega)
    replace in1 := in1.next hb_49 (by omega)
    replace a0_0 := cell_next a0_0 hb_49
    replace a0_1 := cell_next a0_1 hb_49
    replace a1_0 := cell_next a1_0 hb_49
    replace a1_1 := cell_next a1_1 hb_49
    replace a0_l := Nat.lt_of_lt_of_le a0_l hb_49.size
    replace a1_l := Nat.lt_of_lt_of_le a1_l hb_49.size
    replace w0_0 := cell_next w0_0 hb_49
    replace w0_1 := cell_next w0_1 hb_49
    replace w0_l := Nat.lt_of_lt_of_le w0_l hb_49.size
    replace own_17 := own_17.next hb_49
    replace own_39 := own_39.next hb_49
    replace x0_0 := cell_next x0_0 hb_49
    replace x0_1 := cell_next x0_1 hb_49
    replace x0_l := Nat.lt_of_lt_of_le x0_l hb_49.size
    replace own_46 := own_46.next hb_49
    replace hB := hB.trans (hb_49.mono hB.size)
    have sz_51 := hb_49.size
    refine (HI.out w8 _ _ _ _ ((own_39.inn).more (by omega)) ((own_46.inn).more (by omega))).mono ?_
    rintro e w9 ⟨R_53, d_54, rfl, own_55, hb_52⟩
    replace in0 := in0.next hb_52 (by omega)
    replace in1 := in1.next hb_52 (by omega)
    replace a0_0 := cell_next a0_0 hb_52
    replace a0_1 := cell_next a0_1 hb_52
    replace a1_0 := cell_next a1_0 hb_52
    replace a1_1 := cell_next a1_1 hb_52
    replace a0_l := Nat.lt_of_lt_of_le a0_l hb_52.size
    replace a1_l := Nat.lt_of_lt_of_le a1_l hb_52.size
    replace w0_0 := cell_next w0_0 hb_52
    replace w0_1 := cell_next w0_1 hb_52
    replace w0_l := Nat.lt_of_lt_of_le w0_l hb_52.size
    replace own_17 := own_17.next hb_52
    replace own_39 := own_39.next hb_52
    replace x0_0 := cell_next x0_0 hb_52
    replace x0_1 := cell_next x0_1 hb_52
    replace x0_l := Nat.lt_of_lt_of_le x0_l hb_52.size
    replace own_46 := own_46.next hb_52
    replace x1_0 := cell_next x1_0 hb_52
    replace x1_1 := cell_next x1_1 hb_52
    replace x1_l := Nat.lt_of_lt_of_le x1_l hb_52.size
    replace hB := hB.trans (hb_52.mono hB.size)
    have sz_56 := hb_52.size
    go_wp2_with fail
    have hb_57 : Below w9.heap.size w9 (w9.alloc (.cells #[.int .i64 r0, .slice R_53 l00 d_54] 26)) := bnew _ _
    have sz_58 : w9.heap.size < (w9.alloc (.cells #[.int .i64 r0, .slice R_53 l00 d_54] 26)).heap.size := by simp
    have g0_0 : (w9.alloc (.cells #[.int .i64 r0, .slice R_53 l00 d_54] 26)).cell? ⟨w9.heap.size, 0, none⟩ = some (.int .i64 r0) := by simp
    have g0_1 : (w9.alloc (.cells #[.int .i64 r0, .slice R_53 l00 d_54] 26)).cell? ⟨w9.heap.size, 1, none⟩ = some (.slice R_53 l00 d_54) := by simp
    have g0_l := sz_58
    generalize w9.alloc (.cells #[.int .i64 r0, .slice R_53 l00 d_54] 26) = w10 at hb_57 g0_0 g0_1 sz_58 g0_l ⊢
    replace in0 := in0.next hb_57 (by omega)
    replace in1 := in1.next hb_57 (by omega)
    replace a0_0 := cell_next a0_0 hb_57
    replace a0_1 := cell_next a0_1 hb_57
    replace a1_0 := cell_next a1_0 hb_57
    replace a1_1 := cell_next a1_1 hb_57
    replace a0_l := Nat.lt_of_lt_of_le a0_l hb_57.size
    replace a1_l := Nat.lt_of_lt_of_le a1_l hb_57.size
    replace w0_0 := cell_next w0_0 hb_57
    replace w0_1 := cell_next w0_1 hb_57
    replace w0_l := Nat.lt_of_lt_of_le w0_l hb_57.size
    replace own_17 := own_17.next hb_57
    replace own_39 := own_39.next hb_57
    replace x0_0 := cell_next x0_0 hb_57
    replace x0_1 := cell_next x0_1 hb_57
    replace x0_l := Nat.lt_of_lt_of_le x0_l hb_57.size
    replace own_46 := own_46.next hb_57
    replace x1_0 := cell_next x1_0 hb_57
    replace x1_1 := cell_next x1_1 hb_57
    replace x1_l := Nat.lt_of_lt_of_le x1_l hb_57.size
    replace own_55 := own_55.next hb_57
    replace hB := hB.trans (hb_57.mono hB.size)
    have sz_59 := hb_57.size
    -- if !eqTerm(g0, w0) || g1 != w1 {
    refine (eqTerm_k r0 R_53 R_11 l00 d_54 d_12 _ _ y00 _ own_55.inn own_17.inn (by omega) (by omega) (by omega)).mono ?_
    rintro e w11 ⟨rfl, hb_60⟩
    replace in0 := in0.next hb_60 (by omega)
    replace in1 := in1.next hb_60 (by omega)
    replace a0_0 := cell_next a0_0 hb_60
    replace a0_1 := cell_next a0_1 hb_60
    replace a1_0 := cell_next a1_0 hb_60
    replace a1_1 := cell_next a1_1 hb_60
    replace a0_l := Nat.lt_of_lt_of_le a0_l hb_60.size
    replace a1_l := Nat.lt_of_lt_of_le a1_l hb_60.size
    replace w0_0 := cell_next w0_0 hb_60
    replace w0_1 := cell_next w0_1 hb_60
    replace w0_l := Nat.lt_of_lt_of_le w0_l hb_60.size
    replace own_17 := own_17.next hb_60
    replace own_39 := own_39.next hb_60
    replace x0_0 := cell_next x0_0 hb_60
    replace x0_1 := cell_next x0_1 hb_60
    replace x0_l := Nat.lt_of_lt_of_le x0_l hb_60.size
    replace own_46 := own_46.next hb_60
    replace x1_0 := cell_next x1_0 hb_60
    replace x1_1 := cell_next x1_1 hb_60
    replace x1_l := Nat.lt_of_lt_of_le x1_l hb_60.size
    replace own_55 := own_55.next hb_60
    replace g0_0 := cell_next g0_0 hb_60
    replace g0_1 := cell_next g0_1 hb_60
    replace g0_l := Nat.lt_of_lt_of_le g0_l hb_60.size
    replace hB := hB.trans (hb_60.mono hB.size)
    have sz_61 := hb_60.size
    go_wp2_with fail
    have HT_62 := Lib.hid (toTerm_k c0 A0 n0 cap0 _ z0 w11.drew in0.drew (by show _ ≤ w11.heap.size; omega) h0ok)
    have HE_63 : Hid (∀ w12 g_64, Below w11.drew.heap.size w11.drew w12 → OwnL w12 w11.drew.heap.size w12.heap.size (some ⟨g_64, 0, none⟩) n0 n0 z0 → Calls Try.prog 28 #[.agg #[.int .i64 c0, .slice (some ⟨g_38, 0, none⟩) n0 n0], .agg #[.int .i64 c0, .slice (some ⟨g_64, 0, none⟩) n0 n0]] w12 fun e w' => e = .returned (.bool true) ∧ Below w12.heap.size w12 w') := fun w12 g_64 hb_66 own_65 => eqTerm_k c0 (some ⟨g_38, 0, none⟩) (some ⟨g_64, 0, none⟩) n0 n0 n0 _ _ z0 w12 ((own_39.inn).call (by omega) hb_66) own_65.inn (le_call (by omega) hb_66) (Nat.le_refl _) h0ok
    go_region_held3 (fun w' => w'.cell? ⟨w.heap.size, 0, none⟩ = some (.int .i64 c0) ∧ w'.cell? ⟨w.heap.size, 1, none⟩ = some (.slice A0 n0 cap0) ∧ w'.cell? ⟨w5.heap.size, 0, none⟩ = some (.int .i64 c0) ∧ w'.cell? ⟨w5.heap.size, 1, none⟩ = some (.slice (some ⟨g_38, 0, none⟩) n0 n0))
      (first | go_keep | exact ⟨cell_on a0_0 hb_66, cell_on a0_1 hb_66, cell_on x0_0 hb_66, cell_on x0_1 hb_66⟩ | exact ⟨cell_on2 a0_0 hb_66 hb_68, cell_on2 a0_1 hb_66 hb_68, cell_on2 x0_0 hb_66 hb_68, cell_on2 x0_1 hb_66 hb_68⟩)
      (first | (go_at_call 27; refine HT_62.out.mono ?_; rintro e w12 ⟨g_64, rfl, own_65, hb_66⟩) | (go_at_call 28; refine (HE_63.out _ _ hb_66 own_65).mono ?_; rintro e w13 ⟨rfl, hb_68⟩))
    replace hb_66 := (bstep hb_66)
    replace in0 := in0.next hb_66 (by omega)
    replace in1 := in1.next hb_66 (by omega)
    replace a0_0 := cell_next a0_0 hb_66
    replace a0_1 := cell_next a0_1 hb_66
    replace a1_0 := cell_next a1_0 hb_66
    replace a1_1 := cell_next a1_1 hb_66
    replace a0_l := Nat.lt_of_lt_of_le a0_l hb_66.size
    replace a1_l := Nat.lt_of_lt_of_le a1_l hb_66.size
    replace w0_0 := cell_next w0_0 hb_66
    replace w0_1 := cell_next w0_1 hb_66
    replace w0_l := Nat.lt_of_lt_of_le w0_l hb_66.size
    replace own_17 := own_17.next hb_66
    replace own_39 := own_39.next hb_66
    replace x0_0 := cell_next x0_0 hb_66
    replace x0_1 := cell_next x0_1 hb_66
    replace x0_l := Nat.lt_of_lt_of_le x0_l hb_66.size
    replace own_46 := own_46.next hb_66
    replace x1_0 := cell_next x1_0 hb_66
    replace x1_1 := cell_next x1_1 hb_66
    replace x1_l := Nat.lt_of_lt_of_le x1_l hb_66.size
    replace own_55 := own_55.next hb_66
    replace g0_0 := cell_next g0_0 hb_66
    replace g0_1 := cell_next g0_1 hb_66
    replace g0_l := Nat.lt_of_lt_of_le g0_l hb_66.size
    replace hB := hB.trans (hb_66.mono hB.size)
    have sz_69 := hb_66.size
    replace in0 := in0.next hb_68 (by omega)
    replace in1 := in1.next hb_68 (by omega)
    replace a0_0 := cell_next a0_0 hb_68
    replace a0_1 := cell_next a0_1 hb_68
    replace a1_0 := cell_next a1_0 hb_68
    replace a1_1 := cell_next a1_1 hb_68
    replace a0_l := Nat.lt_of_lt_of_le a0_l hb_68.size
    replace a1_l := Nat.lt_of_lt_of_le a1_l hb_68.size
    replace w0_0 := cell_next w0_0 hb_68
    replace w0_1 := cell_next w0_1 hb_68
    replace w0_l := Nat.lt_of_lt_of_le w0_l hb_68.size
    replace own_17 := own_17.next hb_68
    replace own_39 := own_39.next hb_68
    replace x0_0 := cell_next x0_0 hb_68
    replace x0_1 := cell_next x0_1 hb_68
    replace x0_l := Nat.lt_of_lt_of_le x0_l hb_68.size
    replace own_46 := own_46.next hb_68
    replace x1_0 := cell_next x1_0 hb_68
    replace x1_1 := cell_next x1_1 hb_68
    replace x1_l := Nat.lt_of_lt_of_le x1_l hb_68.size
    replace own_55 := own_55.next hb_68
    replace g0_0 := cell_next g0_0 hb_68
    replace g0_1 := cell_next g0_1 hb_68
    replace g0_l := Nat.lt_of_lt_of_le g0_l hb_68.size
    replace hB := hB.trans (hb_68.mono hB.size)
    have sz_70 := hb_68.size
    clear HT_62 HE_63 own_65
    go_wp2_with fail
    have HT_71 := Lib.hid (toTerm_k c1 A1 n1 cap1 _ z1 w13.drew in1.drew (by show _ ≤ w13.heap.size; omega) h1ok)
    have HE_72 : Hid (∀ w14 g_73, Below w13.drew.heap.size w13.drew w14 → OwnL w14 w13.drew.heap.size w14.heap.size (some ⟨g_73, 0, none⟩) n1 n1 z1 → Calls Try.prog 28 #[.agg #[.int .i64 c1, .slice (some ⟨g_45, 0, none⟩) n1 n1], .agg #[.int .i64 c1, .slice (some ⟨g_73, 0, none⟩) n1 n1]] w14 fun e w' => e = .returned (.bool true) ∧ Below w14.heap.size w14 w') := fun w14 g_73 hb_75 own_74 => eqTerm_k c1 (some ⟨g_45, 0, none⟩) (some ⟨g_73, 0, none⟩) n1 n1 n1 _ _ z1 w14 ((own_46.inn).call (by omega) hb_75) own_74.inn (le_call (by omega) hb_75) (Nat.le_refl _) h1ok
    go_region_held3 (fun w' => w'.cell? ⟨w.heap.size + 1, 0, none⟩ = some (.int .i64 c1) ∧ w'.cell? ⟨w.heap.size + 1, 1, none⟩ = some (.slice A1 n1 cap1) ∧ w'.cell? ⟨w7.heap.size, 0, none⟩ = some (.int .i64 c1) ∧ w'.cell? ⟨w7.heap.size, 1, none⟩ = some (.slice (some ⟨g_45, 0, none⟩) n1 n1))
      (first | go_keep | exact ⟨cell_on a1_0 hb_75, cell_on a1_1 hb_75, cell_on x1_0 hb_75, cell_on x1_1 hb_75⟩ | exact ⟨cell_on2 a1_0 hb_75 hb_77, cell_on2 a1_1 hb_75 hb_77, cell_on2 x1_0 hb_75 hb_77, cell_on2 x1_1 hb_75 hb_77⟩)
      (first | (go_at_call 27; refine HT_71.out.mono ?_; rintro e w14 ⟨g_73, rfl, own_74, hb_75⟩) | (go_at_call 28; refine (HE_72.out _ _ hb_75 own_74).mono ?_; rintro e w15 ⟨rfl, hb_77⟩))
    replace hb_75 := (bstep hb_75)
    replace in0 := in0.next hb_75 (by omega)
    replace in1 := in1.next hb_75 (by omega)
    replace a0_0 := cell_next a0_0 hb_75
    replace a0_1 := cell_next a0_1 hb_75
    replace a1_0 := cell_next a1_0 hb_75
    replace a1_1 := cell_next a1_1 hb_75
    replace a0_l := Nat.lt_of_lt_of_le a0_l hb_75.size
    replace a1_l := Nat.lt_of_lt_of_le a1_l hb_75.size
    replace w0_0 := cell_next w0_0 hb_75
    replace w0_1 := cell_next w0_1 hb_75
    replace w0_l := Nat.lt_of_lt_of_le w0_l hb_75.size
    replace own_17 := own_17.next hb_75
    replace own_39 := own_39.next hb_75
    replace x0_0 := cell_next x0_0 hb_75
    replace x0_1 := cell_next x0_1 hb_75
    replace x0_l := Nat.lt_of_lt_of_le x0_l hb_75.size
    replace own_46 := own_46.next hb_75
    replace x1_0 := cell_next x1_0 hb_75
    replace x1_1 := cell_next x1_1 hb_75
    replace x1_l := Nat.lt_of_lt_of_le x1_l hb_75.size
    replace own_55 := own_55.next hb_75
    replace g0_0 := cell_next g0_0 hb_75
    replace g0_1 := cell_next g0_1 hb_75
    replace g0_l := Nat.lt_of_lt_of_le g0_l hb_75.size
    replace hB := hB.trans (hb_75.mono hB.size)
    have sz_78 := hb_75.size
    replace in0 := in0.next hb_77 (by omega)
    replace in1 := in1.next hb_77 (by omega)
    replace a0_0 := cell_next a0_0 hb_77
    replace a0_1 := cell_next a0_1 hb_77
    replace a1_0 := cell_next a1_0 hb_77
    replace a1_1 := cell_next a1_1 hb_77
    replace a0_l := Nat.lt_of_lt_of_le a0_l hb_77.size
    replace a1_l := Nat.lt_of_lt_of_le a1_l hb_77.size
    replace w0_0 := cell_next w0_0 hb_77
    replace w0_1 := cell_next w0_1 hb_77
    replace w0_l := Nat.lt_of_lt_of_le w0_l hb_77.size
    replace own_17 := own_17.next hb_77
    replace own_39 := own_39.next hb_77
    replace x0_0 := cell_next x0_0 hb_77
    replace x0_1 := cell_next x0_1 hb_77
    replace x0_l := Nat.lt_of_lt_of_le x0_l hb_77.size
    replace own_46 := own_46.next hb_77
    replace x1_0 := cell_next x1_0 hb_77
    replace x1_1 := cell_next x1_1 hb_77
    replace x1_l := Nat.lt_of_lt_of_le x1_l hb_77.size
    replace own_55 := own_55.next hb_77
    replace g0_0 := cell_next g0_0 hb_77
    replace g0_1 := cell_next g0_1 hb_77
    replace g0_l := Nat.lt_of_lt_of_le g0_l hb_77.size
    replace hB := hB.trans (hb_77.mono hB.size)
    have sz_79 := hb_77.size
    clear HT_71 HE_72 own_74
    go_wp2_with fail
    refine (markTerm_k c0 w4.heap.size w5.heap.size (some ⟨g_38, 0, none⟩) n0 n0 z0 1 _ own_39 (by omega) (by omega) (by omega)).mono ?_
    rintro e w16 ⟨rfl, own_81, ho_80⟩
    replace in0 := in0.out ho_80 (by omega) (by omega)
    replace in1 := in1.out ho_80 (by omega) (by omega)
    replace a0_0 := ho_80.cell a0_0 (by omega)
    replace a0_1 := ho_80.cell a0_1 (by omega)
    replace a1_0 := ho_80.cell a1_0 (by omega)
    replace a1_1 := ho_80.cell a1_1 (by omega)
    replace a0_l := Nat.lt_of_lt_of_le a0_l ho_80.size
    replace a1_l := Nat.lt_of_lt_of_le a1_l ho_80.size
    replace w0_0 := ho_80.cell w0_0 (by omega)
    replace w0_1 := ho_80.cell w0_1 (by omega)
    replace w0_l := Nat.lt_of_lt_of_le w0_l ho_80.size
    replace own_17 := own_17.out ho_80 (by omega)
    replace x0_0 := ho_80.cell x0_0 (by omega)
    replace x0_1 := ho_80.cell x0_1 (by omega)
    replace x0_l := Nat.lt_of_lt_of_le x0_l ho_80.size
    replace own_46 := own_46.out ho_80 (by omega)
    replace x1_0 := ho_80.cell x1_0 (by omega)
    replace x1_1 := ho_80.cell x1_1 (by omega)
    replace x1_l := Nat.lt_of_lt_of_le x1_l ho_80.size
    replace own_55 := own_55.out ho_80 (by omega)
    replace g0_0 := ho_80.cell g0_0 (by omega)
    replace g0_1 := ho_80.cell g0_1 (by omega)
    replace g0_l := Nat.lt_of_lt_of_le g0_l ho_80.size
    replace hB := hB.trans (ho_80.below (by omega) (by omega))
    have sz_82 := ho_80.size
    clear own_39
    clear x0_0 x0_1 x0_l
    clear own_81
    go_wp2_with fail
    refine (markTerm_k c1 w6.heap.size w7.heap.size (some ⟨g_45, 0, none⟩) n1 n1 z1 (1 + (n0 : Int)) _ own_46 (by omega) (by omega) (by omega)).mono ?_
    rintro e w17 ⟨rfl, own_84, ho_83⟩
    replace in0 := in0.out ho_83 (by omega) (by omega)
    replace in1 := in1.out ho_83 (by omega) (by omega)
    replace a0_0 := ho_83.cell a0_0 (by omega)
    replace a0_1 := ho_83.cell a0_1 (by omega)
    replace a1_0 := ho_83.cell a1_0 (by omega)
    replace a1_1 := ho_83.cell a1_1 (by omega)
    replace a0_l := Nat.lt_of_lt_of_le a0_l ho_83.size
    replace a1_l := Nat.lt_of_lt_of_le a1_l ho_83.size
    replace w0_0 := ho_83.cell w0_0 (by omega)
    replace w0_1 := ho_83.cell w0_1 (by omega)
    replace w0_l := Nat.lt_of_lt_of_le w0_l ho_83.size
    replace own_17 := own_17.out ho_83 (by omega)
    replace x1_0 := ho_83.cell x1_0 (by omega)
    replace x1_1 := ho_83.cell x1_1 (by omega)
    replace x1_l := Nat.lt_of_lt_of_le x1_l ho_83.size
    replace own_55 := own_55.out ho_83 (by omega)
    replace g0_0 := ho_83.cell g0_0 (by omega)
    replace g0_1 := ho_83.cell g0_1 (by omega)
    replace g0_l := Nat.lt_of_lt_of_le g0_l ho_83.size
    replace hB := hB.trans (ho_83.below (by omega) (by omega))
    have sz_85 := ho_83.size
    clear own_46
    clear x1_0 x1_1 x1_l
    clear own_84
    go_wp2_with fail
    -- if k < 0 || !eqTerm(g0, w0) || g1 != w1 {
    refine (eqTerm_k r0 R_53 R_11 l00 d_54 d_12 _ _ y00 _ own_55.inn own_17.inn (by omega) (by omega) (by omega)).mono ?_
    rintro e w18 ⟨rfl, hb_86⟩
    replace in0 := in0.next hb_86 (by omega)
    replace in1 := in1.next hb_86 (by omega)
    replace a0_0 := cell_next a0_0 hb_86
    replace a0_1 := cell_next a0_1 hb_86
    replace a1_0 := cell_next a1_0 hb_86
    replace a1_1 := cell_next a1_1 hb_86
    replace a0_l := Nat.lt_of_lt_of_le a0_l hb_86.size
    replace a1_l := Nat.lt_of_lt_of_le a1_l hb_86.size
    replace w0_0 := cell_next w0_0 hb_86
    replace w0_1 := cell_next w0_1 hb_86
    replace w0_l := Nat.lt_of_lt_of_le w0_l hb_86.size
    replace own_17 := own_17.next hb_86
    replace own_55 := own_55.next hb_86
    replace g0_0 := cell_next g0_0 hb_86
    replace g0_1 := cell_next g0_1 hb_86
    replace g0_l := Nat.lt_of_lt_of_le g0_l hb_86.size
    replace hB := hB.trans (hb_86.mono hB.size)
    have sz_87 := hb_86.size
    go_wp2_with fail
    refine (markTerm_k r0 w8.heap.size w9.heap.size R_53 l00 d_54 y00 1 _ own_55 (by omega) (by omega) (by omega)).mono ?_
    rintro e w19 ⟨rfl, own_89, ho_88⟩
    replace in0 := in0.out ho_88 (by omega) (by omega)
    replace in1 := in1.out ho_88 (by omega) (by omega)
    replace a0_0 := ho_88.cell a0_0 (by omega)
    replace a0_1 := ho_88.cell a0_1 (by omega)
    replace a1_0 := ho_88.cell a1_0 (by omega)
    replace a1_1 := ho_88.cell a1_1 (by omega)
    replace a0_l := Nat.lt_of_lt_of_le a0_l ho_88.size
    replace a1_l := Nat.lt_of_lt_of_le a1_l ho_88.size
    replace w0_0 := ho_88.cell w0_0 (by omega)
    replace w0_1 := ho_88.cell w0_1 (by omega)
    replace w0_l := Nat.lt_of_lt_of_le w0_l ho_88.size
    replace own_17 := own_17.out ho_88 (by omega)
    replace g0_0 := ho_88.cell g0_0 (by omega)
    replace g0_1 := ho_88.cell g0_1 (by omega)
    replace g0_l := Nat.lt_of_lt_of_le g0_l ho_88.size
    replace hB := hB.trans (ho_88.below (by omega) (by omega))
    have sz_90 := ho_88.size
    clear own_55
    go_wp2_with fail
    refine (heldTerm_k r0 R_53 l00 d_54 _ 1 _ own_89.inn (by omega) (by omega) (by omega) (by omega)).mono ?_
    rintro e w20 ⟨rfl, hb_91⟩
    replace in0 := in0.next hb_91 (by omega)
    replace in1 := in1.next hb_91 (by omega)
    replace a0_0 := cell_next a0_0 hb_91
    replace a0_1 := cell_next a0_1 hb_91
    replace a1_0 := cell_next a1_0 hb_91
    replace a1_1 := cell_next a1_1 hb_91
    replace a0_l := Nat.lt_of_lt_of_le a0_l hb_91.size
    replace a1_l := Nat.lt_of_lt_of_le a1_l hb_91.size
    replace w0_0 := cell_next w0_0 hb_91
    replace w0_1 := cell_next w0_1 hb_91
    replace w0_l := Nat.lt_of_lt_of_le w0_l hb_91.size
    replace own_17 := own_17.next hb_91
    replace g0_0 := cell_next g0_0 hb_91
    replace g0_1 := cell_next g0_1 hb_91
    replace g0_l := Nat.lt_of_lt_of_le g0_l hb_91.size
    replace own_89 := own_89.next hb_91
    replace hB := hB.trans (hb_91.mono hB.size)
    have sz_92 := hb_91.size
    go_wp2_with fail
    go_cut [15, 16] (fun s15 s16 wx => ∃ (R_93 : Option Addr) (d_94 : Nat) (bx_97 : Nat) (lo_100 hi_101 : Nat), s15 = .pointer (some ⟨bx_97, 0, none⟩) ∧ s16 = .bool r1 ∧ wx.cell? ⟨bx_97, 0, none⟩ = some (.int .i64 r0) ∧ wx.cell? ⟨bx_97, 1, none⟩ = some (.slice R_93 l00 d_94) ∧ bx_97 < wx.heap.size ∧ w20.heap.size ≤ bx_97 ∧ OwnL wx lo_100 hi_101 R_93 l00 d_94 y00 ∧ (w20.heap.size ≤ lo_100 ∧ lo_100 ≤ hi_101 ∧ hi_101 ≤ wx.heap.size) ∧ Below w20.heap.size w20 wx)
    case first =>
      have HT_104 := Lib.hid (fun (x : World) (h : Below w20.drew.heap.size w20.drew x) => toTerm_k c0 A0 n0 cap0 _ z0 x (in0.call (by omega) h) (le_call (by omega) h) h0ok)
      have HT_109 := Lib.hid (fun (x : World) (h : Below w20.drew.heap.size w20.drew x) => toTerm_k c1 A1 n1 cap1 _ z1 x (in1.call (by omega) h) (le_call (by omega) h) h1ok)
      go_region_held3 (fun w' => w'.cell? ⟨w.heap.size, 0, none⟩ = some (.int .i64 c0) ∧ w'.cell? ⟨w.heap.size, 1, none⟩ = some (.slice A0 n0 cap0) ∧ w'.cell? ⟨w.heap.size + 1, 0, none⟩ = some (.int .i64 c1) ∧ w'.cell? ⟨w.heap.size + 1, 1, none⟩ = some (.slice A1 n1 cap1))
        (first | go_keep | exact ⟨cell_on a0_0 (by with_reducible repeat' (first | exact Below.refl _ _ | refine bon ?_ hb_106 | refine bon ?_ hb_111 | refine bon ?_ hb_115 | refine bon ?_ (bnew _ _) | exact bk_116.2.2 | refine below_set ?_ ?_ | exact bel_ad _ _ | fail)), cell_on a0_1 (by with_reducible repeat' (first | exact Below.refl _ _ | refine bon ?_ hb_106 | refine bon ?_ hb_111 | refine bon ?_ hb_115 | refine bon ?_ (bnew _ _) | exact bk_116.2.2 | refine below_set ?_ ?_ | exact bel_ad _ _ | fail)), cell_on a1_0 (by with_reducible repeat' (first | exact Below.refl _ _ | refine bon ?_ hb_106 | refine bon ?_ hb_111 | refine bon ?_ hb_115 | refine bon ?_ (bnew _ _) | exact bk_116.2.2 | refine below_set ?_ ?_ | exact bel_ad _ _ | fail)), cell_on a1_1 (by with_reducible repeat' (first | exact Below.refl _ _ | refine bon ?_ hb_106 | refine bon ?_ hb_111 | refine bon ?_ hb_115 | refine bon ?_ (bnew _ _) | exact bk_116.2.2 | refine below_set ?_ ?_ | exact bel_ad _ _ | fail))⟩ | fail "none keeps")
        (first | (go_at_call_of 27 A0; with_reducible refine (HT_104.out _ (by with_reducible repeat' (first | exact Below.refl _ _ | refine bon ?_ hb_106 | refine bon ?_ hb_111 | refine bon ?_ hb_115 | refine bon ?_ (bnew _ _) | exact bk_116.2.2 | refine below_set ?_ ?_ | exact bel_ad _ _ | fail))).mono ?_; rintro e v_105 ⟨g_107, rfl, own_108, hb_106⟩; (try have bk_116 := blk_step bk_116 hb_106); (try have bk_116 := blk_call (D := w20.drew) hb_106 (by with_reducible repeat' (first | exact Below.refl _ _ | refine bon ?_ hb_106 | refine bon ?_ hb_111 | refine bon ?_ hb_115 | refine bon ?_ (bnew _ _) | exact bk_116.2.2 | refine below_set ?_ ?_ | exact bel_ad _ _ | fail))); (try have bk_116 := blk_call_d hb_106)) | (go_at_call_of 27 A1; with_reducible refine (HT_109.out _ (by with_reducible repeat' (first | exact Below.refl _ _ | refine bon ?_ hb_106 | refine bon ?_ hb_111 | refine bon ?_ hb_115 | refine bon ?_ (bnew _ _) | exact bk_116.2.2 | refine below_set ?_ ?_ | exact bel_ad _ _ | fail))).mono ?_; rintro e v_110 ⟨g_112, rfl, own_113, hb_111⟩; (try have bk_116 := blk_step bk_116 hb_111); (try have bk_116 := blk_call (D := w20.drew) hb_111 (by with_reducible repeat' (first | exact Below.refl _ _ | refine bon ?_ hb_106 | refine bon ?_ hb_111 | refine bon ?_ hb_115 | refine bon ?_ (bnew _ _) | exact bk_116.2.2 | refine below_set ?_ ?_ | exact bel_ad _ _ | fail))); (try have bk_116 := blk_call_d hb_111)) | (go_at_call 15; with_reducible refine (HI.out _ _ _ _ _ (by with_reducible refine OwnL.all (lo := ?_) (hi := ?_) (c := ?_) ?_; with_reducible repeat' (first | exact own_108 | refine OwnL.next ?_ hb_111 | refine OwnL.next ?_ hb_106 | refine OwnL.next ?_ (bnew _ _) | fail)) (by with_reducible refine OwnL.all (lo := ?_) (hi := ?_) (c := ?_) ?_; with_reducible repeat' (first | exact own_113 | refine OwnL.next ?_ hb_111 | refine OwnL.next ?_ hb_106 | refine OwnL.next ?_ (bnew _ _) | fail))).mono ?_; rintro e v_114 ⟨R_93, d_94, rfl, own_117, hb_115⟩; (try have bk_116 := blk_step bk_116 hb_115); (try have bk_116 := blk_call (D := w20.drew) hb_115 (by with_reducible repeat' (first | exact Below.refl _ _ | refine bon ?_ hb_106 | refine bon ?_ hb_111 | refine bon ?_ hb_115 | refine bon ?_ (bnew _ _) | exact bk_116.2.2 | refine below_set ?_ ?_ | exact bel_ad _ _ | fail))); (try have bk_116 := blk_call_d hb_115); (try (have z0_bk_116 := bk_116.1.cell 0; have z1_bk_116 := bk_116.1.cell 1; have f0_bk_116 := bk_116.1.frozen 0; have f1_bk_116 := bk_116.1.frozen 1; simp at z0_bk_116 z1_bk_116))) | fail "no arm")
      all_goals (go_wp2_with fail; go_meet; first | exact ⟨_, _, _, _, _, rfl, rfl, fin_new (bstep (by with_reducible repeat' (first | exact Below.refl _ _ | refine bon ?_ hb_106 | refine bon ?_ hb_111 | refine bon ?_ hb_115 | refine bon ?_ (bnew _ _) | exact bk_116.2.2 | refine below_set ?_ ?_ | exact bel_ad _ _ | fail))) own_117 hb_115⟩ | exact ⟨_, _, _, _, _, rfl, rfl, fin_box (bstep (by with_reducible repeat' (first | exact Below.refl _ _ | refine bon ?_ hb_106 | refine bon ?_ hb_111 | refine bon ?_ hb_115 | refine bon ?_ (bnew _ _) | exact bk_116.2.2 | refine below_set ?_ ?_ | exact bel_ad _ _ | fail))) bk_116 own_117 hb_115⟩ | fail "no end")
    case rest =>
      obtain ⟨R_93, d_94, bx_97, lo_100, hi_101, rfl, rfl, h0_0, h0_1, h0_l, sz_98, own_99, sz_102, hb_103⟩ := hcut
      obtain ⟨w21, hwx⟩ : ∃ x, x = wc := ⟨_, rfl⟩
      subst hwx
      have sz_118 := h0_l
      replace in0 := in0.next hb_103 (by omega)
      replace in1 := in1.next hb_103 (by omega)
      replace a0_0 := cell_next a0_0 hb_103
      replace a0_1 := cell_next a0_1 hb_103
      replace a1_0 := cell_next a1_0 hb_103
      replace a1_1 := cell_next a1_1 hb_103
      replace a0_l := Nat.lt_of_lt_of_le a0_l hb_103.size
      replace a1_l := Nat.lt_of_lt_of_le a1_l hb_103.size
      replace w0_0 := cell_next w0_0 hb_103
      replace w0_1 := cell_next w0_1 hb_103
      replace w0_l := Nat.lt_of_lt_of_le w0_l hb_103.size
      replace own_17 := own_17.next hb_103
      replace g0_0 := cell_next g0_0 hb_103
      replace g0_1 := cell_next g0_1 hb_103
      replace g0_l := Nat.lt_of_lt_of_le g0_l hb_103.size
      replace own_89 := own_89.next hb_103
      replace hB := hB.trans (hb_103.mono hB.size)
      have sz_119 := hb_103.size
      go_wp2_with fail
      -- if !eqTerm(h0, w0) || h1 != w1 {
      refine (eqTerm_k r0 R_93 R_11 l00 d_94 d_12 _ _ y00 _ own_99.inn own_17.inn (by omega) (by omega) (by omega)).mono ?_
      rintro e w22 ⟨rfl, hb_120⟩
      replace in0 := in0.next hb_120 (by omega)
      replace in1 := in1.next hb_120 (by omega)
      replace a0_0 := cell_next a0_0 hb_120
      replace a0_1 := cell_next a0_1 hb_120
      replace a1_0 := cell_next a1_0 hb_120
      replace a1_1 := cell_next a1_1 hb_120
      replace a0_l := Nat.lt_of_lt_of_le a0_l hb_120.size
      replace a1_l := Nat.lt_of_lt_of_le a1_l hb_120.size
      replace w0_0 := cell_next w0_0 hb_120
      replace w0_1 := cell_next w0_1 hb_120
      replace w0_l := Nat.lt_of_lt_of_le w0_l hb_120.size
      replace own_17 := own_17.next hb_120
      replace g0_0 := cell_next g0_0 hb_120
      replace g0_1 := cell_next g0_1 hb_120
      replace g0_l := Nat.lt_of_lt_of_le g0_l hb_120.size
      replace own_89 := own_89.next hb_120
      replace h0_0 := cell_next h0_0 hb_120
      replace h0_1 := cell_next h0_1 hb_120
      replace h0_l := Nat.lt_of_lt_of_le h0_l hb_120.size
      replace own_99 := own_99.next hb_120
      replace hB := hB.trans (hb_120.mono hB.size)
      have sz_121 := hb_120.size
      go_wp2_with fail
      clear own_99
      clear h0_0 h0_1 h0_l
      refine (heldTerm_k r0 R_53 l00 d_54 _ 1 _ own_89.inn (by omega) (by omega) (by omega) (by omega)).mono ?_
      rintro e w23 ⟨rfl, hb_122⟩
      replace in0 := in0.next hb_122 (by omega)
      replace in1 := in1.next hb_122 (by omega)
      replace a0_0 := cell_next a0_0 hb_122
      replace a0_1 := cell_next a0_1 hb_122
      replace a1_0 := cell_next a1_0 hb_122
      replace a1_1 := cell_next a1_1 hb_122
      replace a0_l := Nat.lt_of_lt_of_le a0_l hb_122.size
      replace a1_l := Nat.lt_of_lt_of_le a1_l hb_122.size
      replace w0_0 := cell_next w0_0 hb_122
      replace w0_1 := cell_next w0_1 hb_122
      replace w0_l := Nat.lt_of_lt_of_le w0_l hb_122.size
      replace own_17 := own_17.next hb_122
      replace g0_0 := cell_next g0_0 hb_122
      replace g0_1 := cell_next g0_1 hb_122
      replace g0_l := Nat.lt_of_lt_of_le g0_l hb_122.size
      replace own_89 := own_89.next hb_122
      replace hB := hB.trans (hb_122.mono hB.size)
      have sz_123 := hb_122.size
      go_wp2_with fail
      go_ret
      exact ⟨rfl, hB⟩

set_option maxRecDepth 100000 in
set_option maxHeartbeats 4000000 in
theorem walk (c0 : Int) (A0 : Option Addr) (n0 cap0 : Nat) (z0 : List Int) (c1 : Int) (A1 : Option Addr) (n1 cap1 : Nat) (z1 : List Int) (w : World) (h0row : Row w w.heap.size A0 (z0.map ic)) (h0len : z0.length = n0) (h0max : n0 ≤ maxLen) (h1row : Row w w.heap.size A1 (z1.map ic)) (h1len : z1.length = n1) (h1max : n1 ≤ maxLen) :
    Calls Try.prog 6 #[.agg #[.int .i64 c0, .slice A0 n0 cap0], .agg #[.int .i64 c1, .slice A1 n1 cap1]] w fun e w' => e = .returned (.bool true) ∧ Below w.heap.size w w' := by
  by_cases h0 : n0 ≤ 1048576
  · by_cases h1 : n0 + n1 ≤ 1048576
    · have hk : (addR (c0, z0) (c1, z1)).1.2.length ≤ 1000 := by
        have := res_lenC [(c0, z0), (c1, z1)] [1, 1]
        rw [add_eq] at this
        omega
      exact road c0 A0 n0 cap0 z0 c1 A1 n1 cap1 z1 w ⟨h0len, h0row⟩ h0 ⟨h1len, h1row⟩ (by omega) (by omega) (addR (c0, z0) (c1, z1)).1.1 (addR (c0, z0) (c1, z1)).1.2 (addR (c0, z0) (c1, z1)).1.2.length (addR (c0, z0) (c1, z1)).2 hk (fun w0 a00 u00 a10 u10 h g => givesT_is (specAdd_c c0 a00 n0 u00 z0 c1 a10 n1 u10 z1 w0 h h0 g (by omega))) (fun w0 a00 u00 a10 u10 h g => givesT_is (implAdd_c c0 a00 n0 u00 z0 c1 a10 n1 u10 z1 w0 h g (by omega)))
    · exact early1 c0 A0 n0 cap0 z0 c1 A1 n1 cap1 z1 w ⟨h0len, h0row⟩ ⟨h1len, h1row⟩ h0 (by omega) h0max h1max
  · exact early0 c0 A0 n0 cap0 z0 c1 A1 n1 cap1 z1 w ⟨h0len, h0row⟩ ⟨h1len, h1row⟩ (by omega) h0max h1max

set_option maxRecDepth 100000 in
set_option maxHeartbeats 4000000 in
theorem lifted (os : Os) (started : os.Started) (H : Type) (enc : TypeId × Value → H) :
    ReturnsInHanded {} Try.checked os 6 .any (Rows.fnExactAddTermsSpec.pre6 enc Try.prog Try.f6 Rows.fnExactAddTermsRow.domain false) (Rows.fnExactAddTermsSpec.post enc Try.prog Try.f6 false true false false) := by
  refine returnsInHanded_of_change (C := Try.checked) own started (by kernel_rfl) Try.func6
    (ChangeSpec.witness6 (enc := enc) (C := Try.checked) false ⟨#[], #[.agg #[.int .i64 0, .slice none 0 0], .agg #[.int .i64 0, .slice none 0 0]], []⟩ 8 (by kernel_rfl) (by kernel_rfl) (by kernel_rfl) (by kernel_rfl)) ?_
  intro W base args ds gs before hval0 hW hcnd _
  have hval : ∀ (j : Nat) t v, Try.f6.params[j]? = some t → args[j]? = some v → Value.okWide Try.prog W .any base t v := hval0
  have hW' := hW
  obtain ⟨p, q, hA0, hV, rfl, hfz, hnd⟩ := hW
  have hA : DataW.TrodAll enc Try.prog W 0 (fun _ => true) true Try.f6.params.toList args.toList ds p := hA0
  rw [Try.params6] at hA hval
  obtain ⟨v0, vs0, d0, ds0, p0, q0, hargs, rfl, rfl, g0, r0⟩ := trodAll_cons hA
  obtain ⟨v1, vs1, d1, ds1, p1, q1, rfl, rfl, rfl, g1, r1⟩ := trodAll_cons r0
  obtain ⟨rfl, rfl, rfl⟩ := trodAll_nil r1
  obtain rfl : args = #[v0, v1] := by cases args; simp_all
  obtain ⟨rfl, rfl⟩ := trodVars_none hV
  have k0 := g0
  have lt0 : ∀ x ∈ p0, x.block < W.heap.size := by obtain ⟨m, hm⟩ := k0; exact DataW.trod_lt m _ _ _ hm
  have k1 := g1
  have lt1 : ∀ x ∈ p1, x.block < W.heap.size := by obtain ⟨m, hm⟩ := k1; exact DataW.trod_lt m _ _ _ hm
  obtain ⟨c0, A0, n0, cap0, z0, rfl, h0len, h0max, h0row, _⟩ := term_in (hval 0 43 v0 rfl rfl) g0
  obtain ⟨c1, A1, n1, cap1, z1, rfl, h1len, h1max, h1row, _⟩ := term_in (hval 1 43 v1 rfl rfl) g1
  clear hA0 hval0
  simp only [List.append_nil] at hW'
  refine (walk c0 A0 n0 cap0 z0 c1 A1 n1 cap1 z1 W h0row h0len h0max h1row h1len h1max).mono fun e W' ⟨he, bel⟩ => ?_
  subst he
  exact ⟨_, rfl, _, _, _, [], _, [], hW', trodAll_mk1 (shut_bool Try.underlying4 _), (trodAll_cons_mk (Below.trod laidOut (by kernel_rfl) (of_decide_eq_true (by kernel_rfl)) k0 bel lt0) (trodAll_cons_mk (Below.trod laidOut (by kernel_rfl) (of_decide_eq_true (by kernel_rfl)) k1 bel lt1) trodAll_mk0)), rfl, bel.frame _, fun h => by cases h⟩

theorem over : Rows.fnExactAddTermsRow.holds Try.pinned (OpenSpec.ofChange Rows.fnExactAddTermsSpec) :=
  OpenClaim.holds_of_wide 6 Try.f6 rfl rfl rfl rfl rfl rfl rfl ⟨rfl, rfl, rfl, rfl, rfl⟩ rfl rfl rfl rfl rfl (by kernel_rfl) Try.func6 (by kernel_rfl)
    (of_decide_eq_true (by kernel_rfl)) (by unfold Func.isWrapper; first | (rw [if_pos (by decide +kernel)]; kernel_rfl) | (rw [if_neg (by decide +kernel)]; exact ⟨rfl, rfl⟩))
    (fun os started H enc _ => lifted os started H enc)

/-- The statement. -/
theorem proved : Rows.FnExactAddTermsSaid := over
#print axioms proved
end Go.Proofs.Ytddmpdpmgjggoaa.fnExactAddTerms
