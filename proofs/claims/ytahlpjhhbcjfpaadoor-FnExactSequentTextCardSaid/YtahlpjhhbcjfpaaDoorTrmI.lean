/-
  The text of a summand, in the program. Conditions: the table of the powers of ten lies as the library's text lays it. (printed by gen_trmi.py)
-/
import Derived.Test.YtahlpjhhbcjfpaaDoorTrmS
import Derived.Test.YtahlpjhhbcjfpaaDoorSparse
namespace Go.Proofs.YtahlpjhhbcjfpaaDoor
set_option linter.unusedVariables false
set_option linter.unusedSimpArgs false
open Go.RowKit

theorem decimal_b (a : Int) (h : -1000000 ≤ a ∧ a ≤ 1000000) (w : World) (hT : Tab10 w) :
    Calls Tryd.prog 51 #[.int .i64 a] w fun e w' => e = .returned (.string (strL (Lib.itoa a))) ∧ Below w.heap.size w w' :=
  (decimal_c a (by omega) (by omega) w hT).mono fun e w' hh => ⟨hh.1, by obtain ⟨_, k, os, hw⟩ := hh; rw [hw]; exact Lib.below_grow _ _ (Nat.le_refl _) k os⟩


set_option maxRecDepth 100000 in
set_option maxHeartbeats 4000000 in
theorem part_m (n : Int) (w : World) (hT : Tab10 w) (hn : -1000000 ≤ n ∧ n ≤ 1000000) :
    Calls Tryd.prog 68 #[.agg #[.int .i64 (-1), .int .i64 n]] w fun e w' => e = .returned (.string (strL (partL (((-1) : Int), n)))) ∧ Below w.heap.size w w' := by
  have hb0 := bnew w (.cells #[.int .i64 (-1), .int .i64 n] 115)
  have p0 : (w.alloc (.cells #[.int .i64 (-1), .int .i64 n] 115)).cell? ⟨w.heap.size, 0, none⟩ = some (.int .i64 (-1)) := by simp
  have p1 : (w.alloc (.cells #[.int .i64 (-1), .int .i64 n] 115)).cell? ⟨w.heap.size, 1, none⟩ = some (.int .i64 n) := by simp
  have HD0 := decimal_b (n.natAbs : Int) (by omega) _ (hT.next hb0)
  have hmx : max n (-n) = (n.natAbs : Int) := by omega
  have wn : IntKind.i64.wrap (-n) = -n := IntWalk.i64_in _ (by omega)
  have hds : (strL (digL n)).size ≤ 21 := by rw [strL_size]; exact Lib.itoa_length_le _ (by omega) (by omega)
  have HD : Hid (Calls Tryd.prog 51 #[.int .i64 (n.natAbs : Int)] (w.alloc (.cells #[.int .i64 (-1), .int .i64 n] 115)) fun e w' => e = .returned (.string (strL (digL n))) ∧ Below (w.alloc (.cells #[.int .i64 (-1), .int .i64 n] 115)).heap.size (w.alloc (.cells #[.int .i64 (-1), .int .i64 n] 115)) w') := HD0
  have z1 : ¬ 9223372036854775807 < 1 + (strL (digL n)).size := by omega
  have z2 : ¬ 9223372036854775807 < 1 + (strL (digL n)).size + 1 := by omega
  clear HD0 hT
  generalize hW : (w.alloc (.cells #[.int .i64 (-1), .int .i64 n] 115)) = W at hb0 p0 p1 HD
  have HP : Hid (strL (partL ((-1 : Int), n)) = ⟨#[sgnL n]⟩ ++ strL (digL n)) := by
    show _ = _
    rw [partL, bodyL, if_pos rfl]
    apply ByteArray.ext; simp [strL, ByteArray.data_append]
  by_cases hneg : n < 0
  · have hsg : sgnL n = 45 := if_pos hneg
    rw [HP.out, hsg]
    go_enter Tryd.func68, Tryd.ntmps68
    go_wp2_with fail
    refine HD.out.mono ?_
    rintro e w1 ⟨rfl, hb1⟩
    have q0 := cell_next p0 hb1
    have q1 := cell_next p1 hb1
    go_wp2_with fail
    go_ret
    exact ⟨congrArg (fun t => Ending.returned (Value.string t)) (show (⟨#[45]⟩ : ByteArray) ++ strL (digL n) = _ from rfl), bon hb0 hb1⟩
  · have hsg : sgnL n = 43 := if_neg hneg
    rw [HP.out, hsg]
    go_enter Tryd.func68, Tryd.ntmps68
    go_wp2_with fail
    refine HD.out.mono ?_
    rintro e w1 ⟨rfl, hb1⟩
    have q0 := cell_next p0 hb1
    have q1 := cell_next p1 hb1
    go_wp2_with fail
    go_ret
    exact ⟨congrArg (fun t => Ending.returned (Value.string t)) (show (⟨#[43]⟩ : ByteArray) ++ strL (digL n) = _ from rfl), bon hb0 hb1⟩

set_option maxRecDepth 100000 in
set_option maxHeartbeats 4000000 in
theorem part_0 (n : Int) (w : World) (hT : Tab10 w) (hn : -1000000 ≤ n ∧ n ≤ 1000000) :
    Calls Tryd.prog 68 #[.agg #[.int .i64 0, .int .i64 n]] w fun e w' => e = .returned (.string (strL (partL ((0 : Int), n)))) ∧ Below w.heap.size w w' := by
  have hb0 := bnew w (.cells #[.int .i64 0, .int .i64 n] 115)
  have p0 : (w.alloc (.cells #[.int .i64 0, .int .i64 n] 115)).cell? ⟨w.heap.size, 0, none⟩ = some (.int .i64 0) := by simp
  have p1 : (w.alloc (.cells #[.int .i64 0, .int .i64 n] 115)).cell? ⟨w.heap.size, 1, none⟩ = some (.int .i64 n) := by simp
  have HD0 := decimal_b (n.natAbs : Int) (by omega) _ (hT.next hb0)
  have hmx : max n (-n) = (n.natAbs : Int) := by omega
  have wn : IntKind.i64.wrap (-n) = -n := IntWalk.i64_in _ (by omega)
  have hds : (strL (digL n)).size ≤ 21 := by rw [strL_size]; exact Lib.itoa_length_le _ (by omega) (by omega)
  have HD : Hid (Calls Tryd.prog 51 #[.int .i64 (n.natAbs : Int)] (w.alloc (.cells #[.int .i64 0, .int .i64 n] 115)) fun e w' => e = .returned (.string (strL (digL n))) ∧ Below (w.alloc (.cells #[.int .i64 0, .int .i64 n] 115)).heap.size (w.alloc (.cells #[.int .i64 0, .int .i64 n] 115)) w') := HD0
  have z1 : ¬ 9223372036854775807 < 1 + (strL (digL n)).size := by omega
  have z2 : ¬ 9223372036854775807 < 1 + (strL (digL n)).size + 1 := by omega
  clear HD0 hT
  generalize hW : (w.alloc (.cells #[.int .i64 0, .int .i64 n] 115)) = W at hb0 p0 p1 HD
  have hx2 : (⟨#[97, 98, 99, 100, 101, 102, 103, 104, 105, 106]⟩ : ByteArray).extract 0 1 = ⟨#[97]⟩ := by rfl
  have hux : UInt8.ofNat (97 + (0 : Int).toNat) = 97 := by rfl
  by_cases h1 : n.natAbs = 1
  · have HP : Hid (strL (partL ((0 : Int), n)) = ⟨#[sgnL n]⟩ ++ ⟨#[]⟩ ++ ⟨#[97]⟩) := by
      show _ = _
      rw [partL, bodyL, if_neg (show ¬ (0 : Int) = -1 by decide), if_pos h1, hux]
      apply ByteArray.ext; simp [strL, ByteArray.data_append]
    have hd1 : strL (digL n) = ⟨#[49]⟩ := by rw [(dig_one n).2 h1]; rfl
    rw [hd1, show ((n.natAbs : Nat) : Int) = 1 by omega] at HD
    by_cases hneg : n < 0
    · have hsg : sgnL n = 45 := if_pos hneg
      rw [HP.out, hsg]
      go_enter Tryd.func68, Tryd.ntmps68
      go_wp2_with fail
      refine HD.out.mono ?_
      rintro e w1 ⟨rfl, hb1⟩
      have q0 := cell_next p0 hb1
      have q1 := cell_next p1 hb1
      go_wp2_with fail
      go_ret
      exact ⟨congrArg (fun t => Ending.returned (Value.string t)) (show (⟨#[45]⟩ : ByteArray) ++ ⟨#[]⟩ ++ (⟨#[97, 98, 99, 100, 101, 102, 103, 104, 105, 106]⟩ : ByteArray).extract 0 1 = _ from by rw [hx2]), bon hb0 hb1⟩
    · have hsg : sgnL n = 43 := if_neg hneg
      rw [HP.out, hsg]
      go_enter Tryd.func68, Tryd.ntmps68
      go_wp2_with fail
      refine HD.out.mono ?_
      rintro e w1 ⟨rfl, hb1⟩
      have q0 := cell_next p0 hb1
      have q1 := cell_next p1 hb1
      go_wp2_with fail
      go_ret
      exact ⟨congrArg (fun t => Ending.returned (Value.string t)) (show (⟨#[43]⟩ : ByteArray) ++ ⟨#[]⟩ ++ (⟨#[97, 98, 99, 100, 101, 102, 103, 104, 105, 106]⟩ : ByteArray).extract 0 1 = _ from by rw [hx2]), bon hb0 hb1⟩
  · have HP : Hid (strL (partL ((0 : Int), n)) = ⟨#[sgnL n]⟩ ++ strL (digL n) ++ ⟨#[97]⟩) := by
      show _ = _
      rw [partL, bodyL, if_neg (show ¬ (0 : Int) = -1 by decide), if_neg h1, hux]
      apply ByteArray.ext; simp [strL, ByteArray.data_append]
    have hb1 : ((strL (digL n)).toList == [49]) = false := by
      rw [Go.ByteArray.toList_eq, strL_toList]
      simpa using fun h => h1 ((dig_one n).1 h)
    have hb2 : ¬ (strL (digL n)).toList = [49] := by
      rw [Go.ByteArray.toList_eq, strL_toList]
      exact fun h => h1 ((dig_one n).1 h)
    by_cases hneg : n < 0
    · have hsg : sgnL n = 45 := if_pos hneg
      rw [HP.out, hsg]
      go_enter Tryd.func68, Tryd.ntmps68
      go_wp2_with fail
      refine HD.out.mono ?_
      rintro e w1 ⟨rfl, hb1⟩
      have q0 := cell_next p0 hb1
      have q1 := cell_next p1 hb1
      go_wp2_with fail
      go_ret
      exact ⟨congrArg (fun t => Ending.returned (Value.string t)) (show (⟨#[45]⟩ : ByteArray) ++ strL (digL n) ++ (⟨#[97, 98, 99, 100, 101, 102, 103, 104, 105, 106]⟩ : ByteArray).extract 0 1 = _ from by rw [hx2]), bon hb0 hb1⟩
    · have hsg : sgnL n = 43 := if_neg hneg
      rw [HP.out, hsg]
      go_enter Tryd.func68, Tryd.ntmps68
      go_wp2_with fail
      refine HD.out.mono ?_
      rintro e w1 ⟨rfl, hb1⟩
      have q0 := cell_next p0 hb1
      have q1 := cell_next p1 hb1
      go_wp2_with fail
      go_ret
      exact ⟨congrArg (fun t => Ending.returned (Value.string t)) (show (⟨#[43]⟩ : ByteArray) ++ strL (digL n) ++ (⟨#[97, 98, 99, 100, 101, 102, 103, 104, 105, 106]⟩ : ByteArray).extract 0 1 = _ from by rw [hx2]), bon hb0 hb1⟩

set_option maxRecDepth 100000 in
set_option maxHeartbeats 4000000 in
theorem part_1 (n : Int) (w : World) (hT : Tab10 w) (hn : -1000000 ≤ n ∧ n ≤ 1000000) :
    Calls Tryd.prog 68 #[.agg #[.int .i64 1, .int .i64 n]] w fun e w' => e = .returned (.string (strL (partL ((1 : Int), n)))) ∧ Below w.heap.size w w' := by
  have hb0 := bnew w (.cells #[.int .i64 1, .int .i64 n] 115)
  have p0 : (w.alloc (.cells #[.int .i64 1, .int .i64 n] 115)).cell? ⟨w.heap.size, 0, none⟩ = some (.int .i64 1) := by simp
  have p1 : (w.alloc (.cells #[.int .i64 1, .int .i64 n] 115)).cell? ⟨w.heap.size, 1, none⟩ = some (.int .i64 n) := by simp
  have HD0 := decimal_b (n.natAbs : Int) (by omega) _ (hT.next hb0)
  have hmx : max n (-n) = (n.natAbs : Int) := by omega
  have wn : IntKind.i64.wrap (-n) = -n := IntWalk.i64_in _ (by omega)
  have hds : (strL (digL n)).size ≤ 21 := by rw [strL_size]; exact Lib.itoa_length_le _ (by omega) (by omega)
  have HD : Hid (Calls Tryd.prog 51 #[.int .i64 (n.natAbs : Int)] (w.alloc (.cells #[.int .i64 1, .int .i64 n] 115)) fun e w' => e = .returned (.string (strL (digL n))) ∧ Below (w.alloc (.cells #[.int .i64 1, .int .i64 n] 115)).heap.size (w.alloc (.cells #[.int .i64 1, .int .i64 n] 115)) w') := HD0
  have z1 : ¬ 9223372036854775807 < 1 + (strL (digL n)).size := by omega
  have z2 : ¬ 9223372036854775807 < 1 + (strL (digL n)).size + 1 := by omega
  clear HD0 hT
  generalize hW : (w.alloc (.cells #[.int .i64 1, .int .i64 n] 115)) = W at hb0 p0 p1 HD
  have hx2 : (⟨#[97, 98, 99, 100, 101, 102, 103, 104, 105, 106]⟩ : ByteArray).extract 1 2 = ⟨#[98]⟩ := by rfl
  have hux : UInt8.ofNat (97 + (1 : Int).toNat) = 98 := by rfl
  by_cases h1 : n.natAbs = 1
  · have HP : Hid (strL (partL ((1 : Int), n)) = ⟨#[sgnL n]⟩ ++ ⟨#[]⟩ ++ ⟨#[98]⟩) := by
      show _ = _
      rw [partL, bodyL, if_neg (show ¬ (1 : Int) = -1 by decide), if_pos h1, hux]
      apply ByteArray.ext; simp [strL, ByteArray.data_append]
    have hd1 : strL (digL n) = ⟨#[49]⟩ := by rw [(dig_one n).2 h1]; rfl
    rw [hd1, show ((n.natAbs : Nat) : Int) = 1 by omega] at HD
    by_cases hneg : n < 0
    · have hsg : sgnL n = 45 := if_pos hneg
      rw [HP.out, hsg]
      go_enter Tryd.func68, Tryd.ntmps68
      go_wp2_with fail
      refine HD.out.mono ?_
      rintro e w1 ⟨rfl, hb1⟩
      have q0 := cell_next p0 hb1
      have q1 := cell_next p1 hb1
      go_wp2_with fail
      go_ret
      exact ⟨congrArg (fun t => Ending.returned (Value.string t)) (show (⟨#[45]⟩ : ByteArray) ++ ⟨#[]⟩ ++ (⟨#[97, 98, 99, 100, 101, 102, 103, 104, 105, 106]⟩ : ByteArray).extract 1 2 = _ from by rw [hx2]), bon hb0 hb1⟩
    · have hsg : sgnL n = 43 := if_neg hneg
      rw [HP.out, hsg]
      go_enter Tryd.func68, Tryd.ntmps68
      go_wp2_with fail
      refine HD.out.mono ?_
      rintro e w1 ⟨rfl, hb1⟩
      have q0 := cell_next p0 hb1
      have q1 := cell_next p1 hb1
      go_wp2_with fail
      go_ret
      exact ⟨congrArg (fun t => Ending.returned (Value.string t)) (show (⟨#[43]⟩ : ByteArray) ++ ⟨#[]⟩ ++ (⟨#[97, 98, 99, 100, 101, 102, 103, 104, 105, 106]⟩ : ByteArray).extract 1 2 = _ from by rw [hx2]), bon hb0 hb1⟩
  · have HP : Hid (strL (partL ((1 : Int), n)) = ⟨#[sgnL n]⟩ ++ strL (digL n) ++ ⟨#[98]⟩) := by
      show _ = _
      rw [partL, bodyL, if_neg (show ¬ (1 : Int) = -1 by decide), if_neg h1, hux]
      apply ByteArray.ext; simp [strL, ByteArray.data_append]
    have hb1 : ((strL (digL n)).toList == [49]) = false := by
      rw [Go.ByteArray.toList_eq, strL_toList]
      simpa using fun h => h1 ((dig_one n).1 h)
    have hb2 : ¬ (strL (digL n)).toList = [49] := by
      rw [Go.ByteArray.toList_eq, strL_toList]
      exact fun h => h1 ((dig_one n).1 h)
    by_cases hneg : n < 0
    · have hsg : sgnL n = 45 := if_pos hneg
      rw [HP.out, hsg]
      go_enter Tryd.func68, Tryd.ntmps68
      go_wp2_with fail
      refine HD.out.mono ?_
      rintro e w1 ⟨rfl, hb1⟩
      have q0 := cell_next p0 hb1
      have q1 := cell_next p1 hb1
      go_wp2_with fail
      go_ret
      exact ⟨congrArg (fun t => Ending.returned (Value.string t)) (show (⟨#[45]⟩ : ByteArray) ++ strL (digL n) ++ (⟨#[97, 98, 99, 100, 101, 102, 103, 104, 105, 106]⟩ : ByteArray).extract 1 2 = _ from by rw [hx2]), bon hb0 hb1⟩
    · have hsg : sgnL n = 43 := if_neg hneg
      rw [HP.out, hsg]
      go_enter Tryd.func68, Tryd.ntmps68
      go_wp2_with fail
      refine HD.out.mono ?_
      rintro e w1 ⟨rfl, hb1⟩
      have q0 := cell_next p0 hb1
      have q1 := cell_next p1 hb1
      go_wp2_with fail
      go_ret
      exact ⟨congrArg (fun t => Ending.returned (Value.string t)) (show (⟨#[43]⟩ : ByteArray) ++ strL (digL n) ++ (⟨#[97, 98, 99, 100, 101, 102, 103, 104, 105, 106]⟩ : ByteArray).extract 1 2 = _ from by rw [hx2]), bon hb0 hb1⟩

set_option maxRecDepth 100000 in
set_option maxHeartbeats 4000000 in
theorem part_2 (n : Int) (w : World) (hT : Tab10 w) (hn : -1000000 ≤ n ∧ n ≤ 1000000) :
    Calls Tryd.prog 68 #[.agg #[.int .i64 2, .int .i64 n]] w fun e w' => e = .returned (.string (strL (partL ((2 : Int), n)))) ∧ Below w.heap.size w w' := by
  have hb0 := bnew w (.cells #[.int .i64 2, .int .i64 n] 115)
  have p0 : (w.alloc (.cells #[.int .i64 2, .int .i64 n] 115)).cell? ⟨w.heap.size, 0, none⟩ = some (.int .i64 2) := by simp
  have p1 : (w.alloc (.cells #[.int .i64 2, .int .i64 n] 115)).cell? ⟨w.heap.size, 1, none⟩ = some (.int .i64 n) := by simp
  have HD0 := decimal_b (n.natAbs : Int) (by omega) _ (hT.next hb0)
  have hmx : max n (-n) = (n.natAbs : Int) := by omega
  have wn : IntKind.i64.wrap (-n) = -n := IntWalk.i64_in _ (by omega)
  have hds : (strL (digL n)).size ≤ 21 := by rw [strL_size]; exact Lib.itoa_length_le _ (by omega) (by omega)
  have HD : Hid (Calls Tryd.prog 51 #[.int .i64 (n.natAbs : Int)] (w.alloc (.cells #[.int .i64 2, .int .i64 n] 115)) fun e w' => e = .returned (.string (strL (digL n))) ∧ Below (w.alloc (.cells #[.int .i64 2, .int .i64 n] 115)).heap.size (w.alloc (.cells #[.int .i64 2, .int .i64 n] 115)) w') := HD0
  have z1 : ¬ 9223372036854775807 < 1 + (strL (digL n)).size := by omega
  have z2 : ¬ 9223372036854775807 < 1 + (strL (digL n)).size + 1 := by omega
  clear HD0 hT
  generalize hW : (w.alloc (.cells #[.int .i64 2, .int .i64 n] 115)) = W at hb0 p0 p1 HD
  have hx2 : (⟨#[97, 98, 99, 100, 101, 102, 103, 104, 105, 106]⟩ : ByteArray).extract 2 3 = ⟨#[99]⟩ := by rfl
  have hux : UInt8.ofNat (97 + (2 : Int).toNat) = 99 := by rfl
  by_cases h1 : n.natAbs = 1
  · have HP : Hid (strL (partL ((2 : Int), n)) = ⟨#[sgnL n]⟩ ++ ⟨#[]⟩ ++ ⟨#[99]⟩) := by
      show _ = _
      rw [partL, bodyL, if_neg (show ¬ (2 : Int) = -1 by decide), if_pos h1, hux]
      apply ByteArray.ext; simp [strL, ByteArray.data_append]
    have hd1 : strL (digL n) = ⟨#[49]⟩ := by rw [(dig_one n).2 h1]; rfl
    rw [hd1, show ((n.natAbs : Nat) : Int) = 1 by omega] at HD
    by_cases hneg : n < 0
    · have hsg : sgnL n = 45 := if_pos hneg
      rw [HP.out, hsg]
      go_enter Tryd.func68, Tryd.ntmps68
      go_wp2_with fail
      refine HD.out.mono ?_
      rintro e w1 ⟨rfl, hb1⟩
      have q0 := cell_next p0 hb1
      have q1 := cell_next p1 hb1
      go_wp2_with fail
      go_ret
      exact ⟨congrArg (fun t => Ending.returned (Value.string t)) (show (⟨#[45]⟩ : ByteArray) ++ ⟨#[]⟩ ++ (⟨#[97, 98, 99, 100, 101, 102, 103, 104, 105, 106]⟩ : ByteArray).extract 2 3 = _ from by rw [hx2]), bon hb0 hb1⟩
    · have hsg : sgnL n = 43 := if_neg hneg
      rw [HP.out, hsg]
      go_enter Tryd.func68, Tryd.ntmps68
      go_wp2_with fail
      refine HD.out.mono ?_
      rintro e w1 ⟨rfl, hb1⟩
      have q0 := cell_next p0 hb1
      have q1 := cell_next p1 hb1
      go_wp2_with fail
      go_ret
      exact ⟨congrArg (fun t => Ending.returned (Value.string t)) (show (⟨#[43]⟩ : ByteArray) ++ ⟨#[]⟩ ++ (⟨#[97, 98, 99, 100, 101, 102, 103, 104, 105, 106]⟩ : ByteArray).extract 2 3 = _ from by rw [hx2]), bon hb0 hb1⟩
  · have HP : Hid (strL (partL ((2 : Int), n)) = ⟨#[sgnL n]⟩ ++ strL (digL n) ++ ⟨#[99]⟩) := by
      show _ = _
      rw [partL, bodyL, if_neg (show ¬ (2 : Int) = -1 by decide), if_neg h1, hux]
      apply ByteArray.ext; simp [strL, ByteArray.data_append]
    have hb1 : ((strL (digL n)).toList == [49]) = false := by
      rw [Go.ByteArray.toList_eq, strL_toList]
      simpa using fun h => h1 ((dig_one n).1 h)
    have hb2 : ¬ (strL (digL n)).toList = [49] := by
      rw [Go.ByteArray.toList_eq, strL_toList]
      exact fun h => h1 ((dig_one n).1 h)
    by_cases hneg : n < 0
    · have hsg : sgnL n = 45 := if_pos hneg
      rw [HP.out, hsg]
      go_enter Tryd.func68, Tryd.ntmps68
      go_wp2_with fail
      refine HD.out.mono ?_
      rintro e w1 ⟨rfl, hb1⟩
      have q0 := cell_next p0 hb1
      have q1 := cell_next p1 hb1
      go_wp2_with fail
      go_ret
      exact ⟨congrArg (fun t => Ending.returned (Value.string t)) (show (⟨#[45]⟩ : ByteArray) ++ strL (digL n) ++ (⟨#[97, 98, 99, 100, 101, 102, 103, 104, 105, 106]⟩ : ByteArray).extract 2 3 = _ from by rw [hx2]), bon hb0 hb1⟩
    · have hsg : sgnL n = 43 := if_neg hneg
      rw [HP.out, hsg]
      go_enter Tryd.func68, Tryd.ntmps68
      go_wp2_with fail
      refine HD.out.mono ?_
      rintro e w1 ⟨rfl, hb1⟩
      have q0 := cell_next p0 hb1
      have q1 := cell_next p1 hb1
      go_wp2_with fail
      go_ret
      exact ⟨congrArg (fun t => Ending.returned (Value.string t)) (show (⟨#[43]⟩ : ByteArray) ++ strL (digL n) ++ (⟨#[97, 98, 99, 100, 101, 102, 103, 104, 105, 106]⟩ : ByteArray).extract 2 3 = _ from by rw [hx2]), bon hb0 hb1⟩

set_option maxRecDepth 100000 in
set_option maxHeartbeats 4000000 in
theorem part_3 (n : Int) (w : World) (hT : Tab10 w) (hn : -1000000 ≤ n ∧ n ≤ 1000000) :
    Calls Tryd.prog 68 #[.agg #[.int .i64 3, .int .i64 n]] w fun e w' => e = .returned (.string (strL (partL ((3 : Int), n)))) ∧ Below w.heap.size w w' := by
  have hb0 := bnew w (.cells #[.int .i64 3, .int .i64 n] 115)
  have p0 : (w.alloc (.cells #[.int .i64 3, .int .i64 n] 115)).cell? ⟨w.heap.size, 0, none⟩ = some (.int .i64 3) := by simp
  have p1 : (w.alloc (.cells #[.int .i64 3, .int .i64 n] 115)).cell? ⟨w.heap.size, 1, none⟩ = some (.int .i64 n) := by simp
  have HD0 := decimal_b (n.natAbs : Int) (by omega) _ (hT.next hb0)
  have hmx : max n (-n) = (n.natAbs : Int) := by omega
  have wn : IntKind.i64.wrap (-n) = -n := IntWalk.i64_in _ (by omega)
  have hds : (strL (digL n)).size ≤ 21 := by rw [strL_size]; exact Lib.itoa_length_le _ (by omega) (by omega)
  have HD : Hid (Calls Tryd.prog 51 #[.int .i64 (n.natAbs : Int)] (w.alloc (.cells #[.int .i64 3, .int .i64 n] 115)) fun e w' => e = .returned (.string (strL (digL n))) ∧ Below (w.alloc (.cells #[.int .i64 3, .int .i64 n] 115)).heap.size (w.alloc (.cells #[.int .i64 3, .int .i64 n] 115)) w') := HD0
  have z1 : ¬ 9223372036854775807 < 1 + (strL (digL n)).size := by omega
  have z2 : ¬ 9223372036854775807 < 1 + (strL (digL n)).size + 1 := by omega
  clear HD0 hT
  generalize hW : (w.alloc (.cells #[.int .i64 3, .int .i64 n] 115)) = W at hb0 p0 p1 HD
  have hx2 : (⟨#[97, 98, 99, 100, 101, 102, 103, 104, 105, 106]⟩ : ByteArray).extract 3 4 = ⟨#[100]⟩ := by rfl
  have hux : UInt8.ofNat (97 + (3 : Int).toNat) = 100 := by rfl
  by_cases h1 : n.natAbs = 1
  · have HP : Hid (strL (partL ((3 : Int), n)) = ⟨#[sgnL n]⟩ ++ ⟨#[]⟩ ++ ⟨#[100]⟩) := by
      show _ = _
      rw [partL, bodyL, if_neg (show ¬ (3 : Int) = -1 by decide), if_pos h1, hux]
      apply ByteArray.ext; simp [strL, ByteArray.data_append]
    have hd1 : strL (digL n) = ⟨#[49]⟩ := by rw [(dig_one n).2 h1]; rfl
    rw [hd1, show ((n.natAbs : Nat) : Int) = 1 by omega] at HD
    by_cases hneg : n < 0
    · have hsg : sgnL n = 45 := if_pos hneg
      rw [HP.out, hsg]
      go_enter Tryd.func68, Tryd.ntmps68
      go_wp2_with fail
      refine HD.out.mono ?_
      rintro e w1 ⟨rfl, hb1⟩
      have q0 := cell_next p0 hb1
      have q1 := cell_next p1 hb1
      go_wp2_with fail
      go_ret
      exact ⟨congrArg (fun t => Ending.returned (Value.string t)) (show (⟨#[45]⟩ : ByteArray) ++ ⟨#[]⟩ ++ (⟨#[97, 98, 99, 100, 101, 102, 103, 104, 105, 106]⟩ : ByteArray).extract 3 4 = _ from by rw [hx2]), bon hb0 hb1⟩
    · have hsg : sgnL n = 43 := if_neg hneg
      rw [HP.out, hsg]
      go_enter Tryd.func68, Tryd.ntmps68
      go_wp2_with fail
      refine HD.out.mono ?_
      rintro e w1 ⟨rfl, hb1⟩
      have q0 := cell_next p0 hb1
      have q1 := cell_next p1 hb1
      go_wp2_with fail
      go_ret
      exact ⟨congrArg (fun t => Ending.returned (Value.string t)) (show (⟨#[43]⟩ : ByteArray) ++ ⟨#[]⟩ ++ (⟨#[97, 98, 99, 100, 101, 102, 103, 104, 105, 106]⟩ : ByteArray).extract 3 4 = _ from by rw [hx2]), bon hb0 hb1⟩
  · have HP : Hid (strL (partL ((3 : Int), n)) = ⟨#[sgnL n]⟩ ++ strL (digL n) ++ ⟨#[100]⟩) := by
      show _ = _
      rw [partL, bodyL, if_neg (show ¬ (3 : Int) = -1 by decide), if_neg h1, hux]
      apply ByteArray.ext; simp [strL, ByteArray.data_append]
    have hb1 : ((strL (digL n)).toList == [49]) = false := by
      rw [Go.ByteArray.toList_eq, strL_toList]
      simpa using fun h => h1 ((dig_one n).1 h)
    have hb2 : ¬ (strL (digL n)).toList = [49] := by
      rw [Go.ByteArray.toList_eq, strL_toList]
      exact fun h => h1 ((dig_one n).1 h)
    by_cases hneg : n < 0
    · have hsg : sgnL n = 45 := if_pos hneg
      rw [HP.out, hsg]
      go_enter Tryd.func68, Tryd.ntmps68
      go_wp2_with fail
      refine HD.out.mono ?_
      rintro e w1 ⟨rfl, hb1⟩
      have q0 := cell_next p0 hb1
      have q1 := cell_next p1 hb1
      go_wp2_with fail
      go_ret
      exact ⟨congrArg (fun t => Ending.returned (Value.string t)) (show (⟨#[45]⟩ : ByteArray) ++ strL (digL n) ++ (⟨#[97, 98, 99, 100, 101, 102, 103, 104, 105, 106]⟩ : ByteArray).extract 3 4 = _ from by rw [hx2]), bon hb0 hb1⟩
    · have hsg : sgnL n = 43 := if_neg hneg
      rw [HP.out, hsg]
      go_enter Tryd.func68, Tryd.ntmps68
      go_wp2_with fail
      refine HD.out.mono ?_
      rintro e w1 ⟨rfl, hb1⟩
      have q0 := cell_next p0 hb1
      have q1 := cell_next p1 hb1
      go_wp2_with fail
      go_ret
      exact ⟨congrArg (fun t => Ending.returned (Value.string t)) (show (⟨#[43]⟩ : ByteArray) ++ strL (digL n) ++ (⟨#[97, 98, 99, 100, 101, 102, 103, 104, 105, 106]⟩ : ByteArray).extract 3 4 = _ from by rw [hx2]), bon hb0 hb1⟩

set_option maxRecDepth 100000 in
set_option maxHeartbeats 4000000 in
theorem part_4 (n : Int) (w : World) (hT : Tab10 w) (hn : -1000000 ≤ n ∧ n ≤ 1000000) :
    Calls Tryd.prog 68 #[.agg #[.int .i64 4, .int .i64 n]] w fun e w' => e = .returned (.string (strL (partL ((4 : Int), n)))) ∧ Below w.heap.size w w' := by
  have hb0 := bnew w (.cells #[.int .i64 4, .int .i64 n] 115)
  have p0 : (w.alloc (.cells #[.int .i64 4, .int .i64 n] 115)).cell? ⟨w.heap.size, 0, none⟩ = some (.int .i64 4) := by simp
  have p1 : (w.alloc (.cells #[.int .i64 4, .int .i64 n] 115)).cell? ⟨w.heap.size, 1, none⟩ = some (.int .i64 n) := by simp
  have HD0 := decimal_b (n.natAbs : Int) (by omega) _ (hT.next hb0)
  have hmx : max n (-n) = (n.natAbs : Int) := by omega
  have wn : IntKind.i64.wrap (-n) = -n := IntWalk.i64_in _ (by omega)
  have hds : (strL (digL n)).size ≤ 21 := by rw [strL_size]; exact Lib.itoa_length_le _ (by omega) (by omega)
  have HD : Hid (Calls Tryd.prog 51 #[.int .i64 (n.natAbs : Int)] (w.alloc (.cells #[.int .i64 4, .int .i64 n] 115)) fun e w' => e = .returned (.string (strL (digL n))) ∧ Below (w.alloc (.cells #[.int .i64 4, .int .i64 n] 115)).heap.size (w.alloc (.cells #[.int .i64 4, .int .i64 n] 115)) w') := HD0
  have z1 : ¬ 9223372036854775807 < 1 + (strL (digL n)).size := by omega
  have z2 : ¬ 9223372036854775807 < 1 + (strL (digL n)).size + 1 := by omega
  clear HD0 hT
  generalize hW : (w.alloc (.cells #[.int .i64 4, .int .i64 n] 115)) = W at hb0 p0 p1 HD
  have hx2 : (⟨#[97, 98, 99, 100, 101, 102, 103, 104, 105, 106]⟩ : ByteArray).extract 4 5 = ⟨#[101]⟩ := by rfl
  have hux : UInt8.ofNat (97 + (4 : Int).toNat) = 101 := by rfl
  by_cases h1 : n.natAbs = 1
  · have HP : Hid (strL (partL ((4 : Int), n)) = ⟨#[sgnL n]⟩ ++ ⟨#[]⟩ ++ ⟨#[101]⟩) := by
      show _ = _
      rw [partL, bodyL, if_neg (show ¬ (4 : Int) = -1 by decide), if_pos h1, hux]
      apply ByteArray.ext; simp [strL, ByteArray.data_append]
    have hd1 : strL (digL n) = ⟨#[49]⟩ := by rw [(dig_one n).2 h1]; rfl
    rw [hd1, show ((n.natAbs : Nat) : Int) = 1 by omega] at HD
    by_cases hneg : n < 0
    · have hsg : sgnL n = 45 := if_pos hneg
      rw [HP.out, hsg]
      go_enter Tryd.func68, Tryd.ntmps68
      go_wp2_with fail
      refine HD.out.mono ?_
      rintro e w1 ⟨rfl, hb1⟩
      have q0 := cell_next p0 hb1
      have q1 := cell_next p1 hb1
      go_wp2_with fail
      go_ret
      exact ⟨congrArg (fun t => Ending.returned (Value.string t)) (show (⟨#[45]⟩ : ByteArray) ++ ⟨#[]⟩ ++ (⟨#[97, 98, 99, 100, 101, 102, 103, 104, 105, 106]⟩ : ByteArray).extract 4 5 = _ from by rw [hx2]), bon hb0 hb1⟩
    · have hsg : sgnL n = 43 := if_neg hneg
      rw [HP.out, hsg]
      go_enter Tryd.func68, Tryd.ntmps68
      go_wp2_with fail
      refine HD.out.mono ?_
      rintro e w1 ⟨rfl, hb1⟩
      have q0 := cell_next p0 hb1
      have q1 := cell_next p1 hb1
      go_wp2_with fail
      go_ret
      exact ⟨congrArg (fun t => Ending.returned (Value.string t)) (show (⟨#[43]⟩ : ByteArray) ++ ⟨#[]⟩ ++ (⟨#[97, 98, 99, 100, 101, 102, 103, 104, 105, 106]⟩ : ByteArray).extract 4 5 = _ from by rw [hx2]), bon hb0 hb1⟩
  · have HP : Hid (strL (partL ((4 : Int), n)) = ⟨#[sgnL n]⟩ ++ strL (digL n) ++ ⟨#[101]⟩) := by
      show _ = _
      rw [partL, bodyL, if_neg (show ¬ (4 : Int) = -1 by decide), if_neg h1, hux]
      apply ByteArray.ext; simp [strL, ByteArray.data_append]
    have hb1 : ((strL (digL n)).toList == [49]) = false := by
      rw [Go.ByteArray.toList_eq, strL_toList]
      simpa using fun h => h1 ((dig_one n).1 h)
    have hb2 : ¬ (strL (digL n)).toList = [49] := by
      rw [Go.ByteArray.toList_eq, strL_toList]
      exact fun h => h1 ((dig_one n).1 h)
    by_cases hneg : n < 0
    · have hsg : sgnL n = 45 := if_pos hneg
      rw [HP.out, hsg]
      go_enter Tryd.func68, Tryd.ntmps68
      go_wp2_with fail
      refine HD.out.mono ?_
      rintro e w1 ⟨rfl, hb1⟩
      have q0 := cell_next p0 hb1
      have q1 := cell_next p1 hb1
      go_wp2_with fail
      go_ret
      exact ⟨congrArg (fun t => Ending.returned (Value.string t)) (show (⟨#[45]⟩ : ByteArray) ++ strL (digL n) ++ (⟨#[97, 98, 99, 100, 101, 102, 103, 104, 105, 106]⟩ : ByteArray).extract 4 5 = _ from by rw [hx2]), bon hb0 hb1⟩
    · have hsg : sgnL n = 43 := if_neg hneg
      rw [HP.out, hsg]
      go_enter Tryd.func68, Tryd.ntmps68
      go_wp2_with fail
      refine HD.out.mono ?_
      rintro e w1 ⟨rfl, hb1⟩
      have q0 := cell_next p0 hb1
      have q1 := cell_next p1 hb1
      go_wp2_with fail
      go_ret
      exact ⟨congrArg (fun t => Ending.returned (Value.string t)) (show (⟨#[43]⟩ : ByteArray) ++ strL (digL n) ++ (⟨#[97, 98, 99, 100, 101, 102, 103, 104, 105, 106]⟩ : ByteArray).extract 4 5 = _ from by rw [hx2]), bon hb0 hb1⟩

set_option maxRecDepth 100000 in
set_option maxHeartbeats 4000000 in
theorem part_5 (n : Int) (w : World) (hT : Tab10 w) (hn : -1000000 ≤ n ∧ n ≤ 1000000) :
    Calls Tryd.prog 68 #[.agg #[.int .i64 5, .int .i64 n]] w fun e w' => e = .returned (.string (strL (partL ((5 : Int), n)))) ∧ Below w.heap.size w w' := by
  have hb0 := bnew w (.cells #[.int .i64 5, .int .i64 n] 115)
  have p0 : (w.alloc (.cells #[.int .i64 5, .int .i64 n] 115)).cell? ⟨w.heap.size, 0, none⟩ = some (.int .i64 5) := by simp
  have p1 : (w.alloc (.cells #[.int .i64 5, .int .i64 n] 115)).cell? ⟨w.heap.size, 1, none⟩ = some (.int .i64 n) := by simp
  have HD0 := decimal_b (n.natAbs : Int) (by omega) _ (hT.next hb0)
  have hmx : max n (-n) = (n.natAbs : Int) := by omega
  have wn : IntKind.i64.wrap (-n) = -n := IntWalk.i64_in _ (by omega)
  have hds : (strL (digL n)).size ≤ 21 := by rw [strL_size]; exact Lib.itoa_length_le _ (by omega) (by omega)
  have HD : Hid (Calls Tryd.prog 51 #[.int .i64 (n.natAbs : Int)] (w.alloc (.cells #[.int .i64 5, .int .i64 n] 115)) fun e w' => e = .returned (.string (strL (digL n))) ∧ Below (w.alloc (.cells #[.int .i64 5, .int .i64 n] 115)).heap.size (w.alloc (.cells #[.int .i64 5, .int .i64 n] 115)) w') := HD0
  have z1 : ¬ 9223372036854775807 < 1 + (strL (digL n)).size := by omega
  have z2 : ¬ 9223372036854775807 < 1 + (strL (digL n)).size + 1 := by omega
  clear HD0 hT
  generalize hW : (w.alloc (.cells #[.int .i64 5, .int .i64 n] 115)) = W at hb0 p0 p1 HD
  have hx2 : (⟨#[97, 98, 99, 100, 101, 102, 103, 104, 105, 106]⟩ : ByteArray).extract 5 6 = ⟨#[102]⟩ := by rfl
  have hux : UInt8.ofNat (97 + (5 : Int).toNat) = 102 := by rfl
  by_cases h1 : n.natAbs = 1
  · have HP : Hid (strL (partL ((5 : Int), n)) = ⟨#[sgnL n]⟩ ++ ⟨#[]⟩ ++ ⟨#[102]⟩) := by
      show _ = _
      rw [partL, bodyL, if_neg (show ¬ (5 : Int) = -1 by decide), if_pos h1, hux]
      apply ByteArray.ext; simp [strL, ByteArray.data_append]
    have hd1 : strL (digL n) = ⟨#[49]⟩ := by rw [(dig_one n).2 h1]; rfl
    rw [hd1, show ((n.natAbs : Nat) : Int) = 1 by omega] at HD
    by_cases hneg : n < 0
    · have hsg : sgnL n = 45 := if_pos hneg
      rw [HP.out, hsg]
      go_enter Tryd.func68, Tryd.ntmps68
      go_wp2_with fail
      refine HD.out.mono ?_
      rintro e w1 ⟨rfl, hb1⟩
      have q0 := cell_next p0 hb1
      have q1 := cell_next p1 hb1
      go_wp2_with fail
      go_ret
      exact ⟨congrArg (fun t => Ending.returned (Value.string t)) (show (⟨#[45]⟩ : ByteArray) ++ ⟨#[]⟩ ++ (⟨#[97, 98, 99, 100, 101, 102, 103, 104, 105, 106]⟩ : ByteArray).extract 5 6 = _ from by rw [hx2]), bon hb0 hb1⟩
    · have hsg : sgnL n = 43 := if_neg hneg
      rw [HP.out, hsg]
      go_enter Tryd.func68, Tryd.ntmps68
      go_wp2_with fail
      refine HD.out.mono ?_
      rintro e w1 ⟨rfl, hb1⟩
      have q0 := cell_next p0 hb1
      have q1 := cell_next p1 hb1
      go_wp2_with fail
      go_ret
      exact ⟨congrArg (fun t => Ending.returned (Value.string t)) (show (⟨#[43]⟩ : ByteArray) ++ ⟨#[]⟩ ++ (⟨#[97, 98, 99, 100, 101, 102, 103, 104, 105, 106]⟩ : ByteArray).extract 5 6 = _ from by rw [hx2]), bon hb0 hb1⟩
  · have HP : Hid (strL (partL ((5 : Int), n)) = ⟨#[sgnL n]⟩ ++ strL (digL n) ++ ⟨#[102]⟩) := by
      show _ = _
      rw [partL, bodyL, if_neg (show ¬ (5 : Int) = -1 by decide), if_neg h1, hux]
      apply ByteArray.ext; simp [strL, ByteArray.data_append]
    have hb1 : ((strL (digL n)).toList == [49]) = false := by
      rw [Go.ByteArray.toList_eq, strL_toList]
      simpa using fun h => h1 ((dig_one n).1 h)
    have hb2 : ¬ (strL (digL n)).toList = [49] := by
      rw [Go.ByteArray.toList_eq, strL_toList]
      exact fun h => h1 ((dig_one n).1 h)
    by_cases hneg : n < 0
    · have hsg : sgnL n = 45 := if_pos hneg
      rw [HP.out, hsg]
      go_enter Tryd.func68, Tryd.ntmps68
      go_wp2_with fail
      refine HD.out.mono ?_
      rintro e w1 ⟨rfl, hb1⟩
      have q0 := cell_next p0 hb1
      have q1 := cell_next p1 hb1
      go_wp2_with fail
      go_ret
      exact ⟨congrArg (fun t => Ending.returned (Value.string t)) (show (⟨#[45]⟩ : ByteArray) ++ strL (digL n) ++ (⟨#[97, 98, 99, 100, 101, 102, 103, 104, 105, 106]⟩ : ByteArray).extract 5 6 = _ from by rw [hx2]), bon hb0 hb1⟩
    · have hsg : sgnL n = 43 := if_neg hneg
      rw [HP.out, hsg]
      go_enter Tryd.func68, Tryd.ntmps68
      go_wp2_with fail
      refine HD.out.mono ?_
      rintro e w1 ⟨rfl, hb1⟩
      have q0 := cell_next p0 hb1
      have q1 := cell_next p1 hb1
      go_wp2_with fail
      go_ret
      exact ⟨congrArg (fun t => Ending.returned (Value.string t)) (show (⟨#[43]⟩ : ByteArray) ++ strL (digL n) ++ (⟨#[97, 98, 99, 100, 101, 102, 103, 104, 105, 106]⟩ : ByteArray).extract 5 6 = _ from by rw [hx2]), bon hb0 hb1⟩

set_option maxRecDepth 100000 in
set_option maxHeartbeats 4000000 in
theorem part_6 (n : Int) (w : World) (hT : Tab10 w) (hn : -1000000 ≤ n ∧ n ≤ 1000000) :
    Calls Tryd.prog 68 #[.agg #[.int .i64 6, .int .i64 n]] w fun e w' => e = .returned (.string (strL (partL ((6 : Int), n)))) ∧ Below w.heap.size w w' := by
  have hb0 := bnew w (.cells #[.int .i64 6, .int .i64 n] 115)
  have p0 : (w.alloc (.cells #[.int .i64 6, .int .i64 n] 115)).cell? ⟨w.heap.size, 0, none⟩ = some (.int .i64 6) := by simp
  have p1 : (w.alloc (.cells #[.int .i64 6, .int .i64 n] 115)).cell? ⟨w.heap.size, 1, none⟩ = some (.int .i64 n) := by simp
  have HD0 := decimal_b (n.natAbs : Int) (by omega) _ (hT.next hb0)
  have hmx : max n (-n) = (n.natAbs : Int) := by omega
  have wn : IntKind.i64.wrap (-n) = -n := IntWalk.i64_in _ (by omega)
  have hds : (strL (digL n)).size ≤ 21 := by rw [strL_size]; exact Lib.itoa_length_le _ (by omega) (by omega)
  have HD : Hid (Calls Tryd.prog 51 #[.int .i64 (n.natAbs : Int)] (w.alloc (.cells #[.int .i64 6, .int .i64 n] 115)) fun e w' => e = .returned (.string (strL (digL n))) ∧ Below (w.alloc (.cells #[.int .i64 6, .int .i64 n] 115)).heap.size (w.alloc (.cells #[.int .i64 6, .int .i64 n] 115)) w') := HD0
  have z1 : ¬ 9223372036854775807 < 1 + (strL (digL n)).size := by omega
  have z2 : ¬ 9223372036854775807 < 1 + (strL (digL n)).size + 1 := by omega
  clear HD0 hT
  generalize hW : (w.alloc (.cells #[.int .i64 6, .int .i64 n] 115)) = W at hb0 p0 p1 HD
  have hx2 : (⟨#[97, 98, 99, 100, 101, 102, 103, 104, 105, 106]⟩ : ByteArray).extract 6 7 = ⟨#[103]⟩ := by rfl
  have hux : UInt8.ofNat (97 + (6 : Int).toNat) = 103 := by rfl
  by_cases h1 : n.natAbs = 1
  · have HP : Hid (strL (partL ((6 : Int), n)) = ⟨#[sgnL n]⟩ ++ ⟨#[]⟩ ++ ⟨#[103]⟩) := by
      show _ = _
      rw [partL, bodyL, if_neg (show ¬ (6 : Int) = -1 by decide), if_pos h1, hux]
      apply ByteArray.ext; simp [strL, ByteArray.data_append]
    have hd1 : strL (digL n) = ⟨#[49]⟩ := by rw [(dig_one n).2 h1]; rfl
    rw [hd1, show ((n.natAbs : Nat) : Int) = 1 by omega] at HD
    by_cases hneg : n < 0
    · have hsg : sgnL n = 45 := if_pos hneg
      rw [HP.out, hsg]
      go_enter Tryd.func68, Tryd.ntmps68
      go_wp2_with fail
      refine HD.out.mono ?_
      rintro e w1 ⟨rfl, hb1⟩
      have q0 := cell_next p0 hb1
      have q1 := cell_next p1 hb1
      go_wp2_with fail
      go_ret
      exact ⟨congrArg (fun t => Ending.returned (Value.string t)) (show (⟨#[45]⟩ : ByteArray) ++ ⟨#[]⟩ ++ (⟨#[97, 98, 99, 100, 101, 102, 103, 104, 105, 106]⟩ : ByteArray).extract 6 7 = _ from by rw [hx2]), bon hb0 hb1⟩
    · have hsg : sgnL n = 43 := if_neg hneg
      rw [HP.out, hsg]
      go_enter Tryd.func68, Tryd.ntmps68
      go_wp2_with fail
      refine HD.out.mono ?_
      rintro e w1 ⟨rfl, hb1⟩
      have q0 := cell_next p0 hb1
      have q1 := cell_next p1 hb1
      go_wp2_with fail
      go_ret
      exact ⟨congrArg (fun t => Ending.returned (Value.string t)) (show (⟨#[43]⟩ : ByteArray) ++ ⟨#[]⟩ ++ (⟨#[97, 98, 99, 100, 101, 102, 103, 104, 105, 106]⟩ : ByteArray).extract 6 7 = _ from by rw [hx2]), bon hb0 hb1⟩
  · have HP : Hid (strL (partL ((6 : Int), n)) = ⟨#[sgnL n]⟩ ++ strL (digL n) ++ ⟨#[103]⟩) := by
      show _ = _
      rw [partL, bodyL, if_neg (show ¬ (6 : Int) = -1 by decide), if_neg h1, hux]
      apply ByteArray.ext; simp [strL, ByteArray.data_append]
    have hb1 : ((strL (digL n)).toList == [49]) = false := by
      rw [Go.ByteArray.toList_eq, strL_toList]
      simpa using fun h => h1 ((dig_one n).1 h)
    have hb2 : ¬ (strL (digL n)).toList = [49] := by
      rw [Go.ByteArray.toList_eq, strL_toList]
      exact fun h => h1 ((dig_one n).1 h)
    by_cases hneg : n < 0
    · have hsg : sgnL n = 45 := if_pos hneg
      rw [HP.out, hsg]
      go_enter Tryd.func68, Tryd.ntmps68
      go_wp2_with fail
      refine HD.out.mono ?_
      rintro e w1 ⟨rfl, hb1⟩
      have q0 := cell_next p0 hb1
      have q1 := cell_next p1 hb1
      go_wp2_with fail
      go_ret
      exact ⟨congrArg (fun t => Ending.returned (Value.string t)) (show (⟨#[45]⟩ : ByteArray) ++ strL (digL n) ++ (⟨#[97, 98, 99, 100, 101, 102, 103, 104, 105, 106]⟩ : ByteArray).extract 6 7 = _ from by rw [hx2]), bon hb0 hb1⟩
    · have hsg : sgnL n = 43 := if_neg hneg
      rw [HP.out, hsg]
      go_enter Tryd.func68, Tryd.ntmps68
      go_wp2_with fail
      refine HD.out.mono ?_
      rintro e w1 ⟨rfl, hb1⟩
      have q0 := cell_next p0 hb1
      have q1 := cell_next p1 hb1
      go_wp2_with fail
      go_ret
      exact ⟨congrArg (fun t => Ending.returned (Value.string t)) (show (⟨#[43]⟩ : ByteArray) ++ strL (digL n) ++ (⟨#[97, 98, 99, 100, 101, 102, 103, 104, 105, 106]⟩ : ByteArray).extract 6 7 = _ from by rw [hx2]), bon hb0 hb1⟩

set_option maxRecDepth 100000 in
set_option maxHeartbeats 4000000 in
theorem part_7 (n : Int) (w : World) (hT : Tab10 w) (hn : -1000000 ≤ n ∧ n ≤ 1000000) :
    Calls Tryd.prog 68 #[.agg #[.int .i64 7, .int .i64 n]] w fun e w' => e = .returned (.string (strL (partL ((7 : Int), n)))) ∧ Below w.heap.size w w' := by
  have hb0 := bnew w (.cells #[.int .i64 7, .int .i64 n] 115)
  have p0 : (w.alloc (.cells #[.int .i64 7, .int .i64 n] 115)).cell? ⟨w.heap.size, 0, none⟩ = some (.int .i64 7) := by simp
  have p1 : (w.alloc (.cells #[.int .i64 7, .int .i64 n] 115)).cell? ⟨w.heap.size, 1, none⟩ = some (.int .i64 n) := by simp
  have HD0 := decimal_b (n.natAbs : Int) (by omega) _ (hT.next hb0)
  have hmx : max n (-n) = (n.natAbs : Int) := by omega
  have wn : IntKind.i64.wrap (-n) = -n := IntWalk.i64_in _ (by omega)
  have hds : (strL (digL n)).size ≤ 21 := by rw [strL_size]; exact Lib.itoa_length_le _ (by omega) (by omega)
  have HD : Hid (Calls Tryd.prog 51 #[.int .i64 (n.natAbs : Int)] (w.alloc (.cells #[.int .i64 7, .int .i64 n] 115)) fun e w' => e = .returned (.string (strL (digL n))) ∧ Below (w.alloc (.cells #[.int .i64 7, .int .i64 n] 115)).heap.size (w.alloc (.cells #[.int .i64 7, .int .i64 n] 115)) w') := HD0
  have z1 : ¬ 9223372036854775807 < 1 + (strL (digL n)).size := by omega
  have z2 : ¬ 9223372036854775807 < 1 + (strL (digL n)).size + 1 := by omega
  clear HD0 hT
  generalize hW : (w.alloc (.cells #[.int .i64 7, .int .i64 n] 115)) = W at hb0 p0 p1 HD
  have hx2 : (⟨#[97, 98, 99, 100, 101, 102, 103, 104, 105, 106]⟩ : ByteArray).extract 7 8 = ⟨#[104]⟩ := by rfl
  have hux : UInt8.ofNat (97 + (7 : Int).toNat) = 104 := by rfl
  by_cases h1 : n.natAbs = 1
  · have HP : Hid (strL (partL ((7 : Int), n)) = ⟨#[sgnL n]⟩ ++ ⟨#[]⟩ ++ ⟨#[104]⟩) := by
      show _ = _
      rw [partL, bodyL, if_neg (show ¬ (7 : Int) = -1 by decide), if_pos h1, hux]
      apply ByteArray.ext; simp [strL, ByteArray.data_append]
    have hd1 : strL (digL n) = ⟨#[49]⟩ := by rw [(dig_one n).2 h1]; rfl
    rw [hd1, show ((n.natAbs : Nat) : Int) = 1 by omega] at HD
    by_cases hneg : n < 0
    · have hsg : sgnL n = 45 := if_pos hneg
      rw [HP.out, hsg]
      go_enter Tryd.func68, Tryd.ntmps68
      go_wp2_with fail
      refine HD.out.mono ?_
      rintro e w1 ⟨rfl, hb1⟩
      have q0 := cell_next p0 hb1
      have q1 := cell_next p1 hb1
      go_wp2_with fail
      go_ret
      exact ⟨congrArg (fun t => Ending.returned (Value.string t)) (show (⟨#[45]⟩ : ByteArray) ++ ⟨#[]⟩ ++ (⟨#[97, 98, 99, 100, 101, 102, 103, 104, 105, 106]⟩ : ByteArray).extract 7 8 = _ from by rw [hx2]), bon hb0 hb1⟩
    · have hsg : sgnL n = 43 := if_neg hneg
      rw [HP.out, hsg]
      go_enter Tryd.func68, Tryd.ntmps68
      go_wp2_with fail
      refine HD.out.mono ?_
      rintro e w1 ⟨rfl, hb1⟩
      have q0 := cell_next p0 hb1
      have q1 := cell_next p1 hb1
      go_wp2_with fail
      go_ret
      exact ⟨congrArg (fun t => Ending.returned (Value.string t)) (show (⟨#[43]⟩ : ByteArray) ++ ⟨#[]⟩ ++ (⟨#[97, 98, 99, 100, 101, 102, 103, 104, 105, 106]⟩ : ByteArray).extract 7 8 = _ from by rw [hx2]), bon hb0 hb1⟩
  · have HP : Hid (strL (partL ((7 : Int), n)) = ⟨#[sgnL n]⟩ ++ strL (digL n) ++ ⟨#[104]⟩) := by
      show _ = _
      rw [partL, bodyL, if_neg (show ¬ (7 : Int) = -1 by decide), if_neg h1, hux]
      apply ByteArray.ext; simp [strL, ByteArray.data_append]
    have hb1 : ((strL (digL n)).toList == [49]) = false := by
      rw [Go.ByteArray.toList_eq, strL_toList]
      simpa using fun h => h1 ((dig_one n).1 h)
    have hb2 : ¬ (strL (digL n)).toList = [49] := by
      rw [Go.ByteArray.toList_eq, strL_toList]
      exact fun h => h1 ((dig_one n).1 h)
    by_cases hneg : n < 0
    · have hsg : sgnL n = 45 := if_pos hneg
      rw [HP.out, hsg]
      go_enter Tryd.func68, Tryd.ntmps68
      go_wp2_with fail
      refine HD.out.mono ?_
      rintro e w1 ⟨rfl, hb1⟩
      have q0 := cell_next p0 hb1
      have q1 := cell_next p1 hb1
      go_wp2_with fail
      go_ret
      exact ⟨congrArg (fun t => Ending.returned (Value.string t)) (show (⟨#[45]⟩ : ByteArray) ++ strL (digL n) ++ (⟨#[97, 98, 99, 100, 101, 102, 103, 104, 105, 106]⟩ : ByteArray).extract 7 8 = _ from by rw [hx2]), bon hb0 hb1⟩
    · have hsg : sgnL n = 43 := if_neg hneg
      rw [HP.out, hsg]
      go_enter Tryd.func68, Tryd.ntmps68
      go_wp2_with fail
      refine HD.out.mono ?_
      rintro e w1 ⟨rfl, hb1⟩
      have q0 := cell_next p0 hb1
      have q1 := cell_next p1 hb1
      go_wp2_with fail
      go_ret
      exact ⟨congrArg (fun t => Ending.returned (Value.string t)) (show (⟨#[43]⟩ : ByteArray) ++ strL (digL n) ++ (⟨#[97, 98, 99, 100, 101, 102, 103, 104, 105, 106]⟩ : ByteArray).extract 7 8 = _ from by rw [hx2]), bon hb0 hb1⟩

set_option maxRecDepth 100000 in
set_option maxHeartbeats 4000000 in
theorem part_8 (n : Int) (w : World) (hT : Tab10 w) (hn : -1000000 ≤ n ∧ n ≤ 1000000) :
    Calls Tryd.prog 68 #[.agg #[.int .i64 8, .int .i64 n]] w fun e w' => e = .returned (.string (strL (partL ((8 : Int), n)))) ∧ Below w.heap.size w w' := by
  have hb0 := bnew w (.cells #[.int .i64 8, .int .i64 n] 115)
  have p0 : (w.alloc (.cells #[.int .i64 8, .int .i64 n] 115)).cell? ⟨w.heap.size, 0, none⟩ = some (.int .i64 8) := by simp
  have p1 : (w.alloc (.cells #[.int .i64 8, .int .i64 n] 115)).cell? ⟨w.heap.size, 1, none⟩ = some (.int .i64 n) := by simp
  have HD0 := decimal_b (n.natAbs : Int) (by omega) _ (hT.next hb0)
  have hmx : max n (-n) = (n.natAbs : Int) := by omega
  have wn : IntKind.i64.wrap (-n) = -n := IntWalk.i64_in _ (by omega)
  have hds : (strL (digL n)).size ≤ 21 := by rw [strL_size]; exact Lib.itoa_length_le _ (by omega) (by omega)
  have HD : Hid (Calls Tryd.prog 51 #[.int .i64 (n.natAbs : Int)] (w.alloc (.cells #[.int .i64 8, .int .i64 n] 115)) fun e w' => e = .returned (.string (strL (digL n))) ∧ Below (w.alloc (.cells #[.int .i64 8, .int .i64 n] 115)).heap.size (w.alloc (.cells #[.int .i64 8, .int .i64 n] 115)) w') := HD0
  have z1 : ¬ 9223372036854775807 < 1 + (strL (digL n)).size := by omega
  have z2 : ¬ 9223372036854775807 < 1 + (strL (digL n)).size + 1 := by omega
  clear HD0 hT
  generalize hW : (w.alloc (.cells #[.int .i64 8, .int .i64 n] 115)) = W at hb0 p0 p1 HD
  have hx2 : (⟨#[97, 98, 99, 100, 101, 102, 103, 104, 105, 106]⟩ : ByteArray).extract 8 9 = ⟨#[105]⟩ := by rfl
  have hux : UInt8.ofNat (97 + (8 : Int).toNat) = 105 := by rfl
  by_cases h1 : n.natAbs = 1
  · have HP : Hid (strL (partL ((8 : Int), n)) = ⟨#[sgnL n]⟩ ++ ⟨#[]⟩ ++ ⟨#[105]⟩) := by
      show _ = _
      rw [partL, bodyL, if_neg (show ¬ (8 : Int) = -1 by decide), if_pos h1, hux]
      apply ByteArray.ext; simp [strL, ByteArray.data_append]
    have hd1 : strL (digL n) = ⟨#[49]⟩ := by rw [(dig_one n).2 h1]; rfl
    rw [hd1, show ((n.natAbs : Nat) : Int) = 1 by omega] at HD
    by_cases hneg : n < 0
    · have hsg : sgnL n = 45 := if_pos hneg
      rw [HP.out, hsg]
      go_enter Tryd.func68, Tryd.ntmps68
      go_wp2_with fail
      refine HD.out.mono ?_
      rintro e w1 ⟨rfl, hb1⟩
      have q0 := cell_next p0 hb1
      have q1 := cell_next p1 hb1
      go_wp2_with fail
      go_ret
      exact ⟨congrArg (fun t => Ending.returned (Value.string t)) (show (⟨#[45]⟩ : ByteArray) ++ ⟨#[]⟩ ++ (⟨#[97, 98, 99, 100, 101, 102, 103, 104, 105, 106]⟩ : ByteArray).extract 8 9 = _ from by rw [hx2]), bon hb0 hb1⟩
    · have hsg : sgnL n = 43 := if_neg hneg
      rw [HP.out, hsg]
      go_enter Tryd.func68, Tryd.ntmps68
      go_wp2_with fail
      refine HD.out.mono ?_
      rintro e w1 ⟨rfl, hb1⟩
      have q0 := cell_next p0 hb1
      have q1 := cell_next p1 hb1
      go_wp2_with fail
      go_ret
      exact ⟨congrArg (fun t => Ending.returned (Value.string t)) (show (⟨#[43]⟩ : ByteArray) ++ ⟨#[]⟩ ++ (⟨#[97, 98, 99, 100, 101, 102, 103, 104, 105, 106]⟩ : ByteArray).extract 8 9 = _ from by rw [hx2]), bon hb0 hb1⟩
  · have HP : Hid (strL (partL ((8 : Int), n)) = ⟨#[sgnL n]⟩ ++ strL (digL n) ++ ⟨#[105]⟩) := by
      show _ = _
      rw [partL, bodyL, if_neg (show ¬ (8 : Int) = -1 by decide), if_neg h1, hux]
      apply ByteArray.ext; simp [strL, ByteArray.data_append]
    have hb1 : ((strL (digL n)).toList == [49]) = false := by
      rw [Go.ByteArray.toList_eq, strL_toList]
      simpa using fun h => h1 ((dig_one n).1 h)
    have hb2 : ¬ (strL (digL n)).toList = [49] := by
      rw [Go.ByteArray.toList_eq, strL_toList]
      exact fun h => h1 ((dig_one n).1 h)
    by_cases hneg : n < 0
    · have hsg : sgnL n = 45 := if_pos hneg
      rw [HP.out, hsg]
      go_enter Tryd.func68, Tryd.ntmps68
      go_wp2_with fail
      refine HD.out.mono ?_
      rintro e w1 ⟨rfl, hb1⟩
      have q0 := cell_next p0 hb1
      have q1 := cell_next p1 hb1
      go_wp2_with fail
      go_ret
      exact ⟨congrArg (fun t => Ending.returned (Value.string t)) (show (⟨#[45]⟩ : ByteArray) ++ strL (digL n) ++ (⟨#[97, 98, 99, 100, 101, 102, 103, 104, 105, 106]⟩ : ByteArray).extract 8 9 = _ from by rw [hx2]), bon hb0 hb1⟩
    · have hsg : sgnL n = 43 := if_neg hneg
      rw [HP.out, hsg]
      go_enter Tryd.func68, Tryd.ntmps68
      go_wp2_with fail
      refine HD.out.mono ?_
      rintro e w1 ⟨rfl, hb1⟩
      have q0 := cell_next p0 hb1
      have q1 := cell_next p1 hb1
      go_wp2_with fail
      go_ret
      exact ⟨congrArg (fun t => Ending.returned (Value.string t)) (show (⟨#[43]⟩ : ByteArray) ++ strL (digL n) ++ (⟨#[97, 98, 99, 100, 101, 102, 103, 104, 105, 106]⟩ : ByteArray).extract 8 9 = _ from by rw [hx2]), bon hb0 hb1⟩

set_option maxRecDepth 100000 in
set_option maxHeartbeats 4000000 in
theorem part_9 (n : Int) (w : World) (hT : Tab10 w) (hn : -1000000 ≤ n ∧ n ≤ 1000000) :
    Calls Tryd.prog 68 #[.agg #[.int .i64 9, .int .i64 n]] w fun e w' => e = .returned (.string (strL (partL ((9 : Int), n)))) ∧ Below w.heap.size w w' := by
  have hb0 := bnew w (.cells #[.int .i64 9, .int .i64 n] 115)
  have p0 : (w.alloc (.cells #[.int .i64 9, .int .i64 n] 115)).cell? ⟨w.heap.size, 0, none⟩ = some (.int .i64 9) := by simp
  have p1 : (w.alloc (.cells #[.int .i64 9, .int .i64 n] 115)).cell? ⟨w.heap.size, 1, none⟩ = some (.int .i64 n) := by simp
  have HD0 := decimal_b (n.natAbs : Int) (by omega) _ (hT.next hb0)
  have hmx : max n (-n) = (n.natAbs : Int) := by omega
  have wn : IntKind.i64.wrap (-n) = -n := IntWalk.i64_in _ (by omega)
  have hds : (strL (digL n)).size ≤ 21 := by rw [strL_size]; exact Lib.itoa_length_le _ (by omega) (by omega)
  have HD : Hid (Calls Tryd.prog 51 #[.int .i64 (n.natAbs : Int)] (w.alloc (.cells #[.int .i64 9, .int .i64 n] 115)) fun e w' => e = .returned (.string (strL (digL n))) ∧ Below (w.alloc (.cells #[.int .i64 9, .int .i64 n] 115)).heap.size (w.alloc (.cells #[.int .i64 9, .int .i64 n] 115)) w') := HD0
  have z1 : ¬ 9223372036854775807 < 1 + (strL (digL n)).size := by omega
  have z2 : ¬ 9223372036854775807 < 1 + (strL (digL n)).size + 1 := by omega
  clear HD0 hT
  generalize hW : (w.alloc (.cells #[.int .i64 9, .int .i64 n] 115)) = W at hb0 p0 p1 HD
  have hx2 : (⟨#[97, 98, 99, 100, 101, 102, 103, 104, 105, 106]⟩ : ByteArray).extract 9 10 = ⟨#[106]⟩ := by rfl
  have hux : UInt8.ofNat (97 + (9 : Int).toNat) = 106 := by rfl
  by_cases h1 : n.natAbs = 1
  · have HP : Hid (strL (partL ((9 : Int), n)) = ⟨#[sgnL n]⟩ ++ ⟨#[]⟩ ++ ⟨#[106]⟩) := by
      show _ = _
      rw [partL, bodyL, if_neg (show ¬ (9 : Int) = -1 by decide), if_pos h1, hux]
      apply ByteArray.ext; simp [strL, ByteArray.data_append]
    have hd1 : strL (digL n) = ⟨#[49]⟩ := by rw [(dig_one n).2 h1]; rfl
    rw [hd1, show ((n.natAbs : Nat) : Int) = 1 by omega] at HD
    by_cases hneg : n < 0
    · have hsg : sgnL n = 45 := if_pos hneg
      rw [HP.out, hsg]
      go_enter Tryd.func68, Tryd.ntmps68
      go_wp2_with fail
      refine HD.out.mono ?_
      rintro e w1 ⟨rfl, hb1⟩
      have q0 := cell_next p0 hb1
      have q1 := cell_next p1 hb1
      go_wp2_with fail
      go_ret
      exact ⟨congrArg (fun t => Ending.returned (Value.string t)) (show (⟨#[45]⟩ : ByteArray) ++ ⟨#[]⟩ ++ (⟨#[97, 98, 99, 100, 101, 102, 103, 104, 105, 106]⟩ : ByteArray).extract 9 10 = _ from by rw [hx2]), bon hb0 hb1⟩
    · have hsg : sgnL n = 43 := if_neg hneg
      rw [HP.out, hsg]
      go_enter Tryd.func68, Tryd.ntmps68
      go_wp2_with fail
      refine HD.out.mono ?_
      rintro e w1 ⟨rfl, hb1⟩
      have q0 := cell_next p0 hb1
      have q1 := cell_next p1 hb1
      go_wp2_with fail
      go_ret
      exact ⟨congrArg (fun t => Ending.returned (Value.string t)) (show (⟨#[43]⟩ : ByteArray) ++ ⟨#[]⟩ ++ (⟨#[97, 98, 99, 100, 101, 102, 103, 104, 105, 106]⟩ : ByteArray).extract 9 10 = _ from by rw [hx2]), bon hb0 hb1⟩
  · have HP : Hid (strL (partL ((9 : Int), n)) = ⟨#[sgnL n]⟩ ++ strL (digL n) ++ ⟨#[106]⟩) := by
      show _ = _
      rw [partL, bodyL, if_neg (show ¬ (9 : Int) = -1 by decide), if_neg h1, hux]
      apply ByteArray.ext; simp [strL, ByteArray.data_append]
    have hb1 : ((strL (digL n)).toList == [49]) = false := by
      rw [Go.ByteArray.toList_eq, strL_toList]
      simpa using fun h => h1 ((dig_one n).1 h)
    have hb2 : ¬ (strL (digL n)).toList = [49] := by
      rw [Go.ByteArray.toList_eq, strL_toList]
      exact fun h => h1 ((dig_one n).1 h)
    by_cases hneg : n < 0
    · have hsg : sgnL n = 45 := if_pos hneg
      rw [HP.out, hsg]
      go_enter Tryd.func68, Tryd.ntmps68
      go_wp2_with fail
      refine HD.out.mono ?_
      rintro e w1 ⟨rfl, hb1⟩
      have q0 := cell_next p0 hb1
      have q1 := cell_next p1 hb1
      go_wp2_with fail
      go_ret
      exact ⟨congrArg (fun t => Ending.returned (Value.string t)) (show (⟨#[45]⟩ : ByteArray) ++ strL (digL n) ++ (⟨#[97, 98, 99, 100, 101, 102, 103, 104, 105, 106]⟩ : ByteArray).extract 9 10 = _ from by rw [hx2]), bon hb0 hb1⟩
    · have hsg : sgnL n = 43 := if_neg hneg
      rw [HP.out, hsg]
      go_enter Tryd.func68, Tryd.ntmps68
      go_wp2_with fail
      refine HD.out.mono ?_
      rintro e w1 ⟨rfl, hb1⟩
      have q0 := cell_next p0 hb1
      have q1 := cell_next p1 hb1
      go_wp2_with fail
      go_ret
      exact ⟨congrArg (fun t => Ending.returned (Value.string t)) (show (⟨#[43]⟩ : ByteArray) ++ strL (digL n) ++ (⟨#[97, 98, 99, 100, 101, 102, 103, 104, 105, 106]⟩ : ByteArray).extract 9 10 = _ from by rw [hx2]), bon hb0 hb1⟩

theorem partStr_c (s n : Int) (w : World) (hT : Tab10 w) (hs : -1 ≤ s ∧ s ≤ 9) (hn : -1000000 ≤ n ∧ n ≤ 1000000) :
    Calls Tryd.prog 68 #[.agg #[.int .i64 s, .int .i64 n]] w fun e w' => e = .returned (.string (strL (partL (s, n)))) ∧ Below w.heap.size w w' := by
  have hc : s = -1 ∨ s = 0 ∨ s = 1 ∨ s = 2 ∨ s = 3 ∨ s = 4 ∨ s = 5 ∨ s = 6 ∨ s = 7 ∨ s = 8 ∨ s = 9 := by omega
  rcases hc with rfl | rfl | rfl | rfl | rfl | rfl | rfl | rfl | rfl | rfl | rfl
  · exact part_m n w hT hn
  · exact part_0 n w hT hn
  · exact part_1 n w hT hn
  · exact part_2 n w hT hn
  · exact part_3 n w hT hn
  · exact part_4 n w hT hn
  · exact part_5 n w hT hn
  · exact part_6 n w hT hn
  · exact part_7 n w hT hn
  · exact part_8 n w hT hn
  · exact part_9 n w hT hn
end Go.Proofs.YtahlpjhhbcjfpaaDoor
