/-
  Where blocks begin: the model's list. Conditions: at most 2^20 instructions.
-/
import Derived.Test.YtnfapodeifpeoaaLeadP
import Derived.Test.YtnfapodeifpeoaaTarg
namespace Go.Proofs.Ytnfapodeifpeoaa
set_option linter.unusedVariables false
open Go.RowKit

set_option maxRecDepth 100000 in
set_option maxHeartbeats 16000000 in
theorem specLeaders_c (A : Option Addr) (n c B : Nat) (xs : List (Int × Int)) (w : World) (h : InC w B A n xs) (hB : B ≤ w.heap.size) (hn : n ≤ 1048576) :
    Calls Try.prog 45 #[.slice A n c] w fun e w' => ∃ A' c', e = .returned (.tuple #[.slice A' (ledR xs).1.length c', .bool (ledR xs).2]) ∧ OwnL w' w.heap.size w'.heap.size A' (ledR xs).1.length c' (ledR xs).1 ∧ Below w.heap.size w w' := by
  have hlen := Lib.hid h.1
  have HC0 := l07Is_c A n c B xs w h hB hn
  cases hv : codeB xs with
  | false =>
    have HE := Lib.hid (ledR_no hv)
    rw [hv] at HC0
    rw [HE.out]
    have HC := Lib.hid HC0
    clear HC0 hv h
    go_enter Try.func45, Try.ntmps45
    go_wp2_with fail
    refine HC.out.mono ?_
    rintro e w1 ⟨rfl, hb1⟩
    go_wp2_with fail
    go_ret2
    exact ⟨none, 0, rfl, (ownL_nil _).less hb1.size, hb1⟩
  | true =>
    have hp := codeB_parts hv
    have hn80 : n ≤ 80 ∧ 1 ≤ n := by have := hlen.out; omega
    have HV := Lib.hid (fun x (hx : x ∈ xs) => instrB_arg (hp.2.2 x hx))
    have HE := Lib.hid (ledR_yes hv)
    rw [hv] at HC0
    rw [HE.out, hlen.out]
    have HC := Lib.hid HC0
    have HI := Lib.hid h
    clear HC0 hv hp h
    go_enter Try.func45, Try.ntmps45
    go_wp2_with fail
    refine HC.out.mono ?_
    rintro e w1 ⟨rfl, hb1⟩
    have hb2 := bnew w1 (.cells #[.int .i64 0] 2)
    have hO0 : (w1.alloc (.cells #[.int .i64 0] 2)).ownsRow w1.heap.size 2 1 (.slice (some ⟨w1.heap.size, 0, none⟩) 1 1) (ledTo xs 0).length ((ledTo xs 0).map ic) := own_one w1 0
    go_wp2_with fail
    generalize w1.alloc (.cells #[.int .i64 0] 2) = W at hb2 hO0 ⊢
    go_loopw [4, 6, 7, 8] (fun v i _ _ wr => ∃ k : Nat, k ≤ n ∧ i = .int .i64 k ∧ wr.ownsRow w1.heap.size 2 1 v (ledTo xs k).length ((ledTo xs k).map ic) ∧ Below w1.heap.size w1 wr) (fun _ i _ _ _ => n - (intOf i).toNat)
    case atStart => exact ⟨0, Nat.zero_le _, rfl, hO0, hb2⟩
    case round =>
      clear hO0 hb2
      obtain ⟨k, hk, rfl, hown, hbel⟩ := hrel
      have hsz := hbel.size
      obtain ⟨VA, Vc, rfl, _⟩ := own_slice hown
      by_cases hlt : k < n
      · obtain ⟨b, off, x, rfl, hb, hx, q0, q1⟩ := (HI.out.next (bon hb1 hbel) hB).at_ hlt
        have ha := HV.out x (List.mem_of_getElem? hx)
        obtain ⟨op, a⟩ := x
        have hS := ledTo_succ hx
        rw [hlen.out] at hS
        have hlk := ledTo_len xs k
        have p0 : wr.cell? ⟨b, off + k * 2, none⟩ = some (.int .i64 op) := q0
        have p1 : wr.cell? ⟨b, off + k * 2 + 1, none⟩ = some (.int .i64 a) := q1
        have ha' : -1000000 ≤ a ∧ a ≤ 1000000 := ha
        have hb3 := bnew wr (.cells #[.int .i64 op, .int .i64 a] 25)
        have hX : BlkIs (wr.alloc (.cells #[.int .i64 op, .int .i64 a] 25)) wr.heap.size 25 #[.int .i64 op, .int .i64 a] := blk_new _ _ _ _ rfl
        have hOX := own_below hown hb3
        have hwr : IntKind.i64.wrap ((k : Int) + 1) = (k : Int) + 1 := IntWalk.i64_in _ (by omega)
        clear hx ha q0 q1 hown
        generalize ledTo xs k = O at hOX hS hlk ⊢
        by_cases e5 : op = 5
        · subst e5
          by_cases han : a < (n : Int)
          · by_cases hkn : (k : Int) + 1 < n
            · have HL : Hid (ledTo xs (k + 1) = putR ((k : Int) + 1) (putR a O)) := by show _ = _; rw [hS]; simp [led1, plcB, endB, han, hkn]
              clear hS
              go_wp2_with fail
              generalize wr.alloc (.cells #[.int .i64 5, .int .i64 a] 25) = W3 at hb3 hX hOX ⊢
              refine (l00Put_c VA O.length Vc W3.heap.size O a W3 (OwnL.of_own hOX).all (Nat.le_refl _) (by omega)).mono ?_
              rintro e w4 ⟨v4, rfl, hr4, hb4⟩
              obtain ⟨A4, c4, rfl, _⟩ := own_slice hr4
              have hX4 := hX.next hb4
              have hr4w := own_less hr4 (Nat.le_trans hsz hb3.size)
              have hb34 := bon hb3 hb4
              have hl4 := putR_len a O
              clear hr4 hOX hX
              have x0 : w4.cell? ⟨wr.heap.size, 0, none⟩ = some (.int .i64 5) := hX4.cell 0
              go_wp2_with fail
              refine (l00Put_c A4 (putR a O).length c4 w4.heap.size (putR a O) ((k : Int) + 1) w4 (OwnL.of_own hr4w).all (Nat.le_refl _) (by omega)).mono ?_
              rintro e w5 ⟨v5, rfl, hr5, hb5⟩
              obtain ⟨A5, c5, rfl, _⟩ := own_slice hr5
              have hb35 := bon hb34 hb5
              have hr5w := Lib.hid (own_less hr5 (Nat.le_trans hsz hb34.size))
              clear hr5 hr4w
              go_wp2_with fail
              go_roundw
              case rel => exact ⟨k + 1, by omega, by go_num, by rw [HL.out]; exact hr5w.out, bon hbel hb35⟩
              case measure => simp [intOf]; omega
            · have HL : Hid (ledTo xs (k + 1) = putR a O) := by show _ = _; rw [hS]; simp [led1, plcB, endB, han, hkn]
              clear hS
              go_wp2_with fail
              generalize wr.alloc (.cells #[.int .i64 5, .int .i64 a] 25) = W3 at hb3 hX hOX ⊢
              refine (l00Put_c VA O.length Vc W3.heap.size O a W3 (OwnL.of_own hOX).all (Nat.le_refl _) (by omega)).mono ?_
              rintro e w4 ⟨v4, rfl, hr4, hb4⟩
              obtain ⟨A4, c4, rfl, _⟩ := own_slice hr4
              have hX4 := hX.next hb4
              have hr4w := own_less hr4 (Nat.le_trans hsz hb3.size)
              have hb34 := bon hb3 hb4
              have hl4 := putR_len a O
              clear hr4 hOX hX
              have x0 : w4.cell? ⟨wr.heap.size, 0, none⟩ = some (.int .i64 5) := hX4.cell 0
              go_wp2_with fail
              go_roundw
              case rel => exact ⟨k + 1, by omega, by go_num, by rw [HL.out]; exact hr4w, bon hbel hb34⟩
              case measure => simp [intOf]; omega
          · by_cases hkn : (k : Int) + 1 < n
            · have HL : Hid (ledTo xs (k + 1) = putR ((k : Int) + 1) (O)) := by show _ = _; rw [hS]; simp [led1, plcB, endB, han, hkn]
              clear hS
              go_wp2_with fail
              generalize wr.alloc (.cells #[.int .i64 5, .int .i64 a] 25) = W3 at hb3 hX hOX ⊢
              refine (l00Put_c VA O.length Vc W3.heap.size O ((k : Int) + 1) W3 (OwnL.of_own hOX).all (Nat.le_refl _) (by omega)).mono ?_
              rintro e w4 ⟨v4, rfl, hr4, hb4⟩
              obtain ⟨A4, c4, rfl, _⟩ := own_slice hr4
              have hr4w := Lib.hid (own_less hr4 (Nat.le_trans hsz hb3.size))
              have hb34 := bon hb3 hb4
              clear hr4 hOX hX
              go_wp2_with fail
              go_roundw
              case rel => exact ⟨k + 1, by omega, by go_num, by rw [HL.out]; exact hr4w.out, bon hbel hb34⟩
              case measure => simp [intOf]; omega
            · have HL : Hid (ledTo xs (k + 1) = O) := by show _ = _; rw [hS]; simp [led1, plcB, endB, han, hkn]
              clear hS
              go_wp2_with fail
              go_roundw
              case rel => exact ⟨k + 1, by omega, by go_num, by rw [HL.out]; exact hOX, bon hbel hb3⟩
              case measure => simp [intOf]; omega
        · skip
          by_cases e6 : op = 6
          · subst e6
            by_cases han : a < (n : Int)
            · by_cases hkn : (k : Int) + 1 < n
              · have HL : Hid (ledTo xs (k + 1) = putR ((k : Int) + 1) (putR a O)) := by show _ = _; rw [hS]; simp [led1, plcB, endB, han, hkn]
                clear hS
                go_wp2_with fail
                generalize wr.alloc (.cells #[.int .i64 6, .int .i64 a] 25) = W3 at hb3 hX hOX ⊢
                refine (l00Put_c VA O.length Vc W3.heap.size O a W3 (OwnL.of_own hOX).all (Nat.le_refl _) (by omega)).mono ?_
                rintro e w4 ⟨v4, rfl, hr4, hb4⟩
                obtain ⟨A4, c4, rfl, _⟩ := own_slice hr4
                have hX4 := hX.next hb4
                have hr4w := own_less hr4 (Nat.le_trans hsz hb3.size)
                have hb34 := bon hb3 hb4
                have hl4 := putR_len a O
                clear hr4 hOX hX
                have x0 : w4.cell? ⟨wr.heap.size, 0, none⟩ = some (.int .i64 6) := hX4.cell 0
                go_wp2_with fail
                refine (l00Put_c A4 (putR a O).length c4 w4.heap.size (putR a O) ((k : Int) + 1) w4 (OwnL.of_own hr4w).all (Nat.le_refl _) (by omega)).mono ?_
                rintro e w5 ⟨v5, rfl, hr5, hb5⟩
                obtain ⟨A5, c5, rfl, _⟩ := own_slice hr5
                have hb35 := bon hb34 hb5
                have hr5w := Lib.hid (own_less hr5 (Nat.le_trans hsz hb34.size))
                clear hr5 hr4w
                go_wp2_with fail
                go_roundw
                case rel => exact ⟨k + 1, by omega, by go_num, by rw [HL.out]; exact hr5w.out, bon hbel hb35⟩
                case measure => simp [intOf]; omega
              · have HL : Hid (ledTo xs (k + 1) = putR a O) := by show _ = _; rw [hS]; simp [led1, plcB, endB, han, hkn]
                clear hS
                go_wp2_with fail
                generalize wr.alloc (.cells #[.int .i64 6, .int .i64 a] 25) = W3 at hb3 hX hOX ⊢
                refine (l00Put_c VA O.length Vc W3.heap.size O a W3 (OwnL.of_own hOX).all (Nat.le_refl _) (by omega)).mono ?_
                rintro e w4 ⟨v4, rfl, hr4, hb4⟩
                obtain ⟨A4, c4, rfl, _⟩ := own_slice hr4
                have hX4 := hX.next hb4
                have hr4w := own_less hr4 (Nat.le_trans hsz hb3.size)
                have hb34 := bon hb3 hb4
                have hl4 := putR_len a O
                clear hr4 hOX hX
                have x0 : w4.cell? ⟨wr.heap.size, 0, none⟩ = some (.int .i64 6) := hX4.cell 0
                go_wp2_with fail
                go_roundw
                case rel => exact ⟨k + 1, by omega, by go_num, by rw [HL.out]; exact hr4w, bon hbel hb34⟩
                case measure => simp [intOf]; omega
            · by_cases hkn : (k : Int) + 1 < n
              · have HL : Hid (ledTo xs (k + 1) = putR ((k : Int) + 1) (O)) := by show _ = _; rw [hS]; simp [led1, plcB, endB, han, hkn]
                clear hS
                go_wp2_with fail
                generalize wr.alloc (.cells #[.int .i64 6, .int .i64 a] 25) = W3 at hb3 hX hOX ⊢
                refine (l00Put_c VA O.length Vc W3.heap.size O ((k : Int) + 1) W3 (OwnL.of_own hOX).all (Nat.le_refl _) (by omega)).mono ?_
                rintro e w4 ⟨v4, rfl, hr4, hb4⟩
                obtain ⟨A4, c4, rfl, _⟩ := own_slice hr4
                have hr4w := Lib.hid (own_less hr4 (Nat.le_trans hsz hb3.size))
                have hb34 := bon hb3 hb4
                clear hr4 hOX hX
                go_wp2_with fail
                go_roundw
                case rel => exact ⟨k + 1, by omega, by go_num, by rw [HL.out]; exact hr4w.out, bon hbel hb34⟩
                case measure => simp [intOf]; omega
              · have HL : Hid (ledTo xs (k + 1) = O) := by show _ = _; rw [hS]; simp [led1, plcB, endB, han, hkn]
                clear hS
                go_wp2_with fail
                go_roundw
                case rel => exact ⟨k + 1, by omega, by go_num, by rw [HL.out]; exact hOX, bon hbel hb3⟩
                case measure => simp [intOf]; omega
          · skip
            by_cases e11 : op = 11
            · subst e11
              by_cases hkn : (k : Int) + 1 < n
              · have HL : Hid (ledTo xs (k + 1) = putR ((k : Int) + 1) (O)) := by show _ = _; rw [hS]; simp [led1, plcB, endB, hkn]
                clear hS
                go_wp2_with fail
                generalize wr.alloc (.cells #[.int .i64 11, .int .i64 a] 25) = W3 at hb3 hX hOX ⊢
                refine (l00Put_c VA O.length Vc W3.heap.size O ((k : Int) + 1) W3 (OwnL.of_own hOX).all (Nat.le_refl _) (by omega)).mono ?_
                rintro e w4 ⟨v4, rfl, hr4, hb4⟩
                obtain ⟨A4, c4, rfl, _⟩ := own_slice hr4
                have hr4w := Lib.hid (own_less hr4 (Nat.le_trans hsz hb3.size))
                have hb34 := bon hb3 hb4
                clear hr4 hOX hX
                go_wp2_with fail
                go_roundw
                case rel => exact ⟨k + 1, by omega, by go_num, by rw [HL.out]; exact hr4w.out, bon hbel hb34⟩
                case measure => simp [intOf]; omega
              · have HL : Hid (ledTo xs (k + 1) = O) := by show _ = _; rw [hS]; simp [led1, plcB, endB, hkn]
                clear hS
                go_wp2_with fail
                go_roundw
                case rel => exact ⟨k + 1, by omega, by go_num, by rw [HL.out]; exact hOX, bon hbel hb3⟩
                case measure => simp [intOf]; omega
            · have HL : Hid (ledTo xs (k + 1) = O) := by show _ = _; rw [hS]; simp [led1, plcB, endB, e5, e6, e11]
              clear hS
              have d5 : (op == 5) = false := by simp [e5]
              have d6 : (op == 6) = false := by simp [e6]
              have d11 : (op == 11) = false := by simp [e11]
              clear e5 e6 e11
              go_wp2_with fail
              go_roundw
              case rel => exact ⟨k + 1, by omega, by go_num, by rw [HL.out]; exact hOX, bon hbel hb3⟩
              case measure => simp [intOf]; omega
      · have e : k = n := by omega
        subst e
        have HO := Lib.hid (OwnL.of_own hown)
        clear hown
        go_wp2_with fail
        go_ret2
        exact ⟨VA, Vc, rfl, HO.out.less hb1.size, bon hb1 hbel⟩
end Go.Proofs.Ytnfapodeifpeoaa
