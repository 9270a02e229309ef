/-
  What put does to the program's machine; whether the stack has room for an operation. Conditions: numbers that do not overflow.
-/
import Derived.Test.YtffkdidgfeknkaaGreatDoorEff
namespace Go.Proofs.YtffkdidgfeknkaaGreatDoor
set_option linter.unusedVariables false
open Go.RowKit

set_option maxRecDepth 100000 in
set_option maxHeartbeats 4000000 in
theorem put_cell (g : Nat) (a : Int) (L : List Int) (h : Nat) (x : Int) (i : Int) (w : World) (hM : MachIs w g L) (h1 : L[18]? = some ((h : Int) + 2)) (h5 : h ≤ 4) (hx : L[13 + h]? = some x) (hi : L[12 + h]? = some i) (hn : (decide (0 ≤ i) && decide (i ≤ 7)) = false) :
    Calls Tryz.prog 107 #[.pointer (some ⟨g, 0, none⟩), .int .i64 a] w fun e w' => e = .returned (.int .i64 2) ∧ MachIs w' g (L.set 18 h) ∧ Out g (g + 1) w w' := by
  have hl := hM.2
  have HP := Lib.hid (pop_c g L (h + 1) x w hM (by rw [h1]; first | rfl | (congr 1; omega)) (by omega) (by rw [← hx]; congr 1; omega))
  clear hM
  go_enter Tryz.func107, Tryz.ntmps107
  go_wp2_with fail
  refine HP.out.mono ?_
  rintro e w1 ⟨rfl, hM1, ho1⟩
  have ec : (((h + 1 : Nat)) : Int) = (h : Int) + 1 := by omega
  rw [ec] at hM1
  have HP2 := Lib.hid (pop_c g _ h i w1 hM1 (by rw [List.getElem?_set_self (by omega)]) (by omega) (by rw [List.getElem?_set_ne (by omega)]; exact hi))
  clear HP hM1
  go_wp2_with fail
  refine HP2.out.mono ?_
  rintro e w2 ⟨rfl, hM2, ho2⟩
  rw [List.set_set] at hM2
  have HI0 := isCell_c i w2
  rw [hn] at HI0
  have HI := Lib.hid HI0
  have HM2 := Lib.hid hM2
  clear hM2 HP2 HI0 hn
  go_wp2_with fail
  refine HI.out.mono ?_
  rintro e w3 ⟨rfl, rfl⟩
  go_wp2_with fail
  go_ret
  exact ⟨rfl, HM2.out, ho1.trans ho2⟩
set_option maxRecDepth 100000 in
set_option maxHeartbeats 4000000 in
theorem put_int (g : Nat) (a : Int) (L : List Int) (h : Nat) (x : Int) (i : Nat) (w : World) (hM : MachIs w g L) (h1 : L[18]? = some ((h : Int) + 2)) (h5 : h ≤ 4) (hx : L[13 + h]? = some x) (hi : L[12 + h]? = some (i : Int)) (hi7 : i ≤ 7) (hn : (decide (-1000000000 ≤ x) && decide (x ≤ 1000000000)) = false) :
    Calls Tryz.prog 107 #[.pointer (some ⟨g, 0, none⟩), .int .i64 a] w fun e w' => e = .returned (.int .i64 4) ∧ MachIs w' g (L.set 18 h) ∧ Out g (g + 1) w w' := by
  have hl := hM.2
  have HP := Lib.hid (pop_c g L (h + 1) x w hM (by rw [h1]; first | rfl | (congr 1; omega)) (by omega) (by rw [← hx]; congr 1; omega))
  clear hM
  go_enter Tryz.func107, Tryz.ntmps107
  go_wp2_with fail
  refine HP.out.mono ?_
  rintro e w1 ⟨rfl, hM1, ho1⟩
  have ec : (((h + 1 : Nat)) : Int) = (h : Int) + 1 := by omega
  rw [ec] at hM1
  have HP2 := Lib.hid (pop_c g _ h i w1 hM1 (by rw [List.getElem?_set_self (by omega)]) (by omega) (by rw [List.getElem?_set_ne (by omega)]; exact hi))
  clear HP hM1
  go_wp2_with fail
  refine HP2.out.mono ?_
  rintro e w2 ⟨rfl, hM2, ho2⟩
  rw [List.set_set] at hM2
  have hc : (decide (0 ≤ (i : Int)) && decide ((i : Int) ≤ 7)) = true := by simp; omega
  have i1 : (0 : Int) ≤ (i : Int) := by omega
  have i2 : (i : Int) < 8 := by omega
  have HI0 := isCell_c (i : Int) w2
  rw [hc] at HI0
  have HI := Lib.hid HI0
  have HJ0 := isInt_c x w2
  rw [hn] at HJ0
  have HJ := Lib.hid HJ0
  have HM2 := Lib.hid hM2
  clear hM2 HP2 HI0 HJ0 hn hc
  go_wp2_with fail
  refine HI.out.mono ?_
  rintro e w3 ⟨rfl, rfl⟩
  go_wp2_with fail
  refine HJ.out.mono ?_
  rintro e w3 ⟨rfl, rfl⟩
  go_wp2_with fail
  go_ret
  exact ⟨rfl, HM2.out, ho1.trans ho2⟩
set_option maxRecDepth 100000 in
set_option maxHeartbeats 4000000 in
theorem put_yes (g : Nat) (a : Int) (L : List Int) (h : Nat) (x : Int) (i : Nat) (w : World) (hM : MachIs w g L) (h1 : L[18]? = some ((h : Int) + 2)) (h5 : h ≤ 4) (hx : L[13 + h]? = some x) (hi : L[12 + h]? = some (i : Int)) (hi7 : i ≤ 7) (hn : (decide (-1000000000 ≤ x) && decide (x ≤ 1000000000)) = true) :
    Calls Tryz.prog 107 #[.pointer (some ⟨g, 0, none⟩), .int .i64 a] w fun e w' => e = .returned (.int .i64 0) ∧ MachIs w' g ((L.set 18 h).set (4 + i) x) ∧ Out g (g + 1) w w' := by
  have hl := hM.2
  have HP := Lib.hid (pop_c g L (h + 1) x w hM (by rw [h1]; first | rfl | (congr 1; omega)) (by omega) (by rw [← hx]; congr 1; omega))
  clear hM
  go_enter Tryz.func107, Tryz.ntmps107
  go_wp2_with fail
  refine HP.out.mono ?_
  rintro e w1 ⟨rfl, hM1, ho1⟩
  have ec : (((h + 1 : Nat)) : Int) = (h : Int) + 1 := by omega
  rw [ec] at hM1
  have HP2 := Lib.hid (pop_c g _ h i w1 hM1 (by rw [List.getElem?_set_self (by omega)]) (by omega) (by rw [List.getElem?_set_ne (by omega)]; exact hi))
  clear HP hM1
  go_wp2_with fail
  refine HP2.out.mono ?_
  rintro e w2 ⟨rfl, hM2, ho2⟩
  rw [List.set_set] at hM2
  have hc : (decide (0 ≤ (i : Int)) && decide ((i : Int) ≤ 7)) = true := by simp; omega
  have i1 : (0 : Int) ≤ (i : Int) := by omega
  have i2 : (i : Int) < 8 := by omega
  have HI0 := isCell_c (i : Int) w2
  rw [hc] at HI0
  have HI := Lib.hid HI0
  have HJ0 := isInt_c x w2
  rw [hn] at HJ0
  have HJ := Lib.hid HJ0
  obtain ⟨y, hy⟩ : ∃ y, (L.set 18 (h : Int))[4 + i]? = some y := ⟨_, List.getElem?_eq_getElem (by rw [List.length_set]; omega)⟩
  have py := hM2.at_ hy
  have fy := hM2.frozen (4 + i)
  have HM3 := Lib.hid (hM2.set (4 + i) x)
  have HO3 := Lib.hid (out_set (i := 4 + i) (u := .int .i64 x) (ho1.trans ho2) (g := g) (by omega))
  clear hM2 HP2 HI0 HJ0 hn hc hy
  go_wp2_with fail
  refine HI.out.mono ?_
  rintro e w3 ⟨rfl, rfl⟩
  go_wp2_with fail
  refine HJ.out.mono ?_
  rintro e w3 ⟨rfl, rfl⟩
  go_wp2_with fail
  go_ret
  exact ⟨rfl, HM3.out, HO3.out⟩

/-- Whether the stack has enough numbers for an operation, and room for what it pushes. -/
def fitB (op : Int) (h : Int) : Bool := decide (popB op ≤ h) && decide (h ≤ 6 + popB op - pushB op)
theorem popB_02 (op : Int) : 0 ≤ popB op ∧ popB op ≤ 2 := by unfold popB; split <;> (try split) <;> omega
theorem pushB_01 (op : Int) : 0 ≤ pushB op ∧ pushB op ≤ 1 := by unfold pushB; split <;> omega
set_option maxRecDepth 100000 in
set_option maxHeartbeats 4000000 in
theorem fits_c (op h : Int) (w : World) :
    Calls Tryz.prog 88 #[.agg (opV op), .int .i64 h] w fun e w' => e = .returned (.bool (fitB op h)) ∧ Below w.heap.size w w' := by
  have hb0 := bnew w (.cells (opV op) 126)
  have hR : BlkIs (w.alloc (.cells (opV op) 126)) w.heap.size 126 (opV op) := blk_new _ _ _ _ rfl
  have r3 : (w.alloc (.cells (opV op) 126)).cell? ⟨w.heap.size, 3, none⟩ = some (.int .i64 (popB op)) := hR.cell 3
  have r4 : (w.alloc (.cells (opV op) 126)).cell? ⟨w.heap.size, 4, none⟩ = some (.int .i64 (pushB op)) := hR.cell 4
  have h1 := popB_02 op
  have h2 := pushB_01 op
  have w1 : IntKind.i64.wrap (6 + popB op) = 6 + popB op := IntWalk.i64_in _ (by omega)
  have w2 : IntKind.i64.wrap (6 + popB op - pushB op) = 6 + popB op - pushB op := IntWalk.i64_in _ (by omega)
  have HB := Lib.hid (isBetween_i h (popB op) (6 + popB op - pushB op))
  unfold opV at hb0 r3 r4 ⊢
  clear hR
  go_enter Tryz.func88, Tryz.ntmps88
  go_wp2_with fail
  refine (HB.out _).mono ?_
  rintro e w3 ⟨rfl, rfl⟩
  go_wp2_with fail
  go_ret
  exact ⟨rfl, hb0⟩
end Go.Proofs.YtffkdidgfeknkaaGreatDoor
