/-
  The program's machine in memory (twenty numbers: 4 variables, 8 cells, 6 places of the stack, its height, the place): pop and push. No conditions.
-/
import Derived.Test.YtffkdidgfeknkaaGreatDoorForm
import Derived.Deep.RegionWith
import Derived.Deep.QuietTactic
import Derived.StillTailTactics
namespace Go.Proofs.YtffkdidgfeknkaaGreatDoor
set_option linter.unusedVariables false
open Go.RowKit

def mc (L : List Int) : Array Value := (L.map ic).toArray
theorem mc_at {L : List Int} {i : Nat} {x : Int} (h : L[i]? = some x) : (mc L)[i]? = some (.int .i64 x) := by simp [mc, h, ic]
theorem mc_set (L : List Int) (i : Nat) (v : Int) : (mc L).setIfInBounds i (.int .i64 v) = mc (L.set i v) := by simp [mc, List.map_set, ic]
/-- The machine at block g. -/
def MachIs (w : World) (g : Nat) (L : List Int) : Prop := BlkIs w g 148 (mc L) ∧ L.length = 20
theorem MachIs.at_ {w : World} {g i : Nat} {L : List Int} {x : Int} (h : MachIs w g L) (hx : L[i]? = some x) : w.cell? ⟨g, i, none⟩ = some (.int .i64 x) := (h.1.cell i).trans (mc_at hx)
theorem MachIs.frozen {w : World} {g : Nat} {L : List Int} (h : MachIs w g L) (i : Nat) : w.frozen? ⟨g, i, none⟩ = false := h.1.frozen i
theorem MachIs.set {w : World} {g : Nat} {L : List Int} (h : MachIs w g L) (i : Nat) (v : Int) : MachIs (w.setCell ⟨g, i, none⟩ (.int .i64 v)) g (L.set i v) := ⟨by rw [← mc_set]; exact h.1.set i _, by rw [List.length_set]; exact h.2⟩
theorem MachIs.next {w w' : World} {g : Nat} {L : List Int} (h : MachIs w g L) (hb : Below w.heap.size w w') : MachIs w' g L := ⟨h.1.next hb, h.2⟩
theorem MachIs.drewN {w : World} {g d : Nat} {L : List Int} (h : MachIs w g L) : MachIs (w.drewN d) g L := h
theorem Out.drew {lo hi : Nat} {w w' : World} (h : Out lo hi w w') : Out lo hi w w'.drew := ⟨h.os, h.tape, h.output, h.size, h.block⟩
theorem Out.drewN {lo hi d : Nat} {w w' : World} (h : Out lo hi w w') : Out lo hi w (w'.drewN d) := ⟨h.os, h.tape, h.output, h.size, h.block⟩

set_option maxRecDepth 100000 in
set_option maxHeartbeats 2000000 in
theorem pop_c (g : Nat) (L : List Int) (h : Nat) (x : Int) (w : World) (hM : MachIs w g L) (h1 : L[18]? = some ((h : Int) + 1)) (h5 : h ≤ 5) (hx : L[12 + h]? = some x) :
    Calls Tryz.prog 115 #[.pointer (some ⟨g, 0, none⟩)] w fun e w' => e = .returned (.int .i64 x) ∧ MachIs w' g (L.set 18 h) ∧ Out g (g + 1) w w' := by
  have p18 := hM.at_ h1
  have f18 := hM.frozen 18
  have hM2 := hM.set 18 (h : Int)
  have hl := hM.2
  have q18 := hM2.at_ (i := 18) (x := (h : Int)) (by rw [List.getElem?_set_self (by omega)])
  have qx := hM2.at_ (i := 12 + h) (x := x) (by rw [List.getElem?_set_ne (by omega)]; exact hx)
  have HM := Lib.hid hM2
  have ho : Out g (g + 1) w (w.setCell ⟨g, 18, none⟩ (.int .i64 h)) := out_set (Out.refl _ _ _) (by omega)
  have HO := Lib.hid ho
  clear hM hM2 ho h1 hx
  go_enter Tryz.func115, Tryz.ntmps115
  go_wp2_with fail
  generalize w.setCell ⟨g, 18, none⟩ (.int .i64 (h : Int)) = W at q18 qx HM HO ⊢
  go_quiet (fail)
  go_wp2_with fail
  go_ret
  exact ⟨rfl, HM.out.drewN, HO.out.drewN⟩

theorem isWide_c (n : Int) (w : World) : Calls Tryz.prog 114 #[.int .i64 n] w fun e w' => e = .returned (.bool (decide (-10000000000000000 ≤ n) && decide (n ≤ 10000000000000000))) ∧ w = w' := by
  go_enter Tryz.func114, Tryz.ntmps114
  go_wp2_with fail
  refine (isBetween_i n (-10000000000000000) 10000000000000000 w).mono ?_
  rintro e w1 ⟨rfl, rfl⟩
  go_wp2_with fail
  go_ret
  exact ⟨rfl, rfl⟩
theorem isInt_c (n : Int) (w : World) : Calls Tryz.prog 116 #[.int .i64 n] w fun e w' => e = .returned (.bool (decide (-1000000000 ≤ n) && decide (n ≤ 1000000000))) ∧ w = w' := by
  go_enter Tryz.func116, Tryz.ntmps116
  go_wp2_with fail
  refine (isBetween_i n (-1000000000) 1000000000 w).mono ?_
  rintro e w1 ⟨rfl, rfl⟩
  go_wp2_with fail
  go_ret
  exact ⟨rfl, rfl⟩
theorem isCell_c (n : Int) (w : World) : Calls Tryz.prog 117 #[.int .i64 n] w fun e w' => e = .returned (.bool (decide (0 ≤ n) && decide (n ≤ 7))) ∧ w = w' := by
  go_enter Tryz.func117, Tryz.ntmps117
  go_wp2_with fail
  refine (isBetween_i n 0 7 w).mono ?_
  rintro e w1 ⟨rfl, rfl⟩
  go_wp2_with fail
  go_ret
  exact ⟨rfl, rfl⟩

/-- What push gives, and makes of the machine. -/
def wideB (n : Int) : Bool := decide (-10000000000000000 ≤ n) && decide (n ≤ 10000000000000000)
def pushR (h : Nat) (n : Int) (L : List Int) : List Int × Int := if wideB n = true then (((L.set (12 + h) n).set 18 ((h : Int) + 1)), 0) else (L, 4)
theorem pushR_yes {h : Nat} {n : Int} {L : List Int} (e : wideB n = true) : pushR h n L = (((L.set (12 + h) n).set 18 ((h : Int) + 1)), 0) := if_pos e
theorem pushR_no {h : Nat} {n : Int} {L : List Int} (e : wideB n = false) : pushR h n L = (L, 4) := if_neg (by rw [e]; simp)

set_option maxRecDepth 100000 in
set_option maxHeartbeats 2000000 in
theorem push_c (g : Nat) (L : List Int) (h : Nat) (n : Int) (w : World) (hM : MachIs w g L) (h1 : L[18]? = some (h : Int)) (h5 : h ≤ 5) :
    Calls Tryz.prog 99 #[.pointer (some ⟨g, 0, none⟩), .int .i64 n] w fun e w' => e = .returned (.int .i64 (pushR h n L).2) ∧ MachIs w' g (pushR h n L).1 ∧ Out g (g + 1) w w' := by
  have HW0 := isWide_c n w
  cases hw : wideB n with
  | false =>
    have HR := Lib.hid (pushR_no (h := h) (L := L) hw)
    unfold wideB at hw
    rw [hw] at HW0
    rw [HR.out]
    have HW := Lib.hid HW0
    have HM := Lib.hid hM
    clear HW0 hw hM
    go_enter Tryz.func99, Tryz.ntmps99
    go_wp2_with fail
    refine HW.out.mono ?_
    rintro e w1 ⟨rfl, rfl⟩
    go_wp2_with fail
    go_ret
    exact ⟨rfl, HM.out, Out.refl _ _ _⟩
  | true =>
    have HR := Lib.hid (pushR_yes (h := h) (L := L) hw)
    unfold wideB at hw
    rw [hw] at HW0
    rw [HR.out]
    have HW := Lib.hid HW0
    have hl := hM.2
    obtain ⟨x, hx⟩ : ∃ x, L[12 + h]? = some x := ⟨_, List.getElem?_eq_getElem (by omega)⟩
    have p18 := hM.at_ h1
    have px := hM.at_ hx
    have fx := hM.frozen (12 + h)
    have hM1 := hM.set (12 + h) n
    have q18 := hM1.at_ (i := 18) (x := (h : Int)) (by rw [List.getElem?_set_ne (by omega)]; exact h1)
    have g18 := hM1.frozen 18
    have HM := Lib.hid (hM1.set 18 ((h : Int) + 1))
    have HO : Hid (Out g (g + 1) w ((w.setCell ⟨g, 12 + h, none⟩ (.int .i64 n)).setCell ⟨g, 18, none⟩ (.int .i64 ((h : Int) + 1)))) := out_set (out_set (Out.refl _ _ _) (by omega)) (by omega)
    clear HW0 hw hM hM1 h1 hx
    go_enter Tryz.func99, Tryz.ntmps99
    go_wp2_with fail
    refine HW.out.mono ?_
    rintro e w1 ⟨rfl, rfl⟩
    go_wp2_with fail
    have i1 : (0 : Int) ≤ (h : Int) := by omega
    have i2 : (h : Int) < 6 := by omega
    have i3 : h < 6 := by omega
    go_still_tail 9, (by kernel_rfl)
    change wpList _ _ _ _ _ w.drew
    go_wp2_with fail
    go_ret
    exact ⟨rfl, HM.out, HO.out.drew⟩
end Go.Proofs.YtffkdidgfeknkaaGreatDoor
