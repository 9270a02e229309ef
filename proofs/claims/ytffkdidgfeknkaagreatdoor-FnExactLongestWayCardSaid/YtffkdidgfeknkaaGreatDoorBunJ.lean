/-
  Several texts in one: Mach, Eff, EffP. Conditions: as each says.
-/
import Derived.Test.YtffkdidgfeknkaaGreatDoorBunK
import Derived.Deep.RegionWith
import Derived.Deep.QuietTactic
import Derived.StillTailTactics

/-! The program's machine in memory (twenty numbers: 4 variables, 8 cells, 6 places of the stack, its height, the place): pop and push. No conditions. -/
namespace Go.Proofs.YtffkdidgfeknkaaGreatDoor
set_option linter.unusedVariables false
open Go.RowKit

def mc (L : List Int) : Array Value := (L.map ic).toArray
theorem mc_at {L : List Int} {i : Nat} {x : Int} (h : L[i]? = some x) : (mc L)[i]? = some (.int .i64 x) := by simp [mc, h, ic]
theorem mc_set (L : List Int) (i : Nat) (v : Int) : (mc L).setIfInBounds i (.int .i64 v) = mc (L.set i v) := by simp [mc, List.map_set, ic]
/-- The machine at block g. -/
def MachIs (w : World) (g : Nat) (L : List Int) : Prop := BlkIs w g 148 (mc L) ∧ L.length = 20
theorem MachIs.at_ {w : World} {g i : Nat} {L : List Int} {x : Int} (h : MachIs w g L) (hx : L[i]? = some x) : w.cell? ⟨g, i, none⟩ = some (.int .i64 x) := (h.1.cell i).trans (mc_at hx)
theorem MachIs.frozen {w : World} {g : Nat} {L : List Int} (h : MachIs w g L) (i : Nat) : w.frozen? ⟨g, i, none⟩ = false := h.1.frozen i
theorem MachIs.set {w : World} {g : Nat} {L : List Int} (h : MachIs w g L) (i : Nat) (v : Int) : MachIs (w.setCell ⟨g, i, none⟩ (.int .i64 v)) g (L.set i v) := ⟨by rw [← mc_set]; exact h.1.set i _, by rw [List.length_set]; exact h.2⟩
theorem MachIs.next {w w' : World} {g : Nat} {L : List Int} (h : MachIs w g L) (hb : Below w.heap.size w w') : MachIs w' g L := ⟨h.1.next hb, h.2⟩
theorem MachIs.drewN {w : World} {g d : Nat} {L : List Int} (h : MachIs w g L) : MachIs (w.drewN d) g L := h
theorem Out.drew {lo hi : Nat} {w w' : World} (h : Out lo hi w w') : Out lo hi w w'.drew := ⟨h.os, h.tape, h.output, h.size, h.block⟩
theorem Out.drewN {lo hi d : Nat} {w w' : World} (h : Out lo hi w w') : Out lo hi w (w'.drewN d) := ⟨h.os, h.tape, h.output, h.size, h.block⟩

set_option maxRecDepth 100000 in
set_option maxHeartbeats 2000000 in
theorem pop_c (g : Nat) (L : List Int) (h : Nat) (x : Int) (w : World) (hM : MachIs w g L) (h1 : L[18]? = some ((h : Int) + 1)) (h5 : h ≤ 5) (hx : L[12 + h]? = some x) :
    Calls Tryz.prog 115 #[.pointer (some ⟨g, 0, none⟩)] w fun e w' => e = .returned (.int .i64 x) ∧ MachIs w' g (L.set 18 h) ∧ Out g (g + 1) w w' := by
  have p18 := hM.at_ h1
  have f18 := hM.frozen 18
  have hM2 := hM.set 18 (h : Int)
  have hl := hM.2
  have q18 := hM2.at_ (i := 18) (x := (h : Int)) (by rw [List.getElem?_set_self (by omega)])
  have qx := hM2.at_ (i := 12 + h) (x := x) (by rw [List.getElem?_set_ne (by omega)]; exact hx)
  have HM := Lib.hid hM2
  have ho : Out g (g + 1) w (w.setCell ⟨g, 18, none⟩ (.int .i64 h)) := out_set (Out.refl _ _ _) (by omega)
  have HO := Lib.hid ho
  clear hM hM2 ho h1 hx
  go_enter Tryz.func115, Tryz.ntmps115
  go_wp2_with fail
  generalize w.setCell ⟨g, 18, none⟩ (.int .i64 (h : Int)) = W at q18 qx HM HO ⊢
  go_quiet (fail)
  go_wp2_with fail
  go_ret
  exact ⟨rfl, HM.out.drewN, HO.out.drewN⟩

theorem isWide_c (n : Int) (w : World) : Calls Tryz.prog 114 #[.int .i64 n] w fun e w' => e = .returned (.bool (decide (-10000000000000000 ≤ n) && decide (n ≤ 10000000000000000))) ∧ w = w' := by
  go_enter Tryz.func114, Tryz.ntmps114
  go_wp2_with fail
  refine (isBetween_i n (-10000000000000000) 10000000000000000 w).mono ?_
  rintro e w1 ⟨rfl, rfl⟩
  go_wp2_with fail
  go_ret
  exact ⟨rfl, rfl⟩
theorem isInt_c (n : Int) (w : World) : Calls Tryz.prog 116 #[.int .i64 n] w fun e w' => e = .returned (.bool (decide (-1000000000 ≤ n) && decide (n ≤ 1000000000))) ∧ w = w' := by
  go_enter Tryz.func116, Tryz.ntmps116
  go_wp2_with fail
  refine (isBetween_i n (-1000000000) 1000000000 w).mono ?_
  rintro e w1 ⟨rfl, rfl⟩
  go_wp2_with fail
  go_ret
  exact ⟨rfl, rfl⟩
theorem isCell_c (n : Int) (w : World) : Calls Tryz.prog 117 #[.int .i64 n] w fun e w' => e = .returned (.bool (decide (0 ≤ n) && decide (n ≤ 7))) ∧ w = w' := by
  go_enter Tryz.func117, Tryz.ntmps117
  go_wp2_with fail
  refine (isBetween_i n 0 7 w).mono ?_
  rintro e w1 ⟨rfl, rfl⟩
  go_wp2_with fail
  go_ret
  exact ⟨rfl, rfl⟩

/-- What push gives, and makes of the machine. -/
def wideB (n : Int) : Bool := decide (-10000000000000000 ≤ n) && decide (n ≤ 10000000000000000)
def pushR (h : Nat) (n : Int) (L : List Int) : List Int × Int := if wideB n = true then (((L.set (12 + h) n).set 18 ((h : Int) + 1)), 0) else (L, 4)
theorem pushR_yes {h : Nat} {n : Int} {L : List Int} (e : wideB n = true) : pushR h n L = (((L.set (12 + h) n).set 18 ((h : Int) + 1)), 0) := if_pos e
theorem pushR_no {h : Nat} {n : Int} {L : List Int} (e : wideB n = false) : pushR h n L = (L, 4) := if_neg (by rw [e]; simp)

set_option maxRecDepth 100000 in
set_option maxHeartbeats 2000000 in
theorem push_c (g : Nat) (L : List Int) (h : Nat) (n : Int) (w : World) (hM : MachIs w g L) (h1 : L[18]? = some (h : Int)) (h5 : h ≤ 5) :
    Calls Tryz.prog 99 #[.pointer (some ⟨g, 0, none⟩), .int .i64 n] w fun e w' => e = .returned (.int .i64 (pushR h n L).2) ∧ MachIs w' g (pushR h n L).1 ∧ Out g (g + 1) w w' := by
  have HW0 := isWide_c n w
  cases hw : wideB n with
  | false =>
    have HR := Lib.hid (pushR_no (h := h) (L := L) hw)
    unfold wideB at hw
    rw [hw] at HW0
    rw [HR.out]
    have HW := Lib.hid HW0
    have HM := Lib.hid hM
    clear HW0 hw hM
    go_enter Tryz.func99, Tryz.ntmps99
    go_wp2_with fail
    refine HW.out.mono ?_
    rintro e w1 ⟨rfl, rfl⟩
    go_wp2_with fail
    go_ret
    exact ⟨rfl, HM.out, Out.refl _ _ _⟩
  | true =>
    have HR := Lib.hid (pushR_yes (h := h) (L := L) hw)
    unfold wideB at hw
    rw [hw] at HW0
    rw [HR.out]
    have HW := Lib.hid HW0
    have hl := hM.2
    obtain ⟨x, hx⟩ : ∃ x, L[12 + h]? = some x := ⟨_, List.getElem?_eq_getElem (by omega)⟩
    have p18 := hM.at_ h1
    have px := hM.at_ hx
    have fx := hM.frozen (12 + h)
    have hM1 := hM.set (12 + h) n
    have q18 := hM1.at_ (i := 18) (x := (h : Int)) (by rw [List.getElem?_set_ne (by omega)]; exact h1)
    have g18 := hM1.frozen 18
    have HM := Lib.hid (hM1.set 18 ((h : Int) + 1))
    have HO : Hid (Out g (g + 1) w ((w.setCell ⟨g, 12 + h, none⟩ (.int .i64 n)).setCell ⟨g, 18, none⟩ (.int .i64 ((h : Int) + 1)))) := out_set (out_set (Out.refl _ _ _) (by omega)) (by omega)
    clear HW0 hw hM hM1 h1 hx
    go_enter Tryz.func99, Tryz.ntmps99
    go_wp2_with fail
    refine HW.out.mono ?_
    rintro e w1 ⟨rfl, rfl⟩
    go_wp2_with fail
    have i1 : (0 : Int) ≤ (h : Int) := by omega
    have i2 : (h : Int) < 6 := by omega
    have i3 : h < 6 := by omega
    go_still_tail 9, (by kernel_rfl)
    change wpList _ _ _ _ _ w.drew
    go_wp2_with fail
    go_ret
    exact ⟨rfl, HM.out, HO.out.drew⟩
end Go.Proofs.YtffkdidgfeknkaaGreatDoor

/-! What each operation does to the program's machine. Conditions: numbers that do not overflow. -/
namespace Go.Proofs.YtffkdidgfeknkaaGreatDoor
set_option linter.unusedVariables false
open Go.RowKit

set_option maxRecDepth 100000 in
set_option maxHeartbeats 4000000 in
theorem emit_c (g : Nat) (a : Int) (L : List Int) (w : World) (hM : MachIs w g L) :
    Calls Tryz.prog 108 #[.pointer (some ⟨g, 0, none⟩), .int .i64 a] w fun e w' => e = .returned (.int .i64 0) ∧ MachIs w' g L ∧ Out g (g + 1) w w' := by
  have HM := Lib.hid hM
  clear hM
  go_enter Tryz.func108, Tryz.ntmps108
  go_wp2_with fail
  go_ret
  exact ⟨rfl, HM.out, Out.refl _ _ _⟩
set_option maxRecDepth 100000 in
set_option maxHeartbeats 4000000 in
theorem halt_c (g : Nat) (a : Int) (L : List Int) (w : World) (hM : MachIs w g L) :
    Calls Tryz.prog 110 #[.pointer (some ⟨g, 0, none⟩), .int .i64 a] w fun e w' => e = .returned (.int .i64 6) ∧ MachIs w' g L ∧ Out g (g + 1) w w' := by
  have HM := Lib.hid hM
  clear hM
  go_enter Tryz.func110, Tryz.ntmps110
  go_wp2_with fail
  go_ret
  exact ⟨rfl, HM.out, Out.refl _ _ _⟩
set_option maxRecDepth 100000 in
set_option maxHeartbeats 4000000 in
theorem jump_c (g : Nat) (a : Int) (L : List Int) (w : World) (hM : MachIs w g L) :
    Calls Tryz.prog 104 #[.pointer (some ⟨g, 0, none⟩), .int .i64 a] w fun e w' => e = .returned (.int .i64 0) ∧ MachIs w' g (L.set 19 a) ∧ Out g (g + 1) w w' := by
  have hl := hM.2
  obtain ⟨y, hy⟩ : ∃ y, L[19]? = some y := ⟨_, List.getElem?_eq_getElem (by omega)⟩
  have p19 := hM.at_ hy
  have f19 := hM.frozen 19
  have HM := Lib.hid (hM.set 19 a)
  have HO : Hid (Out g (g + 1) w (w.setCell ⟨g, 19, none⟩ (.int .i64 a))) := out_set (Out.refl _ _ _) (by omega)
  clear hM hy
  go_enter Tryz.func104, Tryz.ntmps104
  go_wp2_with fail
  go_ret
  exact ⟨rfl, HM.out, HO.out⟩
set_option maxRecDepth 100000 in
set_option maxHeartbeats 4000000 in
theorem load_c (g : Nat) (a : Nat) (L : List Int) (h : Nat) (x : Int) (w : World) (hM : MachIs w g L) (h1 : L[18]? = some (h : Int)) (h5 : h ≤ 5) (ha : a < 4) (hx : L[a]? = some x) :
    Calls Tryz.prog 100 #[.pointer (some ⟨g, 0, none⟩), .int .i64 a] w fun e w' => e = .returned (.int .i64 (pushR h x L).2) ∧ MachIs w' g (pushR h x L).1 ∧ Out g (g + 1) w w' := by
  have px := hM.at_ hx
  have i1 : (0 : Int) ≤ (a : Int) := by omega
  have i2 : (a : Int) < 4 := by omega
  have HP := Lib.hid (push_c g L h x w hM h1 h5)
  clear hM hx h1
  go_enter Tryz.func100, Tryz.ntmps100
  go_wp2_with fail
  refine HP.out.mono ?_
  rintro e w1 ⟨rfl, hM1, ho1⟩
  go_wp2_with fail
  go_ret
  exact ⟨rfl, hM1, ho1⟩
set_option maxRecDepth 100000 in
set_option maxHeartbeats 4000000 in
theorem store_c (g : Nat) (a : Nat) (L : List Int) (h : Nat) (x : Int) (w : World) (hM : MachIs w g L) (h1 : L[18]? = some ((h : Int) + 1)) (h5 : h ≤ 5) (hx : L[12 + h]? = some x) (ha : a < 4) (b : Bool) (hb : (decide (-1000000000 ≤ x) && decide (x ≤ 1000000000)) = b) :
    Calls Tryz.prog 101 #[.pointer (some ⟨g, 0, none⟩), .int .i64 a] w fun e w' => e = .returned (.int .i64 (if b then 0 else 4)) ∧ MachIs w' g (if b then (L.set 18 h).set a x else L.set 18 h) ∧ Out g (g + 1) w w' := by
  have i1 : (0 : Int) ≤ (a : Int) := by omega
  have i2 : (a : Int) < 4 := by omega
  have HP := Lib.hid (pop_c g L h x w hM h1 h5 hx)
  have hl := hM.2
  obtain ⟨y, hy⟩ : ∃ y, (L.set 18 (h : Int))[a]? = some y := ⟨_, List.getElem?_eq_getElem (by rw [List.length_set]; omega)⟩
  clear hM hx h1
  cases b with
  | true =>
    go_enter Tryz.func101, Tryz.ntmps101
    go_wp2_with fail
    refine HP.out.mono ?_
    rintro e w1 ⟨rfl, hM1, ho1⟩
    have HI0 := isInt_c x w1
    rw [hb] at HI0
    have HI := Lib.hid HI0
    have py := hM1.at_ hy
    have fy := hM1.frozen a
    have HM := Lib.hid (hM1.set a x)
    have HO := Lib.hid (out_set (i := a) (u := .int .i64 x) ho1 (g := g) (by omega))
    clear HI0 hM1 ho1 hy hb
    go_wp2_with fail
    refine HI.out.mono ?_
    rintro e w2 ⟨rfl, rfl⟩
    go_wp2_with fail
    go_ret
    exact ⟨rfl, HM.out, HO.out⟩
  | false =>
    go_enter Tryz.func101, Tryz.ntmps101
    go_wp2_with fail
    refine HP.out.mono ?_
    rintro e w1 ⟨rfl, hM1, ho1⟩
    have HI0 := isInt_c x w1
    rw [hb] at HI0
    have HI := Lib.hid HI0
    have HM := Lib.hid hM1
    clear HI0 hM1 hb hy
    go_wp2_with fail
    refine HI.out.mono ?_
    rintro e w2 ⟨rfl, rfl⟩
    go_wp2_with fail
    go_ret
    exact ⟨rfl, HM.out, ho1⟩
set_option maxRecDepth 100000 in
set_option maxHeartbeats 4000000 in
theorem add_c (g : Nat) (a : Int) (L : List Int) (h : Nat) (x y : Int) (w : World) (hM : MachIs w g L) (h1 : L[18]? = some ((h : Int) + 2)) (h5 : h ≤ 4) (hx : L[13 + h]? = some x) (hy : L[12 + h]? = some y) (kx : -10000000000000000 ≤ x ∧ x ≤ 10000000000000000) (ky : -10000000000000000 ≤ y ∧ y ≤ 10000000000000000) :
    Calls Tryz.prog 102 #[.pointer (some ⟨g, 0, none⟩), .int .i64 a] w fun e w' => e = .returned (.int .i64 (pushR h (x + y) (L.set 18 h)).2) ∧ MachIs w' g (pushR h (x + y) (L.set 18 h)).1 ∧ Out g (g + 1) w w' := by
  have hl := hM.2
  have HP := Lib.hid (pop_c g L (h + 1) x w hM (by rw [h1]; first | rfl | (congr 1; omega)) (by omega) (by rw [← hx]; congr 1; omega))
  clear hM
  go_enter Tryz.func102, Tryz.ntmps102
  go_wp2_with fail
  refine HP.out.mono ?_
  rintro e w1 ⟨rfl, hM1, ho1⟩
  have ec : (((h + 1 : Nat)) : Int) = (h : Int) + 1 := by omega
  rw [ec] at hM1
  have HP2 := Lib.hid (pop_c g _ h y w1 hM1 (by rw [List.getElem?_set_self (by omega)]) (by omega) (by rw [List.getElem?_set_ne (by omega)]; exact hy))
  clear HP hM1
  go_wp2_with fail
  refine HP2.out.mono ?_
  rintro e w2 ⟨rfl, hM2, ho2⟩
  rw [List.set_set] at hM2
  have HP3 := Lib.hid (push_c g _ h (x + y) w2 hM2 (by rw [List.getElem?_set_self (by omega)]) (by omega))
  clear HP2 hM2
  go_wp2_with fail
  refine HP3.out.mono ?_
  rintro e w3 ⟨rfl, hM3, ho3⟩
  have HM3 := Lib.hid hM3
  clear hM3 HP3
  go_wp2_with fail
  go_ret
  exact ⟨rfl, HM3.out, (ho1.trans ho2).trans ho3⟩
set_option maxRecDepth 100000 in
set_option maxHeartbeats 4000000 in
theorem test_yes (g : Nat) (a : Int) (L : List Int) (h : Nat) (x : Int) (w : World) (hM : MachIs w g L) (h1 : L[18]? = some ((h : Int) + 1)) (h5 : h ≤ 5) (hx : L[12 + h]? = some x) (hn : x < 0) :
    Calls Tryz.prog 105 #[.pointer (some ⟨g, 0, none⟩), .int .i64 a] w fun e w' => e = .returned (.int .i64 0) ∧ MachIs w' g ((L.set 18 h).set 19 a) ∧ Out g (g + 1) w w' := by
  have HP := Lib.hid (pop_c g L h x w hM h1 h5 hx)
  clear hM
  go_enter Tryz.func105, Tryz.ntmps105
  go_wp2_with fail
  refine HP.out.mono ?_
  rintro e w1 ⟨rfl, hM1, ho1⟩
  have HJ := Lib.hid (jump_c g a _ w1 hM1)
  clear hM1 HP
  go_wp2_with fail
  refine HJ.out.mono ?_
  rintro e w2 ⟨rfl, hM2, ho2⟩
  have HM2 := Lib.hid hM2
  clear hM2 HJ
  go_wp2_with fail
  go_ret
  exact ⟨rfl, HM2.out, ho1.trans ho2⟩
set_option maxRecDepth 100000 in
set_option maxHeartbeats 4000000 in
theorem test_no (g : Nat) (a : Int) (L : List Int) (h : Nat) (x : Int) (w : World) (hM : MachIs w g L) (h1 : L[18]? = some ((h : Int) + 1)) (h5 : h ≤ 5) (hx : L[12 + h]? = some x) (hn : ¬ x < 0) :
    Calls Tryz.prog 105 #[.pointer (some ⟨g, 0, none⟩), .int .i64 a] w fun e w' => e = .returned (.int .i64 0) ∧ MachIs w' g (L.set 18 h) ∧ Out g (g + 1) w w' := by
  have HP := Lib.hid (pop_c g L h x w hM h1 h5 hx)
  clear hM
  go_enter Tryz.func105, Tryz.ntmps105
  go_wp2_with fail
  refine HP.out.mono ?_
  rintro e w1 ⟨rfl, hM1, ho1⟩
  have HM1 := Lib.hid hM1
  clear hM1 HP
  go_wp2_with fail
  go_ret
  exact ⟨rfl, HM1.out, ho1⟩
set_option maxRecDepth 100000 in
set_option maxHeartbeats 4000000 in
theorem check_yes (g : Nat) (a : Int) (L : List Int) (h : Nat) (x : Int) (w : World) (hM : MachIs w g L) (h1 : L[18]? = some ((h : Int) + 1)) (h5 : h ≤ 5) (hx : L[12 + h]? = some x) (hn : x < 0) :
    Calls Tryz.prog 109 #[.pointer (some ⟨g, 0, none⟩), .int .i64 a] w fun e w' => e = .returned (.int .i64 3) ∧ MachIs w' g (L.set 18 h) ∧ Out g (g + 1) w w' := by
  have HP := Lib.hid (pop_c g L h x w hM h1 h5 hx)
  clear hM
  go_enter Tryz.func109, Tryz.ntmps109
  go_wp2_with fail
  refine HP.out.mono ?_
  rintro e w1 ⟨rfl, hM1, ho1⟩
  have HM1 := Lib.hid hM1
  clear hM1 HP
  go_wp2_with fail
  go_ret
  exact ⟨rfl, HM1.out, ho1⟩
set_option maxRecDepth 100000 in
set_option maxHeartbeats 4000000 in
theorem check_no (g : Nat) (a : Int) (L : List Int) (h : Nat) (x : Int) (w : World) (hM : MachIs w g L) (h1 : L[18]? = some ((h : Int) + 1)) (h5 : h ≤ 5) (hx : L[12 + h]? = some x) (hn : ¬ x < 0) :
    Calls Tryz.prog 109 #[.pointer (some ⟨g, 0, none⟩), .int .i64 a] w fun e w' => e = .returned (.int .i64 0) ∧ MachIs w' g (L.set 18 h) ∧ Out g (g + 1) w w' := by
  have HP := Lib.hid (pop_c g L h x w hM h1 h5 hx)
  clear hM
  go_enter Tryz.func109, Tryz.ntmps109
  go_wp2_with fail
  refine HP.out.mono ?_
  rintro e w1 ⟨rfl, hM1, ho1⟩
  have HM1 := Lib.hid hM1
  clear hM1 HP
  go_wp2_with fail
  go_ret
  exact ⟨rfl, HM1.out, ho1⟩
set_option maxRecDepth 100000 in
set_option maxHeartbeats 4000000 in
theorem get_no (g : Nat) (a : Int) (L : List Int) (h : Nat) (x : Int) (w : World) (hM : MachIs w g L) (h1 : L[18]? = some ((h : Int) + 1)) (h5 : h ≤ 5) (hx : L[12 + h]? = some x) (hn : (decide (0 ≤ x) && decide (x ≤ 7)) = false) :
    Calls Tryz.prog 106 #[.pointer (some ⟨g, 0, none⟩), .int .i64 a] w fun e w' => e = .returned (.int .i64 2) ∧ MachIs w' g (L.set 18 h) ∧ Out g (g + 1) w w' := by
  have HP := Lib.hid (pop_c g L h x w hM h1 h5 hx)
  clear hM
  go_enter Tryz.func106, Tryz.ntmps106
  go_wp2_with fail
  refine HP.out.mono ?_
  rintro e w1 ⟨rfl, hM1, ho1⟩
  have HI0 := isCell_c x w1
  rw [hn] at HI0
  have HI := Lib.hid HI0
  have HM1 := Lib.hid hM1
  clear hM1 HP HI0 hn
  go_wp2_with fail
  refine HI.out.mono ?_
  rintro e w2 ⟨rfl, rfl⟩
  go_wp2_with fail
  go_ret
  exact ⟨rfl, HM1.out, ho1⟩
set_option maxRecDepth 100000 in
set_option maxHeartbeats 4000000 in
theorem get_yes (g : Nat) (a : Int) (L : List Int) (h : Nat) (i : Nat) (y : Int) (w : World) (hM : MachIs w g L) (h1 : L[18]? = some ((h : Int) + 1)) (h5 : h ≤ 5) (hx : L[12 + h]? = some (i : Int)) (hi : i ≤ 7) (hy : L[4 + i]? = some y) :
    Calls Tryz.prog 106 #[.pointer (some ⟨g, 0, none⟩), .int .i64 a] w fun e w' => e = .returned (.int .i64 (pushR h y (L.set 18 h)).2) ∧ MachIs w' g (pushR h y (L.set 18 h)).1 ∧ Out g (g + 1) w w' := by
  have hl := hM.2
  have HP := Lib.hid (pop_c g L h i w hM h1 h5 hx)
  have hn : (decide (0 ≤ (i : Int)) && decide ((i : Int) ≤ 7)) = true := by simp; omega
  have i1 : (0 : Int) ≤ (i : Int) := by omega
  have i2 : (i : Int) < 8 := by omega
  clear hM
  go_enter Tryz.func106, Tryz.ntmps106
  go_wp2_with fail
  refine HP.out.mono ?_
  rintro e w1 ⟨rfl, hM1, ho1⟩
  have HI0 := isCell_c (i : Int) w1
  rw [hn] at HI0
  have HI := Lib.hid HI0
  have py := hM1.at_ (i := 4 + i) (x := y) (by rw [List.getElem?_set_ne (by omega)]; exact hy)
  have HPU := Lib.hid (push_c g _ h y w1 hM1 (by rw [List.getElem?_set_self (by omega)]) (by omega))
  clear hM1 HP HI0 hn
  go_wp2_with fail
  refine HI.out.mono ?_
  rintro e w2 ⟨rfl, rfl⟩
  go_wp2_with fail
  refine HPU.out.mono ?_
  rintro e w3 ⟨rfl, hM3, ho3⟩
  have HM3 := Lib.hid hM3
  clear hM3 HPU
  go_wp2_with fail
  go_ret
  exact ⟨rfl, HM3.out, ho1.trans ho3⟩
end Go.Proofs.YtffkdidgfeknkaaGreatDoor

/-! What put does to the program's machine; whether the stack has room for an operation. Conditions: numbers that do not overflow. -/
namespace Go.Proofs.YtffkdidgfeknkaaGreatDoor
set_option linter.unusedVariables false
open Go.RowKit

set_option maxRecDepth 100000 in
set_option maxHeartbeats 4000000 in
theorem put_cell (g : Nat) (a : Int) (L : List Int) (h : Nat) (x : Int) (i : Int) (w : World) (hM : MachIs w g L) (h1 : L[18]? = some ((h : Int) + 2)) (h5 : h ≤ 4) (hx : L[13 + h]? = some x) (hi : L[12 + h]? = some i) (hn : (decide (0 ≤ i) && decide (i ≤ 7)) = false) :
    Calls Tryz.prog 107 #[.pointer (some ⟨g, 0, none⟩), .int .i64 a] w fun e w' => e = .returned (.int .i64 2) ∧ MachIs w' g (L.set 18 h) ∧ Out g (g + 1) w w' := by
  have hl := hM.2
  have HP := Lib.hid (pop_c g L (h + 1) x w hM (by rw [h1]; first | rfl | (congr 1; omega)) (by omega) (by rw [← hx]; congr 1; omega))
  clear hM
  go_enter Tryz.func107, Tryz.ntmps107
  go_wp2_with fail
  refine HP.out.mono ?_
  rintro e w1 ⟨rfl, hM1, ho1⟩
  have ec : (((h + 1 : Nat)) : Int) = (h : Int) + 1 := by omega
  rw [ec] at hM1
  have HP2 := Lib.hid (pop_c g _ h i w1 hM1 (by rw [List.getElem?_set_self (by omega)]) (by omega) (by rw [List.getElem?_set_ne (by omega)]; exact hi))
  clear HP hM1
  go_wp2_with fail
  refine HP2.out.mono ?_
  rintro e w2 ⟨rfl, hM2, ho2⟩
  rw [List.set_set] at hM2
  have HI0 := isCell_c i w2
  rw [hn] at HI0
  have HI := Lib.hid HI0
  have HM2 := Lib.hid hM2
  clear hM2 HP2 HI0 hn
  go_wp2_with fail
  refine HI.out.mono ?_
  rintro e w3 ⟨rfl, rfl⟩
  go_wp2_with fail
  go_ret
  exact ⟨rfl, HM2.out, ho1.trans ho2⟩
set_option maxRecDepth 100000 in
set_option maxHeartbeats 4000000 in
theorem put_int (g : Nat) (a : Int) (L : List Int) (h : Nat) (x : Int) (i : Nat) (w : World) (hM : MachIs w g L) (h1 : L[18]? = some ((h : Int) + 2)) (h5 : h ≤ 4) (hx : L[13 + h]? = some x) (hi : L[12 + h]? = some (i : Int)) (hi7 : i ≤ 7) (hn : (decide (-1000000000 ≤ x) && decide (x ≤ 1000000000)) = false) :
    Calls Tryz.prog 107 #[.pointer (some ⟨g, 0, none⟩), .int .i64 a] w fun e w' => e = .returned (.int .i64 4) ∧ MachIs w' g (L.set 18 h) ∧ Out g (g + 1) w w' := by
  have hl := hM.2
  have HP := Lib.hid (pop_c g L (h + 1) x w hM (by rw [h1]; first | rfl | (congr 1; omega)) (by omega) (by rw [← hx]; congr 1; omega))
  clear hM
  go_enter Tryz.func107, Tryz.ntmps107
  go_wp2_with fail
  refine HP.out.mono ?_
  rintro e w1 ⟨rfl, hM1, ho1⟩
  have ec : (((h + 1 : Nat)) : Int) = (h : Int) + 1 := by omega
  rw [ec] at hM1
  have HP2 := Lib.hid (pop_c g _ h i w1 hM1 (by rw [List.getElem?_set_self (by omega)]) (by omega) (by rw [List.getElem?_set_ne (by omega)]; exact hi))
  clear HP hM1
  go_wp2_with fail
  refine HP2.out.mono ?_
  rintro e w2 ⟨rfl, hM2, ho2⟩
  rw [List.set_set] at hM2
  have hc : (decide (0 ≤ (i : Int)) && decide ((i : Int) ≤ 7)) = true := by simp; omega
  have i1 : (0 : Int) ≤ (i : Int) := by omega
  have i2 : (i : Int) < 8 := by omega
  have HI0 := isCell_c (i : Int) w2
  rw [hc] at HI0
  have HI := Lib.hid HI0
  have HJ0 := isInt_c x w2
  rw [hn] at HJ0
  have HJ := Lib.hid HJ0
  have HM2 := Lib.hid hM2
  clear hM2 HP2 HI0 HJ0 hn hc
  go_wp2_with fail
  refine HI.out.mono ?_
  rintro e w3 ⟨rfl, rfl⟩
  go_wp2_with fail
  refine HJ.out.mono ?_
  rintro e w3 ⟨rfl, rfl⟩
  go_wp2_with fail
  go_ret
  exact ⟨rfl, HM2.out, ho1.trans ho2⟩
set_option maxRecDepth 100000 in
set_option maxHeartbeats 4000000 in
theorem put_yes (g : Nat) (a : Int) (L : List Int) (h : Nat) (x : Int) (i : Nat) (w : World) (hM : MachIs w g L) (h1 : L[18]? = some ((h : Int) + 2)) (h5 : h ≤ 4) (hx : L[13 + h]? = some x) (hi : L[12 + h]? = some (i : Int)) (hi7 : i ≤ 7) (hn : (decide (-1000000000 ≤ x) && decide (x ≤ 1000000000)) = true) :
    Calls Tryz.prog 107 #[.pointer (some ⟨g, 0, none⟩), .int .i64 a] w fun e w' => e = .returned (.int .i64 0) ∧ MachIs w' g ((L.set 18 h).set (4 + i) x) ∧ Out g (g + 1) w w' := by
  have hl := hM.2
  have HP := Lib.hid (pop_c g L (h + 1) x w hM (by rw [h1]; first | rfl | (congr 1; omega)) (by omega) (by rw [← hx]; congr 1; omega))
  clear hM
  go_enter Tryz.func107, Tryz.ntmps107
  go_wp2_with fail
  refine HP.out.mono ?_
  rintro e w1 ⟨rfl, hM1, ho1⟩
  have ec : (((h + 1 : Nat)) : Int) = (h : Int) + 1 := by omega
  rw [ec] at hM1
  have HP2 := Lib.hid (pop_c g _ h i w1 hM1 (by rw [List.getElem?_set_self (by omega)]) (by omega) (by rw [List.getElem?_set_ne (by omega)]; exact hi))
  clear HP hM1
  go_wp2_with fail
  refine HP2.out.mono ?_
  rintro e w2 ⟨rfl, hM2, ho2⟩
  rw [List.set_set] at hM2
  have hc : (decide (0 ≤ (i : Int)) && decide ((i : Int) ≤ 7)) = true := by simp; omega
  have i1 : (0 : Int) ≤ (i : Int) := by omega
  have i2 : (i : Int) < 8 := by omega
  have HI0 := isCell_c (i : Int) w2
  rw [hc] at HI0
  have HI := Lib.hid HI0
  have HJ0 := isInt_c x w2
  rw [hn] at HJ0
  have HJ := Lib.hid HJ0
  obtain ⟨y, hy⟩ : ∃ y, (L.set 18 (h : Int))[4 + i]? = some y := ⟨_, List.getElem?_eq_getElem (by rw [List.length_set]; omega)⟩
  have py := hM2.at_ hy
  have fy := hM2.frozen (4 + i)
  have HM3 := Lib.hid (hM2.set (4 + i) x)
  have HO3 := Lib.hid (out_set (i := 4 + i) (u := .int .i64 x) (ho1.trans ho2) (g := g) (by omega))
  clear hM2 HP2 HI0 HJ0 hn hc hy
  go_wp2_with fail
  refine HI.out.mono ?_
  rintro e w3 ⟨rfl, rfl⟩
  go_wp2_with fail
  refine HJ.out.mono ?_
  rintro e w3 ⟨rfl, rfl⟩
  go_wp2_with fail
  go_ret
  exact ⟨rfl, HM3.out, HO3.out⟩

/-- Whether the stack has enough numbers for an operation, and room for what it pushes. -/
def fitB (op : Int) (h : Int) : Bool := decide (popB op ≤ h) && decide (h ≤ 6 + popB op - pushB op)
theorem popB_02 (op : Int) : 0 ≤ popB op ∧ popB op ≤ 2 := by unfold popB; split <;> (try split) <;> omega
theorem pushB_01 (op : Int) : 0 ≤ pushB op ∧ pushB op ≤ 1 := by unfold pushB; split <;> omega
set_option maxRecDepth 100000 in
set_option maxHeartbeats 4000000 in
theorem fits_c (op h : Int) (w : World) :
    Calls Tryz.prog 88 #[.agg (opV op), .int .i64 h] w fun e w' => e = .returned (.bool (fitB op h)) ∧ Below w.heap.size w w' := by
  have hb0 := bnew w (.cells (opV op) 126)
  have hR : BlkIs (w.alloc (.cells (opV op) 126)) w.heap.size 126 (opV op) := blk_new _ _ _ _ rfl
  have r3 : (w.alloc (.cells (opV op) 126)).cell? ⟨w.heap.size, 3, none⟩ = some (.int .i64 (popB op)) := hR.cell 3
  have r4 : (w.alloc (.cells (opV op) 126)).cell? ⟨w.heap.size, 4, none⟩ = some (.int .i64 (pushB op)) := hR.cell 4
  have h1 := popB_02 op
  have h2 := pushB_01 op
  have w1 : IntKind.i64.wrap (6 + popB op) = 6 + popB op := IntWalk.i64_in _ (by omega)
  have w2 : IntKind.i64.wrap (6 + popB op - pushB op) = 6 + popB op - pushB op := IntWalk.i64_in _ (by omega)
  have HB := Lib.hid (isBetween_i h (popB op) (6 + popB op - pushB op))
  unfold opV at hb0 r3 r4 ⊢
  clear hR
  go_enter Tryz.func88, Tryz.ntmps88
  go_wp2_with fail
  refine (HB.out _).mono ?_
  rintro e w3 ⟨rfl, rfl⟩
  go_wp2_with fail
  go_ret
  exact ⟨rfl, hb0⟩
end Go.Proofs.YtffkdidgfeknkaaGreatDoor
