/-
  Several texts in one: Mach, Eff, EffP, StepP, RunP, StV, RunQ, LeadP, HgtW. Conditions: as each says.
-/
import Derived.Test.YtffkdidgfeknkaaDoorForm
import Derived.Deep.RegionWith
import Derived.Deep.QuietTactic
import Derived.StillTailTactics
import Derived.Test.YtffkdidgfeknkaaDoorStK
import Derived.Test.YtffkdidgfeknkaaDoorBunA

/-! The program's machine in memory (twenty numbers: 4 variables, 8 cells, 6 places of the stack, its height, the place): pop and push. No conditions. -/
namespace Go.Proofs.YtffkdidgfeknkaaDoor
set_option linter.unusedVariables false
open Go.RowKit

def mc (L : List Int) : Array Value := (L.map ic).toArray
theorem mc_at {L : List Int} {i : Nat} {x : Int} (h : L[i]? = some x) : (mc L)[i]? = some (.int .i64 x) := by simp [mc, h, ic]
theorem mc_set (L : List Int) (i : Nat) (v : Int) : (mc L).setIfInBounds i (.int .i64 v) = mc (L.set i v) := by simp [mc, List.map_set, ic]
/-- The machine at block g. -/
def MachIs (w : World) (g : Nat) (L : List Int) : Prop := BlkIs w g 94 (mc L) ∧ L.length = 20
theorem MachIs.at_ {w : World} {g i : Nat} {L : List Int} {x : Int} (h : MachIs w g L) (hx : L[i]? = some x) : w.cell? ⟨g, i, none⟩ = some (.int .i64 x) := (h.1.cell i).trans (mc_at hx)
theorem MachIs.frozen {w : World} {g : Nat} {L : List Int} (h : MachIs w g L) (i : Nat) : w.frozen? ⟨g, i, none⟩ = false := h.1.frozen i
theorem MachIs.set {w : World} {g : Nat} {L : List Int} (h : MachIs w g L) (i : Nat) (v : Int) : MachIs (w.setCell ⟨g, i, none⟩ (.int .i64 v)) g (L.set i v) := ⟨by rw [← mc_set]; exact h.1.set i _, by rw [List.length_set]; exact h.2⟩
theorem MachIs.next {w w' : World} {g : Nat} {L : List Int} (h : MachIs w g L) (hb : Below w.heap.size w w') : MachIs w' g L := ⟨h.1.next hb, h.2⟩
theorem MachIs.drewN {w : World} {g d : Nat} {L : List Int} (h : MachIs w g L) : MachIs (w.drewN d) g L := h
theorem Out.drew {lo hi : Nat} {w w' : World} (h : Out lo hi w w') : Out lo hi w w'.drew := ⟨h.os, h.tape, h.output, h.size, h.block⟩
theorem Out.drewN {lo hi d : Nat} {w w' : World} (h : Out lo hi w w') : Out lo hi w (w'.drewN d) := ⟨h.os, h.tape, h.output, h.size, h.block⟩

set_option maxRecDepth 100000 in
set_option maxHeartbeats 2000000 in
theorem pop_c (g : Nat) (L : List Int) (h : Nat) (x : Int) (w : World) (hM : MachIs w g L) (h1 : L[18]? = some ((h : Int) + 1)) (h5 : h ≤ 5) (hx : L[12 + h]? = some x) :
    Calls Tryd.prog 130 #[.pointer (some ⟨g, 0, none⟩)] w fun e w' => e = .returned (.int .i64 x) ∧ MachIs w' g (L.set 18 h) ∧ Out g (g + 1) w w' := by
  have p18 := hM.at_ h1
  have f18 := hM.frozen 18
  have hM2 := hM.set 18 (h : Int)
  have hl := hM.2
  have q18 := hM2.at_ (i := 18) (x := (h : Int)) (by rw [List.getElem?_set_self (by omega)])
  have qx := hM2.at_ (i := 12 + h) (x := x) (by rw [List.getElem?_set_ne (by omega)]; exact hx)
  have HM := Lib.hid hM2
  have ho : Out g (g + 1) w (w.setCell ⟨g, 18, none⟩ (.int .i64 h)) := out_set (Out.refl _ _ _) (by omega)
  have HO := Lib.hid ho
  clear hM hM2 ho h1 hx
  go_enter Tryd.func130, Tryd.ntmps130
  go_wp2_with fail
  generalize w.setCell ⟨g, 18, none⟩ (.int .i64 (h : Int)) = W at q18 qx HM HO ⊢
  go_quiet (fail)
  go_wp2_with fail
  go_ret
  exact ⟨rfl, HM.out.drewN, HO.out.drewN⟩

theorem isWide_c (n : Int) (w : World) : Calls Tryd.prog 129 #[.int .i64 n] w fun e w' => e = .returned (.bool (decide (-10000000000000000 ≤ n) && decide (n ≤ 10000000000000000))) ∧ w = w' := by
  go_enter Tryd.func129, Tryd.ntmps129
  go_wp2_with fail
  refine (isBetween_i n (-10000000000000000) 10000000000000000 w).mono ?_
  rintro e w1 ⟨rfl, rfl⟩
  go_wp2_with fail
  go_ret
  exact ⟨rfl, rfl⟩
theorem isInt_c (n : Int) (w : World) : Calls Tryd.prog 131 #[.int .i64 n] w fun e w' => e = .returned (.bool (decide (-1000000000 ≤ n) && decide (n ≤ 1000000000))) ∧ w = w' := by
  go_enter Tryd.func131, Tryd.ntmps131
  go_wp2_with fail
  refine (isBetween_i n (-1000000000) 1000000000 w).mono ?_
  rintro e w1 ⟨rfl, rfl⟩
  go_wp2_with fail
  go_ret
  exact ⟨rfl, rfl⟩
theorem isCell_c (n : Int) (w : World) : Calls Tryd.prog 132 #[.int .i64 n] w fun e w' => e = .returned (.bool (decide (0 ≤ n) && decide (n ≤ 7))) ∧ w = w' := by
  go_enter Tryd.func132, Tryd.ntmps132
  go_wp2_with fail
  refine (isBetween_i n 0 7 w).mono ?_
  rintro e w1 ⟨rfl, rfl⟩
  go_wp2_with fail
  go_ret
  exact ⟨rfl, rfl⟩

/-- What push gives, and makes of the machine. -/
def wideB (n : Int) : Bool := decide (-10000000000000000 ≤ n) && decide (n ≤ 10000000000000000)
def pushR (h : Nat) (n : Int) (L : List Int) : List Int × Int := if wideB n = true then (((L.set (12 + h) n).set 18 ((h : Int) + 1)), 0) else (L, 4)
theorem pushR_yes {h : Nat} {n : Int} {L : List Int} (e : wideB n = true) : pushR h n L = (((L.set (12 + h) n).set 18 ((h : Int) + 1)), 0) := if_pos e
theorem pushR_no {h : Nat} {n : Int} {L : List Int} (e : wideB n = false) : pushR h n L = (L, 4) := if_neg (by rw [e]; simp)

set_option maxRecDepth 100000 in
set_option maxHeartbeats 2000000 in
theorem push_c (g : Nat) (L : List Int) (h : Nat) (n : Int) (w : World) (hM : MachIs w g L) (h1 : L[18]? = some (h : Int)) (h5 : h ≤ 5) :
    Calls Tryd.prog 110 #[.pointer (some ⟨g, 0, none⟩), .int .i64 n] w fun e w' => e = .returned (.int .i64 (pushR h n L).2) ∧ MachIs w' g (pushR h n L).1 ∧ Out g (g + 1) w w' := by
  have HW0 := isWide_c n w
  cases hw : wideB n with
  | false =>
    have HR := Lib.hid (pushR_no (h := h) (L := L) hw)
    unfold wideB at hw
    rw [hw] at HW0
    rw [HR.out]
    have HW := Lib.hid HW0
    have HM := Lib.hid hM
    clear HW0 hw hM
    go_enter Tryd.func110, Tryd.ntmps110
    go_wp2_with fail
    refine HW.out.mono ?_
    rintro e w1 ⟨rfl, rfl⟩
    go_wp2_with fail
    go_ret
    exact ⟨rfl, HM.out, Out.refl _ _ _⟩
  | true =>
    have HR := Lib.hid (pushR_yes (h := h) (L := L) hw)
    unfold wideB at hw
    rw [hw] at HW0
    rw [HR.out]
    have HW := Lib.hid HW0
    have hl := hM.2
    obtain ⟨x, hx⟩ : ∃ x, L[12 + h]? = some x := ⟨_, List.getElem?_eq_getElem (by omega)⟩
    have p18 := hM.at_ h1
    have px := hM.at_ hx
    have fx := hM.frozen (12 + h)
    have hM1 := hM.set (12 + h) n
    have q18 := hM1.at_ (i := 18) (x := (h : Int)) (by rw [List.getElem?_set_ne (by omega)]; exact h1)
    have g18 := hM1.frozen 18
    have HM := Lib.hid (hM1.set 18 ((h : Int) + 1))
    have HO : Hid (Out g (g + 1) w ((w.setCell ⟨g, 12 + h, none⟩ (.int .i64 n)).setCell ⟨g, 18, none⟩ (.int .i64 ((h : Int) + 1)))) := out_set (out_set (Out.refl _ _ _) (by omega)) (by omega)
    clear HW0 hw hM hM1 h1 hx
    go_enter Tryd.func110, Tryd.ntmps110
    go_wp2_with fail
    refine HW.out.mono ?_
    rintro e w1 ⟨rfl, rfl⟩
    go_wp2_with fail
    have i1 : (0 : Int) ≤ (h : Int) := by omega
    have i2 : (h : Int) < 6 := by omega
    have i3 : h < 6 := by omega
    go_still_tail 9, (by kernel_rfl)
    change wpList _ _ _ _ _ w.drew
    go_wp2_with fail
    go_ret
    exact ⟨rfl, HM.out, HO.out.drew⟩
end Go.Proofs.YtffkdidgfeknkaaDoor

/-! What each operation does to the program's machine. Conditions: numbers that do not overflow. -/
namespace Go.Proofs.YtffkdidgfeknkaaDoor
set_option linter.unusedVariables false
open Go.RowKit

set_option maxRecDepth 100000 in
set_option maxHeartbeats 4000000 in
theorem emit_c (g : Nat) (a : Int) (L : List Int) (w : World) (hM : MachIs w g L) :
    Calls Tryd.prog 119 #[.pointer (some ⟨g, 0, none⟩), .int .i64 a] w fun e w' => e = .returned (.int .i64 0) ∧ MachIs w' g L ∧ Out g (g + 1) w w' := by
  have HM := Lib.hid hM
  clear hM
  go_enter Tryd.func119, Tryd.ntmps119
  go_wp2_with fail
  go_ret
  exact ⟨rfl, HM.out, Out.refl _ _ _⟩
set_option maxRecDepth 100000 in
set_option maxHeartbeats 4000000 in
theorem halt_c (g : Nat) (a : Int) (L : List Int) (w : World) (hM : MachIs w g L) :
    Calls Tryd.prog 121 #[.pointer (some ⟨g, 0, none⟩), .int .i64 a] w fun e w' => e = .returned (.int .i64 6) ∧ MachIs w' g L ∧ Out g (g + 1) w w' := by
  have HM := Lib.hid hM
  clear hM
  go_enter Tryd.func121, Tryd.ntmps121
  go_wp2_with fail
  go_ret
  exact ⟨rfl, HM.out, Out.refl _ _ _⟩
set_option maxRecDepth 100000 in
set_option maxHeartbeats 4000000 in
theorem jump_c (g : Nat) (a : Int) (L : List Int) (w : World) (hM : MachIs w g L) :
    Calls Tryd.prog 115 #[.pointer (some ⟨g, 0, none⟩), .int .i64 a] w fun e w' => e = .returned (.int .i64 0) ∧ MachIs w' g (L.set 19 a) ∧ Out g (g + 1) w w' := by
  have hl := hM.2
  obtain ⟨y, hy⟩ : ∃ y, L[19]? = some y := ⟨_, List.getElem?_eq_getElem (by omega)⟩
  have p19 := hM.at_ hy
  have f19 := hM.frozen 19
  have HM := Lib.hid (hM.set 19 a)
  have HO : Hid (Out g (g + 1) w (w.setCell ⟨g, 19, none⟩ (.int .i64 a))) := out_set (Out.refl _ _ _) (by omega)
  clear hM hy
  go_enter Tryd.func115, Tryd.ntmps115
  go_wp2_with fail
  go_ret
  exact ⟨rfl, HM.out, HO.out⟩
set_option maxRecDepth 100000 in
set_option maxHeartbeats 4000000 in
theorem load_c (g : Nat) (a : Nat) (L : List Int) (h : Nat) (x : Int) (w : World) (hM : MachIs w g L) (h1 : L[18]? = some (h : Int)) (h5 : h ≤ 5) (ha : a < 4) (hx : L[a]? = some x) :
    Calls Tryd.prog 111 #[.pointer (some ⟨g, 0, none⟩), .int .i64 a] w fun e w' => e = .returned (.int .i64 (pushR h x L).2) ∧ MachIs w' g (pushR h x L).1 ∧ Out g (g + 1) w w' := by
  have px := hM.at_ hx
  have i1 : (0 : Int) ≤ (a : Int) := by omega
  have i2 : (a : Int) < 4 := by omega
  have HP := Lib.hid (push_c g L h x w hM h1 h5)
  clear hM hx h1
  go_enter Tryd.func111, Tryd.ntmps111
  go_wp2_with fail
  refine HP.out.mono ?_
  rintro e w1 ⟨rfl, hM1, ho1⟩
  go_wp2_with fail
  go_ret
  exact ⟨rfl, hM1, ho1⟩
set_option maxRecDepth 100000 in
set_option maxHeartbeats 4000000 in
theorem store_c (g : Nat) (a : Nat) (L : List Int) (h : Nat) (x : Int) (w : World) (hM : MachIs w g L) (h1 : L[18]? = some ((h : Int) + 1)) (h5 : h ≤ 5) (hx : L[12 + h]? = some x) (ha : a < 4) (b : Bool) (hb : (decide (-1000000000 ≤ x) && decide (x ≤ 1000000000)) = b) :
    Calls Tryd.prog 112 #[.pointer (some ⟨g, 0, none⟩), .int .i64 a] w fun e w' => e = .returned (.int .i64 (if b then 0 else 4)) ∧ MachIs w' g (if b then (L.set 18 h).set a x else L.set 18 h) ∧ Out g (g + 1) w w' := by
  have i1 : (0 : Int) ≤ (a : Int) := by omega
  have i2 : (a : Int) < 4 := by omega
  have HP := Lib.hid (pop_c g L h x w hM h1 h5 hx)
  have hl := hM.2
  obtain ⟨y, hy⟩ : ∃ y, (L.set 18 (h : Int))[a]? = some y := ⟨_, List.getElem?_eq_getElem (by rw [List.length_set]; omega)⟩
  clear hM hx h1
  cases b with
  | true =>
    go_enter Tryd.func112, Tryd.ntmps112
    go_wp2_with fail
    refine HP.out.mono ?_
    rintro e w1 ⟨rfl, hM1, ho1⟩
    have HI0 := isInt_c x w1
    rw [hb] at HI0
    have HI := Lib.hid HI0
    have py := hM1.at_ hy
    have fy := hM1.frozen a
    have HM := Lib.hid (hM1.set a x)
    have HO := Lib.hid (out_set (i := a) (u := .int .i64 x) ho1 (g := g) (by omega))
    clear HI0 hM1 ho1 hy hb
    go_wp2_with fail
    refine HI.out.mono ?_
    rintro e w2 ⟨rfl, rfl⟩
    go_wp2_with fail
    go_ret
    exact ⟨rfl, HM.out, HO.out⟩
  | false =>
    go_enter Tryd.func112, Tryd.ntmps112
    go_wp2_with fail
    refine HP.out.mono ?_
    rintro e w1 ⟨rfl, hM1, ho1⟩
    have HI0 := isInt_c x w1
    rw [hb] at HI0
    have HI := Lib.hid HI0
    have HM := Lib.hid hM1
    clear HI0 hM1 hb hy
    go_wp2_with fail
    refine HI.out.mono ?_
    rintro e w2 ⟨rfl, rfl⟩
    go_wp2_with fail
    go_ret
    exact ⟨rfl, HM.out, ho1⟩
set_option maxRecDepth 100000 in
set_option maxHeartbeats 4000000 in
theorem add_c (g : Nat) (a : Int) (L : List Int) (h : Nat) (x y : Int) (w : World) (hM : MachIs w g L) (h1 : L[18]? = some ((h : Int) + 2)) (h5 : h ≤ 4) (hx : L[13 + h]? = some x) (hy : L[12 + h]? = some y) (kx : -10000000000000000 ≤ x ∧ x ≤ 10000000000000000) (ky : -10000000000000000 ≤ y ∧ y ≤ 10000000000000000) :
    Calls Tryd.prog 113 #[.pointer (some ⟨g, 0, none⟩), .int .i64 a] w fun e w' => e = .returned (.int .i64 (pushR h (x + y) (L.set 18 h)).2) ∧ MachIs w' g (pushR h (x + y) (L.set 18 h)).1 ∧ Out g (g + 1) w w' := by
  have hl := hM.2
  have HP := Lib.hid (pop_c g L (h + 1) x w hM (by rw [h1]; first | rfl | (congr 1; omega)) (by omega) (by rw [← hx]; congr 1; omega))
  clear hM
  go_enter Tryd.func113, Tryd.ntmps113
  go_wp2_with fail
  refine HP.out.mono ?_
  rintro e w1 ⟨rfl, hM1, ho1⟩
  have ec : (((h + 1 : Nat)) : Int) = (h : Int) + 1 := by omega
  rw [ec] at hM1
  have HP2 := Lib.hid (pop_c g _ h y w1 hM1 (by rw [List.getElem?_set_self (by omega)]) (by omega) (by rw [List.getElem?_set_ne (by omega)]; exact hy))
  clear HP hM1
  go_wp2_with fail
  refine HP2.out.mono ?_
  rintro e w2 ⟨rfl, hM2, ho2⟩
  rw [List.set_set] at hM2
  have HP3 := Lib.hid (push_c g _ h (x + y) w2 hM2 (by rw [List.getElem?_set_self (by omega)]) (by omega))
  clear HP2 hM2
  go_wp2_with fail
  refine HP3.out.mono ?_
  rintro e w3 ⟨rfl, hM3, ho3⟩
  have HM3 := Lib.hid hM3
  clear hM3 HP3
  go_wp2_with fail
  go_ret
  exact ⟨rfl, HM3.out, (ho1.trans ho2).trans ho3⟩
set_option maxRecDepth 100000 in
set_option maxHeartbeats 4000000 in
theorem test_yes (g : Nat) (a : Int) (L : List Int) (h : Nat) (x : Int) (w : World) (hM : MachIs w g L) (h1 : L[18]? = some ((h : Int) + 1)) (h5 : h ≤ 5) (hx : L[12 + h]? = some x) (hn : x < 0) :
    Calls Tryd.prog 116 #[.pointer (some ⟨g, 0, none⟩), .int .i64 a] w fun e w' => e = .returned (.int .i64 0) ∧ MachIs w' g ((L.set 18 h).set 19 a) ∧ Out g (g + 1) w w' := by
  have HP := Lib.hid (pop_c g L h x w hM h1 h5 hx)
  clear hM
  go_enter Tryd.func116, Tryd.ntmps116
  go_wp2_with fail
  refine HP.out.mono ?_
  rintro e w1 ⟨rfl, hM1, ho1⟩
  have HJ := Lib.hid (jump_c g a _ w1 hM1)
  clear hM1 HP
  go_wp2_with fail
  refine HJ.out.mono ?_
  rintro e w2 ⟨rfl, hM2, ho2⟩
  have HM2 := Lib.hid hM2
  clear hM2 HJ
  go_wp2_with fail
  go_ret
  exact ⟨rfl, HM2.out, ho1.trans ho2⟩
set_option maxRecDepth 100000 in
set_option maxHeartbeats 4000000 in
theorem test_no (g : Nat) (a : Int) (L : List Int) (h : Nat) (x : Int) (w : World) (hM : MachIs w g L) (h1 : L[18]? = some ((h : Int) + 1)) (h5 : h ≤ 5) (hx : L[12 + h]? = some x) (hn : ¬ x < 0) :
    Calls Tryd.prog 116 #[.pointer (some ⟨g, 0, none⟩), .int .i64 a] w fun e w' => e = .returned (.int .i64 0) ∧ MachIs w' g (L.set 18 h) ∧ Out g (g + 1) w w' := by
  have HP := Lib.hid (pop_c g L h x w hM h1 h5 hx)
  clear hM
  go_enter Tryd.func116, Tryd.ntmps116
  go_wp2_with fail
  refine HP.out.mono ?_
  rintro e w1 ⟨rfl, hM1, ho1⟩
  have HM1 := Lib.hid hM1
  clear hM1 HP
  go_wp2_with fail
  go_ret
  exact ⟨rfl, HM1.out, ho1⟩
set_option maxRecDepth 100000 in
set_option maxHeartbeats 4000000 in
theorem check_yes (g : Nat) (a : Int) (L : List Int) (h : Nat) (x : Int) (w : World) (hM : MachIs w g L) (h1 : L[18]? = some ((h : Int) + 1)) (h5 : h ≤ 5) (hx : L[12 + h]? = some x) (hn : x < 0) :
    Calls Tryd.prog 120 #[.pointer (some ⟨g, 0, none⟩), .int .i64 a] w fun e w' => e = .returned (.int .i64 3) ∧ MachIs w' g (L.set 18 h) ∧ Out g (g + 1) w w' := by
  have HP := Lib.hid (pop_c g L h x w hM h1 h5 hx)
  clear hM
  go_enter Tryd.func120, Tryd.ntmps120
  go_wp2_with fail
  refine HP.out.mono ?_
  rintro e w1 ⟨rfl, hM1, ho1⟩
  have HM1 := Lib.hid hM1
  clear hM1 HP
  go_wp2_with fail
  go_ret
  exact ⟨rfl, HM1.out, ho1⟩
set_option maxRecDepth 100000 in
set_option maxHeartbeats 4000000 in
theorem check_no (g : Nat) (a : Int) (L : List Int) (h : Nat) (x : Int) (w : World) (hM : MachIs w g L) (h1 : L[18]? = some ((h : Int) + 1)) (h5 : h ≤ 5) (hx : L[12 + h]? = some x) (hn : ¬ x < 0) :
    Calls Tryd.prog 120 #[.pointer (some ⟨g, 0, none⟩), .int .i64 a] w fun e w' => e = .returned (.int .i64 0) ∧ MachIs w' g (L.set 18 h) ∧ Out g (g + 1) w w' := by
  have HP := Lib.hid (pop_c g L h x w hM h1 h5 hx)
  clear hM
  go_enter Tryd.func120, Tryd.ntmps120
  go_wp2_with fail
  refine HP.out.mono ?_
  rintro e w1 ⟨rfl, hM1, ho1⟩
  have HM1 := Lib.hid hM1
  clear hM1 HP
  go_wp2_with fail
  go_ret
  exact ⟨rfl, HM1.out, ho1⟩
set_option maxRecDepth 100000 in
set_option maxHeartbeats 4000000 in
theorem get_no (g : Nat) (a : Int) (L : List Int) (h : Nat) (x : Int) (w : World) (hM : MachIs w g L) (h1 : L[18]? = some ((h : Int) + 1)) (h5 : h ≤ 5) (hx : L[12 + h]? = some x) (hn : (decide (0 ≤ x) && decide (x ≤ 7)) = false) :
    Calls Tryd.prog 117 #[.pointer (some ⟨g, 0, none⟩), .int .i64 a] w fun e w' => e = .returned (.int .i64 2) ∧ MachIs w' g (L.set 18 h) ∧ Out g (g + 1) w w' := by
  have HP := Lib.hid (pop_c g L h x w hM h1 h5 hx)
  clear hM
  go_enter Tryd.func117, Tryd.ntmps117
  go_wp2_with fail
  refine HP.out.mono ?_
  rintro e w1 ⟨rfl, hM1, ho1⟩
  have HI0 := isCell_c x w1
  rw [hn] at HI0
  have HI := Lib.hid HI0
  have HM1 := Lib.hid hM1
  clear hM1 HP HI0 hn
  go_wp2_with fail
  refine HI.out.mono ?_
  rintro e w2 ⟨rfl, rfl⟩
  go_wp2_with fail
  go_ret
  exact ⟨rfl, HM1.out, ho1⟩
set_option maxRecDepth 100000 in
set_option maxHeartbeats 4000000 in
theorem get_yes (g : Nat) (a : Int) (L : List Int) (h : Nat) (i : Nat) (y : Int) (w : World) (hM : MachIs w g L) (h1 : L[18]? = some ((h : Int) + 1)) (h5 : h ≤ 5) (hx : L[12 + h]? = some (i : Int)) (hi : i ≤ 7) (hy : L[4 + i]? = some y) :
    Calls Tryd.prog 117 #[.pointer (some ⟨g, 0, none⟩), .int .i64 a] w fun e w' => e = .returned (.int .i64 (pushR h y (L.set 18 h)).2) ∧ MachIs w' g (pushR h y (L.set 18 h)).1 ∧ Out g (g + 1) w w' := by
  have hl := hM.2
  have HP := Lib.hid (pop_c g L h i w hM h1 h5 hx)
  have hn : (decide (0 ≤ (i : Int)) && decide ((i : Int) ≤ 7)) = true := by simp; omega
  have i1 : (0 : Int) ≤ (i : Int) := by omega
  have i2 : (i : Int) < 8 := by omega
  clear hM
  go_enter Tryd.func117, Tryd.ntmps117
  go_wp2_with fail
  refine HP.out.mono ?_
  rintro e w1 ⟨rfl, hM1, ho1⟩
  have HI0 := isCell_c (i : Int) w1
  rw [hn] at HI0
  have HI := Lib.hid HI0
  have py := hM1.at_ (i := 4 + i) (x := y) (by rw [List.getElem?_set_ne (by omega)]; exact hy)
  have HPU := Lib.hid (push_c g _ h y w1 hM1 (by rw [List.getElem?_set_self (by omega)]) (by omega))
  clear hM1 HP HI0 hn
  go_wp2_with fail
  refine HI.out.mono ?_
  rintro e w2 ⟨rfl, rfl⟩
  go_wp2_with fail
  refine HPU.out.mono ?_
  rintro e w3 ⟨rfl, hM3, ho3⟩
  have HM3 := Lib.hid hM3
  clear hM3 HPU
  go_wp2_with fail
  go_ret
  exact ⟨rfl, HM3.out, ho1.trans ho3⟩
end Go.Proofs.YtffkdidgfeknkaaDoor

/-! What put does to the program's machine; whether the stack has room for an operation. Conditions: numbers that do not overflow. -/
namespace Go.Proofs.YtffkdidgfeknkaaDoor
set_option linter.unusedVariables false
open Go.RowKit

set_option maxRecDepth 100000 in
set_option maxHeartbeats 4000000 in
theorem put_cell (g : Nat) (a : Int) (L : List Int) (h : Nat) (x : Int) (i : Int) (w : World) (hM : MachIs w g L) (h1 : L[18]? = some ((h : Int) + 2)) (h5 : h ≤ 4) (hx : L[13 + h]? = some x) (hi : L[12 + h]? = some i) (hn : (decide (0 ≤ i) && decide (i ≤ 7)) = false) :
    Calls Tryd.prog 118 #[.pointer (some ⟨g, 0, none⟩), .int .i64 a] w fun e w' => e = .returned (.int .i64 2) ∧ MachIs w' g (L.set 18 h) ∧ Out g (g + 1) w w' := by
  have hl := hM.2
  have HP := Lib.hid (pop_c g L (h + 1) x w hM (by rw [h1]; first | rfl | (congr 1; omega)) (by omega) (by rw [← hx]; congr 1; omega))
  clear hM
  go_enter Tryd.func118, Tryd.ntmps118
  go_wp2_with fail
  refine HP.out.mono ?_
  rintro e w1 ⟨rfl, hM1, ho1⟩
  have ec : (((h + 1 : Nat)) : Int) = (h : Int) + 1 := by omega
  rw [ec] at hM1
  have HP2 := Lib.hid (pop_c g _ h i w1 hM1 (by rw [List.getElem?_set_self (by omega)]) (by omega) (by rw [List.getElem?_set_ne (by omega)]; exact hi))
  clear HP hM1
  go_wp2_with fail
  refine HP2.out.mono ?_
  rintro e w2 ⟨rfl, hM2, ho2⟩
  rw [List.set_set] at hM2
  have HI0 := isCell_c i w2
  rw [hn] at HI0
  have HI := Lib.hid HI0
  have HM2 := Lib.hid hM2
  clear hM2 HP2 HI0 hn
  go_wp2_with fail
  refine HI.out.mono ?_
  rintro e w3 ⟨rfl, rfl⟩
  go_wp2_with fail
  go_ret
  exact ⟨rfl, HM2.out, ho1.trans ho2⟩
set_option maxRecDepth 100000 in
set_option maxHeartbeats 4000000 in
theorem put_int (g : Nat) (a : Int) (L : List Int) (h : Nat) (x : Int) (i : Nat) (w : World) (hM : MachIs w g L) (h1 : L[18]? = some ((h : Int) + 2)) (h5 : h ≤ 4) (hx : L[13 + h]? = some x) (hi : L[12 + h]? = some (i : Int)) (hi7 : i ≤ 7) (hn : (decide (-1000000000 ≤ x) && decide (x ≤ 1000000000)) = false) :
    Calls Tryd.prog 118 #[.pointer (some ⟨g, 0, none⟩), .int .i64 a] w fun e w' => e = .returned (.int .i64 4) ∧ MachIs w' g (L.set 18 h) ∧ Out g (g + 1) w w' := by
  have hl := hM.2
  have HP := Lib.hid (pop_c g L (h + 1) x w hM (by rw [h1]; first | rfl | (congr 1; omega)) (by omega) (by rw [← hx]; congr 1; omega))
  clear hM
  go_enter Tryd.func118, Tryd.ntmps118
  go_wp2_with fail
  refine HP.out.mono ?_
  rintro e w1 ⟨rfl, hM1, ho1⟩
  have ec : (((h + 1 : Nat)) : Int) = (h : Int) + 1 := by omega
  rw [ec] at hM1
  have HP2 := Lib.hid (pop_c g _ h i w1 hM1 (by rw [List.getElem?_set_self (by omega)]) (by omega) (by rw [List.getElem?_set_ne (by omega)]; exact hi))
  clear HP hM1
  go_wp2_with fail
  refine HP2.out.mono ?_
  rintro e w2 ⟨rfl, hM2, ho2⟩
  rw [List.set_set] at hM2
  have hc : (decide (0 ≤ (i : Int)) && decide ((i : Int) ≤ 7)) = true := by simp; omega
  have i1 : (0 : Int) ≤ (i : Int) := by omega
  have i2 : (i : Int) < 8 := by omega
  have HI0 := isCell_c (i : Int) w2
  rw [hc] at HI0
  have HI := Lib.hid HI0
  have HJ0 := isInt_c x w2
  rw [hn] at HJ0
  have HJ := Lib.hid HJ0
  have HM2 := Lib.hid hM2
  clear hM2 HP2 HI0 HJ0 hn hc
  go_wp2_with fail
  refine HI.out.mono ?_
  rintro e w3 ⟨rfl, rfl⟩
  go_wp2_with fail
  refine HJ.out.mono ?_
  rintro e w3 ⟨rfl, rfl⟩
  go_wp2_with fail
  go_ret
  exact ⟨rfl, HM2.out, ho1.trans ho2⟩
set_option maxRecDepth 100000 in
set_option maxHeartbeats 4000000 in
theorem put_yes (g : Nat) (a : Int) (L : List Int) (h : Nat) (x : Int) (i : Nat) (w : World) (hM : MachIs w g L) (h1 : L[18]? = some ((h : Int) + 2)) (h5 : h ≤ 4) (hx : L[13 + h]? = some x) (hi : L[12 + h]? = some (i : Int)) (hi7 : i ≤ 7) (hn : (decide (-1000000000 ≤ x) && decide (x ≤ 1000000000)) = true) :
    Calls Tryd.prog 118 #[.pointer (some ⟨g, 0, none⟩), .int .i64 a] w fun e w' => e = .returned (.int .i64 0) ∧ MachIs w' g ((L.set 18 h).set (4 + i) x) ∧ Out g (g + 1) w w' := by
  have hl := hM.2
  have HP := Lib.hid (pop_c g L (h + 1) x w hM (by rw [h1]; first | rfl | (congr 1; omega)) (by omega) (by rw [← hx]; congr 1; omega))
  clear hM
  go_enter Tryd.func118, Tryd.ntmps118
  go_wp2_with fail
  refine HP.out.mono ?_
  rintro e w1 ⟨rfl, hM1, ho1⟩
  have ec : (((h + 1 : Nat)) : Int) = (h : Int) + 1 := by omega
  rw [ec] at hM1
  have HP2 := Lib.hid (pop_c g _ h i w1 hM1 (by rw [List.getElem?_set_self (by omega)]) (by omega) (by rw [List.getElem?_set_ne (by omega)]; exact hi))
  clear HP hM1
  go_wp2_with fail
  refine HP2.out.mono ?_
  rintro e w2 ⟨rfl, hM2, ho2⟩
  rw [List.set_set] at hM2
  have hc : (decide (0 ≤ (i : Int)) && decide ((i : Int) ≤ 7)) = true := by simp; omega
  have i1 : (0 : Int) ≤ (i : Int) := by omega
  have i2 : (i : Int) < 8 := by omega
  have HI0 := isCell_c (i : Int) w2
  rw [hc] at HI0
  have HI := Lib.hid HI0
  have HJ0 := isInt_c x w2
  rw [hn] at HJ0
  have HJ := Lib.hid HJ0
  obtain ⟨y, hy⟩ : ∃ y, (L.set 18 (h : Int))[4 + i]? = some y := ⟨_, List.getElem?_eq_getElem (by rw [List.length_set]; omega)⟩
  have py := hM2.at_ hy
  have fy := hM2.frozen (4 + i)
  have HM3 := Lib.hid (hM2.set (4 + i) x)
  have HO3 := Lib.hid (out_set (i := 4 + i) (u := .int .i64 x) (ho1.trans ho2) (g := g) (by omega))
  clear hM2 HP2 HI0 HJ0 hn hc hy
  go_wp2_with fail
  refine HI.out.mono ?_
  rintro e w3 ⟨rfl, rfl⟩
  go_wp2_with fail
  refine HJ.out.mono ?_
  rintro e w3 ⟨rfl, rfl⟩
  go_wp2_with fail
  go_ret
  exact ⟨rfl, HM3.out, HO3.out⟩

/-- Whether the stack has enough numbers for an operation, and room for what it pushes. -/
def fitB (op : Int) (h : Int) : Bool := decide (popB op ≤ h) && decide (h ≤ 6 + popB op - pushB op)
theorem popB_02 (op : Int) : 0 ≤ popB op ∧ popB op ≤ 2 := by unfold popB; split <;> (try split) <;> omega
theorem pushB_01 (op : Int) : 0 ≤ pushB op ∧ pushB op ≤ 1 := by unfold pushB; split <;> omega
set_option maxRecDepth 100000 in
set_option maxHeartbeats 4000000 in
theorem fits_c (op h : Int) (w : World) :
    Calls Tryd.prog 85 #[.agg (opV op), .int .i64 h] w fun e w' => e = .returned (.bool (fitB op h)) ∧ Below w.heap.size w w' := by
  have hb0 := bnew w (.cells (opV op) 121)
  have hR : BlkIs (w.alloc (.cells (opV op) 121)) w.heap.size 121 (opV op) := blk_new _ _ _ _ rfl
  have r3 : (w.alloc (.cells (opV op) 121)).cell? ⟨w.heap.size, 3, none⟩ = some (.int .i64 (popB op)) := hR.cell 3
  have r4 : (w.alloc (.cells (opV op) 121)).cell? ⟨w.heap.size, 4, none⟩ = some (.int .i64 (pushB op)) := hR.cell 4
  have h1 := popB_02 op
  have h2 := pushB_01 op
  have w1 : IntKind.i64.wrap (6 + popB op) = 6 + popB op := IntWalk.i64_in _ (by omega)
  have w2 : IntKind.i64.wrap (6 + popB op - pushB op) = 6 + popB op - pushB op := IntWalk.i64_in _ (by omega)
  have HB := Lib.hid (isBetween_i h (popB op) (6 + popB op - pushB op))
  unfold opV at hb0 r3 r4 ⊢
  clear hR
  go_enter Tryd.func85, Tryd.ntmps85
  go_wp2_with fail
  refine (HB.out _).mono ?_
  rintro e w3 ⟨rfl, rfl⟩
  go_wp2_with fail
  go_ret
  exact ⟨rfl, hb0⟩
end Go.Proofs.YtffkdidgfeknkaaDoor

/-! A step of code, told by numbers: how it stops and what it makes of the variables, the cells, the stack and the place; how the program's machine of twenty numbers stands for these. No conditions. -/
namespace Go.Proofs.YtffkdidgfeknkaaDoor
set_option linter.unusedVariables false
open Go.RowKit

def wideP (x : Int) : Prop := -10000000000000000 ≤ x ∧ x ≤ 10000000000000000
def intP (x : Int) : Prop := -1000000000 ≤ x ∧ x ≤ 1000000000
/-- The numbers that a step pops, or 0. -/
def topR (op : Int) (st : List Int) : Int := if popB op = 0 then 0 else st.getD (st.length - 1) 0
def undR (op : Int) (st : List Int) : Int := if popB op = 2 then st.getD (st.length - 2) 0 else 0
def absR (x : Int) : Int := if x < -x then -x else x
def farR (n a : Int) : Prop := a ≠ 0 ∧ absR n > 10000000000000000 / absR a
instance (n a : Int) : Decidable (farR n a) := by unfold farR; infer_instance
instance (n : Int) : Decidable (wideP n) := by unfold wideP; infer_instance
instance (n : Int) : Decidable (intP n) := by unfold intP; infer_instance
def cellStop (op : Int) (st : List Int) : Prop := (op = 7 ∧ ¬ (0 ≤ topR op st ∧ topR op st ≤ 7)) ∨ (op = 8 ∧ ¬ (0 ≤ undR op st ∧ undR op st ≤ 7))
def rangeStop (op a : Int) (st : List Int) : Prop := (op = 3 ∧ ¬ wideP (topR op st + undR op st)) ∨ (op = 4 ∧ farR (topR op st) a) ∨ ((op = 2 ∨ op = 8) ∧ ¬ intP (topR op st))
instance (op : Int) (st : List Int) : Decidable (cellStop op st) := by unfold cellStop; infer_instance
instance (op a : Int) (st : List Int) : Decidable (rangeStop op a st) := by unfold rangeStop; infer_instance
/-- How an operation for which the stack fits stops: 0 if it doesn't. -/
def outO (op a : Int) (st : List Int) : Int :=
  if op = 11 then 6 else if cellStop op st then 2 else if rangeStop op a st then 4 else if op = 10 ∧ topR op st < 0 then 3 else 0
def restR (op : Int) (st : List Int) : List Int := st.take (st.length - (popB op).toNat)
def varsO (op a : Int) (vs st : List Int) : List Int := if op = 2 then vs.set a.toNat (topR op st) else vs
def cellsO (op : Int) (zs st : List Int) : List Int := if op = 8 then zs.set (undR op st).toNat (topR op st) else zs
def newO (op a : Int) (vs zs st : List Int) : Int := if op = 0 then a else if op = 1 then vs.getD a.toNat 0 else if op = 3 then topR op st + undR op st else if op = 4 then topR op st * a else zs.getD (topR op st).toNat 0
def stO (op a : Int) (vs zs st : List Int) : List Int := if pushB op = 1 then restR op st ++ [newO op a vs zs st] else restR op st
def atO (op a : Int) (st : List Int) (p : Int) : Int := if op = 5 ∨ (op = 6 ∧ topR op st < 0) then a else p + 1

/-- A valid state, stack and place. -/
structure CfV (vs zs st : List Int) (p : Int) : Prop where
  lv : vs.length = 4
  lz : zs.length = 8
  ls : st.length ≤ 6
  iv : ∀ x ∈ vs, intP x
  iz : ∀ x ∈ zs, intP x
  ws : ∀ x ∈ st, wideP x
  p0 : 0 ≤ p
  p1 : p ≤ 80
/-- The machine L stands for a config. -/
structure Rep (L vs zs st : List Int) (p : Int) : Prop where
  len : L.length = 20
  v : ∀ i, i < 4 → L[i]? = vs[i]?
  z : ∀ i, i < 8 → L[4 + i]? = zs[i]?
  s : ∀ i, i < st.length → L[12 + i]? = st[i]?
  h : L[18]? = some (st.length : Int)
  a : L[19]? = some p

theorem Rep.push {L vs zs st : List Int} {p : Int} (r : Rep L vs zs st p) (n : Int) (h5 : st.length ≤ 5) : Rep ((L.set (12 + st.length) n).set 18 ((st.length : Int) + 1)) vs zs (st ++ [n]) p := by
  have hl := r.len
  refine ⟨by simp [r.len], ?_, ?_, ?_, ?_, ?_⟩
  · intro i hi; rw [List.getElem?_set_ne (by omega), List.getElem?_set_ne (by omega)]; exact r.v i hi
  · intro i hi; rw [List.getElem?_set_ne (by omega), List.getElem?_set_ne (by omega)]; exact r.z i hi
  · intro i hi
    rw [List.length_append, List.length_singleton] at hi
    rw [List.getElem?_set_ne (by omega)]
    by_cases e : i = st.length
    · subst e; rw [List.getElem?_set_self (by omega)]; simp
    · rw [List.getElem?_set_ne (by omega), List.getElem?_append_left (by omega)]; exact r.s i (by omega)
  · rw [List.getElem?_set_self (by rw [List.length_set]; omega)]; simp
  · rw [List.getElem?_set_ne (by omega), List.getElem?_set_ne (by omega)]; exact r.a
theorem Rep.pop {L vs zs st : List Int} {p : Int} (r : Rep L vs zs st p) (h : Nat) (hh : h ≤ st.length) (h6 : st.length ≤ 6) : Rep (L.set 18 (h : Int)) vs zs (st.take h) p := by
  have hl := r.len
  have hm : (st.take h).length = h := by rw [List.length_take]; omega
  refine ⟨by simp [r.len], ?_, ?_, ?_, ?_, ?_⟩
  · intro i hi; rw [List.getElem?_set_ne (by omega)]; exact r.v i hi
  · intro i hi; rw [List.getElem?_set_ne (by omega)]; exact r.z i hi
  · intro i hi
    rw [hm] at hi
    rw [List.getElem?_set_ne (by omega), r.s i (by omega), List.getElem?_take_of_lt (by omega)]
  · rw [List.getElem?_set_self (by omega), hm]
  · rw [List.getElem?_set_ne (by omega)]; exact r.a
theorem Rep.var {L vs zs st : List Int} {p : Int} (r : Rep L vs zs st p) (k : Nat) (x : Int) (hk : k < 4) (hv : vs.length = 4) : Rep (L.set k x) (vs.set k x) zs st p := by
  have hl := r.len
  refine ⟨by simp [r.len], ?_, ?_, ?_, ?_, ?_⟩
  · intro i hi
    by_cases e : i = k
    · subst e; rw [List.getElem?_set_self (by omega), List.getElem?_set_self (by omega)]
    · rw [List.getElem?_set_ne (by omega), List.getElem?_set_ne (by omega)]; exact r.v i hi
  · intro i hi; rw [List.getElem?_set_ne (by omega)]; exact r.z i hi
  · intro i hi; rw [List.getElem?_set_ne (by omega)]; exact r.s i hi
  · rw [List.getElem?_set_ne (by omega)]; exact r.h
  · rw [List.getElem?_set_ne (by omega)]; exact r.a
theorem Rep.cell {L vs zs st : List Int} {p : Int} (r : Rep L vs zs st p) (k : Nat) (x : Int) (hk : k < 8) (hz : zs.length = 8) : Rep (L.set (4 + k) x) vs (zs.set k x) st p := by
  have hl := r.len
  refine ⟨by simp [r.len], ?_, ?_, ?_, ?_, ?_⟩
  · intro i hi; rw [List.getElem?_set_ne (by omega)]; exact r.v i hi
  · intro i hi
    by_cases e : i = k
    · subst e; rw [List.getElem?_set_self (by omega), List.getElem?_set_self (by omega)]
    · rw [List.getElem?_set_ne (by omega), List.getElem?_set_ne (by omega)]; exact r.z i hi
  · intro i hi; rw [List.getElem?_set_ne (by omega)]; exact r.s i hi
  · rw [List.getElem?_set_ne (by omega)]; exact r.h
  · rw [List.getElem?_set_ne (by omega)]; exact r.a
theorem Rep.place {L vs zs st : List Int} {p : Int} (r : Rep L vs zs st p) (q : Int) (hs : st.length ≤ 6) : Rep (L.set 19 q) vs zs st q := by
  have hl := r.len
  refine ⟨by simp [r.len], ?_, ?_, ?_, ?_, ?_⟩
  · intro i hi; rw [List.getElem?_set_ne (by omega)]; exact r.v i hi
  · intro i hi; rw [List.getElem?_set_ne (by omega)]; exact r.z i hi
  · intro i hi; rw [List.getElem?_set_ne (by omega)]; exact r.s i hi
  · rw [List.getElem?_set_ne (by omega)]; exact r.h
  · rw [List.getElem?_set_self (by omega)]
theorem getD_of {l : List Int} {i : Nat} {x : Int} (h : l[i]? = some x) : l.getD i 0 = x := by rw [List.getD_eq_getElem?_getD, h]; rfl
theorem some_getD {l : List Int} {i : Nat} (h : i < l.length) : l[i]? = some (l.getD i 0) := by rw [List.getElem?_eq_getElem h, getD_of (List.getElem?_eq_getElem h)]
theorem mem_getD {l : List Int} {i : Nat} (h : i < l.length) : l.getD i 0 ∈ l := List.mem_of_getElem? (some_getD h)
theorem fitB_parts {op h : Int} (e : fitB op h = true) : popB op ≤ h ∧ h ≤ 6 + popB op - pushB op := by
  unfold fitB at e
  simpa using e
theorem fitB_no {op h : Int} (e : fitB op h = false) : ¬ (popB op ≤ h ∧ h ≤ 6 + popB op - pushB op) := by
  unfold fitB at e
  simp at e
  omega
theorem popB_le (op : Int) : (popB op).toNat ≤ 2 := by have := popB_02 op; omega
theorem set_mem {l : List Int} {k : Nat} {v : Int} {P : Int → Prop} (h : ∀ x ∈ l, P x) (hv : P v) : ∀ x ∈ l.set k v, P x := by
  intro x hx
  rcases List.mem_or_eq_of_mem_set hx with hx | rfl
  · exact h x hx
  · exact hv
theorem topR_mem {op : Int} {st : List Int} (hp : popB op ≠ 0) (hs : popB op ≤ (st.length : Int)) : topR op st ∈ st := by
  unfold topR; rw [if_neg hp]; have := popB_02 op; exact mem_getD (by omega)
theorem absR_nn (x : Int) : 0 ≤ absR x := by unfold absR; split <;> omega
/-- A step that doesn't stop keeps a config valid. -/
theorem CfV.step {op a p : Int} {vs zs st : List Int} (v : CfV vs zs st p) (hi : instrB op a = true) (hf : fitB op (st.length : Int) = true) (ho : outO op a st = 0) (hp : p < 80) : CfV (varsO op a vs st) (cellsO op zs st) (stO op a vs zs st) (atO op a st p) := by
  have hfp := fitB_parts hf
  have hp2 := popB_02 op
  have hq2 := pushB_01 op
  have hii := instrB_parts hi
  have hl : (restR op st).length = st.length - (popB op).toNat := by unfold restR; rw [List.length_take]; omega
  have hr : ∀ x ∈ restR op st, wideP x := fun x hx => v.ws x (List.mem_of_mem_take hx)
  have hw : ∀ x, intP x → wideP x := fun x h => ⟨by have := h.1; omega, by have := h.2; omega⟩
  have hv := v.lv
  have hz := v.lz
  have hno : ¬ cellStop op st ∧ ¬ rangeStop op a st := by
    unfold outO at ho
    split at ho; · omega
    split at ho; · omega
    split at ho; · omega
    rename_i h1 h2; exact ⟨h1, h2⟩
  have hnew : pushB op = 1 → wideP (newO op a vs zs st) := by
    intro hpb
    unfold newO
    split
    · rename_i e; subst e
      have := hii.2.2; simp [loB, hiB] at this
      exact ⟨by omega, by omega⟩
    split
    · rename_i e; subst e
      have := hii.2.2; simp [loB, hiB] at this
      exact hw _ (v.iv _ (mem_getD (by omega)))
    split
    · rename_i e; subst e
      exact Decidable.byContradiction fun h => hno.2 (.inl ⟨rfl, h⟩)
    split
    · rename_i e; subst e
      have hnf : ¬ farR (topR 4 st) a := fun h => hno.2 (.inr (.inl ⟨rfl, h⟩))
      by_cases ha : a = 0
      · subst ha; rw [Int.mul_zero]; exact ⟨by omega, by omega⟩
      · have h1 : ¬ absR (topR 4 st) > 10000000000000000 / absR a := fun h => hnf ⟨ha, h⟩
        have h2 : 1 ≤ absR a := by unfold absR; split <;> omega
        have h3 : absR (topR 4 st) ≤ 10000000000000000 / absR a := by omega
        have h4 : absR (topR 4 st) * absR a ≤ 10000000000000000 := by
          have := Int.mul_le_of_le_ediv (by omega) h3
          omega
        generalize topR 4 st = t at *
        unfold absR at h4
        split at h4 <;> split at h4 <;> (try simp only [Int.neg_mul, Int.mul_neg, Int.neg_neg] at h4) <;> refine ⟨?_, ?_⟩
        · have : 0 ≤ (-t) * (-a) := Int.mul_nonneg (by omega) (by omega)
          simp only [Int.neg_mul, Int.mul_neg, Int.neg_neg] at this; omega
        · omega
        · omega
        · have : 0 ≤ (-t) * a := Int.mul_nonneg (by omega) (by omega)
          simp only [Int.neg_mul] at this; omega
        · omega
        · have : 0 ≤ t * (-a) := Int.mul_nonneg (by omega) (by omega)
          simp only [Int.mul_neg] at this; omega
        · have : 0 ≤ t * a := Int.mul_nonneg (by omega) (by omega)
          omega
        · omega
    · rename_i e0 e1 e3 e4
      have e7 : op = 7 := by unfold pushB at hpb; split at hpb <;> omega
      subst e7
      have hc : 0 ≤ topR 7 st ∧ topR 7 st ≤ 7 := Decidable.byContradiction fun h => hno.1 (.inl ⟨rfl, h⟩)
      exact hw _ (v.iz _ (mem_getD (by omega)))
  have hint : (op = 2 ∨ op = 8) → intP (topR op st) := fun e => Decidable.byContradiction fun h => hno.2 (.inr (.inr ⟨e, h⟩))
  refine ⟨?_, ?_, ?_, ?_, ?_, ?_, ?_, ?_⟩
  · unfold varsO; split <;> simp [v.lv]
  · unfold cellsO; split <;> simp [v.lz]
  · unfold stO; split <;> simp only [List.length_append, List.length_singleton, hl] <;> omega
  · unfold varsO; split
    · exact set_mem v.iv (hint (.inl (by assumption)))
    · exact v.iv
  · unfold cellsO; split
    · exact set_mem v.iz (hint (.inr (by assumption)))
    · exact v.iz
  · unfold stO; split
    · intro x hx
      rcases List.mem_append.1 hx with hx | hx
      · exact hr x hx
      · obtain rfl : x = newO op a vs zs st := by simpa using hx
        exact hnew (by assumption)
    · exact hr
  · unfold atO; split
    · have := hii.2.2.1; unfold loB at this; split at this <;> rename_i e _ <;> omega
    · have := v.p0; omega
  · unfold atO; split
    · rename_i e
      have := hii.2.2.2; unfold hiB at this
      have e' : op = 5 ∨ op = 6 := by rcases e with e | e <;> omega
      rcases e' with rfl | rfl <;> simp at this <;> omega
    · omega
end Go.Proofs.YtffkdidgfeknkaaDoor

/-! Runs of code, told by numbers: step after step, the places of what is executed, how often each is, and the events. No conditions. -/
namespace Go.Proofs.YtffkdidgfeknkaaDoor
set_option linter.unusedVariables false
open Go.RowKit

/-- How a step of a config stops. -/
def outN (cs : List (Int × Int)) (st : List Int) (p : Int) : Int :=
  match cs[p.toNat]? with
  | none => 5
  | some x => if fitB x.1 (st.length : Int) = true then outO x.1 x.2 st else 5
/-- Variables, cells, stack and place. -/
abbrev Cf := List Int × List Int × List Int × Int
def nextN (cs : List (Int × Int)) (c : Cf) : Cf :=
  match cs[c.2.2.2.toNat]? with
  | none => c
  | some x => (varsO x.1 x.2 c.1 c.2.2.1, cellsO x.1 c.2.1 c.2.2.1, stO x.1 x.2 c.1 c.2.1 c.2.2.1, atO x.1 x.2 c.2.2.1 c.2.2.2)
def outC (cs : List (Int × Int)) (c : Cf) : Int := outN cs c.2.2.1 c.2.2.2
/-- The config that a step gives. -/
def behN (cs : List (Int × Int)) (c : Cf) : Cf := if outC cs c = 0 then nextN cs c else c
def CfC (c : Cf) : Prop := CfV c.1 c.2.1 c.2.2.1 c.2.2.2
def endO (o : Int) : Int := if o = 6 then 0 else o
/-- The last config, the places executed, and how a run with so much fuel ends. -/
def runN (cs : List (Int × Int)) : Nat → Cf → Cf × List Int × Int
  | 0, c => (c, [], 1)
  | f + 1, c => if outC cs c = 0 then ((runN cs f (nextN cs c)).1, c.2.2.2 :: (runN cs f (nextN cs c)).2.1, (runN cs f (nextN cs c)).2.2) else (c, [], endO (outC cs c))

section
variable {cs : List (Int × Int)} {vs zs st : List Int} {p : Int} {c : Cf} {f : Nat}
theorem outN_some {x : Int × Int} (h : cs[p.toNat]? = some x) : outN cs st p = if fitB x.1 (st.length : Int) = true then outO x.1 x.2 st else 5 := by unfold outN; rw [h]
theorem outN_beyond (h : (cs.length : Int) ≤ p) : outN cs st p = 5 := by
  unfold outN
  rw [List.getElem?_eq_none (by omega)]
theorem outN_fit {x : Int × Int} (h : cs[p.toNat]? = some x) (hf : fitB x.1 (st.length : Int) = true) : outN cs st p = outO x.1 x.2 st := by rw [outN_some h, if_pos hf]
theorem outN_unfit {x : Int × Int} (h : cs[p.toNat]? = some x) (hf : fitB x.1 (st.length : Int) = false) : outN cs st p = 5 := by rw [outN_some h, if_neg (by rw [hf]; simp)]
theorem nextN_some {x : Int × Int} (h : cs[p.toNat]? = some x) : nextN cs (vs, zs, st, p) = (varsO x.1 x.2 vs st, cellsO x.1 zs st, stO x.1 x.2 vs zs st, atO x.1 x.2 st p) := by
  unfold nextN; simp only; rw [h]
/-- A step that doesn't stop is one of an instruction for which the stack fits. -/
theorem outC_parts (h : outC cs c = 0) (hv : CfC c) : c.2.2.2 < cs.length ∧ ∃ x, cs[c.2.2.2.toNat]? = some x ∧ fitB x.1 (c.2.2.1.length : Int) = true ∧ outO x.1 x.2 c.2.2.1 = 0 := by
  unfold outC outN at h
  have h0 := hv.p0
  cases e : cs[c.2.2.2.toNat]? with
  | none => rw [e] at h; simp at h
  | some x =>
    rw [e] at h
    have hl := (List.getElem?_eq_some_iff.1 e).1
    simp only at h
    split at h
    · exact ⟨by omega, x, rfl, by assumption, h⟩
    · omega
theorem CfC.next (hv : CfC c) (hc : codeB cs = true) (h : outC cs c = 0) : CfC (nextN cs c) := by
  obtain ⟨h1, x, hx, hf, ho⟩ := outC_parts h hv
  obtain ⟨vs, zs, st, p⟩ := c
  rw [nextN_some hx]
  have hk := (codeB_parts hc).2.1
  have h1' : p < (cs.length : Int) := h1
  exact CfV.step hv (codeB_at hc hx) hf ho (by show p < 80; omega)
theorem runN_zero : runN cs 0 c = (c, [], 1) := rfl
theorem runN_go (h : outC cs c = 0) : runN cs (f + 1) c = ((runN cs f (nextN cs c)).1, c.2.2.2 :: (runN cs f (nextN cs c)).2.1, (runN cs f (nextN cs c)).2.2) := by
  show (if outC cs c = 0 then _ else _) = _
  rw [if_pos h]
theorem runN_stop (h : outC cs c ≠ 0) : runN cs (f + 1) c = (c, [], endO (outC cs c)) := by
  show (if outC cs c = 0 then _ else _) = _
  rw [if_neg h]
/-- What is executed are places of the code. -/
theorem runN_places (hc : codeB cs = true) : ∀ (f : Nat) (c : Cf), CfC c → (runN cs f c).2.1.length ≤ f ∧ ∀ k ∈ (runN cs f c).2.1, 0 ≤ k ∧ k < (cs.length : Int)
  | 0, c, hv => ⟨Nat.le_refl _, fun k hk => by cases hk⟩
  | f + 1, c, hv => by
    by_cases h : outC cs c = 0
    · rw [runN_go h]
      obtain ⟨h1, _⟩ := outC_parts h hv
      obtain ⟨i1, i2⟩ := runN_places hc f (nextN cs c) (hv.next hc h)
      refine ⟨by simp; omega, fun k hk => ?_⟩
      rcases List.mem_cons.1 hk with rfl | hk
      · exact ⟨hv.p0, h1⟩
      · exact i2 k hk
    · rw [runN_stop h]
      exact ⟨Nat.zero_le _, fun k hk => by cases hk⟩
theorem runN_valid (hc : codeB cs = true) : ∀ (f : Nat) (c : Cf), CfC c → CfC (runN cs f c).1
  | 0, c, hv => hv
  | f + 1, c, hv => by
    by_cases h : outC cs c = 0
    · rw [runN_go h]; exact runN_valid hc f _ (hv.next hc h)
    · rw [runN_stop h]; exact hv
end

/-- One more at a place. -/
def bump (l : List Int) (k : Int) : List Int := l.set k.toNat (l.getD k.toNat 0 + 1)
def countR (n : Nat) (ks : List Int) : List Int := ks.foldl bump (List.replicate n 0)
theorem bump_len (l : List Int) (k : Int) : (bump l k).length = l.length := by unfold bump; simp
theorem foldl_bump_len (ks : List Int) : ∀ l : List Int, (ks.foldl bump l).length = l.length := by
  induction ks with
  | nil => intro l; rfl
  | cons k ks ih => intro l; rw [List.foldl_cons, ih, bump_len]
theorem countR_len (n : Nat) (ks : List Int) : (countR n ks).length = n := by unfold countR; rw [foldl_bump_len]; simp
theorem bump_bound {l : List Int} {m k : Int} (h : ∀ x ∈ l, 0 ≤ x ∧ x ≤ m) (hm : 0 ≤ m) : ∀ x ∈ bump l k, 0 ≤ x ∧ x ≤ m + 1 := by
  intro x hx
  unfold bump at hx
  rcases List.mem_or_eq_of_mem_set hx with hx | rfl
  · have := h x hx; omega
  · rcases Nat.lt_or_ge k.toNat l.length with hl | hl
    · have := h _ (mem_getD hl); omega
    · rw [List.getD_eq_getElem?_getD, List.getElem?_eq_none hl]; simp; omega
theorem foldl_bump_bound (ks : List Int) : ∀ (l : List Int) (m : Int), (∀ x ∈ l, 0 ≤ x ∧ x ≤ m) → 0 ≤ m → ∀ x ∈ ks.foldl bump l, 0 ≤ x ∧ x ≤ m + ks.length := by
  induction ks with
  | nil => intro l m h hm x hx; have := h x hx; simpa using this
  | cons k ks ih =>
    intro l m h hm x hx
    rw [List.foldl_cons] at hx
    have := ih (bump l k) (m + 1) (bump_bound h hm) (by omega) x hx
    simp only [List.length_cons]
    omega
theorem countR_bound {n : Nat} {ks : List Int} : ∀ x ∈ countR n ks, 0 ≤ x ∧ x ≤ ks.length := by
  intro x hx
  have := foldl_bump_bound ks (List.replicate n 0) 0 (by intro y hy; have := List.eq_of_mem_replicate hy; omega) (Int.le_refl _) x hx
  omega
theorem countR_snoc (n : Nat) (ks : List Int) (k : Int) : countR n (ks ++ [k]) = bump (countR n ks) k := by unfold countR; rw [List.foldl_append]; rfl
/-- The events of the places executed. -/
def evR (cs : List (Int × Int)) (ks : List Int) : List Int := ks.flatMap fun k => match cs[k.toNat]? with | none => [] | some x => if x.1 = 9 then [x.2] else []
theorem evR_snoc (cs : List (Int × Int)) (ks : List Int) (k : Int) : evR cs (ks ++ [k]) = evR cs ks ++ (match cs[k.toNat]? with | none => [] | some x => if x.1 = 9 then [x.2] else []) := by
  unfold evR; rw [List.flatMap_append]; congr 1; simp
theorem evR_yes {cs : List (Int × Int)} {ks : List Int} {k : Int} {x : Int × Int} (h : cs[k.toNat]? = some x) (e : x.1 = 9) : evR cs (ks ++ [k]) = evR cs ks ++ [x.2] := by rw [evR_snoc, h]; simp only; rw [if_pos e]
theorem evR_no {cs : List (Int × Int)} {ks : List Int} {k : Int} {x : Int × Int} (h : cs[k.toNat]? = some x) (e : x.1 ≠ 9) : evR cs (ks ++ [k]) = evR cs ks := by rw [evR_snoc, h]; simp only; rw [if_neg e, List.append_nil]
theorem evR_len (cs : List (Int × Int)) (ks : List Int) : (evR cs ks).length ≤ ks.length := by
  induction ks with
  | nil => simp [evR]
  | cons k ks ih =>
    have e : evR cs (k :: ks) = (match cs[k.toNat]? with | none => [] | some x => if x.1 = 9 then [x.2] else []) ++ evR cs ks := by unfold evR; rw [List.flatMap_cons]
    rw [e, List.length_append, List.length_cons]
    split
    · simp; omega
    · split <;> simp <;> omega
end Go.Proofs.YtffkdidgfeknkaaDoor

/-! Valid states: the model's test and the program's. Conditions: at most 2^20 numbers. -/
namespace Go.Proofs.YtffkdidgfeknkaaDoor
set_option linter.unusedVariables false
open Go.RowKit

/-- So many numbers from -1000000000 to 1000000000. -/
def numsB (k : Nat) (vs : List Int) : Bool := decide (vs.length = k) && btw (-1000000000) 1000000000 vs
theorem numsB_len {k : Nat} {vs : List Int} (h : vs.length ≠ k) : numsB k vs = false := by unfold numsB; rw [decide_eq_false h]; rfl
theorem numsB_btw {k : Nat} {vs : List Int} (h : btw (-1000000000) 1000000000 vs = false) : numsB k vs = false := by unfold numsB; rw [h]; simp
theorem numsB_is {k : Nat} {vs : List Int} (h : vs.length = k) : numsB k vs = btw (-1000000000) 1000000000 vs := by unfold numsB; rw [decide_eq_true h]; rfl
theorem numsB_parts {k : Nat} {vs : List Int} (h : numsB k vs = true) : vs.length = k ∧ ∀ z ∈ vs, -1000000000 ≤ z ∧ z ≤ 1000000000 := by
  unfold numsB at h
  simp only [Bool.and_eq_true, decide_eq_true_eq] at h
  exact ⟨h.1, btw_in h.2⟩
/-- A valid state. -/
def stB (zs ys : List Int) : Bool := numsB 4 zs && numsB 8 ys
theorem stB_no {zs ys : List Int} (h : numsB 4 zs = false) : stB zs ys = false := by unfold stB; rw [h]; rfl
theorem stB_no2 {zs ys : List Int} (h : numsB 8 ys = false) : stB zs ys = false := by unfold stB; rw [h]; simp
theorem stB_is {zs ys : List Int} (h : numsB 4 zs = true) : stB zs ys = numsB 8 ys := by unfold stB; rw [h]; rfl

set_option maxRecDepth 100000 in
set_option maxHeartbeats 1000000 in
theorem implState_c (A : Option Addr) (n c B : Nat) (zs : List Int) (D : Option Addr) (m d : Nat) (ys : List Int) (w : World) (h : InL w B A n zs) (hl : InL w B D m ys) (hB : B ≤ w.heap.size) (hn : n ≤ 1048576) (hm : m ≤ 1048576) :
    Calls Tryd.prog 89 #[.agg #[.slice A n c, .slice D m d]] w fun e w' => e = .returned (.bool (stB zs ys)) ∧ Below w.heap.size w w' := by
  have hb0 := bnew w (.cells #[.slice A n c, .slice D m d] 46)
  have p0 : (w.alloc (.cells #[.slice A n c, .slice D m d] 46)).cell? ⟨w.heap.size, 0, none⟩ = some (.slice A n c) := by simp
  have p1 : (w.alloc (.cells #[.slice A n c, .slice D m d] 46)).cell? ⟨w.heap.size, 1, none⟩ = some (.slice D m d) := by simp
  have h1 := h.next hb0 hB
  have h2 := hl.next hb0 hB
  have hz := Lib.hid h.1
  have hy := Lib.hid hl.1
  clear h hl
  by_cases hn4 : n = 4
  · by_cases hm8 : m = 8
    · have HA := Lib.hid (areBetween_c A n c B (-1000000000) 1000000000 zs _ h1.2 h1.1 hn)
      have HI := Lib.hid (areBetween_c D m d B (-1000000000) 1000000000 ys _ h2.2 h2.1 hm)
      have E4 := Lib.hid (numsB_is (k := 4) (vs := zs) (by have := hz.out; omega))
      have E8 := Lib.hid (numsB_is (k := 8) (vs := ys) (by have := hy.out; omega))
      have e1 : ((n : Int) == 4) = true := by simp; omega
      have e2 : ((m : Int) == 8) = true := by simp; omega
      clear hn4 hm8 h1 h2
      cases hv : btw (-1000000000) 1000000000 zs with
      | true =>
        have HV : Hid (stB zs ys = btw (-1000000000) 1000000000 ys) := (stB_is (E4.out.trans hv)).trans E8.out
        rw [hv] at HA
        clear hv
        go_enter Tryd.func89, Tryd.ntmps89
        go_wp2_with fail
        generalize w.alloc (.cells #[.slice A n c, .slice D m d] 46) = W at hb0 p0 p1 HA HI ⊢
        refine HA.out.mono ?_
        rintro e w1 ⟨rfl, rfl⟩
        go_wp2_with fail
        refine HI.out.mono ?_
        rintro e w1 ⟨rfl, rfl⟩
        go_wp2_with fail
        go_ret
        exact ⟨ret_bool HV.out.symm, hb0⟩
      | false =>
        have HV : Hid (stB zs ys = false) := stB_no (E4.out.trans hv)
        rw [hv] at HA
        clear hv
        go_enter Tryd.func89, Tryd.ntmps89
        go_wp2_with fail
        generalize w.alloc (.cells #[.slice A n c, .slice D m d] 46) = W at hb0 p0 p1 HA HI ⊢
        refine HA.out.mono ?_
        rintro e w1 ⟨rfl, rfl⟩
        go_wp2_with fail
        go_ret
        exact ⟨ret_bool HV.out.symm, hb0⟩
    · have HV : Hid (stB zs ys = false) := stB_no2 (numsB_len (by have := hy.out; omega))
      have e1 : ((n : Int) == 4) = true := by simp; omega
      have e2 : ((m : Int) == 8) = false := by simp; omega
      clear h1 h2 hn4
      go_enter Tryd.func89, Tryd.ntmps89
      go_wp2_with fail
      go_ret
      exact ⟨ret_bool HV.out.symm, hb0⟩
  · have HV : Hid (stB zs ys = false) := stB_no (numsB_len (by have := hz.out; omega))
    have e1 : ((n : Int) == 4) = false := by simp; omega
    clear h1 h2
    go_enter Tryd.func89, Tryd.ntmps89
    go_wp2_with fail
    go_ret
    exact ⟨ret_bool HV.out.symm, hb0⟩
end Go.Proofs.YtffkdidgfeknkaaDoor

/-! Runs of code, step after step: what is known when so many steps are made. No conditions. -/
namespace Go.Proofs.YtffkdidgfeknkaaDoor
set_option linter.unusedVariables false
open Go.RowKit

/-- Behind i steps of a run with fuel F the config is d, and the places ks have been executed. -/
def RunTo (cs : List (Int × Int)) (F : Nat) (c : Cf) (i : Nat) (d : Cf) (ks : List Int) : Prop :=
  i ≤ F ∧ ks.length = i ∧ CfC d ∧ (∀ k ∈ ks, 0 ≤ k ∧ k < (cs.length : Int)) ∧ runN cs F c = ((runN cs (F - i) d).1, ks ++ (runN cs (F - i) d).2.1, (runN cs (F - i) d).2.2)
section
variable {cs : List (Int × Int)} {F i : Nat} {c d : Cf} {ks : List Int}
theorem RunTo.zero (hv : CfC c) : RunTo cs F c 0 c [] := ⟨Nat.zero_le _, rfl, hv, (fun k hk => by cases hk), by rw [Nat.sub_zero]; simp⟩
theorem RunTo.go (h : RunTo cs F c i d ks) (hc : codeB cs = true) (hi : i < F) (ho : outC cs d = 0) : RunTo cs F c (i + 1) (nextN cs d) (ks ++ [d.2.2.2]) := by
  obtain ⟨h1, h2, h3, h4, h5⟩ := h
  have h3' := outC_parts ho h3
  have hp := h3.p0
  refine ⟨by omega, by simp [h2], h3.next hc ho, fun k hk => ?_, ?_⟩
  · rcases List.mem_append.1 hk with hk | hk
    · exact h4 k hk
    · obtain rfl : k = d.2.2.2 := by simpa using hk
      exact ⟨hp, h3'.1⟩
  · have e : F - i = (F - (i + 1)) + 1 := by omega
    rw [h5, e, runN_go ho]
    simp
theorem RunTo.stop (h : RunTo cs F c i d ks) (hi : i < F) (ho : outC cs d ≠ 0) : runN cs F c = (d, ks, endO (outC cs d)) := by
  obtain ⟨h1, h2, h3, h4, h5⟩ := h
  have e : F - i = (F - (i + 1)) + 1 := by omega
  rw [h5, e, runN_stop ho]
  simp
theorem RunTo.fin (h : RunTo cs F c F d ks) : runN cs F c = (d, ks, 1) := by
  obtain ⟨h1, h2, h3, h4, h5⟩ := h
  rw [h5, Nat.sub_self, runN_zero]
  simp
end
/-- What RunCode and CountCode give. -/
def fuelB (f : Int) : Bool := decide (0 ≤ f) && decide (f ≤ 2000)
def runB (cs : List (Int × Int)) (vs zs : List Int) (f : Int) : Bool := codeB cs && (stB vs zs && fuelB f)
def c0R (vs zs : List Int) : Cf := (vs, zs, [], 0)
def runR (cs : List (Int × Int)) (vs zs : List Int) (f : Int) : (List Int × List Int) × List Int × Int × Bool :=
  if runB cs vs zs f = true then (((runN cs f.toNat (c0R vs zs)).1.1, (runN cs f.toNat (c0R vs zs)).1.2.1), evR cs (runN cs f.toNat (c0R vs zs)).2.1, (runN cs f.toNat (c0R vs zs)).2.2, true) else (([], []), [], 0, false)
def cntR (cs : List (Int × Int)) (vs zs : List Int) (f : Int) : List Int × Bool :=
  if runB cs vs zs f = true then (countR cs.length (runN cs f.toNat (c0R vs zs)).2.1, true) else ([], false)
section
variable {cs : List (Int × Int)} {vs zs : List Int} {f : Int}
theorem runR_yes (h : runB cs vs zs f = true) : runR cs vs zs f = (((runN cs f.toNat (c0R vs zs)).1.1, (runN cs f.toNat (c0R vs zs)).1.2.1), evR cs (runN cs f.toNat (c0R vs zs)).2.1, (runN cs f.toNat (c0R vs zs)).2.2, true) := if_pos h
theorem runR_no (h : runB cs vs zs f = false) : runR cs vs zs f = (([], []), [], 0, false) := if_neg (by rw [h]; simp)
theorem cntR_yes (h : runB cs vs zs f = true) : cntR cs vs zs f = (countR cs.length (runN cs f.toNat (c0R vs zs)).2.1, true) := if_pos h
theorem cntR_no (h : runB cs vs zs f = false) : cntR cs vs zs f = ([], false) := if_neg (by rw [h]; simp)
end
end Go.Proofs.YtffkdidgfeknkaaDoor

/-! Where blocks of code begin: pure. No conditions. -/
namespace Go.Proofs.YtffkdidgfeknkaaDoor
set_option linter.unusedVariables false

def plcB (x : Int × Int) : Bool := decide (x.1 = 5 ∨ x.1 = 6)
def endB (x : Int × Int) : Bool := plcB x || decide (x.1 = 11)
/-- One more instruction, at place k of n: the model's list. -/
def led1 (n : Nat) (k : Nat) (x : Int × Int) (o : List Int) : List Int :=
  let o1 := if plcB x = true ∧ x.2 < n then putR x.2 o else o
  if endB x = true ∧ (k : Int) + 1 < n then putR ((k : Int) + 1) o1 else o1
def ledTo (xs : List (Int × Int)) : Nat → List Int
  | 0 => [0]
  | k + 1 => led1 xs.length k (xs.getD k (0, 0)) (ledTo xs k)
/-- The program's numbers, in the order in which they come. -/
def raw1 (k : Nat) (x : Int × Int) : List Int := (if plcB x = true then [x.2] else []) ++ (if endB x = true then [(k : Int) + 1] else [])
def rawTo (xs : List (Int × Int)) : Nat → List Int
  | 0 => [0]
  | k + 1 => rawTo xs k ++ raw1 k (xs.getD k (0, 0))
theorem getD_led {xs : List (Int × Int)} {k : Nat} {x : Int × Int} (h : xs[k]? = some x) : xs.getD k (0, 0) = x := by rw [List.getD_eq_getElem?_getD, h]; rfl
theorem ledTo_succ {xs : List (Int × Int)} {k : Nat} {x : Int × Int} (h : xs[k]? = some x) : ledTo xs (k + 1) = led1 xs.length k x (ledTo xs k) := by rw [ledTo, getD_led h]
theorem rawTo_succ {xs : List (Int × Int)} {k : Nat} {x : Int × Int} (h : xs[k]? = some x) : rawTo xs (k + 1) = rawTo xs k ++ raw1 k x := by rw [rawTo, getD_led h]
theorem led1_ok {n k : Nat} {x : Int × Int} {o : List Int} (h : o.Pairwise (· < ·)) : (led1 n k x o).Pairwise (· < ·) ∧ ∀ z, z ∈ led1 n k x o ↔ z ∈ o ∨ (z ∈ raw1 k x ∧ z < n) := by
  have h1 : (if plcB x = true ∧ x.2 < n then putR x.2 o else o).Pairwise (· < ·) ∧ ∀ z, z ∈ (if plcB x = true ∧ x.2 < n then putR x.2 o else o) ↔ z ∈ o ∨ (z ∈ (if plcB x = true then [x.2] else []) ∧ z < n) := by
    by_cases hp : plcB x = true
    · by_cases hn : x.2 < n
      · rw [if_pos ⟨hp, hn⟩, if_pos hp]
        obtain ⟨a, b⟩ := putR_ok (x := x.2) h
        refine ⟨a, fun z => (b z).trans ⟨fun e => e.imp_right fun e => ?_, fun e => e.imp_right fun e => ?_⟩⟩
        · subst e; exact ⟨by simp, hn⟩
        · have := e.1; simpa using this
      · rw [if_neg (fun e => hn e.2), if_pos hp]
        refine ⟨h, fun z => ⟨.inl, fun e => e.elim id fun e => ?_⟩⟩
        have := e.1; simp at this; subst this; exact absurd e.2 hn
    · rw [if_neg (fun e => hp e.1), if_neg hp]
      exact ⟨h, fun z => ⟨.inl, fun e => e.elim id fun e => by have := e.1; simp at this⟩⟩
  unfold led1 raw1
  show (if endB x = true ∧ (k : Int) + 1 < n then putR ((k : Int) + 1) (if plcB x = true ∧ x.2 < n then putR x.2 o else o) else (if plcB x = true ∧ x.2 < n then putR x.2 o else o)).Pairwise (· < ·) ∧ _
  generalize (if plcB x = true ∧ x.2 < n then putR x.2 o else o) = o1 at h1 ⊢
  by_cases he : endB x = true
  · by_cases hn : (k : Int) + 1 < n
    · rw [if_pos ⟨he, hn⟩, if_pos he]
      obtain ⟨a, b⟩ := putR_ok (x := (k : Int) + 1) h1.1
      refine ⟨a, fun z => ?_⟩
      rw [b z, h1.2 z, List.mem_append, List.mem_singleton]
      constructor
      · rintro ((e | e) | e)
        · exact .inl e
        · exact .inr ⟨.inl e.1, e.2⟩
        · subst e; exact .inr ⟨.inr rfl, hn⟩
      · rintro (e | ⟨e | e, e2⟩)
        · exact .inl (.inl e)
        · exact .inl (.inr ⟨e, e2⟩)
        · exact .inr e
    · rw [if_neg (fun e => hn e.2), if_pos he]
      refine ⟨h1.1, fun z => ?_⟩
      rw [h1.2 z, List.mem_append, List.mem_singleton]
      constructor
      · rintro (e | e)
        · exact .inl e
        · exact .inr ⟨.inl e.1, e.2⟩
      · rintro (e | ⟨e | e, e2⟩)
        · exact .inl e
        · exact .inr ⟨e, e2⟩
        · subst e; exact absurd e2 hn
  · rw [if_neg (fun e => he e.1), if_neg he]
    refine ⟨h1.1, fun z => ?_⟩
    rw [h1.2 z, List.append_nil]
theorem ledTo_ok (xs : List (Int × Int)) (hx : 0 < xs.length) : ∀ k, (ledTo xs k).Pairwise (· < ·) ∧ ∀ z, z ∈ ledTo xs k ↔ z ∈ rawTo xs k ∧ z < xs.length
  | 0 => ⟨by simp [ledTo], fun z => by simp [ledTo, rawTo]; intro e; subst e; omega⟩
  | k + 1 => by
    obtain ⟨a, b⟩ := ledTo_ok xs hx k
    obtain ⟨c, d⟩ := led1_ok (n := xs.length) (k := k) (x := xs.getD k (0, 0)) a
    refine ⟨c, fun z => ?_⟩
    show z ∈ led1 xs.length k (xs.getD k (0, 0)) (ledTo xs k) ↔ z ∈ rawTo xs k ++ raw1 k (xs.getD k (0, 0)) ∧ _
    rw [d z, b z, List.mem_append]
    constructor
    · rintro (e | e)
      · exact ⟨.inl e.1, e.2⟩
      · exact ⟨.inr e.1, e.2⟩
    · rintro ⟨e | e, e2⟩
      · exact .inl ⟨e, e2⟩
      · exact .inr ⟨e, e2⟩
theorem led1_len (n k : Nat) (x : Int × Int) (o : List Int) : (led1 n k x o).length ≤ o.length + 2 := by
  unfold led1
  have h1 := putR_len x.2 o
  by_cases a : plcB x = true ∧ x.2 < n
  · simp only [if_pos a]
    by_cases b : endB x = true ∧ (k : Int) + 1 < n
    · rw [if_pos b]; have := putR_len ((k : Int) + 1) (putR x.2 o); omega
    · rw [if_neg b]; omega
  · simp only [if_neg a]
    by_cases b : endB x = true ∧ (k : Int) + 1 < n
    · rw [if_pos b]; have := putR_len ((k : Int) + 1) o; omega
    · rw [if_neg b]; omega
theorem ledTo_len (xs : List (Int × Int)) : ∀ k, (ledTo xs k).length ≤ 2 * k + 1
  | 0 => by simp [ledTo]
  | k + 1 => by
    have h1 := ledTo_len xs k
    have h2 := led1_len xs.length k (xs.getD k (0, 0)) (ledTo xs k)
    show (led1 xs.length k (xs.getD k (0, 0)) (ledTo xs k)).length ≤ _
    omega
/-- The rising list of some numbers. -/
def srt : List Int → List Int
  | [] => []
  | x :: l => putR x (srt l)
theorem srt_ok : ∀ l, (srt l).Pairwise (· < ·) ∧ ∀ z, z ∈ srt l ↔ z ∈ l
  | [] => ⟨by simp [srt], fun z => by simp [srt]⟩
  | x :: l => by
    obtain ⟨a, b⟩ := srt_ok l
    obtain ⟨c, d⟩ := putR_ok (x := x) a
    exact ⟨c, fun z => by show z ∈ putR x (srt l) ↔ _; rw [d z, b z, List.mem_cons, or_comm]⟩
theorem srt_len : ∀ l, (srt l).length ≤ l.length
  | [] => by simp [srt]
  | x :: l => by have := srt_len l; have := putR_len x (srt l); show (putR x (srt l)).length ≤ _; simp; omega
theorem rawTo_len (xs : List (Int × Int)) : ∀ k, (rawTo xs k).length ≤ 2 * k + 1
  | 0 => by simp [rawTo]
  | k + 1 => by
    have h1 := rawTo_len xs k
    show (rawTo xs k ++ raw1 k (xs.getD k (0, 0))).length ≤ _
    unfold raw1
    simp only [List.length_append]
    split <;> split <;> simp <;> omega
/-- What is not too great stands in front. -/
theorem rise_front {l : List Int} (h : l.Pairwise (· < ·)) (n : Int) : ∃ i, i ≤ l.length ∧ l.filter (fun z => decide (z < n)) = l.take i ∧ (∀ z ∈ l.take i, z < n) ∧ ∀ z ∈ l.drop i, n ≤ z := by
  induction l with
  | nil => exact ⟨0, by simp⟩
  | cons x l ih =>
    obtain ⟨hx, hl⟩ := List.pairwise_cons.1 h
    by_cases e : x < n
    · obtain ⟨i, h1, h2, h3, h4⟩ := ih hl
      refine ⟨i + 1, by simp; omega, by rw [List.filter_cons_of_pos (by simpa using e), h2, List.take_succ_cons], ?_, ?_⟩
      · intro z hz
        rw [List.take_succ_cons] at hz
        rcases List.mem_cons.1 hz with rfl | hz
        · exact e
        · exact h3 z hz
      · intro z hz
        rw [List.drop_succ_cons] at hz
        exact h4 z hz
    · refine ⟨0, by simp, ?_, by simp, ?_⟩
      · rw [List.take_zero, List.filter_eq_nil_iff]
        intro z hz
        rcases List.mem_cons.1 hz with rfl | hz
        · simpa using e
        · have := hx z hz; simp; omega
      · intro z hz
        rw [List.drop_zero] at hz
        rcases List.mem_cons.1 hz with rfl | hz
        · omega
        · have := hx z hz; omega
theorem led_is (xs : List (Int × Int)) (hx : 0 < xs.length) (k : Nat) : (srt (rawTo xs k)).filter (fun z => decide (z < (xs.length : Int))) = ledTo xs k := by
  obtain ⟨a, b⟩ := srt_ok (rawTo xs k)
  obtain ⟨c, d⟩ := ledTo_ok xs hx k
  refine rise_unique (a.filter _) c fun z => ?_
  rw [List.mem_filter, b z, d z]
  simp
def ledR (xs : List (Int × Int)) : List Int × Bool := if codeB xs = true then (ledTo xs xs.length, true) else ([], false)
theorem ledR_yes {xs : List (Int × Int)} (h : codeB xs = true) : ledR xs = (ledTo xs xs.length, true) := if_pos h
theorem ledR_no {xs : List (Int × Int)} (h : codeB xs = false) : ledR xs = ([], false) := if_neg (by rw [h]; simp)
theorem ledR_len (xs : List (Int × Int)) : (ledR xs).1.length ≤ 161 := by
  unfold ledR
  split
  · rename_i h; have := (codeB_parts h).2.1; have := ledTo_len xs xs.length; show (ledTo xs xs.length).length ≤ 161; omega
  · simp
end Go.Proofs.YtffkdidgfeknkaaDoor

/-! What runs of code with heights do, and which instructions are reached: pure. No conditions. -/
namespace Go.Proofs.YtffkdidgfeknkaaDoor
set_option linter.unusedVariables false

theorem RchP.in_tgt {xs : List (Int × Int)} (hc : codeB xs = true) {t : Int} (h : RchP xs (fun t => t = 0) t) : 0 ≤ t ∧ t ≤ 80 := by
  cases h with
  | base e => subst e; exact ⟨by omega, by omega⟩
  | @step j _ hj hjl htt =>
    have hy : xs[j]? = some xs[j] := List.getElem?_eq_getElem hjl
    have htt' : t ∈ tgt1 xs[j].1 xs[j].2 j := by unfold tgtN at htt; rw [List.getD_eq_getElem?_getD, hy] at htt; exact htt
    exact tgt_in hc j _ hy t htt'
/-- What is reached has a height in every good list. -/
theorem GoodH.reach {xs : List (Int × Int)} {K : List Int} (hc : codeB xs = true) (g : GoodH xs K) : ∀ t, RchP xs (fun t => t = 0) t → t < xs.length ∧ ∃ h, K[t.toNat]? = some h ∧ 0 ≤ h := by
  intro t ht
  induction ht with
  | base e =>
    subst e
    have h0 := g.zero
    have := (List.getElem?_eq_some_iff.1 h0).1
    exact ⟨by have := g.len; omega, 0, h0, by omega⟩
  | @step j t hj hjl htt ih =>
    obtain ⟨_, h, e, h0⟩ := ih
    rw [Int.toNat_natCast] at e
    obtain ⟨f, nx⟩ := g.step j h e h0
    obtain ⟨n1, n2⟩ := nx t htt
    exact ⟨n1, _, n2, f.ge⟩
/-- The least list has heights only where is reached. -/
theorem LeastH.reached {xs : List (Int × Int)} {L : List Int} (hc : codeB xs = true) (hL : LeastH xs L) (k : Nat) (h : Int) (e : L[k]? = some h) (h0 : 0 ≤ h) : RchP xs (fun t => t = 0) k := by
  have hat : ∀ j : Nat, ((List.range xs.length).map fun (j : Nat) => @ite Int (RchP xs (fun t => t = 0) j) (Classical.propDecidable _) (L.getD j 0) (-1))[j]? = if j < xs.length then some (@ite Int (RchP xs (fun t => t = 0) j) (Classical.propDecidable _) (L.getD j 0) (-1)) else none := by
    intro j
    rw [List.getElem?_map]
    by_cases hj : j < xs.length
    · rw [List.getElem?_range hj, if_pos hj]; rfl
    · rw [List.getElem?_eq_none (by simpa using hj), if_neg hj]; rfl
  have hLat : ∀ j : Nat, j < xs.length → L[j]? = some (L.getD j 0) := fun j hj => by
    rw [List.getD_eq_getElem?_getD, List.getElem?_eq_getElem (by rw [hL.good.len]; exact hj)]; rfl
  have hgood : GoodH xs ((List.range xs.length).map fun (j : Nat) => @ite Int (RchP xs (fun t => t = 0) j) (Classical.propDecidable _) (L.getD j 0) (-1)) := by
    have hz := hL.good.zero
    have hpos : 0 < xs.length := by have := (List.getElem?_eq_some_iff.1 hz).1; have := hL.good.len; omega
    refine ⟨by simp, ?_, fun z hz => ?_, fun j g hj hg => ?_⟩
    · rw [hat 0, if_pos hpos, if_pos (show RchP xs (fun t => t = 0) ((0 : Nat) : Int) from .base rfl), ← hLat 0 hpos, hz]
    · obtain ⟨j, hj, rfl⟩ := List.mem_map.1 hz
      have hjl : j < xs.length := by simpa using hj
      by_cases hr : RchP xs (fun t => t = 0) j
      · rw [if_pos hr]
        exact hL.good.low _ (List.mem_of_getElem? (hLat j hjl))
      · rw [if_neg hr]; omega
    · rw [hat j] at hj
      by_cases hjl : j < xs.length
      · rw [if_pos hjl] at hj
        by_cases hr : RchP xs (fun t => t = 0) j
        · rw [if_pos hr, ← hLat j hjl] at hj
          obtain ⟨f, nx⟩ := hL.good.step j g hj hg
          refine ⟨f, fun t ht => ?_⟩
          obtain ⟨n1, n2⟩ := nx t ht
          have hrt : RchP xs (fun t => t = 0) t := .step hr hjl ht
          have ht0 := (hrt.in_tgt hc).1
          have hrt' : RchP xs (fun t => t = 0) ((t.toNat : Nat) : Int) := by rw [Int.toNat_of_nonneg ht0]; exact hrt
          refine ⟨n1, ?_⟩
          rw [hat t.toNat, if_pos (by omega), if_pos hrt', ← hLat t.toNat (by omega), n2]
        · rw [if_neg hr] at hj
          have := Option.some.inj hj
          omega
      · rw [if_neg hjl] at hj; cases hj
  have hk := hL.under _ hgood k h e h0
  rw [hat k] at hk
  by_cases hkl : k < xs.length
  · rw [if_pos hkl] at hk
    by_cases hr : RchP xs (fun t => t = 0) k
    · exact hr
    · rw [if_neg hr] at hk
      have := Option.some.inj hk
      omega
  · rw [if_neg hkl] at hk; cases hk

/-! Steps go to targets, and what lies on the stack is as high as it is told. -/
theorem outO_ne5 (op a : Int) (st : List Int) : outO op a st ≠ 5 := by
  unfold outO
  split
  · omega
  · split
    · omega
    · split
      · omega
      · split <;> omega
theorem outO_halt {op a : Int} {st : List Int} (h : outO op a st = 0) : op ≠ 11 := by
  intro e
  unfold outO at h
  rw [if_pos e] at h
  omega
theorem atO_tgt {op a : Int} {st : List Int} {k : Nat} (h : op ≠ 11) : atO op a st k ∈ tgt1 op a k := by
  unfold atO
  by_cases h5 : op = 5
  · subst h5
    rw [if_pos (.inl rfl), tgt1_jump]; simp
  · by_cases h6 : op = 6
    · subst h6
      rw [tgt1_test, putR_one_mem]
      split
      · exact .inr rfl
      · exact .inl rfl
    · rw [tgt1_else h h5 h6, if_neg (fun e => by rcases e with e | e; exact h5 e; exact h6 e.1)]; simp
theorem stO_len {op a : Int} {vs zs st : List Int} (hf : popB op ≤ (st.length : Int)) : ((stO op a vs zs st).length : Int) = st.length - popB op + pushB op := by
  have h1 := popB_02 op
  have h2 := pushB_01 op
  unfold stO restR
  split
  · rename_i e
    rw [List.length_append, List.length_take, e]
    simp
    omega
  · rename_i e
    rw [List.length_take]
    omega
section
variable {cs : List (Int × Int)} {c : Cf}
theorem nextN_tgt (hv : CfC c) (ho : outC cs c = 0) : c.2.2.2.toNat < cs.length ∧ (nextN cs c).2.2.2 ∈ tgtN cs c.2.2.2.toNat := by
  obtain ⟨hl, x, hx, hf, hO⟩ := outC_parts ho hv
  obtain ⟨cv, cz, cst, cp⟩ := c
  have hp0 : 0 ≤ cp := hv.p0
  dsimp only at hl hx hf hO ⊢
  refine ⟨by omega, ?_⟩
  rw [nextN_some hx]
  show atO x.1 x.2 cst cp ∈ _
  unfold tgtN
  rw [List.getD_eq_getElem?_getD, hx]
  have := atO_tgt (a := x.2) (st := cst) (k := cp.toNat) (outO_halt hO)
  rw [Int.toNat_of_nonneg hp0] at this
  rw [Int.toNat_of_nonneg hp0]
  exact this
theorem run_reached (hc : codeB cs = true) : ∀ (f : Nat) (c : Cf), CfC c → RchP cs (fun t => t = 0) c.2.2.2 → ∀ k ∈ (runN cs f c).2.1, RchP cs (fun t => t = 0) k
  | 0, c, hv, hr => fun k hk => by rw [runN_zero] at hk; cases hk
  | f + 1, c, hv, hr => fun k hk => by
    by_cases ho : outC cs c = 0
    · rw [runN_go ho] at hk
      rcases List.mem_cons.1 hk with rfl | hk
      · exact hr
      · obtain ⟨h1, h2⟩ := nextN_tgt hv ho
        have hp0 : 0 ≤ c.2.2.2 := hv.p0
        have hr' : RchP cs (fun t => t = 0) ((c.2.2.2.toNat : Nat) : Int) := by rw [Int.toNat_of_nonneg hp0]; exact hr
        exact run_reached hc f _ (hv.next hc ho) (.step hr' h1 h2) k hk
    · rw [runN_stop ho] at hk; cases hk
/-- The stack is as high as the heights tell. -/
def AtH (cs : List (Int × Int)) (L : List Int) (c : Cf) : Prop := c.2.2.2 < cs.length ∧ L[c.2.2.2.toNat]? = some (c.2.2.1.length : Int)
theorem run_heights {L : List Int} (hc : codeB cs = true) (g : GoodH cs L) : ∀ (f : Nat) (c : Cf), CfC c → AtH cs L c → (runN cs f c).2.2 ≠ 5
  | 0, c, hv, hA => by rw [runN_zero]; show (1 : Int) ≠ 5; decide
  | f + 1, c, hv, hA => by
    have hp0 : 0 ≤ c.2.2.2 := hv.p0
    obtain ⟨hl, hh⟩ := hA
    obtain ⟨fit, nx⟩ := g.step c.2.2.2.toNat _ hh (by omega)
    by_cases ho : outC cs c = 0
    · rw [runN_go ho]
      obtain ⟨h1, h2⟩ := nextN_tgt hv ho
      obtain ⟨n1, n2⟩ := nx _ h2
      refine run_heights hc g f _ (hv.next hc ho) ⟨n1, ?_⟩
      rw [n2]
      obtain ⟨_, x, hx, hf, hO⟩ := outC_parts ho hv
      have e : (nextN cs c).2.2.1 = stO x.1 x.2 c.1 c.2.1 c.2.2.1 := by
        obtain ⟨cv, cz, cst, cp⟩ := c
        dsimp only at hx ⊢
        rw [nextN_some hx]
      rw [e, stO_len (fitB_parts hf).1]
      unfold hgB opN
      rw [List.getD_eq_getElem?_getD, hx]
      rfl
    · rw [runN_stop ho]
      show endO (outC cs c) ≠ 5
      obtain ⟨x, hx⟩ : ∃ x, cs[c.2.2.2.toNat]? = some x := ⟨_, List.getElem?_eq_getElem (by omega)⟩
      have hfb : fitB x.1 (c.2.2.1.length : Int) = true := by
        obtain ⟨f1, f2⟩ := fit
        unfold hgB opN at f2
        unfold opN at f1
        rw [List.getD_eq_getElem?_getD, hx] at f1 f2
        dsimp only [Option.getD_some] at f1 f2
        unfold fitB
        simp
        omega
      have e : outC cs c = outO x.1 x.2 c.2.2.1 := outN_fit hx hfb
      rw [e]
      have h5 := outO_ne5 x.1 x.2 c.2.2.1
      unfold endO
      split
      · omega
      · exact h5
end
theorem foldl_bump_pos (k : Nat) : ∀ (ks : List Int) (l : List Int), 0 < (ks.foldl bump l).getD k 0 → 0 < l.getD k 0 ∨ ∃ j ∈ ks, j.toNat = k
  | [], l, h => .inl h
  | j :: ks, l, h => by
    rcases foldl_bump_pos k ks (bump l j) h with h' | ⟨i, hi, e⟩
    · by_cases e : j.toNat = k
      · exact .inr ⟨j, List.mem_cons_self .., e⟩
      · left
        unfold bump at h'
        rw [List.getD_eq_getElem?_getD, List.getElem?_set_ne e, ← List.getD_eq_getElem?_getD] at h'
        exact h'
    · exact .inr ⟨i, List.mem_cons_of_mem _ hi, e⟩
/-- What is counted has been reached. -/
theorem count_reached {cs : List (Int × Int)} {c : Cf} (hc : codeB cs = true) (hv : CfC c) (hr : RchP cs (fun t => t = 0) c.2.2.2) {f n k : Nat} (h : 0 < (countR n (runN cs f c).2.1).getD k 0) : RchP cs (fun t => t = 0) k := by
  unfold countR at h
  rcases foldl_bump_pos k _ _ h with h' | ⟨j, hj, e⟩
  · rw [List.getD_eq_getElem?_getD, List.getElem?_replicate] at h'
    split at h' <;> simp at h'
  · have h1 := run_reached hc f c hv hr j hj
    have h0 := (h1.in_tgt hc).1
    have : (k : Int) = j := by omega
    rw [this]; exact h1

/-! Lists of what is reached, and leaders. -/
theorem mem_lstM {ms : List Bool} {n k : Nat} : (k : Int) ∈ lstM ms n ↔ k < n ∧ ms[k]? = some true := by
  unfold lstM
  rw [List.mem_map]
  constructor
  · rintro ⟨j, hj, e⟩
    obtain rfl : j = k := by omega
    rw [List.mem_filter, List.mem_range, List.getD_eq_getElem?_getD] at hj
    refine ⟨hj.1, ?_⟩
    cases hm : ms[j]? with
    | none => rw [hm] at hj; simp at hj
    | some b => rw [hm] at hj; have := hj.2; simp at this; rw [this]
  · rintro ⟨h1, h2⟩
    refine ⟨k, ?_, rfl⟩
    rw [List.mem_filter, List.mem_range, List.getD_eq_getElem?_getD, h2]
    exact ⟨h1, rfl⟩
theorem mem_reached {cs : List (Int × Int)} {ms : List Bool} (hm : MarksOf cs (fun t => t = 0) ms) {k : Nat} (hk : k < cs.length) : (k : Int) ∈ lstM ms cs.length ↔ RchP cs (fun t => t = 0) k := by
  rw [mem_lstM]
  obtain ⟨b, hb⟩ : ∃ b, ms[k]? = some b := ⟨_, List.getElem?_eq_getElem (by rw [hm.1]; exact hk)⟩
  rw [← hm.2 k b hb, hb]
  exact ⟨fun e => Option.some.inj e.2, fun e => ⟨hk, by rw [e]⟩⟩
theorem raw1_mem {cs : List (Int × Int)} {k : Nat} {x : Int × Int} (hx : cs[k]? = some x) {z : Int} (hz : z ∈ raw1 k x) : ∀ m, k < m → z ∈ rawTo cs m
  | 0, h => absurd h (Nat.not_lt_zero _)
  | m + 1, h => by
    show z ∈ rawTo cs m ++ raw1 m (cs.getD m (0, 0))
    rw [List.mem_append]
    by_cases e : k = m
    · subst e
      right
      rw [List.getD_eq_getElem?_getD, hx]; exact hz
    · exact .inl (raw1_mem hx hz m (by omega))
theorem zero_mem (cs : List (Int × Int)) : ∀ m, (0 : Int) ∈ rawTo cs m
  | 0 => by simp [rawTo]
  | m + 1 => by
    show (0 : Int) ∈ rawTo cs m ++ _
    exact List.mem_append_left _ (zero_mem cs m)
theorem zero_leads {cs : List (Int × Int)} (h : 0 < cs.length) : (0 : Int) ∈ ledTo cs cs.length := ((ledTo_ok cs h cs.length).2 0).2 ⟨zero_mem cs _, by omega⟩
theorem tgt_leads {cs : List (Int × Int)} {k : Nat} {x : Int × Int} (hx : cs[k]? = some x) {t : Int} (ht : t ∈ tgt1 x.1 x.2 k) (hn : t ≠ (k : Int) + 1) (hl : t < cs.length) : t ∈ ledTo cs cs.length := by
  have hk := (List.getElem?_eq_some_iff.1 hx).1
  refine ((ledTo_ok cs (by omega) cs.length).2 t).2 ⟨raw1_mem hx ?_ _ hk, hl⟩
  unfold raw1
  rw [List.mem_append]
  left
  unfold tgt1 at ht
  split at ht
  · cases ht
  · split at ht
    · rename_i e5
      rw [if_pos (by unfold plcB; simp [e5])]
      exact ht
    · split at ht
      · rename_i e6
        rw [if_pos (by unfold plcB; simp [e6])]
        rcases (putR_one_mem _ _ _).1 ht with e | e
        · exact absurd e hn
        · subst e; simp
      · rw [List.mem_singleton] at ht
        exact absurd ht hn
theorem tgt_reached {cs : List (Int × Int)} {k : Nat} {x : Int × Int} (hx : cs[k]? = some x) {t : Int} (ht : t ∈ tgt1 x.1 x.2 k) (hr : RchP cs (fun t => t = 0) k) : RchP cs (fun t => t = 0) t :=
  .step hr (List.getElem?_eq_some_iff.1 hx).1 (by unfold tgtN; rw [List.getD_eq_getElem?_getD, hx]; exact ht)
end Go.Proofs.YtffkdidgfeknkaaDoor
