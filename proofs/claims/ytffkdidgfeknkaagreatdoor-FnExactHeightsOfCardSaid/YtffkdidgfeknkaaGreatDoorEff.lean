/-
  What each operation does to the program's machine. Conditions: numbers that do not overflow.
-/
import Derived.Test.YtffkdidgfeknkaaGreatDoorMach
namespace Go.Proofs.YtffkdidgfeknkaaGreatDoor
set_option linter.unusedVariables false
open Go.RowKit

set_option maxRecDepth 100000 in
set_option maxHeartbeats 4000000 in
theorem emit_c (g : Nat) (a : Int) (L : List Int) (w : World) (hM : MachIs w g L) :
    Calls Tryz.prog 108 #[.pointer (some ⟨g, 0, none⟩), .int .i64 a] w fun e w' => e = .returned (.int .i64 0) ∧ MachIs w' g L ∧ Out g (g + 1) w w' := by
  have HM := Lib.hid hM
  clear hM
  go_enter Tryz.func108, Tryz.ntmps108
  go_wp2_with fail
  go_ret
  exact ⟨rfl, HM.out, Out.refl _ _ _⟩
set_option maxRecDepth 100000 in
set_option maxHeartbeats 4000000 in
theorem halt_c (g : Nat) (a : Int) (L : List Int) (w : World) (hM : MachIs w g L) :
    Calls Tryz.prog 110 #[.pointer (some ⟨g, 0, none⟩), .int .i64 a] w fun e w' => e = .returned (.int .i64 6) ∧ MachIs w' g L ∧ Out g (g + 1) w w' := by
  have HM := Lib.hid hM
  clear hM
  go_enter Tryz.func110, Tryz.ntmps110
  go_wp2_with fail
  go_ret
  exact ⟨rfl, HM.out, Out.refl _ _ _⟩
set_option maxRecDepth 100000 in
set_option maxHeartbeats 4000000 in
theorem jump_c (g : Nat) (a : Int) (L : List Int) (w : World) (hM : MachIs w g L) :
    Calls Tryz.prog 104 #[.pointer (some ⟨g, 0, none⟩), .int .i64 a] w fun e w' => e = .returned (.int .i64 0) ∧ MachIs w' g (L.set 19 a) ∧ Out g (g + 1) w w' := by
  have hl := hM.2
  obtain ⟨y, hy⟩ : ∃ y, L[19]? = some y := ⟨_, List.getElem?_eq_getElem (by omega)⟩
  have p19 := hM.at_ hy
  have f19 := hM.frozen 19
  have HM := Lib.hid (hM.set 19 a)
  have HO : Hid (Out g (g + 1) w (w.setCell ⟨g, 19, none⟩ (.int .i64 a))) := out_set (Out.refl _ _ _) (by omega)
  clear hM hy
  go_enter Tryz.func104, Tryz.ntmps104
  go_wp2_with fail
  go_ret
  exact ⟨rfl, HM.out, HO.out⟩
set_option maxRecDepth 100000 in
set_option maxHeartbeats 4000000 in
theorem load_c (g : Nat) (a : Nat) (L : List Int) (h : Nat) (x : Int) (w : World) (hM : MachIs w g L) (h1 : L[18]? = some (h : Int)) (h5 : h ≤ 5) (ha : a < 4) (hx : L[a]? = some x) :
    Calls Tryz.prog 100 #[.pointer (some ⟨g, 0, none⟩), .int .i64 a] w fun e w' => e = .returned (.int .i64 (pushR h x L).2) ∧ MachIs w' g (pushR h x L).1 ∧ Out g (g + 1) w w' := by
  have px := hM.at_ hx
  have i1 : (0 : Int) ≤ (a : Int) := by omega
  have i2 : (a : Int) < 4 := by omega
  have HP := Lib.hid (push_c g L h x w hM h1 h5)
  clear hM hx h1
  go_enter Tryz.func100, Tryz.ntmps100
  go_wp2_with fail
  refine HP.out.mono ?_
  rintro e w1 ⟨rfl, hM1, ho1⟩
  go_wp2_with fail
  go_ret
  exact ⟨rfl, hM1, ho1⟩
set_option maxRecDepth 100000 in
set_option maxHeartbeats 4000000 in
theorem store_c (g : Nat) (a : Nat) (L : List Int) (h : Nat) (x : Int) (w : World) (hM : MachIs w g L) (h1 : L[18]? = some ((h : Int) + 1)) (h5 : h ≤ 5) (hx : L[12 + h]? = some x) (ha : a < 4) (b : Bool) (hb : (decide (-1000000000 ≤ x) && decide (x ≤ 1000000000)) = b) :
    Calls Tryz.prog 101 #[.pointer (some ⟨g, 0, none⟩), .int .i64 a] w fun e w' => e = .returned (.int .i64 (if b then 0 else 4)) ∧ MachIs w' g (if b then (L.set 18 h).set a x else L.set 18 h) ∧ Out g (g + 1) w w' := by
  have i1 : (0 : Int) ≤ (a : Int) := by omega
  have i2 : (a : Int) < 4 := by omega
  have HP := Lib.hid (pop_c g L h x w hM h1 h5 hx)
  have hl := hM.2
  obtain ⟨y, hy⟩ : ∃ y, (L.set 18 (h : Int))[a]? = some y := ⟨_, List.getElem?_eq_getElem (by rw [List.length_set]; omega)⟩
  clear hM hx h1
  cases b with
  | true =>
    go_enter Tryz.func101, Tryz.ntmps101
    go_wp2_with fail
    refine HP.out.mono ?_
    rintro e w1 ⟨rfl, hM1, ho1⟩
    have HI0 := isInt_c x w1
    rw [hb] at HI0
    have HI := Lib.hid HI0
    have py := hM1.at_ hy
    have fy := hM1.frozen a
    have HM := Lib.hid (hM1.set a x)
    have HO := Lib.hid (out_set (i := a) (u := .int .i64 x) ho1 (g := g) (by omega))
    clear HI0 hM1 ho1 hy hb
    go_wp2_with fail
    refine HI.out.mono ?_
    rintro e w2 ⟨rfl, rfl⟩
    go_wp2_with fail
    go_ret
    exact ⟨rfl, HM.out, HO.out⟩
  | false =>
    go_enter Tryz.func101, Tryz.ntmps101
    go_wp2_with fail
    refine HP.out.mono ?_
    rintro e w1 ⟨rfl, hM1, ho1⟩
    have HI0 := isInt_c x w1
    rw [hb] at HI0
    have HI := Lib.hid HI0
    have HM := Lib.hid hM1
    clear HI0 hM1 hb hy
    go_wp2_with fail
    refine HI.out.mono ?_
    rintro e w2 ⟨rfl, rfl⟩
    go_wp2_with fail
    go_ret
    exact ⟨rfl, HM.out, ho1⟩
set_option maxRecDepth 100000 in
set_option maxHeartbeats 4000000 in
theorem add_c (g : Nat) (a : Int) (L : List Int) (h : Nat) (x y : Int) (w : World) (hM : MachIs w g L) (h1 : L[18]? = some ((h : Int) + 2)) (h5 : h ≤ 4) (hx : L[13 + h]? = some x) (hy : L[12 + h]? = some y) (kx : -10000000000000000 ≤ x ∧ x ≤ 10000000000000000) (ky : -10000000000000000 ≤ y ∧ y ≤ 10000000000000000) :
    Calls Tryz.prog 102 #[.pointer (some ⟨g, 0, none⟩), .int .i64 a] w fun e w' => e = .returned (.int .i64 (pushR h (x + y) (L.set 18 h)).2) ∧ MachIs w' g (pushR h (x + y) (L.set 18 h)).1 ∧ Out g (g + 1) w w' := by
  have hl := hM.2
  have HP := Lib.hid (pop_c g L (h + 1) x w hM (by rw [h1]; first | rfl | (congr 1; omega)) (by omega) (by rw [← hx]; congr 1; omega))
  clear hM
  go_enter Tryz.func102, Tryz.ntmps102
  go_wp2_with fail
  refine HP.out.mono ?_
  rintro e w1 ⟨rfl, hM1, ho1⟩
  have ec : (((h + 1 : Nat)) : Int) = (h : Int) + 1 := by omega
  rw [ec] at hM1
  have HP2 := Lib.hid (pop_c g _ h y w1 hM1 (by rw [List.getElem?_set_self (by omega)]) (by omega) (by rw [List.getElem?_set_ne (by omega)]; exact hy))
  clear HP hM1
  go_wp2_with fail
  refine HP2.out.mono ?_
  rintro e w2 ⟨rfl, hM2, ho2⟩
  rw [List.set_set] at hM2
  have HP3 := Lib.hid (push_c g _ h (x + y) w2 hM2 (by rw [List.getElem?_set_self (by omega)]) (by omega))
  clear HP2 hM2
  go_wp2_with fail
  refine HP3.out.mono ?_
  rintro e w3 ⟨rfl, hM3, ho3⟩
  have HM3 := Lib.hid hM3
  clear hM3 HP3
  go_wp2_with fail
  go_ret
  exact ⟨rfl, HM3.out, (ho1.trans ho2).trans ho3⟩
set_option maxRecDepth 100000 in
set_option maxHeartbeats 4000000 in
theorem test_yes (g : Nat) (a : Int) (L : List Int) (h : Nat) (x : Int) (w : World) (hM : MachIs w g L) (h1 : L[18]? = some ((h : Int) + 1)) (h5 : h ≤ 5) (hx : L[12 + h]? = some x) (hn : x < 0) :
    Calls Tryz.prog 105 #[.pointer (some ⟨g, 0, none⟩), .int .i64 a] w fun e w' => e = .returned (.int .i64 0) ∧ MachIs w' g ((L.set 18 h).set 19 a) ∧ Out g (g + 1) w w' := by
  have HP := Lib.hid (pop_c g L h x w hM h1 h5 hx)
  clear hM
  go_enter Tryz.func105, Tryz.ntmps105
  go_wp2_with fail
  refine HP.out.mono ?_
  rintro e w1 ⟨rfl, hM1, ho1⟩
  have HJ := Lib.hid (jump_c g a _ w1 hM1)
  clear hM1 HP
  go_wp2_with fail
  refine HJ.out.mono ?_
  rintro e w2 ⟨rfl, hM2, ho2⟩
  have HM2 := Lib.hid hM2
  clear hM2 HJ
  go_wp2_with fail
  go_ret
  exact ⟨rfl, HM2.out, ho1.trans ho2⟩
set_option maxRecDepth 100000 in
set_option maxHeartbeats 4000000 in
theorem test_no (g : Nat) (a : Int) (L : List Int) (h : Nat) (x : Int) (w : World) (hM : MachIs w g L) (h1 : L[18]? = some ((h : Int) + 1)) (h5 : h ≤ 5) (hx : L[12 + h]? = some x) (hn : ¬ x < 0) :
    Calls Tryz.prog 105 #[.pointer (some ⟨g, 0, none⟩), .int .i64 a] w fun e w' => e = .returned (.int .i64 0) ∧ MachIs w' g (L.set 18 h) ∧ Out g (g + 1) w w' := by
  have HP := Lib.hid (pop_c g L h x w hM h1 h5 hx)
  clear hM
  go_enter Tryz.func105, Tryz.ntmps105
  go_wp2_with fail
  refine HP.out.mono ?_
  rintro e w1 ⟨rfl, hM1, ho1⟩
  have HM1 := Lib.hid hM1
  clear hM1 HP
  go_wp2_with fail
  go_ret
  exact ⟨rfl, HM1.out, ho1⟩
set_option maxRecDepth 100000 in
set_option maxHeartbeats 4000000 in
theorem check_yes (g : Nat) (a : Int) (L : List Int) (h : Nat) (x : Int) (w : World) (hM : MachIs w g L) (h1 : L[18]? = some ((h : Int) + 1)) (h5 : h ≤ 5) (hx : L[12 + h]? = some x) (hn : x < 0) :
    Calls Tryz.prog 109 #[.pointer (some ⟨g, 0, none⟩), .int .i64 a] w fun e w' => e = .returned (.int .i64 3) ∧ MachIs w' g (L.set 18 h) ∧ Out g (g + 1) w w' := by
  have HP := Lib.hid (pop_c g L h x w hM h1 h5 hx)
  clear hM
  go_enter Tryz.func109, Tryz.ntmps109
  go_wp2_with fail
  refine HP.out.mono ?_
  rintro e w1 ⟨rfl, hM1, ho1⟩
  have HM1 := Lib.hid hM1
  clear hM1 HP
  go_wp2_with fail
  go_ret
  exact ⟨rfl, HM1.out, ho1⟩
set_option maxRecDepth 100000 in
set_option maxHeartbeats 4000000 in
theorem check_no (g : Nat) (a : Int) (L : List Int) (h : Nat) (x : Int) (w : World) (hM : MachIs w g L) (h1 : L[18]? = some ((h : Int) + 1)) (h5 : h ≤ 5) (hx : L[12 + h]? = some x) (hn : ¬ x < 0) :
    Calls Tryz.prog 109 #[.pointer (some ⟨g, 0, none⟩), .int .i64 a] w fun e w' => e = .returned (.int .i64 0) ∧ MachIs w' g (L.set 18 h) ∧ Out g (g + 1) w w' := by
  have HP := Lib.hid (pop_c g L h x w hM h1 h5 hx)
  clear hM
  go_enter Tryz.func109, Tryz.ntmps109
  go_wp2_with fail
  refine HP.out.mono ?_
  rintro e w1 ⟨rfl, hM1, ho1⟩
  have HM1 := Lib.hid hM1
  clear hM1 HP
  go_wp2_with fail
  go_ret
  exact ⟨rfl, HM1.out, ho1⟩
set_option maxRecDepth 100000 in
set_option maxHeartbeats 4000000 in
theorem get_no (g : Nat) (a : Int) (L : List Int) (h : Nat) (x : Int) (w : World) (hM : MachIs w g L) (h1 : L[18]? = some ((h : Int) + 1)) (h5 : h ≤ 5) (hx : L[12 + h]? = some x) (hn : (decide (0 ≤ x) && decide (x ≤ 7)) = false) :
    Calls Tryz.prog 106 #[.pointer (some ⟨g, 0, none⟩), .int .i64 a] w fun e w' => e = .returned (.int .i64 2) ∧ MachIs w' g (L.set 18 h) ∧ Out g (g + 1) w w' := by
  have HP := Lib.hid (pop_c g L h x w hM h1 h5 hx)
  clear hM
  go_enter Tryz.func106, Tryz.ntmps106
  go_wp2_with fail
  refine HP.out.mono ?_
  rintro e w1 ⟨rfl, hM1, ho1⟩
  have HI0 := isCell_c x w1
  rw [hn] at HI0
  have HI := Lib.hid HI0
  have HM1 := Lib.hid hM1
  clear hM1 HP HI0 hn
  go_wp2_with fail
  refine HI.out.mono ?_
  rintro e w2 ⟨rfl, rfl⟩
  go_wp2_with fail
  go_ret
  exact ⟨rfl, HM1.out, ho1⟩
set_option maxRecDepth 100000 in
set_option maxHeartbeats 4000000 in
theorem get_yes (g : Nat) (a : Int) (L : List Int) (h : Nat) (i : Nat) (y : Int) (w : World) (hM : MachIs w g L) (h1 : L[18]? = some ((h : Int) + 1)) (h5 : h ≤ 5) (hx : L[12 + h]? = some (i : Int)) (hi : i ≤ 7) (hy : L[4 + i]? = some y) :
    Calls Tryz.prog 106 #[.pointer (some ⟨g, 0, none⟩), .int .i64 a] w fun e w' => e = .returned (.int .i64 (pushR h y (L.set 18 h)).2) ∧ MachIs w' g (pushR h y (L.set 18 h)).1 ∧ Out g (g + 1) w w' := by
  have hl := hM.2
  have HP := Lib.hid (pop_c g L h i w hM h1 h5 hx)
  have hn : (decide (0 ≤ (i : Int)) && decide ((i : Int) ≤ 7)) = true := by simp; omega
  have i1 : (0 : Int) ≤ (i : Int) := by omega
  have i2 : (i : Int) < 8 := by omega
  clear hM
  go_enter Tryz.func106, Tryz.ntmps106
  go_wp2_with fail
  refine HP.out.mono ?_
  rintro e w1 ⟨rfl, hM1, ho1⟩
  have HI0 := isCell_c (i : Int) w1
  rw [hn] at HI0
  have HI := Lib.hid HI0
  have py := hM1.at_ (i := 4 + i) (x := y) (by rw [List.getElem?_set_ne (by omega)]; exact hy)
  have HPU := Lib.hid (push_c g _ h y w1 hM1 (by rw [List.getElem?_set_self (by omega)]) (by omega))
  clear hM1 HP HI0 hn
  go_wp2_with fail
  refine HI.out.mono ?_
  rintro e w2 ⟨rfl, rfl⟩
  go_wp2_with fail
  refine HPU.out.mono ?_
  rintro e w3 ⟨rfl, hM3, ho3⟩
  have HM3 := Lib.hid hM3
  clear hM3 HPU
  go_wp2_with fail
  go_ret
  exact ⟨rfl, HM3.out, ho1.trans ho3⟩
end Go.Proofs.YtffkdidgfeknkaaGreatDoor
