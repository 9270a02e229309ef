/-
  What scale does to the program's machine: for each pair of signs, a product that is too great and one that is not. Conditions: a coefficient, a number of the stack. (printed by gen_scale.py)
-/
import Derived.Test.YtffkdidgfeknkaaDoorBunB
namespace Go.Proofs.YtffkdidgfeknkaaDoor
set_option linter.unusedVariables false
open Go.RowKit

set_option maxRecDepth 100000 in
set_option maxHeartbeats 1000000 in
theorem scale_far_pp (g : Nat) (L : List Int) (h : Nat) (x nx a na q : Int) (w : World) (hM : MachIs w g L) (h1 : L[18]? = some ((h : Int) + 1)) (h5 : h ≤ 5) (hx : L[12 + h]? = some x) (wx : IntKind.i64.wrap (-x) = nx) (m1 : ¬ x < nx) (d1 : (a != 0) = true) (za : ¬ a = 0) (zn : ¬ na = 0) (wa : IntKind.i64.wrap (-a) = na) (j1 : ¬ a < na) (wq : IntKind.i64.wrap ((10000000000000000 : Int).tdiv a) = q) (hf : q < x) :
    Calls Tryd.prog 114 #[.pointer (some ⟨g, 0, none⟩), .int .i64 a] w fun e w' => e = .returned (.int .i64 4) ∧ MachIs w' g (L.set 18 h) ∧ Out g (g + 1) w w' := by
  have HP := Lib.hid (pop_c g L h x w hM h1 h5 hx)
  clear hM h1 hx
  go_enter Tryd.func114, Tryd.ntmps114
  go_wp2_with fail
  refine HP.out.mono ?_
  rintro e w1 ⟨rfl, hM1, ho1⟩
  have HM1 := Lib.hid hM1
  clear hM1 HP
  go_wp2_with fail
  go_ret
  exact ⟨rfl, HM1.out, ho1⟩
set_option maxRecDepth 100000 in
set_option maxHeartbeats 1000000 in
theorem scale_near_pp (g : Nat) (L : List Int) (h : Nat) (x nx a na q : Int) (w : World) (hM : MachIs w g L) (h1 : L[18]? = some ((h : Int) + 1)) (h5 : h ≤ 5) (hx : L[12 + h]? = some x) (wx : IntKind.i64.wrap (-x) = nx) (m1 : ¬ x < nx) (d1 : (a != 0) = true) (za : ¬ a = 0) (zn : ¬ na = 0) (wa : IntKind.i64.wrap (-a) = na) (j1 : ¬ a < na) (wq : IntKind.i64.wrap ((10000000000000000 : Int).tdiv a) = q) (pr : Int) (hf : ¬ q < x) (hp : wrap64 (x * a) = pr) :
    Calls Tryd.prog 114 #[.pointer (some ⟨g, 0, none⟩), .int .i64 a] w fun e w' => e = .returned (.int .i64 (pushR h pr (L.set 18 h)).2) ∧ MachIs w' g (pushR h pr (L.set 18 h)).1 ∧ Out g (g + 1) w w' := by
  have hl := hM.2
  have HP := Lib.hid (pop_c g L h x w hM h1 h5 hx)
  clear hM h1 hx
  go_enter Tryd.func114, Tryd.ntmps114
  go_wp2_with fail
  refine HP.out.mono ?_
  rintro e w1 ⟨rfl, hM1, ho1⟩
  have HPU := Lib.hid (push_c g _ h pr w1 hM1 (by rw [List.getElem?_set_self (by omega)]) (by omega))
  clear hM1 HP
  go_wp2_with fail
  refine HPU.out.mono ?_
  rintro e w3 ⟨rfl, hM3, ho3⟩
  have HM3 := Lib.hid hM3
  clear hM3 HPU
  go_wp2_with fail
  go_ret
  exact ⟨rfl, HM3.out, ho1.trans ho3⟩
set_option maxRecDepth 100000 in
set_option maxHeartbeats 1000000 in
theorem scale_far_pn (g : Nat) (L : List Int) (h : Nat) (x nx a na q : Int) (w : World) (hM : MachIs w g L) (h1 : L[18]? = some ((h : Int) + 1)) (h5 : h ≤ 5) (hx : L[12 + h]? = some x) (wx : IntKind.i64.wrap (-x) = nx) (m1 : ¬ x < nx) (d1 : (a != 0) = true) (za : ¬ a = 0) (zn : ¬ na = 0) (wa : IntKind.i64.wrap (-a) = na) (d2 : (na != 0) = true) (j1 : a < na) (j2 : ¬ na ≤ a) (j3 : ¬ na < a) (wq : IntKind.i64.wrap ((10000000000000000 : Int).tdiv na) = q) (hf : q < x) :
    Calls Tryd.prog 114 #[.pointer (some ⟨g, 0, none⟩), .int .i64 a] w fun e w' => e = .returned (.int .i64 4) ∧ MachIs w' g (L.set 18 h) ∧ Out g (g + 1) w w' := by
  have HP := Lib.hid (pop_c g L h x w hM h1 h5 hx)
  clear hM h1 hx
  go_enter Tryd.func114, Tryd.ntmps114
  go_wp2_with fail
  refine HP.out.mono ?_
  rintro e w1 ⟨rfl, hM1, ho1⟩
  have HM1 := Lib.hid hM1
  clear hM1 HP
  go_wp2_with fail
  go_ret
  exact ⟨rfl, HM1.out, ho1⟩
set_option maxRecDepth 100000 in
set_option maxHeartbeats 1000000 in
theorem scale_near_pn (g : Nat) (L : List Int) (h : Nat) (x nx a na q : Int) (w : World) (hM : MachIs w g L) (h1 : L[18]? = some ((h : Int) + 1)) (h5 : h ≤ 5) (hx : L[12 + h]? = some x) (wx : IntKind.i64.wrap (-x) = nx) (m1 : ¬ x < nx) (d1 : (a != 0) = true) (za : ¬ a = 0) (zn : ¬ na = 0) (wa : IntKind.i64.wrap (-a) = na) (d2 : (na != 0) = true) (j1 : a < na) (j2 : ¬ na ≤ a) (j3 : ¬ na < a) (wq : IntKind.i64.wrap ((10000000000000000 : Int).tdiv na) = q) (pr : Int) (hf : ¬ q < x) (hp : wrap64 (x * a) = pr) :
    Calls Tryd.prog 114 #[.pointer (some ⟨g, 0, none⟩), .int .i64 a] w fun e w' => e = .returned (.int .i64 (pushR h pr (L.set 18 h)).2) ∧ MachIs w' g (pushR h pr (L.set 18 h)).1 ∧ Out g (g + 1) w w' := by
  have hl := hM.2
  have HP := Lib.hid (pop_c g L h x w hM h1 h5 hx)
  clear hM h1 hx
  go_enter Tryd.func114, Tryd.ntmps114
  go_wp2_with fail
  refine HP.out.mono ?_
  rintro e w1 ⟨rfl, hM1, ho1⟩
  have HPU := Lib.hid (push_c g _ h pr w1 hM1 (by rw [List.getElem?_set_self (by omega)]) (by omega))
  clear hM1 HP
  go_wp2_with fail
  refine HPU.out.mono ?_
  rintro e w3 ⟨rfl, hM3, ho3⟩
  have HM3 := Lib.hid hM3
  clear hM3 HPU
  go_wp2_with fail
  go_ret
  exact ⟨rfl, HM3.out, ho1.trans ho3⟩
set_option maxRecDepth 100000 in
set_option maxHeartbeats 1000000 in
theorem scale_far_np (g : Nat) (L : List Int) (h : Nat) (x nx a na q : Int) (w : World) (hM : MachIs w g L) (h1 : L[18]? = some ((h : Int) + 1)) (h5 : h ≤ 5) (hx : L[12 + h]? = some x) (wx : IntKind.i64.wrap (-x) = nx) (m1 : x < nx) (m2 : ¬ nx ≤ x) (m3 : ¬ nx < x) (d1 : (a != 0) = true) (za : ¬ a = 0) (zn : ¬ na = 0) (wa : IntKind.i64.wrap (-a) = na) (j1 : ¬ a < na) (wq : IntKind.i64.wrap ((10000000000000000 : Int).tdiv a) = q) (hf : q < nx) :
    Calls Tryd.prog 114 #[.pointer (some ⟨g, 0, none⟩), .int .i64 a] w fun e w' => e = .returned (.int .i64 4) ∧ MachIs w' g (L.set 18 h) ∧ Out g (g + 1) w w' := by
  have HP := Lib.hid (pop_c g L h x w hM h1 h5 hx)
  clear hM h1 hx
  go_enter Tryd.func114, Tryd.ntmps114
  go_wp2_with fail
  refine HP.out.mono ?_
  rintro e w1 ⟨rfl, hM1, ho1⟩
  have HM1 := Lib.hid hM1
  clear hM1 HP
  go_wp2_with fail
  go_ret
  exact ⟨rfl, HM1.out, ho1⟩
set_option maxRecDepth 100000 in
set_option maxHeartbeats 1000000 in
theorem scale_near_np (g : Nat) (L : List Int) (h : Nat) (x nx a na q : Int) (w : World) (hM : MachIs w g L) (h1 : L[18]? = some ((h : Int) + 1)) (h5 : h ≤ 5) (hx : L[12 + h]? = some x) (wx : IntKind.i64.wrap (-x) = nx) (m1 : x < nx) (m2 : ¬ nx ≤ x) (m3 : ¬ nx < x) (d1 : (a != 0) = true) (za : ¬ a = 0) (zn : ¬ na = 0) (wa : IntKind.i64.wrap (-a) = na) (j1 : ¬ a < na) (wq : IntKind.i64.wrap ((10000000000000000 : Int).tdiv a) = q) (pr : Int) (hf : ¬ q < nx) (hp : wrap64 (x * a) = pr) :
    Calls Tryd.prog 114 #[.pointer (some ⟨g, 0, none⟩), .int .i64 a] w fun e w' => e = .returned (.int .i64 (pushR h pr (L.set 18 h)).2) ∧ MachIs w' g (pushR h pr (L.set 18 h)).1 ∧ Out g (g + 1) w w' := by
  have hl := hM.2
  have HP := Lib.hid (pop_c g L h x w hM h1 h5 hx)
  clear hM h1 hx
  go_enter Tryd.func114, Tryd.ntmps114
  go_wp2_with fail
  refine HP.out.mono ?_
  rintro e w1 ⟨rfl, hM1, ho1⟩
  have HPU := Lib.hid (push_c g _ h pr w1 hM1 (by rw [List.getElem?_set_self (by omega)]) (by omega))
  clear hM1 HP
  go_wp2_with fail
  refine HPU.out.mono ?_
  rintro e w3 ⟨rfl, hM3, ho3⟩
  have HM3 := Lib.hid hM3
  clear hM3 HPU
  go_wp2_with fail
  go_ret
  exact ⟨rfl, HM3.out, ho1.trans ho3⟩
set_option maxRecDepth 100000 in
set_option maxHeartbeats 1000000 in
theorem scale_far_nn (g : Nat) (L : List Int) (h : Nat) (x nx a na q : Int) (w : World) (hM : MachIs w g L) (h1 : L[18]? = some ((h : Int) + 1)) (h5 : h ≤ 5) (hx : L[12 + h]? = some x) (wx : IntKind.i64.wrap (-x) = nx) (m1 : x < nx) (m2 : ¬ nx ≤ x) (m3 : ¬ nx < x) (d1 : (a != 0) = true) (za : ¬ a = 0) (zn : ¬ na = 0) (wa : IntKind.i64.wrap (-a) = na) (d2 : (na != 0) = true) (j1 : a < na) (j2 : ¬ na ≤ a) (j3 : ¬ na < a) (wq : IntKind.i64.wrap ((10000000000000000 : Int).tdiv na) = q) (hf : q < nx) :
    Calls Tryd.prog 114 #[.pointer (some ⟨g, 0, none⟩), .int .i64 a] w fun e w' => e = .returned (.int .i64 4) ∧ MachIs w' g (L.set 18 h) ∧ Out g (g + 1) w w' := by
  have HP := Lib.hid (pop_c g L h x w hM h1 h5 hx)
  clear hM h1 hx
  go_enter Tryd.func114, Tryd.ntmps114
  go_wp2_with fail
  refine HP.out.mono ?_
  rintro e w1 ⟨rfl, hM1, ho1⟩
  have HM1 := Lib.hid hM1
  clear hM1 HP
  go_wp2_with fail
  go_ret
  exact ⟨rfl, HM1.out, ho1⟩
set_option maxRecDepth 100000 in
set_option maxHeartbeats 1000000 in
theorem scale_near_nn (g : Nat) (L : List Int) (h : Nat) (x nx a na q : Int) (w : World) (hM : MachIs w g L) (h1 : L[18]? = some ((h : Int) + 1)) (h5 : h ≤ 5) (hx : L[12 + h]? = some x) (wx : IntKind.i64.wrap (-x) = nx) (m1 : x < nx) (m2 : ¬ nx ≤ x) (m3 : ¬ nx < x) (d1 : (a != 0) = true) (za : ¬ a = 0) (zn : ¬ na = 0) (wa : IntKind.i64.wrap (-a) = na) (d2 : (na != 0) = true) (j1 : a < na) (j2 : ¬ na ≤ a) (j3 : ¬ na < a) (wq : IntKind.i64.wrap ((10000000000000000 : Int).tdiv na) = q) (pr : Int) (hf : ¬ q < nx) (hp : wrap64 (x * a) = pr) :
    Calls Tryd.prog 114 #[.pointer (some ⟨g, 0, none⟩), .int .i64 a] w fun e w' => e = .returned (.int .i64 (pushR h pr (L.set 18 h)).2) ∧ MachIs w' g (pushR h pr (L.set 18 h)).1 ∧ Out g (g + 1) w w' := by
  have hl := hM.2
  have HP := Lib.hid (pop_c g L h x w hM h1 h5 hx)
  clear hM h1 hx
  go_enter Tryd.func114, Tryd.ntmps114
  go_wp2_with fail
  refine HP.out.mono ?_
  rintro e w1 ⟨rfl, hM1, ho1⟩
  have HPU := Lib.hid (push_c g _ h pr w1 hM1 (by rw [List.getElem?_set_self (by omega)]) (by omega))
  clear hM1 HP
  go_wp2_with fail
  refine HPU.out.mono ?_
  rintro e w3 ⟨rfl, hM3, ho3⟩
  have HM3 := Lib.hid hM3
  clear hM3 HPU
  go_wp2_with fail
  go_ret
  exact ⟨rfl, HM3.out, ho1.trans ho3⟩
set_option maxRecDepth 100000 in
set_option maxHeartbeats 1000000 in
theorem scale_zero (g : Nat) (L : List Int) (h : Nat) (x : Int) (w : World) (hM : MachIs w g L) (h1 : L[18]? = some ((h : Int) + 1)) (h5 : h ≤ 5) (hx : L[12 + h]? = some x) :
    Calls Tryd.prog 114 #[.pointer (some ⟨g, 0, none⟩), .int .i64 0] w fun e w' => e = .returned (.int .i64 (pushR h 0 (L.set 18 h)).2) ∧ MachIs w' g (pushR h 0 (L.set 18 h)).1 ∧ Out g (g + 1) w w' := by
  have hl := hM.2
  have HP := Lib.hid (pop_c g L h x w hM h1 h5 hx)
  clear hM
  go_enter Tryd.func114, Tryd.ntmps114
  go_wp2_with fail
  refine HP.out.mono ?_
  rintro e w1 ⟨rfl, hM1, ho1⟩
  have HPU := Lib.hid (push_c g _ h 0 w1 hM1 (by rw [List.getElem?_set_self (by omega)]) (by omega))
  clear hM1 HP
  go_wp2_with fail
  refine HPU.out.mono ?_
  rintro e w3 ⟨rfl, hM3, ho3⟩
  have HM3 := Lib.hid hM3
  clear hM3 HPU
  go_wp2_with fail
  go_ret
  exact ⟨rfl, HM3.out, ho1.trans ho3⟩
end Go.Proofs.YtffkdidgfeknkaaDoor
