/-
  Valid programs: what the model's l03Is and the program's ValidProgram give. Conditions: at most 2^20 elements, terms and coefficients; the table elementForms holds what the program's text lays.
-/
import Derived.Test.YtajmbnimdngjhaaGreatDoorPgmK
import Derived.Test.YtajmbnimdngjhaaGreatDoorBodyI
namespace Go.Proofs.YtajmbnimdngjhaaGreatDoor
set_option linter.unusedVariables false
open Go.RowKit

/-- A valid program. -/
def progB (ts : List (Int × List Int)) (xs : List S8) (us : List (Int × List Int)) : Bool := oversB 6 ts && bodyB xs && oversB 6 us
set_option maxRecDepth 100000 in
set_option maxHeartbeats 2000000 in
theorem l03Is_c (b : Nat) (A : Option Addr) (n c : Nat) (ts : List (Int × List Int)) (D : Option Addr) (m d : Nat) (xs : List S8) (E : Option Addr) (q e' B : Nat) (us : List (Int × List Int)) (w : World) (h : PIn w B A n ts D m xs E q us)
    (p0 : w.cell? ⟨b, 0, none⟩ = some (.slice A n c)) (p1 : w.cell? ⟨b, 1, none⟩ = some (.slice D m d)) (p2 : w.cell? ⟨b, 2, none⟩ = some (.slice E q e')) (hn : progN n ts m xs q us ≤ 1048576) :
    Calls Tryz.prog 34 #[.pointer (some ⟨b, 0, none⟩)] w fun e w' => e = .returned (.bool (progB ts xs us)) ∧ w = w' := by
  unfold progN at hn
  have C1 := l03Terms_c A n c B 6 ts w h.1 (by omega) (by omega) (by omega)
  have C2 := l03Body_c D m d B xs w h.2.1 (by omega) (by omega)
  have C3 := l03Terms_c E q e' B 6 us w h.2.2 (by omega) (by omega) (by omega)
  obtain ⟨b1, HB1⟩ : ∃ x, Hid (oversB 6 ts = x) := ⟨_, rfl⟩
  obtain ⟨b2, HB2⟩ : ∃ x, Hid (bodyB xs = x) := ⟨_, rfl⟩
  obtain ⟨b3, HB3⟩ : ∃ x, Hid (oversB 6 us = x) := ⟨_, rfl⟩
  unfold progB
  rw [HB1.out] at C1 ⊢
  rw [HB2.out] at C2 ⊢
  rw [HB3.out] at C3 ⊢
  have H1 := Lib.hid C1
  have H2 := Lib.hid C2
  have H3 := Lib.hid C3
  clear C1 C2 C3 HB1 HB2 HB3 h hn
  go_enter Tryz.func34, Tryz.ntmps34
  go_wp2_with fail
  refine H1.out.mono ?_
  rintro e9 w9 ⟨rfl, rfl⟩
  cases b1
  · go_wp2_with fail
    go_ret
    exact ⟨rfl, rfl⟩
  go_wp2_with fail
  refine H2.out.mono ?_
  rintro e9 w9 ⟨rfl, rfl⟩
  cases b2
  · go_wp2_with fail
    go_ret
    exact ⟨rfl, rfl⟩
  go_wp2_with fail
  refine H3.out.mono ?_
  rintro e9 w9 ⟨rfl, rfl⟩
  go_wp2_with fail
  go_ret
  exact ⟨ret_bool (by simp), rfl⟩
set_option maxRecDepth 100000 in
set_option maxHeartbeats 2000000 in
theorem validProg_c (A : Option Addr) (n c : Nat) (ts : List (Int × List Int)) (D : Option Addr) (m d : Nat) (xs : List S8) (E : Option Addr) (q e' B : Nat) (us : List (Int × List Int)) (w : World) (hT : TabE w) (h : PIn w B A n ts D m xs E q us) (hB : B ≤ w.heap.size)
    (hn : progN n ts m xs q us ≤ 1048576) :
    Calls Tryz.prog 48 #[.agg #[.slice A n c, .slice D m d, .slice E q e']] w fun e w' => e = .returned (.bool (progB ts xs us)) ∧ Below w.heap.size w w' := by
  unfold progN at hn
  have hb0 := bnew w (.cells #[.slice A n c, .slice D m d, .slice E q e'] 37)
  have hP : BlkIs (w.alloc (.cells #[.slice A n c, .slice D m d, .slice E q e'] 37)) w.heap.size 37 #[.slice A n c, .slice D m d, .slice E q e'] := blk_new _ _ _ _ rfl
  have HN := Lib.hid (h.next hb0 hB)
  have C2 := isBody_c D m d B xs _ (hT.next hb0) HN.out.2.1 (Nat.le_trans hB hb0.size) (by omega) (by omega)
  clear h
  obtain ⟨b1, HB1⟩ : ∃ x, Hid (oversB 6 ts = x) := ⟨_, rfl⟩
  obtain ⟨b2, HB2⟩ : ∃ x, Hid (bodyB xs = x) := ⟨_, rfl⟩
  obtain ⟨b3, HB3⟩ : ∃ x, Hid (oversB 6 us = x) := ⟨_, rfl⟩
  unfold progB
  rw [HB1.out, HB2.out, HB3.out]
  rw [HB2.out] at C2
  have H2 := Lib.hid C2
  clear C2 HB2
  go_enter Tryz.func48, Tryz.ntmps48
  go_wp2_with fail
  generalize w.alloc (.cells #[.slice A n c, .slice D m d, .slice E q e'] 37) = W at hb0 hP HN H2 ⊢
  have hs0 := hb0.size
  refine H2.out.mono ?_
  rintro e9 w1 ⟨rfl, hb1⟩
  have hs1 := hb1.size
  have hP1 := hP.next hb1
  have hb01 := bon hb0 hb1
  have a0 : w1.cell? ⟨w.heap.size, 0, none⟩ = some (.slice A n c) := hP1.cell 0
  have C1 := areOver_c A n c B ts 6 w1 (HN.out.1.next hb1 (by omega)) (by omega) (by omega) (by omega)
  rw [HB1.out] at C1
  have H1 := Lib.hid C1
  clear C1 HB1 H2 hP
  cases b2
  · go_wp2_with fail
    go_ret
    exact ⟨ret_bool (by simp), hb01⟩
  go_wp2_with fail
  refine H1.out.mono ?_
  rintro e9 w2 ⟨rfl, hb2⟩
  have hs2 := hb2.size
  have hP2 := hP1.next hb2
  have hb02 := bon hb01 hb2
  have a2 : w2.cell? ⟨w.heap.size, 2, none⟩ = some (.slice E q e') := hP2.cell 2
  have C3 := areOver_c E q e' B us 6 w2 ((HN.out.2.2.next hb1 (by omega)).next hb2 (by omega)) (by omega) (by omega) (by omega)
  rw [HB3.out] at C3
  have H3 := Lib.hid C3
  clear C3 HB3 H1 hP1 a0
  cases b1
  · go_wp2_with fail
    go_ret
    exact ⟨rfl, hb02⟩
  go_wp2_with fail
  refine H3.out.mono ?_
  rintro e9 w3 ⟨rfl, hb3⟩
  go_wp2_with fail
  go_ret
  exact ⟨ret_bool (by simp), bon hb02 hb3⟩
end Go.Proofs.YtajmbnimdngjhaaGreatDoor
