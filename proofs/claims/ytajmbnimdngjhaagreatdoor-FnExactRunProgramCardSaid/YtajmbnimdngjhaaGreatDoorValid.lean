/-
  Valid terms: what the program's ValidTerm and the model's l02Is give. Conditions: at most 2^20 coefficients.
-/
import Derived.Test.YtajmbnimdngjhaaGreatDoorTm
import Derived.Test.YtajmbnimdngjhaaGreatDoorTmB
import Derived.Outline
import Derived.BigQuiet
import Derived.Deep.QuietTactic
namespace Go.Proofs.YtajmbnimdngjhaaGreatDoor
open Go.RowKit

set_option maxRecDepth 100000 in
set_option maxHeartbeats 1000000 in
theorem areBetween_c (A : Option Addr) (n c B : Nat) (lo hi : Int) (zs : List Int) (w : World) (h : Row w B A (zs.map ic)) (hz : zs.length = n) (hn : n ≤ 1048576) :
    Calls Tryz.prog 103 #[.slice A n c, .int .i64 lo, .int .i64 hi] w fun e w' => e = .returned (.bool (btw lo hi zs)) ∧ w = w' := by
  go_enter Tryz.func103, Tryz.ntmps103
  go_wp2
  go_loop [8, 11] (fun _ i => ∃ k : Nat, k ≤ n ∧ i = .int .i64 k ∧ Hid (∀ z ∈ zs.take k, lo ≤ z ∧ z ≤ hi)) (fun _ i => n - (intOf i).toNat)
  case atStart => exact ⟨0, Nat.zero_le _, rfl, by intro z hz; simp at hz⟩
  case round =>
    obtain ⟨k, hk, rfl, ha⟩ := hrel
    by_cases hlt : k < n
    · obtain ⟨b, off, x, rfl, hb, hx, hc⟩ := h.int_at (k := k) (by omega)
      have HX := Lib.hid hx
      clear hx
      by_cases h1 : lo ≤ x
      · by_cases h2 : x ≤ hi
        · go_wp2
          go_round
          case rel => exact ⟨k + 1, by omega, by go_num, btw_take_succ ha.out HX.out h1 h2⟩
          case measure => simp [intOf]; omega
        · go_wp2
          go_ret
          exact ⟨ret_bool (btw_no HX.out (by omega)).symm, rfl⟩
      · go_wp2
        go_ret
        exact ⟨ret_bool (btw_no HX.out (by omega)).symm, rfl⟩
    · have HY := Lib.hid (btw_yes ha.out (by omega))
      go_wp2
      go_ret
      exact ⟨ret_bool HY.out.symm, rfl⟩

set_option maxRecDepth 100000 in
set_option maxHeartbeats 1000000 in
theorem implValid_out (c0 : Int) (A : Option Addr) (n c B : Nat) (zs : List Int) (w : World) (h : Row w B A (zs.map ic)) (hB : B ≤ w.heap.size) (hz : zs.length = n) (hl : n ≤ 10) (hbad : ¬ (-1000000 ≤ c0 ∧ c0 ≤ 1000000)) :
    Calls Tryz.prog 133 #[.agg #[.int .i64 c0, .slice A n c]] w fun e w' => e = .returned (.bool (tmB (c0, zs))) ∧ Below w.heap.size w w' := by
  have hBel : ∀ o, Below w.heap.size w (w.alloc o) := fun o => (Below.refl _ _).alloc (Nat.le_refl _) o
  have HY := Lib.hid (tmB_const (t := (c0, zs)) hbad)
  rcases n with _ | m
  · by_cases h1 : -1000000 ≤ c0
    · have h2 : ¬ c0 ≤ 1000000 := fun h => hbad ⟨h1, h⟩
      go_enter Tryz.func133, Tryz.ntmps133
      go_wp2
      go_ret
      exact ⟨ret_bool HY.out.symm, hBel _⟩
    · go_enter Tryz.func133, Tryz.ntmps133
      go_wp2
      go_ret
      exact ⟨ret_bool HY.out.symm, hBel _⟩
  · obtain ⟨b, off, x, rfl, hb, hx, hc⟩ := (h.alloc (o := .cells #[.int .i64 c0, .slice A ((m + 1 : Nat)) c] 81) hB).int_at (k := m) (by omega)
    have q0 : (0 : Int) < ((m : Int) + 1) := by omega
    by_cases hx0 : x = 0
    · subst hx0
      clear hx
      go_enter Tryz.func133, Tryz.ntmps133
      go_wp2
      go_ret
      exact ⟨ret_bool HY.out.symm, hBel _⟩
    · have q1 : (x == 0) = false := by simpa using hx0
      clear hx
      by_cases h1 : -1000000 ≤ c0
      · have h2 : ¬ c0 ≤ 1000000 := fun h => hbad ⟨h1, h⟩
        go_enter Tryz.func133, Tryz.ntmps133
        go_wp2
        go_ret
        exact ⟨ret_bool HY.out.symm, hBel _⟩
      · go_enter Tryz.func133, Tryz.ntmps133
        go_wp2
        go_ret
        exact ⟨ret_bool HY.out.symm, hBel _⟩

set_option maxRecDepth 100000 in
set_option maxHeartbeats 1000000 in
theorem implValid_c (c0 : Int) (A : Option Addr) (n c B : Nat) (zs : List Int) (w : World) (h : Row w B A (zs.map ic)) (hB : B ≤ w.heap.size) (hz : zs.length = n) (hn : n ≤ 1048576) :
    Calls Tryz.prog 133 #[.agg #[.int .i64 c0, .slice A n c]] w fun e w' => e = .returned (.bool (tmB (c0, zs))) ∧ Below w.heap.size w w' := by
  have hBel : ∀ o, Below w.heap.size w (w.alloc o) := fun o => (Below.refl _ _).alloc (Nat.le_refl _) o
  rcases Nat.lt_or_ge 10 n with hl | hl
  · have HY := Lib.hid (tmB_long (t := (c0, zs)) (by show 10 < zs.length; omega))
    have q1 : (10 : Int) < (n : Int) := by omega
    go_enter Tryz.func133, Tryz.ntmps133
    go_wp2
    go_ret
    exact ⟨ret_bool HY.out.symm, hBel _⟩
  · by_cases h1 : -1000000 ≤ c0
    · by_cases h2 : c0 ≤ 1000000
      · have hbt := areBetween_c A n c B (-1000000) 1000000 zs (w.alloc (.cells #[.int .i64 c0, .slice A n c] 81)) (h.alloc hB) hz hn
        rcases n with _ | m
        · have hzs : zs = [] := List.eq_nil_of_length_eq_zero hz
          have HY := Lib.hid (tmB_empty (t := (c0, zs)) hzs h1 h2)
          have HB : Hid (btw (-1000000) 1000000 zs = true) := by show _ = _; rw [hzs]; rfl
          clear hzs
          go_enter Tryz.func133, Tryz.ntmps133
          go_wp2_with (first | (go_at_call 103; refine hbt.mono ?_; rintro e w' ⟨rfl, rfl⟩; rw [HB.out]) | go_in)
          go_ret
          exact ⟨ret_bool HY.out.symm, hBel _⟩
        · obtain ⟨b, off, x, rfl, hb, hx, hc⟩ := (h.alloc (o := .cells #[.int .i64 c0, .slice A ((m + 1 : Nat)) c] 81) hB).int_at (k := m) (by omega)
          have q0 : (0 : Int) < ((m : Int) + 1) := by omega
          by_cases hx0 : x = 0
          · subst hx0
            have HY := Lib.hid (tmB_zero (t := (c0, zs)) (k := m) hz hx)
            clear hx
            go_enter Tryz.func133, Tryz.ntmps133
            go_wp2_with fail
            go_ret
            exact ⟨ret_bool HY.out.symm, hBel _⟩
          · have HY := Lib.hid (tmB_rest (t := (c0, zs)) (k := m) hz (by show zs.length ≤ 10; omega) hx hx0 h1 h2)
            have q1 : (x == 0) = false := by simpa using hx0
            clear hx
            go_enter Tryz.func133, Tryz.ntmps133
            go_wp2_with (first | (go_at_call 103; refine hbt.mono ?_; rintro e w' ⟨rfl, rfl⟩) | go_in)
            go_ret
            exact ⟨ret_bool HY.out.symm, hBel _⟩
      · exact implValid_out c0 A n c B zs w h hB hz hl (by omega)
    · exact implValid_out c0 A n c B zs w h hB hz hl (by omega)

set_option maxRecDepth 100000 in
set_option maxHeartbeats 1000000 in
theorem l02Is_c (b o : Nat) (c0 : Int) (A : Option Addr) (n c B : Nat) (zs : List Int) (w : World) (hc0 : w.cell? ⟨b, o, none⟩ = some (.int .i64 c0)) (hc1 : w.cell? ⟨b, o + 1, none⟩ = some (.slice A n c))
    (h : Row w B A (zs.map ic)) (hz : zs.length = n) (hn : n ≤ 1048576) :
    Calls Tryz.prog 130 #[.pointer (some ⟨b, o, none⟩)] w fun e w' => e = .returned (.bool (tmB (c0, zs))) ∧ w = w' := by
  by_cases h1 : -1000000 ≤ c0
  · by_cases h2 : c0 ≤ 1000000
    · rcases Nat.lt_or_ge 10 n with hl | hl
      · have HY := Lib.hid (tmB_long (t := (c0, zs)) (by show 10 < zs.length; omega))
        have q1 : (10 : Int) < (n : Int) := by omega
        go_enter Tryz.func130, Tryz.ntmps130
        go_wp2
        go_ret
        exact ⟨ret_bool HY.out.symm, rfl⟩
      · rcases n with _ | m
        · have hzs : zs = [] := List.eq_nil_of_length_eq_zero hz
          have HY := Lib.hid (tmB_empty (t := (c0, zs)) hzs h1 h2)
          clear hzs
          go_enter Tryz.func130, Tryz.ntmps130
          go_wp2
          go_loop [4] (fun i => i = .int .i64 0) (fun _ => 0)
          case atStart => rfl
          case round =>
            obtain rfl := hrel
            go_wp2
            go_ret
            exact ⟨ret_bool HY.out.symm, rfl⟩
        · obtain ⟨b1, off1, x, rfl, hb1, hx, hc⟩ := h.int_at (k := m) (by omega)
          have q0 : (0 : Int) < ((m : Int) + 1) := by omega
          by_cases hx0 : x = 0
          · subst hx0
            have HY := Lib.hid (tmB_zero (t := (c0, zs)) (k := m) hz hx)
            clear hx
            go_enter Tryz.func130, Tryz.ntmps130
            go_wp2
            go_ret
            exact ⟨ret_bool HY.out.symm, rfl⟩
          · have HY := Lib.hid (tmB_rest (t := (c0, zs)) (k := m) hz (by show zs.length ≤ 10; omega) hx hx0 h1 h2)
            have q1 : (x == 0) = false := by simpa using hx0
            clear hx
            go_enter Tryz.func130, Tryz.ntmps130
            go_wp2
            go_loop [4] (fun i => ∃ k : Nat, k ≤ m + 1 ∧ i = .int .i64 k ∧ Hid (∀ z ∈ zs.take k, -1000000 ≤ z ∧ z ≤ 1000000)) (fun i => m + 1 - (intOf i).toNat)
            case atStart => exact ⟨0, Nat.zero_le _, rfl, by intro z hz; simp at hz⟩
            case round =>
              clear hc q1 hx0
              obtain ⟨k, hk, rfl, ha⟩ := hrel
              by_cases hlt : k < m + 1
              · obtain ⟨b2, off2, y, he, hb2, hy, hc2⟩ := h.int_at (k := k) (by omega)
                obtain ⟨rfl, rfl⟩ : b1 = b2 ∧ off1 = off2 := by simpa using he
                have HX := Lib.hid hy
                clear hy he
                by_cases g1 : -1000000 ≤ y
                · by_cases g2 : y ≤ 1000000
                  · go_wp2
                    go_round
                    case rel => exact ⟨k + 1, by omega, by go_num, btw_take_succ ha.out HX.out g1 g2⟩
                    case measure => simp [intOf]; omega
                  · have HN := Lib.hid (btw_no (lo := -1000000) (hi := 1000000) HX.out (by omega))
                    go_wp2
                    go_ret
                    exact ⟨ret_bool (HY.out.trans HN.out).symm, rfl⟩
                · have HN := Lib.hid (btw_no (lo := -1000000) (hi := 1000000) HX.out (by omega))
                  go_wp2
                  go_ret
                  exact ⟨ret_bool (HY.out.trans HN.out).symm, rfl⟩
              · have HN := Lib.hid (btw_yes ha.out (by omega))
                go_wp2
                go_ret
                exact ⟨ret_bool (HY.out.trans HN.out).symm, rfl⟩
    · have HY := Lib.hid (tmB_const (t := (c0, zs)) (fun a => h2 a.2))
      go_enter Tryz.func130, Tryz.ntmps130
      go_wp2
      go_ret
      exact ⟨ret_bool HY.out.symm, rfl⟩
  · have HY := Lib.hid (tmB_const (t := (c0, zs)) (fun a => h1 a.1))
    go_enter Tryz.func130, Tryz.ntmps130
    go_wp2
    go_ret
    exact ⟨ret_bool HY.out.symm, rfl⟩
end Go.Proofs.YtajmbnimdngjhaaGreatDoor
