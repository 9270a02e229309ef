/-
  Valid policies: the model's test and the program's; a step of both. Conditions: at most 2^20 rows and numbers.
-/
import Derived.Test.YtpdgnmdjneakgaaPolP
namespace Go.Proofs.Ytpdgnmdjneakgaa
set_option linter.unusedVariables false
open Go.RowKit

set_option maxRecDepth 100000 in
theorem l00In_p (n a c : Int) (w : World) : Calls Try.prog 30 #[.int .i64 n, .int .i64 a, .int .i64 c] w fun e w' => e = .returned (.bool (decide (a ≤ n) && decide (n ≤ c))) ∧ w = w' := by
  by_cases z : a ≤ n
  · by_cases y : n ≤ c
    · rw [decide_eq_true z, decide_eq_true y]
      go_enter Try.func30, Try.ntmps30
      go_wp2_with fail
      go_ret
      exact ⟨ret_bool (by first | rfl | (simp; done) | (simp [z, y]; done)), rfl⟩
    · rw [decide_eq_true z, decide_eq_false y]
      go_enter Try.func30, Try.ntmps30
      go_wp2_with fail
      go_ret
      exact ⟨ret_bool (by first | (simp; done) | (simp [y]; done)), rfl⟩
  · rw [decide_eq_false z]
    go_enter Try.func30, Try.ntmps30
    go_wp2_with fail
    go_ret
    exact ⟨ret_bool (by first | (simp; done) | (simp [z]; done)), rfl⟩
set_option maxRecDepth 100000 in
theorem isBetween_p (n a c : Int) (w : World) : Calls Try.prog 32 #[.int .i64 n, .int .i64 a, .int .i64 c] w fun e w' => e = .returned (.bool (decide (a ≤ n) && decide (n ≤ c))) ∧ w = w' := by
  by_cases z : a ≤ n
  · by_cases y : n ≤ c
    · rw [decide_eq_true z, decide_eq_true y]
      go_enter Try.func32, Try.ntmps32
      go_wp2_with fail
      go_ret
      exact ⟨ret_bool (by first | rfl | (simp; done) | (simp [z, y]; done)), rfl⟩
    · rw [decide_eq_true z, decide_eq_false y]
      go_enter Try.func32, Try.ntmps32
      go_wp2_with fail
      go_ret
      exact ⟨ret_bool (by first | (simp; done) | (simp [y]; done)), rfl⟩
  · rw [decide_eq_false z]
    go_enter Try.func32, Try.ntmps32
    go_wp2_with fail
    go_ret
    exact ⟨ret_bool (by first | (simp; done) | (simp [z]; done)), rfl⟩

set_option maxRecDepth 100000 in
set_option maxHeartbeats 4000000 in
theorem l10Is_c (b o : Nat) (A : Option Addr) (n c B : Nat) (xs : List (List Int)) (w : World) (p0 : w.cell? ⟨b, o, none⟩ = some (.slice A n c)) (h : InLL w B A n xs) (hn : n ≤ 1048576) :
    Calls Try.prog 14 #[.pointer (some ⟨b, o, none⟩)] w fun e w' => e = .returned (.bool (polB xs)) ∧ w = w' := by
  have hlen := Lib.hid h.1
  have HI0 := l00In_p (n : Int) 1 12 w
  cases hv : (decide ((1 : Int) ≤ (n : Int)) && decide ((n : Int) ≤ 12)) with
  | false =>
    have HN := Lib.hid (polB_len (xs := xs) (by rw [h.1]; exact hv))
    rw [hv] at HI0
    have HI := Lib.hid HI0
    clear hv HI0 h
    go_enter Try.func14, Try.ntmps14
    go_wp2_with fail
    refine HI.out.mono ?_
    rintro e w1 ⟨rfl, rfl⟩
    go_wp2_with fail
    go_ret
    exact ⟨ret_bool HN.out.symm, rfl⟩
  | true =>
    have hv' : 1 ≤ n ∧ n ≤ 12 := by simp at hv; omega
    obtain ⟨hv1, hv2⟩ := hv'
    have HV := Lib.hid (show (decide ((1 : Int) ≤ (xs.length : Int)) && decide ((xs.length : Int) ≤ 12)) = true by rw [h.1]; exact hv)
    rw [hv] at HI0
    have HI := Lib.hid HI0
    have HX := Lib.hid h
    clear hv HI0 h
    go_enter Try.func14, Try.ntmps14
    go_wp2_with fail
    refine HI.out.mono ?_
    rintro e w1 ⟨rfl, rfl⟩
    clear HI
    go_wp2_with fail
    go_loop [4, 5] (fun i _ => ∃ j : Nat, j ≤ n ∧ i = .int .i64 j ∧ Hid (∀ r ∈ xs.take j, rowB n r = true)) (fun i _ => n - (intOf i).toNat)
    case atStart => exact ⟨0, Nat.zero_le _, rfl, by intro z hz; simp at hz⟩
    case round =>
      obtain ⟨j, hj, rfl, ha⟩ := hrel
      by_cases hlt : j < n
      · obtain ⟨b1, off, x, rfl, hb, hx, A0, n0, c0, hc, hin⟩ := HX.out.at_ hlt
        have i1 : (j : Int) < (n : Int) := by omega
        have hxl := hin.1
        by_cases h4 : n0 = 4
        · have hrl : x.length = 4 := by omega
          subst h4
          have HR := Lib.hid hrl
          have HXX := Lib.hid hx
          have HIN := Lib.hid hin
          clear hrl hx hin hxl
          go_wp2_with fail
          go_loop [5] (fun k => ∃ q : Nat, q ≤ 4 ∧ k = .int .i64 q ∧ Hid (∀ z ∈ x.take q, -1 ≤ z ∧ z ≤ (n : Int) - 1)) (fun k => 4 - (intOf k).toNat)
          case atStart => exact ⟨0, Nat.zero_le _, rfl, by intro z hz; simp at hz⟩
          case round =>
            obtain ⟨q, hq, rfl, hqa⟩ := hrel
            by_cases hlt4 : q < 4
            · obtain ⟨b2, off2, z, rfl, hb2, hz, hcz⟩ := HIN.out.2.int_at (k := q) (by have := HR.out; omega)
              have i2 : (q : Int) < 4 := by omega
              have HZ0 := l00In_p z (-1) ((n : Int) - 1) w
              have e1 : IntKind.i64.wrap ((n : Int) - 1) = (n : Int) - 1 := IntWalk.i64_in _ (by omega)
              by_cases hr : -1 ≤ z ∧ z ≤ (n : Int) - 1
              · have HT := Lib.hid (btw_take_succ hqa.out hz hr.1 hr.2)
                rw [show (decide (-1 ≤ z) && decide (z ≤ (n : Int) - 1)) = true by simp [hr]] at HZ0
                have HZ := Lib.hid HZ0
                clear HZ0 hr hz
                go_wp2_with fail
                refine HZ.out.mono ?_
                rintro e w1 ⟨rfl, rfl⟩
                go_wp2_with fail
                go_round
                case rel => exact ⟨q + 1, by omega, by go_num, HT⟩
                case measure => simp [intOf]; omega
              · have HN : Hid (polB xs = false) := polB_no HXX.out (by rw [hlen.out, rowB_is HR.out]; exact btw_no hz hr)
                rw [show (decide (-1 ≤ z) && decide (z ≤ (n : Int) - 1)) = false by simpa using hr] at HZ0
                have HZ := Lib.hid HZ0
                clear HZ0 hr hz
                go_wp2_with fail
                refine HZ.out.mono ?_
                rintro e w1 ⟨rfl, rfl⟩
                go_wp2_with fail
                go_ret
                exact ⟨ret_bool HN.out.symm, rfl⟩
            · have e4 : q = 4 := by omega
              subst e4
              have HY : Hid (rowB n x = true) := by show _ = _; rw [rowB_is HR.out]; exact btw_yes hqa.out (by have := HR.out; omega)
              go_wp2_with fail
              go_round
              case rel => exact ⟨j + 1, by omega, by go_num, row_take ha.out HXX.out HY.out⟩
              case measure => simp [intOf]; omega
        · have HN : Hid (polB xs = false) := polB_no hx (by rw [hlen.out]; exact rowB_len (by omega))
          have q2 : ((n0 : Int) != 4) = true := by simp; omega
          have q3 : ((n0 : Int) == 4) = false := by simp; omega
          clear hx hin hxl
          go_wp2_with fail
          go_ret
          exact ⟨ret_bool HN.out.symm, rfl⟩
      · have HY : Hid (polB xs = true) := polB_yes HV.out (by rw [hlen.out]; exact ha.out) (by have := hlen.out; omega)
        go_wp2_with fail
        go_ret
        exact ⟨ret_bool HY.out.symm, rfl⟩
set_option maxRecDepth 100000 in
set_option maxHeartbeats 4000000 in
theorem implPolicy_c (A : Option Addr) (n c B : Nat) (xs : List (List Int)) (w : World) (h : InLL w B A n xs) (hB : B ≤ w.heap.size) (hn : n ≤ 1048576) (he : ∀ x ∈ xs, x.length ≤ 1048576) :
    Calls Try.prog 16 #[.agg #[.slice A n c]] w fun e w' => e = .returned (.bool (polB xs)) ∧ Below w.heap.size w w' := by
  have hb0 := bnew w (.cells #[.slice A n c] 26)
  have hlen := Lib.hid h.1
  have p0 : (w.alloc (.cells #[.slice A n c] 26)).cell? ⟨w.heap.size, 0, none⟩ = some (.slice A n c) := by simp
  have HX := Lib.hid (h.next hb0 hB)
  have HE := Lib.hid he
  clear he
  have HI0 := isBetween_p (n : Int) 1 12 (w.alloc (.cells #[.slice A n c] 26))
  cases hv : (decide ((1 : Int) ≤ (n : Int)) && decide ((n : Int) ≤ 12)) with
  | false =>
    have HN := Lib.hid (polB_len (xs := xs) (by rw [h.1]; exact hv))
    rw [hv] at HI0
    have HI := Lib.hid HI0
    clear hv HI0 h
    go_enter Try.func16, Try.ntmps16
    go_wp2_with fail
    generalize w.alloc (.cells #[.slice A n c] 26) = W at hb0 p0 HI HX ⊢
    refine HI.out.mono ?_
    rintro e w1 ⟨rfl, rfl⟩
    go_wp2_with fail
    go_ret
    exact ⟨ret_bool HN.out.symm, hb0⟩
  | true =>
    have hv' : 1 ≤ n ∧ n ≤ 12 := by simp at hv; omega
    obtain ⟨hv1, hv2⟩ := hv'
    have HV := Lib.hid (show (decide ((1 : Int) ≤ (xs.length : Int)) && decide ((xs.length : Int) ≤ 12)) = true by rw [h.1]; exact hv)
    rw [hv] at HI0
    have HI := Lib.hid HI0
    clear hv HI0 h
    go_enter Try.func16, Try.ntmps16
    go_wp2_with fail
    generalize w.alloc (.cells #[.slice A n c] 26) = W at hb0 p0 HI HX ⊢
    refine HI.out.mono ?_
    rintro e w1 ⟨rfl, rfl⟩
    clear HI
    go_wp2_with fail
    go_loop [5, 15] (fun _ i => ∃ j : Nat, j ≤ n ∧ i = .int .i64 j ∧ Hid (∀ r ∈ xs.take j, rowB n r = true)) (fun _ i => n - (intOf i).toNat)
    case atStart => exact ⟨0, Nat.zero_le _, rfl, by intro z hz; simp at hz⟩
    case round =>
      obtain ⟨j, hj, rfl, ha⟩ := hrel
      by_cases hlt : j < n
      · obtain ⟨b1, off, x, rfl, hb, hx, A0, n0, c0, hc, hin⟩ := HX.out.at_ hlt
        have i1 : (j : Int) < (n : Int) := by omega
        have e1 : IntKind.i64.wrap ((n : Int) - 1) = (n : Int) - 1 := IntWalk.i64_in _ (by omega)
        have hxl := hin.1
        by_cases h4 : n0 = 4
        · have hrl : x.length = 4 := by omega
          subst h4
          have HA0 := areBetween_c A0 4 c0 B (-1) ((n : Int) - 1) x W hin.2 hxl (by omega)
          cases hr : btw (-1) ((n : Int) - 1) x with
          | true =>
            have HY : Hid (rowB n x = true) := by show _ = _; rw [rowB_is hrl]; exact hr
            have HT := row_take ha.out hx HY.out
            rw [hr] at HA0
            have HA := Lib.hid HA0
            clear hrl hx hin hxl hr HA0
            go_wp2_with fail
            refine HA.out.mono ?_
            rintro e w1 ⟨rfl, rfl⟩
            go_wp2_with fail
            go_round
            case rel => exact ⟨j + 1, by omega, by go_num, HT⟩
            case measure => simp [intOf]; omega
          | false =>
            have HN : Hid (polB xs = false) := polB_no hx (by rw [hlen.out, rowB_is hrl]; exact hr)
            rw [hr] at HA0
            have HA := Lib.hid HA0
            clear hrl hx hin hxl hr HA0
            go_wp2_with fail
            refine HA.out.mono ?_
            rintro e w1 ⟨rfl, rfl⟩
            go_wp2_with fail
            go_ret
            exact ⟨ret_bool HN.out.symm, hb0⟩
        · have HN : Hid (polB xs = false) := polB_no hx (by rw [hlen.out]; exact rowB_len (by omega))
          have q2 : ((n0 : Int) != 4) = true := by simp; omega
          have q3 : ((n0 : Int) == 4) = false := by simp; omega
          clear hx hin hxl
          go_wp2_with fail
          go_ret
          exact ⟨ret_bool HN.out.symm, hb0⟩
      · have HY : Hid (polB xs = true) := polB_yes HV.out (by rw [hlen.out]; exact ha.out) (by have := hlen.out; omega)
        go_wp2_with fail
        go_ret
        exact ⟨ret_bool HY.out.symm, hb0⟩
end Go.Proofs.Ytpdgnmdjneakgaa
