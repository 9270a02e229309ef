/-
  The model's l01Put gives the string of a number's digits. Conditions: numbers from -2^61 to 2^61.
-/
import Derived.Test.YtccjnnkohmmooacCodes
namespace Go.Proofs.Ytccjnnkohmmooac
open Go.RowKit

set_option maxRecDepth 100000 in
set_option maxHeartbeats 1000000 in
/-- The model's l01Put: the string of the digits. -/
theorem l01Put_c (n : Int) (w : World) (h1 : -2305843009213693952 ≤ n) (h2 : n ≤ 2305843009213693951) :
    Calls Try.prog 29 #[.int .i64 n] w fun e w' => e = .returned (.string (bstr (digs (zz n)))) ∧ Below w.heap.size w w' := by
  obtain ⟨i0, hi, hz0, hz1, hz2⟩ := info_parts info8
  have hz9 := digs_len9 (m := zz n) (by unfold zz; split <;> omega)
  have hz8 : ((zz n : Nat) : Int) ≤ 4611686018427387904 := by unfold zz; split <;> omega
  by_cases hn : n < 0
  have hzz : -2 * n - 1 = ((zz n : Nat) : Int) := by unfold zz; rw [if_pos hn]; omega
  rotate_left
  have hzz : 2 * n = ((zz n : Nat) : Int) := by unfold zz; rw [if_neg hn]; omega
  all_goals
    have HZ := Lib.hid hzz
    clear hzz
    go_enter Try.func29, Try.ntmps29
    go_wp2
    go_loopw [3, 4] (fun i v5 wr => ∃ (m : Nat) (pre : List Nat), i = .int .i64 m ∧ (m : Int) ≤ 4611686018427387904 ∧ Hid (pre ++ digs m = digs (zz n)) ∧ wr.ownsRow w.heap.size 5 1 v5 (0 + pre.length) (([] ++ pre).map bc) ∧ Below w.heap.size w wr) (fun i _ _ => (intOf i).toNat)
    case atStart => exact ⟨zz n, [], by rw [HZ.out], hz8, rfl, World.ownsRow_made w #[] 0 (Nat.le_refl _) (by decide) rfl, (Below.refl _ _).alloc (Nat.le_refl _) _⟩
    case round =>
      obtain ⟨m, pre, rfl, hm, hd, hown, hbel⟩ := hrel
      have hpl : pre.length + (digs m).length ≤ 9 := by rw [← List.length_append, hd.out]; exact hz9
      have hsz := hbel.size
      by_cases hlt : 128 ≤ m
      · go_wp2_with (at_builtin; refine wpList_append_own _ rfl _ _ 30 rfl w.heap.size 5 i0 (.int .u8 0) 1 1 Try.underlying30 hi hz0 hz1 hz2 rfl (by decide) _ _ _ rfl (hown.alloc _) ⟨wr.heap.size, 0, none⟩ 1 1 [.int .u8 ((m : Int) % 128 + 128)] rfl rfl ?c1 ?c2 ?c3 ?c4 ?c5 ?_)
        case c1 =>
          intro j u hj
          match j, hj with
          | 0, hj => simp at hj; subst hj; simp [Addr.add]
        case c2 => intro u hu; simp at hu; subst hu; rfl
        case c3 => unfold maxLen; omega
        case c4 => omega
        case c5 => simp; omega
        intro v' w1 hown' hgrow _
        have R1 := put_step (k := 0) (l := []) (d := m % 128 + 128) (x := (m : Int) % 128 + 128) (by omega) (by simpa using hown')
        have R2 := below_step (Nat.le_refl _) hbel hown hgrow
        clear hown' hgrow hown hbel
        go_wp2
        go_roundw
        case rel => exact ⟨m / 128, pre ++ [m % 128 + 128], by go_num, by omega, digs_step hd hlt, by simpa using R1, R2⟩
        case measure => simp [intOf]; omega
      · have hm1 : (m : Int) < 128 := by omega
        go_wp2_with (at_builtin; refine wpList_append_own _ rfl _ _ 30 rfl w.heap.size 5 i0 (.int .u8 0) 1 1 Try.underlying30 hi hz0 hz1 hz2 rfl (by decide) _ _ _ rfl (hown.alloc _) ⟨wr.heap.size, 0, none⟩ 1 1 [.int .u8 (m : Int)] rfl rfl ?d1 ?d2 ?d3 ?d4 ?d5 ?_)
        case d1 =>
          intro j u hj
          match j, hj with
          | 0, hj => simp at hj; subst hj; simp [Addr.add]
        case d2 => intro u hu; simp at hu; subst hu; rfl
        case d3 => unfold maxLen; omega
        case d4 => omega
        case d5 => simp; omega
        intro v' w1 hown' hgrow _
        have R1 := put_step (k := 0) (l := []) (d := m) (x := (m : Int)) rfl (by simpa using hown')
        have R2 := below_step (Nat.le_refl _) hbel hown hgrow
        rw [digs_end hd (by omega)] at R1
        have hcv := run_own_string 30 9 Try.underlying30 Try.underlying5 Try.underlying9 _ R1
        clear hown' hgrow hown hbel R1
        go_wp2
        go_ret
        exact ⟨rfl, R2⟩
end Go.Proofs.Ytccjnnkohmmooac
