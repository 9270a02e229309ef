/-
  The codes of numbers: plain lists of digits, and what the two functions that write them do. Conditions: numbers from -2^61 to 2^61.
-/
import Derived.Test.YtffkdidgfeknkaaDoorBase
namespace Go.Proofs.YtffkdidgfeknkaaDoor
open Go.RowKit

/-- The digits to the base 128, 128 added to all but the last. -/
def digs (m : Nat) : List Nat := if m < 128 then [m] else (m % 128 + 128) :: digs (m / 128)
termination_by m
decreasing_by omega
/-- What is coded for a number. -/
def zz (n : Int) : Nat := if n < 0 then (-2 * n - 1).toNat else (2 * n).toNat

theorem digs_small {m : Nat} (h : m < 128) : digs m = [m] := by rw [digs, if_pos h]
theorem digs_great {m : Nat} (h : ¬ m < 128) : digs m = (m % 128 + 128) :: digs (m / 128) := by rw [digs, if_neg h]
theorem digs_len : ∀ (b m : Nat), m < 128 ^ (b + 1) → (digs m).length ≤ b + 1
  | 0, m, h => by rw [digs_small (by simpa using h)]; simp
  | b + 1, m, h => by
    by_cases hm : m < 128
    · rw [digs_small hm]; simp
    · rw [digs_great hm]
      have := digs_len b (m / 128) (by rw [Nat.div_lt_iff_lt_mul (by decide)]; rw [Nat.pow_succ] at h; exact h)
      simp; omega
theorem digs_len9 {m : Nat} (h : m ≤ 4611686018427387904) : (digs m).length ≤ 9 :=
  digs_len 8 m (by have e : (128 : Nat) ^ (8 + 1) = 9223372036854775808 := by decide
                   omega)

theorem info8 : (Tryd.prog.info? 5).map (fun i => (i.zero, i.size, i.bytes)) = some (some (.int .u8 0), 1, 1) := by kernel_rfl

/-- One byte more, in the row of the call's own. -/
theorem put_step {base k : Nat} {v' : Value} {w1 : World} {l pre : List Nat} {d : Nat} {x : Int} (hx : x = (d : Int))
    (h : w1.ownsRow base 5 1 v' (k + pre.length + 1) (List.map bc l ++ (List.map bc pre ++ [Value.int .u8 x]))) :
    w1.ownsRow base 5 1 v' (k + (pre ++ [d]).length) ((l ++ (pre ++ [d])).map bc) := by
  subst hx
  have e : (l ++ (pre ++ [d])).map bc = List.map bc l ++ (List.map bc pre ++ [Value.int .u8 (d : Int)]) := by simp [bc]
  rw [e]
  simpa [Nat.add_assoc] using h
theorem digs_step {pre : List Nat} {m z : Nat} (h : Hid (pre ++ digs m = digs z)) (hm : 128 ≤ m) : Hid ((pre ++ [m % 128 + 128]) ++ digs (m / 128) = digs z) := by
  have h := h.out
  rw [digs_great (by omega)] at h
  show _ = _
  rw [← h]; simp
theorem digs_end {pre : List Nat} {m z : Nat} (h : Hid (pre ++ digs m = digs z)) (hm : m < 128) : pre ++ [m] = digs z := by
  have h := h.out
  rwa [digs_small hm] at h
theorem below_step {base : Nat} {w wr w1 : World} {v : Value} {n : Nat} {xs : List Value} {o : Obj} (hb : base ≤ w.heap.size) (h : Below base w wr)
    (ho : wr.ownsRow base 5 1 v n xs) (hg : (wr.alloc o).grownBy w1 v.ownBlock) : Below base w w1 :=
  (h.alloc (Nat.le_trans hb h.size) o).grown hg (Nat.le_trans (Nat.le_trans hb h.size) (by simp)) (fun k hk => (ho.lt k hk).1)

set_option maxRecDepth 100000 in
set_option maxHeartbeats 1000000 in
/-- appendNumber: the number's digits behind the bytes of a row of the caller's own. -/
theorem appendNumber_c (base : Nat) (v : Value) (k : Nat) (l : List Nat) (n : Int) (w : World) (hv : w.ownsRow base 5 1 v k (l.map bc)) (hb : base ≤ w.heap.size)
    (hk : k ≤ 100000000000) (h1 : -2305843009213693952 ≤ n) (h2 : n ≤ 2305843009213693951) :
    Calls Tryd.prog 35 #[v, .int .i64 n] w fun e w' => ∃ v', e = .returned v' ∧ w'.ownsRow base 5 1 v' (k + (digs (zz n)).length) ((l ++ digs (zz n)).map bc) ∧ Below base w w' := by
  obtain ⟨i0, hi, hz0, hz1, hz2⟩ := info_parts info8
  have hz9 := digs_len9 (m := zz n) (by unfold zz; split <;> omega)
  have hz8 : ((zz n : Nat) : Int) ≤ 4611686018427387904 := by unfold zz; split <;> omega
  by_cases hn : n < 0
  have hzz : -2 * n - 1 = ((zz n : Nat) : Int) := by unfold zz; rw [if_pos hn]; omega
  rotate_left
  have hzz : 2 * n = ((zz n : Nat) : Int) := by unfold zz; rw [if_neg hn]; omega
  all_goals
    have HZ := Lib.hid hzz
    clear hzz
    go_enter Tryd.func35, Tryd.ntmps35
    go_wp2
    go_loopw [0, 5] (fun v5 i wr => ∃ (m : Nat) (pre : List Nat), i = .int .i64 m ∧ (m : Int) ≤ 4611686018427387904 ∧ Hid (pre ++ digs m = digs (zz n)) ∧ wr.ownsRow base 5 1 v5 (k + pre.length) ((l ++ pre).map bc) ∧ Below base w wr) (fun _ i _ => (intOf i).toNat)
    case atStart => exact ⟨zz n, [], by rw [HZ.out], hz8, rfl, by simpa using hv, Below.refl _ _⟩
    case round =>
      obtain ⟨m, pre, rfl, hm, hd, hown, hbel⟩ := hrel
      have hpl : pre.length + (digs m).length ≤ 9 := by rw [← List.length_append, hd.out]; exact hz9
      have hsz := hbel.size
      by_cases hlt : 128 ≤ m
      · go_wp2_with (at_builtin; refine wpList_append_own _ rfl _ _ 22 rfl base 5 i0 (.int .u8 0) 1 1 Tryd.underlying22 hi hz0 hz1 hz2 rfl (by decide) _ _ _ rfl (hown.alloc _) ⟨wr.heap.size, 0, none⟩ 1 1 [.int .u8 ((m : Int) % 128 + 128)] rfl rfl ?c1 ?c2 ?c3 ?c4 ?c5 ?_)
        case c1 =>
          intro j u hj
          match j, hj with
          | 0, hj => simp at hj; subst hj; simp [Addr.add]
        case c2 => intro u hu; simp at hu; subst hu; rfl
        case c3 => unfold maxLen; omega
        case c4 => omega
        case c5 => simp; omega
        intro v' w1 hown' hgrow _
        have R1 := put_step (d := m % 128 + 128) (x := (m : Int) % 128 + 128) (by omega) hown'
        have R2 := below_step hb hbel hown hgrow
        clear hown' hgrow hown hbel
        go_wp2
        go_roundw
        case rel => exact ⟨m / 128, pre ++ [m % 128 + 128], by go_num, by omega, digs_step hd hlt, R1, R2⟩
        case measure => simp [intOf]; omega
      · have hm1 : (m : Int) < 128 := by omega
        go_wp2_with (at_builtin; refine wpList_append_own _ rfl _ _ 22 rfl base 5 i0 (.int .u8 0) 1 1 Tryd.underlying22 hi hz0 hz1 hz2 rfl (by decide) _ _ _ rfl (hown.alloc _) ⟨wr.heap.size, 0, none⟩ 1 1 [.int .u8 (m : Int)] rfl rfl ?d1 ?d2 ?d3 ?d4 ?d5 ?_)
        case d1 =>
          intro j u hj
          match j, hj with
          | 0, hj => simp at hj; subst hj; simp [Addr.add]
        case d2 => intro u hu; simp at hu; subst hu; rfl
        case d3 => unfold maxLen; omega
        case d4 => omega
        case d5 => simp; omega
        intro v' w1 hown' hgrow _
        have R1 := put_step (d := m) (x := (m : Int)) rfl hown'
        have R2 := below_step hb hbel hown hgrow
        have he := digs_end hd (by omega)
        have HE := Lib.hid he
        clear hown' hgrow hown hbel he
        go_wp2
        go_ret
        exact ⟨v', rfl, by rw [HE.out] at R1; exact R1, R2⟩

end Go.Proofs.YtffkdidgfeknkaaDoor
