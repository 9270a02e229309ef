/-
  The reader's sizes: a number within a limit, or an error. Conditions: an index from 0 to the length of the string.
-/
import Derived.Test.YtffkdidgfeknkaaDoorReadN
namespace Go.Proofs.YtffkdidgfeknkaaDoor
open Go.RowKit

set_option maxRecDepth 100000 in
set_option maxHeartbeats 1000000 in
theorem size_c (r : Nat) (s : ByteArray) (p l : Nat) (w : World) (h : Rd w r s p true) (hs : s.size ≤ 140737488355328) (hp : p ≤ s.size) (_ : l ≤ 1000000) :
    Calls Tryd.prog 70 #[.pointer (some ⟨r, 0, none⟩), .int .i64 l] w fun e w' => w.grownBy w' (some r) ∧
      ((∃ n q : Nat, getN s p = some ((n : Int), q) ∧ n ≤ l ∧ e = .returned (.int .i64 n) ∧ Rd w' r s q true) ∨ ((∀ n q : Nat, getN s p = some ((n : Int), q) → ¬ n ≤ l) ∧ e = .returned (.int .i64 0) ∧ Er w' r)) := by
  have H := Lib.hid h
  clear h
  go_enter Tryd.func70, Tryd.ntmps70
  go_wp2_with fail
  refine (number_c r s p _ H.out hs hp).mono ?_
  rintro e w1 ⟨hg1, ⟨n, q, hn, rfl, hr⟩ | ⟨hn, rfl, q, hr⟩⟩
  · have HR := Lib.hid hr
    have HN := Lib.hid hn
    clear hr hn
    by_cases h0 : 0 ≤ n
    · obtain ⟨k, rfl⟩ := Int.eq_ofNat_of_zero_le h0
      by_cases h1 : (k : Int) ≤ (l : Int)
      · go_wp2_with (first | (go_at_call 62; go_in))
        go_ret
        exact ⟨hg1, .inl ⟨k, q, HN.out, by omega, rfl, HR.out⟩⟩
      · have hd : decide ((k : Int) ≤ (l : Int)) = false := by simp; omega
        have hd2 : decide (k ≤ l) = false := by simp; omega
        go_wp2_with (first | (go_at_call 62; go_in))
        refine (fail_c r s _ q true _ HR.out).mono ?_
        rintro e w2 ⟨rfl, hr2, hg2⟩
        have HR2 := Lib.hid hr2.er
        clear hr2
        go_wp2_with fail
        go_ret
        refine ⟨only_trans hg1 hg2, .inr ⟨fun n' q' hn' => ?_, rfl, HR2.out⟩⟩
        have e := HN.out.symm.trans hn'
        injection e with e
        injection e with e1 e2
        omega
    · go_wp2_with (first | (go_at_call 62; go_in))
      refine (fail_c r s _ q true _ HR.out).mono ?_
      rintro e w2 ⟨rfl, hr2, hg2⟩
      have HR2 := Lib.hid hr2.er
      clear hr2
      go_wp2_with fail
      go_ret
      refine ⟨only_trans hg1 hg2, .inr ⟨fun n' q' hn' => ?_, rfl, HR2.out⟩⟩
      have e := HN.out.symm.trans hn'
      injection e with e
      injection e with e1 e2
      omega
  · have HR := Lib.hid hr.er
    have HN := Lib.hid hn
    clear hr hn
    go_wp2_with (first | (go_at_call 62; go_in))
    go_ret
    refine ⟨hg1, .inr ⟨fun n' q' hn' => ?_, rfl, HR.out⟩⟩
    rw [HN.out] at hn'
    cases hn'

set_option maxRecDepth 100000 in
set_option maxHeartbeats 1000000 in
theorem size_no (r l : Nat) (w : World) (h : Er w r) :
    Calls Tryd.prog 70 #[.pointer (some ⟨r, 0, none⟩), .int .i64 l] w fun e w' => e = .returned (.int .i64 0) ∧ w = w' := by
  have H := Lib.hid h
  clear h
  go_enter Tryd.func70, Tryd.ntmps70
  go_wp2_with fail
  refine (number_no r _ H.out).mono ?_
  rintro e w' ⟨rfl, rfl⟩
  go_wp2_with (first | (go_at_call 62; go_in))
  go_ret
  exact ⟨rfl, rfl⟩

end Go.Proofs.YtffkdidgfeknkaaDoor
