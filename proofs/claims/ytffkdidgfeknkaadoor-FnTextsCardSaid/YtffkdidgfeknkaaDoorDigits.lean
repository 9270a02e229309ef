/-
  Decimal digits that a loop lays from the last to the first: plain lemmas, and one digit as a string. No conditions.
-/
import Derived.Test.YtffkdidgfeknkaaDoorBase
import Derived.Lib.ItoaNum
import Derived.Lib.ItoaLen
namespace Go.Proofs.YtffkdidgfeknkaaDoor
open Go.RowKit

/-- The digits that are left; none for 0. -/
def dd (m : Nat) : List UInt8 := if m = 0 then [] else Lib.decDigits m
theorem dd_step {m : Nat} (h : 0 < m) : dd m = dd (m / 10) ++ [UInt8.ofNat (48 + m % 10)] := by
  unfold dd
  rw [if_neg (by omega), Lib.decDigits]
  by_cases h10 : m < 10
  · rw [dif_pos h10, if_pos (by omega), Nat.mod_eq_of_lt h10]; rfl
  · rw [dif_neg h10, if_neg (by omega)]
theorem dd_len {M N : Nat} {l : List UInt8} (h : Hid (dd M ++ l = Lib.decDigits N)) (hN : N ≤ 9223372036854775808) : l.length ≤ 20 := by
  have e := congrArg List.length h.out
  rw [List.length_append, Lib.decDigits_length] at e
  have := Lib.nDigits_le20 N (by omega)
  omega
theorem dd_next {M N : Nat} {l : List UInt8} (h : Hid (dd M ++ l = Lib.decDigits N)) (hM : 0 < M) : Hid (dd (M / 10) ++ (UInt8.ofNat (48 + M % 10) :: l) = Lib.decDigits N) := by
  have h := h.out
  rw [dd_step hM] at h
  show _ = _
  rw [← h]; simp
theorem dd_done {N : Nat} {l : List UInt8} (h : Hid (dd 0 ++ l = Lib.decDigits N)) : l = Lib.decDigits N := h.out
theorem cat_digit (d : Nat) (l : List UInt8) : (⟨#[48 + UInt8.ofNat d]⟩ : ByteArray) ++ ⟨l.toArray⟩ = ⟨(UInt8.ofNat (48 + d) :: l).toArray⟩ := by
  have e : UInt8.ofNat (48 + d) = 48 + UInt8.ofNat d := UInt8.ofNat_add 48 d
  rw [e]
  apply ByteArray.ext
  simp
theorem cat_minus (l : List UInt8) : (⟨#[45]⟩ : ByteArray) ++ ⟨l.toArray⟩ = ⟨(45 :: l).toArray⟩ := by
  apply ByteArray.ext
  simp
theorem one_owned (w : World) (v : Value) (t : TypeId) (base : Nat) (hb : base ≤ w.heap.size) : (w.alloc (.cells #[v] t)).ownsRow base t 1 (.slice (some ⟨w.heap.size, 0, none⟩) 1 1) 1 [v] :=
  ⟨by simp, .inr ⟨w.heap.size, 1, #[v], rfl, hb, heap_alloc_new w _, Nat.le_refl _, by decide, rfl, by simp⟩⟩
theorem digit_str (w : World) (x : Int) (d : Nat) (hx : x = (d : Int)) :
    (convert 22 9 (.slice (some ⟨w.heap.size, 0, none⟩) 1 1)).run Tryd.prog (w.alloc (.cells #[.int .u8 x] 5)) = .ok (.string ⟨#[UInt8.ofNat d]⟩) (w.alloc (.cells #[.int .u8 x] 5)) := by
  subst hx
  have h := run_own_string 22 9 Tryd.underlying22 Tryd.underlying5 Tryd.underlying9 [d] (one_owned w (.int .u8 (d : Int)) 5 w.heap.size (Nat.le_refl _))
  exact h
end Go.Proofs.YtffkdidgfeknkaaDoor
