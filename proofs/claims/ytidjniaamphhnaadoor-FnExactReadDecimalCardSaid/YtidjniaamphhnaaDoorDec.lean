/-
  Decimal texts: strconv.FormatInt at base 10 (by the shelf), the program's Decimal, the model's l01Dec. Conditions: the table of the powers of ten lies as the library's text lays it.
-/
import Derived.Test.YtidjniaamphhnaaDoorBase
import Derived.Lib.ItoaNum
import Derived.Lib.ItoaLen
import Derived.Lib.AppendIntMem
import Derived.Lib.LaidTab
import Derived.Shelf.Strconv.Itoa4
import Derived.Shelf.Lay
import Derived.Ground.NamesProg
namespace Go.Proofs
open Go.Shelf
shelf_lay LaysM.n173 Nm 173 at Tryd as Tryd.lays173
end Go.Proofs
namespace Go.Proofs.YtidjniaamphhnaaDoor
open Go.RowKit

theorem formatInt_c (n : Int) (h0 : -9223372036854775808 ≤ n) (h1 : n ≤ 9223372036854775807) (w : World) (htab : Lib.TabIs Tryd.prog w "internal/strconv.uint64pow10" .u64 Lib.pow10Tab) :
    Calls Tryd.prog 50 #[.int .i64 n, .int .i64 10] w fun e w' => e = .returned (.string ⟨(Lib.itoa n).toArray⟩) ∧ ∃ k os, w' = Sort.grow (w.drewN k) os :=
  Any.strconv_FormatInt_10 Tryd.lays173 n h0 h1 w htab

set_option maxRecDepth 100000 in
set_option maxHeartbeats 1000000 in
theorem decimal_c (n : Int) (h0 : -9223372036854775808 ≤ n) (h1 : n ≤ 9223372036854775807) (w : World) (htab : Lib.TabIs Tryd.prog w "internal/strconv.uint64pow10" .u64 Lib.pow10Tab) :
    Calls Tryd.prog 25 #[.int .i64 n] w fun e w' => e = .returned (.string ⟨(Lib.itoa n).toArray⟩) ∧ ∃ k os, w' = Sort.grow (w.drewN k) os := by
  have HF := Lib.hid (formatInt_c n h0 h1 w htab)
  clear htab
  go_enter Tryd.func25, Tryd.ntmps25
  go_wp2_with (go_at_call 50; refine HF.out.mono ?_; rintro e w' ⟨rfl, k, os, rfl⟩)
  go_ret
  exact ⟨rfl, k, os, rfl⟩

/-- The digits that are left; none for 0. -/
def dd (m : Nat) : List UInt8 := if m = 0 then [] else Lib.decDigits m
theorem dd_step {m : Nat} (h : 0 < m) : dd m = dd (m / 10) ++ [UInt8.ofNat (48 + m % 10)] := by
  unfold dd
  rw [if_neg (by omega), Lib.decDigits]
  by_cases h10 : m < 10
  · rw [dif_pos h10, if_pos (by omega), Nat.mod_eq_of_lt h10]; rfl
  · rw [dif_neg h10, if_neg (by omega)]
theorem dd_len {M N : Nat} {l : List UInt8} (h : Hid (dd M ++ l = Lib.decDigits N)) (hN : N ≤ 9223372036854775808) : l.length ≤ 20 := by
  have e := congrArg List.length h.out
  rw [List.length_append, Lib.decDigits_length] at e
  have := Lib.nDigits_le20 N (by omega)
  omega
theorem dd_next {M N : Nat} {l : List UInt8} (h : Hid (dd M ++ l = Lib.decDigits N)) (hM : 0 < M) : Hid (dd (M / 10) ++ (UInt8.ofNat (48 + M % 10) :: l) = Lib.decDigits N) := by
  have h := h.out
  rw [dd_step hM] at h
  show _ = _
  rw [← h]; simp
theorem dd_done {N : Nat} {l : List UInt8} (h : Hid (dd 0 ++ l = Lib.decDigits N)) : l = Lib.decDigits N := h.out
theorem cat_digit (d : Nat) (l : List UInt8) : (⟨#[48 + UInt8.ofNat d]⟩ : ByteArray) ++ ⟨l.toArray⟩ = ⟨(UInt8.ofNat (48 + d) :: l).toArray⟩ := by
  have e : UInt8.ofNat (48 + d) = 48 + UInt8.ofNat d := UInt8.ofNat_add 48 d
  rw [e]
  apply ByteArray.ext
  simp
theorem cat_minus (l : List UInt8) : (⟨#[45]⟩ : ByteArray) ++ ⟨l.toArray⟩ = ⟨(45 :: l).toArray⟩ := by
  apply ByteArray.ext
  simp
theorem tdiv_neg10 (M : Nat) : Int.tdiv (-(M : Int)) 10 = -((M / 10 : Nat) : Int) := by
  rw [Int.neg_tdiv]; rfl
theorem tmod_neg10 (M : Nat) : Int.tmod (-(M : Int)) 10 = -((M % 10 : Nat) : Int) := by
  rw [Int.neg_tmod]; rfl
theorem one_owned (w : World) (v : Value) (t : TypeId) (base : Nat) (hb : base ≤ w.heap.size) : (w.alloc (.cells #[v] t)).ownsRow base t 1 (.slice (some ⟨w.heap.size, 0, none⟩) 1 1) 1 [v] :=
  ⟨by simp, .inr ⟨w.heap.size, 1, #[v], rfl, hb, heap_alloc_new w _, Nat.le_refl _, by decide, rfl, by simp⟩⟩
theorem digit_str (w : World) (x : Int) (d : Nat) (hx : x = (d : Int)) :
    (convert 22 9 (.slice (some ⟨w.heap.size, 0, none⟩) 1 1)).run Tryd.prog (w.alloc (.cells #[.int .u8 x] 5)) = .ok (.string ⟨#[UInt8.ofNat d]⟩) (w.alloc (.cells #[.int .u8 x] 5)) := by
  subst hx
  have h := run_own_string 22 9 Tryd.underlying22 Tryd.underlying5 Tryd.underlying9 [d] (one_owned w (.int .u8 (d : Int)) 5 w.heap.size (Nat.le_refl _))
  exact h
set_option maxRecDepth 100000 in
set_option maxHeartbeats 1000000 in
theorem l01Dec_c (n : Int) (h0 : -9223372036854775808 ≤ n) (h1 : n ≤ 9223372036854775807) (w : World) :
    Calls Tryd.prog 49 #[.int .i64 n] w fun e w' => e = .returned (.string ⟨(Lib.itoa n).toArray⟩) ∧ Below w.heap.size w w' := by
  by_cases hz : n = 0
  · have hi : (Lib.itoa n).toArray = #[48] := by subst hz; unfold Lib.itoa; rw [if_neg (by omega), Lib.decDigits]; rfl
    rw [hi]
    clear hi
    go_enter Tryd.func49, Tryd.ntmps49
    go_wp2
    go_ret
    exact ⟨by rfl, Below.refl _ _⟩
  by_cases hp : 0 < n
  · go_enter Tryd.func49, Tryd.ntmps49
    go_wp2
    go_loopw [3, 4] (fun i o wr => ∃ (M : Nat) (l : List UInt8), i = .int .i64 (-(M : Int)) ∧ (M : Int) ≤ 9223372036854775808 ∧ o = .string ⟨l.toArray⟩ ∧ Hid (dd M ++ l = Lib.decDigits n.natAbs) ∧ Below w.heap.size w wr) (fun i _ _ => (intOf i).natAbs)
    case atStart =>
      refine ⟨n.natAbs, [], by rw [Int.natAbs_of_nonneg (by omega)], by omega, rfl, ?_, Below.refl _ _⟩
      show _ = _
      rw [List.append_nil, dd, if_neg (by omega)]
    case round =>
      obtain ⟨M, l, rfl, hM, rfl, hd, hbel⟩ := hrel
      have hdv := tdiv_neg10 M
      have hmd := tmod_neg10 M
      have hln := dd_len hd (by omega)
      have hsz := hbel.size
      by_cases hlt : 0 < M
      · have hlt' : -(M : Int) < 0 := by omega
        have hcv := digit_str wr (48 + (M : Int) % 10) (48 + M % 10) (by omega)
        go_wp2
        go_roundw
        case rel => exact ⟨M / 10, UInt8.ofNat (48 + M % 10) :: l, by go_num, by omega, by rw [cat_digit], dd_next hd hlt, hbel.alloc hsz _⟩
        case measure => simp [intOf]; omega
      · have hlt' : ¬ -(M : Int) < 0 := by omega
        obtain rfl : M = 0 := by omega
        have hl := dd_done hd
        have HL := Lib.hid hl
        clear hd hl hdv hmd
        go_wp2
        go_ret
        exact ⟨by rw [HL.out]; unfold Lib.itoa; rw [if_neg (by omega), show n.natAbs = n.toNat from (by omega)]; rfl, hbel⟩
  · have hneg : n < 0 := by omega
    go_enter Tryd.func49, Tryd.ntmps49
    go_wp2
    go_loopw [3, 4] (fun i o wr => ∃ (M : Nat) (l : List UInt8), i = .int .i64 (-(M : Int)) ∧ (M : Int) ≤ 9223372036854775808 ∧ o = .string ⟨l.toArray⟩ ∧ Hid (dd M ++ l = Lib.decDigits n.natAbs) ∧ Below w.heap.size w wr) (fun i _ _ => (intOf i).natAbs)
    case atStart =>
      refine ⟨n.natAbs, [], by congr 1; omega, by omega, rfl, ?_, Below.refl _ _⟩
      show _ = _
      rw [List.append_nil, dd, if_neg (by omega)]
    case round =>
      obtain ⟨M, l, rfl, hM, rfl, hd, hbel⟩ := hrel
      have hdv := tdiv_neg10 M
      have hmd := tmod_neg10 M
      have hln := dd_len hd (by omega)
      have hsz := hbel.size
      by_cases hlt : 0 < M
      · have hlt' : -(M : Int) < 0 := by omega
        have hcv := digit_str wr (48 + (M : Int) % 10) (48 + M % 10) (by omega)
        go_wp2
        go_roundw
        case rel => exact ⟨M / 10, UInt8.ofNat (48 + M % 10) :: l, by go_num, by omega, by rw [cat_digit], dd_next hd hlt, hbel.alloc hsz _⟩
        case measure => simp [intOf]; omega
      · have hlt' : ¬ -(M : Int) < 0 := by omega
        obtain rfl : M = 0 := by omega
        have hl := dd_done hd
        have HL := Lib.hid hl
        clear hd hl hdv hmd
        go_wp2
        go_ret
        exact ⟨by rw [cat_minus, HL.out]; unfold Lib.itoa; rw [if_pos (by omega)]; rfl, hbel⟩

set_option maxRecDepth 100000 in
theorem specDecimal_c (n : Int) (h0 : -9223372036854775808 ≤ n) (h1 : n ≤ 9223372036854775807) (w : World) :
    Calls Tryd.prog 24 #[.int .i64 n] w fun e w' => e = .returned (.string ⟨(Lib.itoa n).toArray⟩) ∧ Below w.heap.size w w' := by
  have HF := Lib.hid (l01Dec_c n h0 h1 w)
  go_enter Tryd.func24, Tryd.ntmps24
  go_wp2_with (go_at_call 49; refine HF.out.mono ?_; rintro e w' ⟨rfl, hb⟩)
  go_ret
  exact ⟨rfl, hb⟩
end Go.Proofs.YtidjniaamphhnaaDoor
