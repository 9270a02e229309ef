/-
  markText: the letter m and the digits of a number. Conditions: numbers from 1 to 10^12.
-/
import Derived.Test.YtpgbihiibdiohaaDoorDigits
namespace Go.Proofs.YtpgbihiibdiohaaDoor
open Go.RowKit

/-- The mark with the number k. -/
def markS (k : Nat) : ByteArray := ⟨(109 :: Lib.decDigits k).toArray⟩
theorem cat_m (l : List UInt8) : (⟨#[109]⟩ : ByteArray) ++ ⟨l.toArray⟩ = ⟨(109 :: l).toArray⟩ := by
  apply ByteArray.ext
  simp
set_option maxRecDepth 100000 in
set_option maxHeartbeats 1000000 in
theorem markText_c (K : Nat) (h0 : 0 < K) (h1 : K ≤ 1000000000000) (w : World) :
    Calls Tryd.prog 49 #[.int .i64 (K : Int)] w fun e w' => e = .returned (.string (markS K)) ∧ Below w.heap.size w w' := by
  obtain ⟨a, ha⟩ : ∃ a : Int, a = (K : Int) := ⟨_, rfl⟩
  rw [← ha]
  have a0 : 0 < a := by omega
  have a1 : a ≤ 1000000000000 := by omega
  go_enter Tryd.func49, Tryd.ntmps49
  go_wp2
  go_loopw [0, 3] (fun i o wr => ∃ (M : Nat) (b : Int) (l : List UInt8), i = .int .i64 b ∧ Hid (b = (M : Int)) ∧ b ≤ 1000000000000 ∧ 0 ≤ b ∧ o = .string ⟨l.toArray⟩ ∧ Hid (dd M ++ l = Lib.decDigits K) ∧ Below w.heap.size w wr) (fun i _ _ => (intOf i).natAbs)
  case atStart =>
    refine ⟨K, a, [], rfl, ha, a1, by omega, rfl, ?_, Below.refl _ _⟩
    show _ = _
    rw [List.append_nil, dd, if_neg (by omega)]
  case round =>
    obtain ⟨M, b, l, rfl, hb, hM, hb0, rfl, hd, hbel⟩ := hrel
    have hln := dd_len hd (by omega)
    have hsz := hbel.size
    have hbM := hb.out
    by_cases hlt : 0 < b
    · have hcv := digit_str wr (48 + b % 10) (48 + M % 10) (by omega)
      have hmd := Int.emod_nonneg b (by decide : (10 : Int) ≠ 0)
      have hml := Int.emod_lt_of_pos b (by decide : (0 : Int) < 10)
      clear hbM
      go_wp2
      go_roundw
      case rel => exact ⟨M / 10, b / 10, UInt8.ofNat (48 + M % 10) :: l, by go_num, by show _ = _; have := hb.out; omega, by omega, by omega, by rw [cat_digit], dd_next hd (by have := hb.out; omega), hbel.alloc hsz _⟩
      case measure => simp [intOf]; omega
    · obtain rfl : M = 0 := by omega
      obtain rfl : b = 0 := by omega
      have hl := dd_done hd
      have HL := Lib.hid hl
      clear hd hl hbM
      go_wp2
      go_ret
      exact ⟨by rw [cat_m, HL.out]; rfl, hbel⟩
end Go.Proofs.YtpgbihiibdiohaaDoor
