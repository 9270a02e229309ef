/-
  Decimal texts: strconv.FormatInt at base 10 (by the shelf), the program's Decimal, the model's l01Dec. Conditions: the table of the powers of ten lies as the library's text lays it.
-/
import Derived.Test.YtclenhnbgfcjjaaDoorBase
import Derived.Test.YtclenhnbgfcjjaaDoorDigits
import Derived.Lib.AppendIntMem
import Derived.Lib.LaidTab
import Derived.Shelf.Strconv.Itoa4
import Derived.Shelf.Lay
import Derived.Ground.NamesProg
namespace Go.Proofs
open Go.Shelf
shelf_lay LaysM.n173 Nm 173 at Tryd as Tryd.lays173
end Go.Proofs
namespace Go.Proofs.YtclenhnbgfcjjaaDoor
open Go.RowKit

theorem formatInt_c (n : Int) (h0 : -9223372036854775808 ≤ n) (h1 : n ≤ 9223372036854775807) (w : World) (htab : Lib.TabIs Tryd.prog w "internal/strconv.uint64pow10" .u64 Lib.pow10Tab) :
    Calls Tryd.prog 35 #[.int .i64 n, .int .i64 10] w fun e w' => e = .returned (.string ⟨(Lib.itoa n).toArray⟩) ∧ ∃ k os, w' = Sort.grow (w.drewN k) os :=
  Any.strconv_FormatInt_10 Tryd.lays173 n h0 h1 w htab

set_option maxRecDepth 100000 in
set_option maxHeartbeats 1000000 in
theorem decimal_c (n : Int) (h0 : -9223372036854775808 ≤ n) (h1 : n ≤ 9223372036854775807) (w : World) (htab : Lib.TabIs Tryd.prog w "internal/strconv.uint64pow10" .u64 Lib.pow10Tab) :
    Calls Tryd.prog 32 #[.int .i64 n] w fun e w' => e = .returned (.string ⟨(Lib.itoa n).toArray⟩) ∧ ∃ k os, w' = Sort.grow (w.drewN k) os := by
  have HF := Lib.hid (formatInt_c n h0 h1 w htab)
  clear htab
  go_enter Tryd.func32, Tryd.ntmps32
  go_wp2_with (go_at_call 35; refine HF.out.mono ?_; rintro e w' ⟨rfl, k, os, rfl⟩)
  go_ret
  exact ⟨rfl, k, os, rfl⟩

theorem tdiv_neg10 (M : Nat) : Int.tdiv (-(M : Int)) 10 = -((M / 10 : Nat) : Int) := by
  rw [Int.neg_tdiv]; rfl
theorem tmod_neg10 (M : Nat) : Int.tmod (-(M : Int)) 10 = -((M % 10 : Nat) : Int) := by
  rw [Int.neg_tmod]; rfl
set_option maxRecDepth 100000 in
set_option maxHeartbeats 1000000 in
theorem l01Dec_c (n : Int) (h0 : -9223372036854775808 ≤ n) (h1 : n ≤ 9223372036854775807) (w : World) :
    Calls Tryd.prog 20 #[.int .i64 n] w fun e w' => e = .returned (.string ⟨(Lib.itoa n).toArray⟩) ∧ Below w.heap.size w w' := by
  by_cases hz : n = 0
  · have hi : (Lib.itoa n).toArray = #[48] := by subst hz; unfold Lib.itoa; rw [if_neg (by omega), Lib.decDigits]; rfl
    rw [hi]
    clear hi
    go_enter Tryd.func20, Tryd.ntmps20
    go_wp2
    go_ret
    exact ⟨by rfl, Below.refl _ _⟩
  by_cases hp : 0 < n
  · go_enter Tryd.func20, Tryd.ntmps20
    go_wp2
    go_loopw [3, 4] (fun i o wr => ∃ (M : Nat) (l : List UInt8), i = .int .i64 (-(M : Int)) ∧ (M : Int) ≤ 9223372036854775808 ∧ o = .string ⟨l.toArray⟩ ∧ Hid (dd M ++ l = Lib.decDigits n.natAbs) ∧ Below w.heap.size w wr) (fun i _ _ => (intOf i).natAbs)
    case atStart =>
      refine ⟨n.natAbs, [], by rw [Int.natAbs_of_nonneg (by omega)], by omega, rfl, ?_, Below.refl _ _⟩
      show _ = _
      rw [List.append_nil, dd, if_neg (by omega)]
    case round =>
      obtain ⟨M, l, rfl, hM, rfl, hd, hbel⟩ := hrel
      have hdv := tdiv_neg10 M
      have hmd := tmod_neg10 M
      have hln := dd_len hd (by omega)
      have hsz := hbel.size
      by_cases hlt : 0 < M
      · have hlt' : -(M : Int) < 0 := by omega
        have hcv := digit_str wr (48 + (M : Int) % 10) (48 + M % 10) (by omega)
        go_wp2
        go_roundw
        case rel => exact ⟨M / 10, UInt8.ofNat (48 + M % 10) :: l, by go_num, by omega, by rw [cat_digit], dd_next hd hlt, hbel.alloc hsz _⟩
        case measure => simp [intOf]; omega
      · have hlt' : ¬ -(M : Int) < 0 := by omega
        obtain rfl : M = 0 := by omega
        have hl := dd_done hd
        have HL := Lib.hid hl
        clear hd hl hdv hmd
        go_wp2
        go_ret
        exact ⟨by rw [HL.out]; unfold Lib.itoa; rw [if_neg (by omega), show n.natAbs = n.toNat from (by omega)]; rfl, hbel⟩
  · have hneg : n < 0 := by omega
    go_enter Tryd.func20, Tryd.ntmps20
    go_wp2
    go_loopw [3, 4] (fun i o wr => ∃ (M : Nat) (l : List UInt8), i = .int .i64 (-(M : Int)) ∧ (M : Int) ≤ 9223372036854775808 ∧ o = .string ⟨l.toArray⟩ ∧ Hid (dd M ++ l = Lib.decDigits n.natAbs) ∧ Below w.heap.size w wr) (fun i _ _ => (intOf i).natAbs)
    case atStart =>
      refine ⟨n.natAbs, [], by congr 1; omega, by omega, rfl, ?_, Below.refl _ _⟩
      show _ = _
      rw [List.append_nil, dd, if_neg (by omega)]
    case round =>
      obtain ⟨M, l, rfl, hM, rfl, hd, hbel⟩ := hrel
      have hdv := tdiv_neg10 M
      have hmd := tmod_neg10 M
      have hln := dd_len hd (by omega)
      have hsz := hbel.size
      by_cases hlt : 0 < M
      · have hlt' : -(M : Int) < 0 := by omega
        have hcv := digit_str wr (48 + (M : Int) % 10) (48 + M % 10) (by omega)
        go_wp2
        go_roundw
        case rel => exact ⟨M / 10, UInt8.ofNat (48 + M % 10) :: l, by go_num, by omega, by rw [cat_digit], dd_next hd hlt, hbel.alloc hsz _⟩
        case measure => simp [intOf]; omega
      · have hlt' : ¬ -(M : Int) < 0 := by omega
        obtain rfl : M = 0 := by omega
        have hl := dd_done hd
        have HL := Lib.hid hl
        clear hd hl hdv hmd
        go_wp2
        go_ret
        exact ⟨by rw [cat_minus, HL.out]; unfold Lib.itoa; rw [if_pos (by omega)]; rfl, hbel⟩

end Go.Proofs.YtclenhnbgfcjjaaDoor
