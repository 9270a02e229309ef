/-
  r8Same of equal rows of numbers. Conditions: at most 2^20 numbers.
-/
import Derived.Test.YtffkdidgfeknkaaDoorTms
namespace Go.Proofs.YtffkdidgfeknkaaDoor
set_option linter.unusedVariables false
open Go.RowKit

set_option maxRecDepth 100000 in
set_option maxHeartbeats 4000000 in
theorem r8SameL_c (A : Option Addr) (n c : Nat) (A' : Option Addr) (c' : Nat) (zs : List Int) (w : World) (h : Row w w.heap.size A (zs.map ic)) (h' : Row w w.heap.size A' (zs.map ic)) (hz : zs.length = n) (hn : n ≤ 1048576) :
    Calls Tryd.prog 13 #[.slice A n c, .slice A' n c'] w fun e w' => e = .returned (.bool true) ∧ Below w.heap.size w w' := by
  have HZ := Lib.hid hz
  have H := Lib.hid h
  have H' := Lib.hid h'
  clear h h' hz
  go_enter Tryd.func13, Tryd.ntmps13
  go_wp2_with fail
  go_loopw [5] (fun i wr => ∃ k : Nat, i = .int .i64 k ∧ k ≤ n ∧ Hid (Below w.heap.size w wr)) (fun i _ => (n - intOf i).toNat)
  case atStart => exact ⟨0, rfl, Nat.zero_le _, Below.refl _ _⟩
  case round =>
    rename World => wr
    obtain ⟨k, rfl, hk, hb⟩ := hrel
    by_cases hlt : k < n
    · have i3 : (k : Int) < (n : Int) := by omega
      obtain ⟨b, off, y, rfl, hbb, hy, hc⟩ := (H.out.below hb.out (Nat.le_refl _)).int_at (k := k) (by have := HZ.out; omega)
      obtain ⟨b2, off2, y2, rfl, hbb2, hy2, hc2⟩ := (H'.out.below hb.out (Nat.le_refl _)).int_at (k := k) (by have := HZ.out; omega)
      rw [hy] at hy2
      obtain rfl := Option.some.inj hy2
      have HB := Lib.hid (hb.out.drew)
      clear hy hy2 hbb hbb2 hb
      go_wp2_with fail
      go_region
      go_wp2_with fail
      go_roundw
      case rel => exact ⟨k + 1, by go_num, by omega, HB.out⟩
      case measure => simp [intOf]; omega
    · obtain rfl : k = n := by omega
      have i3 : ¬ (k : Int) < (k : Int) := by omega
      go_wp2_with fail
      go_ret
      exact ⟨rfl, hb.out⟩
end Go.Proofs.YtffkdidgfeknkaaDoor
