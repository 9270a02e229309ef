/-
  Valid terms: what the program's ValidTerm and the model's l02Is give. Conditions: at most 2^20 coefficients.
-/
import Derived.Test.YtffkdidgfeknkaaDoorTm
import Derived.Test.YtffkdidgfeknkaaDoorBunA
import Derived.Outline
import Derived.BigQuiet
import Derived.Deep.QuietTactic
namespace Go.Proofs.YtffkdidgfeknkaaDoor
open Go.RowKit

set_option maxRecDepth 100000 in
set_option maxHeartbeats 1000000 in
theorem areBetween_c (A : Option Addr) (n c B : Nat) (lo hi : Int) (zs : List Int) (w : World) (h : Row w B A (zs.map ic)) (hz : zs.length = n) (hn : n ≤ 1048576) :
    Calls Tryd.prog 68 #[.slice A n c, .int .i64 lo, .int .i64 hi] w fun e w' => e = .returned (.bool (btw lo hi zs)) ∧ w = w' := by
  go_enter Tryd.func68, Tryd.ntmps68
  go_wp2
  go_loop [8, 11] (fun _ i => ∃ k : Nat, k ≤ n ∧ i = .int .i64 k ∧ Hid (∀ z ∈ zs.take k, lo ≤ z ∧ z ≤ hi)) (fun _ i => n - (intOf i).toNat)
  case atStart => exact ⟨0, Nat.zero_le _, rfl, by intro z hz; simp at hz⟩
  case round =>
    obtain ⟨k, hk, rfl, ha⟩ := hrel
    by_cases hlt : k < n
    · obtain ⟨b, off, x, rfl, hb, hx, hc⟩ := h.int_at (k := k) (by omega)
      have HX := Lib.hid hx
      clear hx
      by_cases h1 : lo ≤ x
      · by_cases h2 : x ≤ hi
        · go_wp2
          go_round
          case rel => exact ⟨k + 1, by omega, by go_num, btw_take_succ ha.out HX.out h1 h2⟩
          case measure => simp [intOf]; omega
        · go_wp2
          go_ret
          exact ⟨ret_bool (btw_no HX.out (by omega)).symm, rfl⟩
      · go_wp2
        go_ret
        exact ⟨ret_bool (btw_no HX.out (by omega)).symm, rfl⟩
    · have HY := Lib.hid (btw_yes ha.out (by omega))
      go_wp2
      go_ret
      exact ⟨ret_bool HY.out.symm, rfl⟩

end Go.Proofs.YtffkdidgfeknkaaDoor
