/-
  The program's PutNumber. Conditions: numbers that can be coded.
-/
import Derived.Test.YtffkdidgfeknkaaDoorCodes
namespace Go.Proofs.YtffkdidgfeknkaaDoor
open Go.RowKit

set_option maxHeartbeats 400000 in
theorem putNumber_yes (n : Int) (w : World) (h1 : -1000000000000000 ≤ n) (h2 : n ≤ 1000000000000000) :
    Calls Tryd.prog 14 #[.int .i64 n] w fun e w' => e = .returned (.tuple #[.string (bstr (digs (zz n))), .bool true]) ∧ Below w.heap.size w w' := by
  go_enter Tryd.func14, Tryd.ntmps14
  go_wp2_with (first | (go_at_call 41; go_in) | (go_at_call 62; go_in) | (go_at_call 35; refine (appendNumber_c w.heap.size (.slice none 0 0) 0 [] n _ (World.ownsRow_nil _ _ _ _) (Nat.le_refl _) (by omega) (by omega) (by omega)).mono ?_; rintro e w' ⟨v', rfl, hown, hbel⟩; have hcv := run_own_string 22 9 Tryd.underlying22 Tryd.underlying5 Tryd.underlying9 _ hown; clear hown))
  go_ret2
  exact ⟨rfl, hbel⟩
end Go.Proofs.YtffkdidgfeknkaaDoor
