/-
  Slices of whole numbers: what the law compares. Conditions: at most 2^60 numbers.
-/
import Derived.Test.YtffkdidgfeknkaaDoorBase
import Derived.BigQuiet
import Derived.Deep.QuietTactic
namespace Go.Proofs.YtffkdidgfeknkaaDoor
open Go.RowKit

theorem info64 : (Tryd.prog.info? 2).map (fun i => (i.zero, i.size, i.bytes)) = some (some (.int .i64 0), 1, 8) := by kernel_rfl

theorem take_eq_step {zs zs' : List Int} {k : Nat} {x : Int} (h : zs.take k = zs'.take k) (hx : zs[k]? = some x) (hx' : zs'[k]? = some x) : Hid (zs.take (k + 1) = zs'.take (k + 1)) := by
  show _ = _
  rw [List.take_add_one, List.take_add_one, h, hx, hx']
theorem take_eq_no {zs zs' : List Int} {k : Nat} {x x' : Int} (hx : zs[k]? = some x) (hx' : zs'[k]? = some x') (e : ¬ x = x') : ¬ zs = zs' := by
  intro h; subst h; rw [hx] at hx'; exact e (Option.some.inj hx')
end Go.Proofs.YtffkdidgfeknkaaDoor
