/-
  The program's ScaleTerm and OppositeOf. Conditions: at most 2^20 coefficients.
-/
import Derived.Test.YtejgpooghengmaaSpecT1
import Derived.Test.YtejgpooghengmaaSparse
namespace Go.Proofs.Ytejgpooghengmaa
open Go.RowKit

theorem res_lenO (t : Int × List Int) : (oppR t).1.2.length ≤ 10 := by
  unfold oppR
  split
  · exact mkL_len _ _
  · simp
theorem res_lenS (t : Int × List Int) (k : Int) : (scaleR t k).1.2.length ≤ 10 := by
  unfold scaleR
  split
  · exact mkL_len _ _
  · simp
theorem ten_eq {f g : Int → Int} (h : ∀ i : Nat, f i = g i) : ten f = ten g := by
  unfold ten; exact List.map_congr_left fun i _ => h i
theorem scale_eq {t : Int × List Int} {k : Int} (h : tmB t = true) (k1 : -1000000 ≤ k) (k2 : k ≤ 1000000) : mkL (addT (fun _ => 0) k t (-1)) (ten (addT (fun _ => 0) k t)) = scaleR t k := by
  rw [scaleR_yes h k1 k2, ten_eq (g := lin t k (0, []) 0) (fun i => by rw [lin_nat]; unfold addT; rw [tf_nat]; simp)]
  unfold addT; rw [tf_const]; simp
theorem opp_eq {t : Int × List Int} (h : tmB t = true) : mkL (addT (fun j => if j = -1 then -1 else 0) (-1) t (-1)) (ten (addT (fun j => if j = -1 then -1 else 0) (-1) t)) = oppR t := by
  rw [oppR_yes h, ten_eq (g := lin t (-1) (1, []) (-1)) (fun i => by rw [lin_nat]; show (if ((i : Nat) : Int) = -1 then (-1 : Int) else 0) + -1 * tf t i = _; rw [tf_nat, if_neg (by omega)]; simp)]
  show mkL ((if (-1 : Int) = -1 then (-1 : Int) else 0) + -1 * tf t (-1)) _ = _
  rw [tf_const, if_pos rfl]
  congr 1; omega

end Go.Proofs.Ytejgpooghengmaa
