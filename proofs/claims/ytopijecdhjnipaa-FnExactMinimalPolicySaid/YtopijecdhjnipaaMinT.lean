/-
  The program's MinimalPolicy. Conditions: at most 2^20 rows and numbers.
-/
import Derived.Test.YtopijecdhjnipaaClasI
import Derived.Test.YtopijecdhjnipaaMinO
namespace Go.Proofs.Ytopijecdhjnipaa
open Go.RowKit

theorem minimal_c (A : Option Addr) (n c B : Nat) (xs : List (List Int)) (w : World) (h : InLL w B A n xs) (hB : B ≤ w.heap.size) (ok : RectP xs) (hn : n ≤ 1000) :
    Calls Try.prog 28 #[.agg #[.slice A n c]] w fun e w' => ∃ A' c', e = .returned (.agg #[.slice A' (minL xs).length c']) ∧ (∃ rs, PolO w' w.heap.size A' c' (minL xs) rs) ∧ Below w.heap.size w w' :=
  minimal_of A n c B xs w h hB ok hn (fun W hb => classes_c A n c B xs W (h.next hb hB) (Nat.le_trans hB hb.size) ok hn)
theorem implMinimal_c (A : Option Addr) (n c B : Nat) (xs : List (List Int)) (w : World) (h : InLL w B A n xs) (hB : B ≤ w.heap.size) (hn : n ≤ 1048576) (hea : ∀ x ∈ xs, x.length ≤ 1048576) :
    Calls Try.prog 10 #[.agg #[.slice A n c]] w fun e w' => ∃ A' c', e = .returned (.tuple #[.agg #[.slice A' (minR xs).1.length c'], .bool (minR xs).2]) ∧ (∃ rs, PolO w' w.heap.size A' c' (minR xs).1 rs) ∧ Below w.heap.size w w' :=
  implMinimal_of A n c B xs w h hB hn hea (fun ok hn' W hb => classes_c A n c B xs W (h.next hb hB) (Nat.le_trans hB hb.size) ok hn')
end Go.Proofs.Ytopijecdhjnipaa
