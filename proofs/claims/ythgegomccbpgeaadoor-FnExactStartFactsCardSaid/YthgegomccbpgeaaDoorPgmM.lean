/-
  The marks that the law writes into a program; LoopsOf of the model. Conditions: at most 2^20 elements, terms and coefficients.
-/
import Derived.Test.YthgegomccbpgeaaDoorMarkSM
import Derived.Test.YthgegomccbpgeaaDoorLoops
namespace Go.Proofs.YthgegomccbpgeaaDoor
set_option linter.unusedVariables false
open Go.RowKit

set_option maxRecDepth 100000 in
set_option maxHeartbeats 2000000 in
theorem markProgram_w (lo k1 k2 hi : Nat) (A : Option Addr) (n c : Nat) (ts : List (Int × List Int)) (D : Option Addr) (m d : Nat) (xs : List S8) (E : Option Addr) (q e' : Nat) (us : List (Int × List Int)) (k0 : Int) (w : World)
    (h1 : OwnTS w lo k1 A n c ts) (h2 : OwnSM w k1 k2 D m d xs) (h3 : OwnTS w k2 hi E q e' us) (hk : lo ≤ k1 ∧ k1 ≤ k2 ∧ k2 ≤ hi) (hn : progN n ts m xs q us ≤ 1048576) (hk1 : 0 ≤ k0) (hk2 : k0 ≤ 1000) :
    Calls Tryd.prog 10 #[.agg #[.slice A n c, .slice D m d, .slice E q e'], .int .i64 k0] w fun e w' => (∃ r : Int, e = .returned (.int .i64 r) ∧ 0 ≤ r) ∧ Out lo hi w w' := by
  unfold progN at hn
  obtain ⟨e1, e2, e3⟩ := hk
  have hb0 := bnew w (.cells #[.slice A n c, .slice D m d, .slice E q e'] 32)
  have hP : BlkIs (w.alloc (.cells #[.slice A n c, .slice D m d, .slice E q e'] 32)) w.heap.size 32 #[.slice A n c, .slice D m d, .slice E q e'] := blk_new _ _ _ _ rfl
  have hsz3 : hi ≤ w.heap.size := h3.2.1
  have C1 := Lib.hid (markTermS_w lo k1 A n c ts k0 _ (h1.next hb0) (by omega) (by omega) hk1 (by omega))
  have H2 := Lib.hid (h2.next hb0)
  have H3 := Lib.hid (h3.next hb0)
  clear h1 h2 h3
  go_enter Tryd.func10, Tryd.ntmps10
  go_wp2_with fail
  generalize w.alloc (.cells #[.slice A n c, .slice D m d, .slice E q e'] 32) = W at hb0 hP C1 H2 H3 ⊢
  have hs0 := hb0.size
  have ho0 : Out lo hi w W := Out.of_below hb0
  refine C1.out.mono ?_
  rintro e9 w1 ⟨rfl, _, ho1⟩
  have hs1 := ho1.size
  have p1 : w1.cell? ⟨w.heap.size, 1, none⟩ = some (.slice D m d) := ho1.cell (hP.cell 1) (by omega)
  have p2 : w1.cell? ⟨w.heap.size, 2, none⟩ = some (.slice E q e') := ho1.cell (hP.cell 2) (by omega)
  have C2 := Lib.hid (markStmtS_w k1 k2 D m d xs (k0 + ((n + totT ts : Nat) : Int)) w1 (H2.out.out ho1 (by omega)) (by omega) (by omega) (by omega) (by omega))
  have H31 := Lib.hid (H3.out.out ho1 (by omega))
  clear C1 H2 H3
  go_wp2_with fail
  refine C2.out.mono ?_
  rintro e9 w2 ⟨rfl, ho2⟩
  have hs2 := ho2.size
  replace p2 := ho2.cell p2 (by omega)
  have C3 := Lib.hid (markTermS_w k2 hi E q e' us (k0 + ((n + totT ts : Nat) : Int) + ((5 * m + totS xs : Nat) : Int)) w2 (H31.out.out ho2 (by omega)) (by omega) (by omega) (by omega) (by omega))
  clear C2 H31 p1
  go_wp2_with fail
  refine C3.out.mono ?_
  rintro e9 w3 ⟨rfl, _, ho3⟩
  go_wp2_with fail
  go_ret
  exact ⟨⟨_, rfl, by omega⟩, ((ho0.trans (ho1.wide (Nat.le_refl _) (by omega))).trans (ho2.wide (by omega) (by omega))).trans (ho3.wide (by omega) (Nat.le_refl _))⟩

end Go.Proofs.YthgegomccbpgeaaDoor
