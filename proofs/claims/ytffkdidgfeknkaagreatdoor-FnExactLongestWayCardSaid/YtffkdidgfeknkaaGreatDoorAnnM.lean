/-
  The marks of annotated code. Conditions: at most 2^20 elements and numbers. (printed by gen_ann.py)
-/
import Derived.Test.YtffkdidgfeknkaaGreatDoorAnn
namespace Go.Proofs.YtffkdidgfeknkaaGreatDoor
set_option linter.unusedVariables false
open Go.RowKit

section
variable {w w' : World} {lo hi B B' n c : Nat} {A : Option Addr} {xs : List P2}
theorem InP2.drew (h : InP2 w B A n xs) : InP2 w.drew B A n xs := h
theorem InP2.out (h : InP2 w B A n xs) (ho : Out lo hi w w') (hB : B ≤ lo) (hs : B ≤ w.heap.size) : InP2 w' B A n xs := h.next (ho.below hB hs) (Nat.le_refl _)
theorem InP2.call {w1 : World} (h : InP2 w B A n xs) (hB : B ≤ w.heap.size) (hb : Below w.drew.heap.size w.drew w1) : InP2 w1 B A n xs := h.next (bstep hb) hB
theorem OwnP2.drew (h : OwnP2 w lo hi A n c xs) : OwnP2 w.drew lo hi A n c xs := h
end
set_option maxRecDepth 100000 in
set_option maxHeartbeats 4000000 in
theorem markAnnotated_k (lo m1 m2 m3 hi : Nat) (A0 : Option Addr) (n0 c0 : Nat) (t0 : List (Int × List Int)) (A1 : Option Addr) (n1 c1 : Nat) (t1 : List (Int × List Int)) (A2 : Option Addr) (n2 c2 : Nat) (t2 : List (Int × Int)) (A3 : Option Addr) (n3 c3 : Nat) (t3 : List P2) (k : Int) (w : World) (h0 : OwnTS w lo m1 A0 n0 c0 t0) (h1 : OwnTS w m1 m2 A1 n1 c1 t1) (h2 : OwnC w m2 m3 A2 n2 c2 t2) (h3 : OwnP2 w m3 hi A3 n3 c3 t3) (i1 : lo ≤ m1) (i2 : m1 ≤ m2) (i3 : m2 ≤ m3) (i4 : m3 ≤ hi) (ih : hi ≤ w.heap.size)
    (hn0 : n0 ≤ 1048576) (he0 : totT t0 ≤ 1048576) (hn1 : n1 ≤ 1048576) (he1 : totT t1 ≤ 1048576) (hn2 : n2 ≤ 1048576) (hn3 : n3 ≤ 1048576) (he3 : totP2 t3 ≤ 1048576) (hk1 : 0 ≤ k) (hk2 : k ≤ 10000000) :
    Calls Tryz.prog 12 #[.agg #[.slice A0 n0 c0, .slice A1 n1 c1, .slice A2 n2 c2, .slice A3 n3 c3], .int .i64 k] w fun e w' => e = .returned (.int .i64 (k + ((n0 + totT t0 : Nat) : Int) + ((n1 + totT t1 : Nat) : Int) + 2 * (n2 : Int) + ((1 * n3 + totP2 t3 : Nat) : Int))) ∧ OwnTS w' lo m1 A0 n0 c0 (riseT k t0) ∧ OwnTS w' m1 m2 A1 n1 c1 (riseT (k + ((n0 + totT t0 : Nat) : Int)) t1) ∧ OwnC w' m2 m3 A2 n2 c2 (riseC (k + ((n0 + totT t0 : Nat) : Int) + ((n1 + totT t1 : Nat) : Int)) n2) ∧ OwnP2 w' m3 hi A3 n3 c3 (riseP2 (k + ((n0 + totT t0 : Nat) : Int) + ((n1 + totT t1 : Nat) : Int) + 2 * (n2 : Int)) t3) ∧ Out lo hi w w' := by
  have hb0 := bnew w (.cells #[.slice A0 n0 c0, .slice A1 n1 c1, .slice A2 n2 c2, .slice A3 n3 c3] 35)
  have hP : BlkIs (w.alloc (.cells #[.slice A0 n0 c0, .slice A1 n1 c1, .slice A2 n2 c2, .slice A3 n3 c3] 35)) w.heap.size 35 #[.slice A0 n0 c0, .slice A1 n1 c1, .slice A2 n2 c2, .slice A3 n3 c3] := blk_new _ _ _ _ rfl
  have H0 := Lib.hid (h0.next hb0)
  have H1 := Lib.hid (h1.next hb0)
  have H2 := Lib.hid (h2.next hb0)
  have H3 := Lib.hid (h3.next hb0)
  have p1 : (w.alloc (.cells #[.slice A0 n0 c0, .slice A1 n1 c1, .slice A2 n2 c2, .slice A3 n3 c3] 35)).cell? ⟨w.heap.size, 1, none⟩ = some (.slice A1 n1 c1) := hP.cell 1
  have p2 : (w.alloc (.cells #[.slice A0 n0 c0, .slice A1 n1 c1, .slice A2 n2 c2, .slice A3 n3 c3] 35)).cell? ⟨w.heap.size, 2, none⟩ = some (.slice A2 n2 c2) := hP.cell 2
  have p3 : (w.alloc (.cells #[.slice A0 n0 c0, .slice A1 n1 c1, .slice A2 n2 c2, .slice A3 n3 c3] 35)).cell? ⟨w.heap.size, 3, none⟩ = some (.slice A3 n3 c3) := hP.cell 3
  have hs := hb0.size
  clear h0 h1 h2 h3 hP
  go_enter Tryz.func12, Tryz.ntmps12
  go_wp2_with fail
  have HO0 : Hid (Out lo hi w (w.alloc (.cells #[.slice A0 n0 c0, .slice A1 n1 c1, .slice A2 n2 c2, .slice A3 n3 c3] 35))) := Out.of_below hb0
  have hlt : hi ≤ w.heap.size := ih
  generalize w.alloc (.cells #[.slice A0 n0 c0, .slice A1 n1 c1, .slice A2 n2 c2, .slice A3 n3 c3] 35) = W0 at H0 H1 H2 H3 p1 p2 p3 hs HO0 ⊢
  clear hb0
  refine (markTermS_o lo m1 A0 n0 c0 t0 k W0 H0.out (by omega) (by omega) (by omega) (by omega)).mono ?_
  rintro e W1 ⟨rfl, ow0, ho0⟩
  have hw0 := ho0.size
  clear H0
  replace H1 := Lib.hid (H1.out.out ho0 (by omega))
  replace p1 := ho0.cell p1 (by omega)
  replace H2 := Lib.hid (H2.out.out ho0 (by omega))
  replace p2 := ho0.cell p2 (by omega)
  replace H3 := Lib.hid (H3.out.out ho0 (by omega))
  replace p3 := ho0.cell p3 (by omega)
  have OW0 := Lib.hid ow0
  replace HO0 := Lib.hid (HO0.out.trans (ho0.wide (by omega) (by omega)))
  clear ow0 ho0
  go_wp2_with fail
  refine (markTermS_o m1 m2 A1 n1 c1 t1 (k + ((n0 + totT t0 : Nat) : Int)) W1 H1.out (by omega) (by omega) (by omega) (by omega)).mono ?_
  rintro e W2 ⟨rfl, ow1, ho1⟩
  have hw1 := ho1.size
  clear H1
  replace OW0 := Lib.hid (OW0.out.out ho1 (by omega))
  replace H2 := Lib.hid (H2.out.out ho1 (by omega))
  replace p2 := ho1.cell p2 (by omega)
  replace H3 := Lib.hid (H3.out.out ho1 (by omega))
  replace p3 := ho1.cell p3 (by omega)
  have OW1 := Lib.hid ow1
  replace HO0 := Lib.hid (HO0.out.trans (ho1.wide (by omega) (by omega)))
  clear ow1 ho1
  go_wp2_with fail
  refine (markInstrS_k m2 m3 A2 n2 c2 t2 (k + ((n0 + totT t0 : Nat) : Int) + ((n1 + totT t1 : Nat) : Int)) W2 H2.out (by omega) (by omega) (by omega)).mono ?_
  rintro e W3 ⟨rfl, ow2, ho2⟩
  have hw2 := ho2.size
  clear H2
  replace OW0 := Lib.hid (OW0.out.out ho2 (by omega))
  replace OW1 := Lib.hid (OW1.out.out ho2 (by omega))
  replace H3 := Lib.hid (H3.out.out ho2 (by omega))
  replace p3 := ho2.cell p3 (by omega)
  have OW2 := Lib.hid ow2
  replace HO0 := Lib.hid (HO0.out.trans (ho2.wide (by omega) (by omega)))
  clear ow2 ho2
  go_wp2_with fail
  refine (markPointS_o m3 hi A3 n3 c3 t3 (k + ((n0 + totT t0 : Nat) : Int) + ((n1 + totT t1 : Nat) : Int) + 2 * (n2 : Int)) W3 H3.out (by omega) (by omega) (by omega) (by omega)).mono ?_
  rintro e W4 ⟨rfl, ow3, ho3⟩
  have hw3 := ho3.size
  clear H3
  replace OW0 := Lib.hid (OW0.out.out ho3 (by omega))
  replace OW1 := Lib.hid (OW1.out.out ho3 (by omega))
  replace OW2 := Lib.hid (OW2.out.out ho3 (by omega))
  have OW3 := Lib.hid ow3
  replace HO0 := Lib.hid (HO0.out.trans (ho3.wide (by omega) (by omega)))
  clear ow3 ho3
  go_wp2_with fail
  go_ret
  exact ⟨ret_int (by omega), OW0.out, OW1.out, OW2.out, OW3.out, HO0.out⟩

end Go.Proofs.YtffkdidgfeknkaaGreatDoor
