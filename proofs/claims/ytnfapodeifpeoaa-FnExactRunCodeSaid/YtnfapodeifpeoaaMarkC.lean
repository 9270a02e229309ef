/-
  How the law marks a state and a config and finds the marks again. Conditions: lists of at most 2^20 numbers.
-/
import Derived.Test.YtnfapodeifpeoaaCfg
import Derived.Test.YtnfapodeifpeoaaTermK
namespace Go.Proofs.Ytnfapodeifpeoaa
set_option linter.unusedVariables false
open Go.RowKit

set_option maxRecDepth 100000 in
set_option maxHeartbeats 2000000 in
theorem markState_k (lo mid hi : Nat) (A : Option Addr) (n c : Nat) (zs : List Int) (A' : Option Addr) (m c' : Nat) (ys : List Int) (k : Int) (w : World) (h : OwnL w lo mid A n c zs) (h' : OwnL w mid hi A' m c' ys) (h1 : lo ≤ mid) (h2 : mid ≤ hi)
    (hn : n ≤ 1048576) (hm : m ≤ 1048576) (hk1 : 0 ≤ k) (hk2 : k ≤ 100000000) :
    Calls Try.prog 37 #[.agg #[.slice A n c, .slice A' m c'], .int .i64 k] w fun e w' => e = .returned (.int .i64 (k + n + m)) ∧ OwnL w' lo mid A n c (rise k n) ∧ OwnL w' mid hi A' m c' (rise (k + n) m) ∧ Out lo hi w w' := by
  have hb0 := bnew w (.cells #[.slice A n c, .slice A' m c'] 42)
  have hP : BlkIs (w.alloc (.cells #[.slice A n c, .slice A' m c'] 42)) w.heap.size 42 #[.slice A n c, .slice A' m c'] := blk_new _ _ _ _ rfl
  have p0 : (w.alloc (.cells #[.slice A n c, .slice A' m c'] 42)).cell? ⟨w.heap.size, 0, none⟩ = some (.slice A n c) := hP.cell 0
  have p1 : (w.alloc (.cells #[.slice A n c, .slice A' m c'] 42)).cell? ⟨w.heap.size, 1, none⟩ = some (.slice A' m c') := hP.cell 1
  have HM := Lib.hid (markInt64S_k lo mid A n c zs k _ (h.next hb0) (by omega) hk1 (by omega))
  have HL := Lib.hid (h'.next hb0)
  have hs := hb0.size
  have hhi := h'.2.2.2
  clear h h' hP
  go_enter Try.func37, Try.ntmps37
  go_wp2_with fail
  generalize w.alloc (.cells #[.slice A n c, .slice A' m c'] 42) = W at hb0 p0 p1 HM HL hs ⊢
  refine HM.out.mono ?_
  rintro e w1 ⟨rfl, ow1, ho⟩
  have hs1 := ho.size
  have r1 := ho.cell p1 (by omega)
  have HT := Lib.hid (markInt64S_k mid hi A' m c' ys (k + n) w1 (HL.out.out ho (by omega)) (by omega) (by omega) (by omega))
  have HO := Lib.hid ow1
  clear HM HL p0 p1 ow1
  go_wp2_with fail
  refine HT.out.mono ?_
  rintro e w2 ⟨rfl, ow2, ho2⟩
  have HO2 := Lib.hid ow2
  clear HT ow2
  go_wp2_with fail
  go_ret
  exact ⟨rfl, HO.out.out ho2 (by omega), HO2.out, ((Out.of_below hb0).trans (ho.wide (Nat.le_refl _) h2)).trans (ho2.wide h1 (Nat.le_refl _))⟩
set_option maxRecDepth 100000 in
set_option maxHeartbeats 2000000 in
theorem heldState_k (A : Option Addr) (n c : Nat) (A' : Option Addr) (m c' B : Nat) (k : Int) (w : World) (h : InL w B A n (rise k n)) (h' : InL w B A' m (rise (k + n) m)) (hB : B ≤ w.heap.size)
    (hn : n ≤ 1048576) (hm : m ≤ 1048576) (hk1 : 0 ≤ k) (hk2 : k ≤ 100000000) :
    Calls Try.prog 39 #[.agg #[.slice A n c, .slice A' m c'], .int .i64 k] w fun e w' => e = .returned (.int .i64 (k + n + m)) ∧ Below w.heap.size w w' := by
  have hb0 := bnew w (.cells #[.slice A n c, .slice A' m c'] 42)
  have hP : BlkIs (w.alloc (.cells #[.slice A n c, .slice A' m c'] 42)) w.heap.size 42 #[.slice A n c, .slice A' m c'] := blk_new _ _ _ _ rfl
  have HM := Lib.hid (heldInt64S_k A n c B k _ (h.next hb0 hB) (by omega) hk1 (by omega))
  have HL := Lib.hid (h'.next hb0 hB)
  have hs := hb0.size
  clear h h'
  go_enter Try.func39, Try.ntmps39
  go_wp2_with fail
  generalize w.alloc (.cells #[.slice A n c, .slice A' m c'] 42) = W at hb0 hP HM HL hs ⊢
  refine HM.out.mono ?_
  rintro e w1 ⟨rfl, hb1⟩
  have hP1 := hP.next hb1
  have p1 : w1.cell? ⟨w.heap.size, 1, none⟩ = some (.slice A' m c') := hP1.cell 1
  have hk3 : 0 ≤ k + (n : Int) := by omega
  have HT := Lib.hid (heldInt64S_k A' m c' B (k + n) w1 (HL.out.next hb1 (by omega)) (by omega) (by omega) (by omega))
  clear HM HL
  go_wp2_with fail
  refine HT.out.mono ?_
  rintro e w2 ⟨rfl, hb2⟩
  have hk4 : 0 ≤ k + (n : Int) + (m : Int) := by omega
  go_wp2_with fail
  go_ret
  exact ⟨rfl, bon (bon hb0 hb1) hb2⟩
set_option maxRecDepth 100000 in
set_option maxHeartbeats 2000000 in
theorem markConfig_k (lo mid mid2 hi : Nat) (A : Option Addr) (n c : Nat) (zs : List Int) (A' : Option Addr) (m c' : Nat) (ys : List Int) (A2 : Option Addr) (q c2 : Nat) (xs : List Int) (a k : Int) (w : World) (h : OwnL w lo mid A n c zs) (h' : OwnL w mid mid2 A' m c' ys) (h2 : OwnL w mid2 hi A2 q c2 xs) (i1 : lo ≤ mid) (i2 : mid ≤ mid2) (i3 : mid2 ≤ hi)
    (hn : n ≤ 1048576) (hm : m ≤ 1048576) (hq : q ≤ 1048576) (hk1 : 0 ≤ k) (hk2 : k ≤ 100000000) :
    Calls Try.prog 29 #[.agg #[.slice A n c, .slice A' m c', .slice A2 q c2, .int .i64 a], .int .i64 k] w fun e w' => e = .returned (.int .i64 (k + n + m + q)) ∧ OwnL w' lo mid A n c (rise k n) ∧ OwnL w' mid mid2 A' m c' (rise (k + n) m) ∧ OwnL w' mid2 hi A2 q c2 (rise (k + n + m) q) ∧ Out lo hi w w' := by
  have hb0 := bnew w (.cells #[.slice A n c, .slice A' m c', .slice A2 q c2, .int .i64 a] 44)
  have hP : BlkIs (w.alloc (.cells #[.slice A n c, .slice A' m c', .slice A2 q c2, .int .i64 a] 44)) w.heap.size 44 #[.slice A n c, .slice A' m c', .slice A2 q c2, .int .i64 a] := blk_new _ _ _ _ rfl
  have p2 : (w.alloc (.cells #[.slice A n c, .slice A' m c', .slice A2 q c2, .int .i64 a] 44)).cell? ⟨w.heap.size, 2, none⟩ = some (.slice A2 q c2) := hP.cell 2
  have HM := Lib.hid (markState_k lo mid mid2 A n c zs A' m c' ys k _ (h.next hb0) (h'.next hb0) i1 i2 hn hm hk1 hk2)
  have HL := Lib.hid (h2.next hb0)
  have hs := hb0.size
  have hhi := h2.2.2.2
  clear h h' h2
  go_enter Try.func29, Try.ntmps29
  go_wp2_with fail
  generalize w.alloc (.cells #[.slice A n c, .slice A' m c', .slice A2 q c2, .int .i64 a] 44) = W at hb0 hP p2 HM HL hs ⊢
  refine HM.out.mono ?_
  rintro e w1 ⟨rfl, ow0, ow1, ho⟩
  have hs1 := ho.size
  have r2 := ho.cell p2 (by omega)
  have HT := Lib.hid (markInt64S_k mid2 hi A2 q c2 xs (k + n + m) w1 (HL.out.out ho (by omega)) (by omega) (by omega) (by omega))
  have HO0 := Lib.hid ow0
  have HO1 := Lib.hid ow1
  clear HM HL hP p2 ow0 ow1
  go_wp2_with fail
  refine HT.out.mono ?_
  rintro e w2 ⟨rfl, ow2, ho2⟩
  have HO2 := Lib.hid ow2
  clear HT ow2
  go_wp2_with fail
  go_ret
  exact ⟨rfl, HO0.out.out ho2 (by omega), HO1.out.out ho2 (by omega), HO2.out, ((Out.of_below hb0).trans (ho.wide (Nat.le_refl _) i3)).trans (ho2.wide (by omega) (Nat.le_refl _))⟩
set_option maxRecDepth 100000 in
set_option maxHeartbeats 2000000 in
theorem heldConfig_k (A : Option Addr) (n c : Nat) (A' : Option Addr) (m c' : Nat) (A2 : Option Addr) (q c2 B : Nat) (a k : Int) (w : World) (h : InL w B A n (rise k n)) (h' : InL w B A' m (rise (k + n) m)) (h2 : InL w B A2 q (rise (k + n + m) q)) (hB : B ≤ w.heap.size)
    (hn : n ≤ 1048576) (hm : m ≤ 1048576) (hq : q ≤ 1048576) (hk1 : 0 ≤ k) (hk2 : k ≤ 100000000) :
    Calls Try.prog 30 #[.agg #[.slice A n c, .slice A' m c', .slice A2 q c2, .int .i64 a], .int .i64 k] w fun e w' => e = .returned (.int .i64 (k + n + m + q)) ∧ Below w.heap.size w w' := by
  have hb0 := bnew w (.cells #[.slice A n c, .slice A' m c', .slice A2 q c2, .int .i64 a] 44)
  have hP : BlkIs (w.alloc (.cells #[.slice A n c, .slice A' m c', .slice A2 q c2, .int .i64 a] 44)) w.heap.size 44 #[.slice A n c, .slice A' m c', .slice A2 q c2, .int .i64 a] := blk_new _ _ _ _ rfl
  have HM := Lib.hid (heldState_k A n c A' m c' B k _ (h.next hb0 hB) (h'.next hb0 hB) (by have := hb0.size; omega) hn hm hk1 hk2)
  have HL := Lib.hid (h2.next hb0 hB)
  have hs := hb0.size
  clear h h' h2
  go_enter Try.func30, Try.ntmps30
  go_wp2_with fail
  generalize w.alloc (.cells #[.slice A n c, .slice A' m c', .slice A2 q c2, .int .i64 a] 44) = W at hb0 hP HM HL hs ⊢
  refine HM.out.mono ?_
  rintro e w1 ⟨rfl, hb1⟩
  have hP1 := hP.next hb1
  have p2 : w1.cell? ⟨w.heap.size, 2, none⟩ = some (.slice A2 q c2) := hP1.cell 2
  have hk3 : 0 ≤ k + (n : Int) + (m : Int) := by omega
  have HT := Lib.hid (heldInt64S_k A2 q c2 B (k + n + m) w1 (HL.out.next hb1 (by omega)) (by omega) (by omega) (by omega))
  clear HM HL
  go_wp2_with fail
  refine HT.out.mono ?_
  rintro e w2 ⟨rfl, hb2⟩
  have hk4 : 0 ≤ k + (n : Int) + (m : Int) + (q : Int) := by omega
  go_wp2_with fail
  go_ret
  exact ⟨rfl, bon (bon hb0 hb1) hb2⟩
end Go.Proofs.Ytnfapodeifpeoaa
