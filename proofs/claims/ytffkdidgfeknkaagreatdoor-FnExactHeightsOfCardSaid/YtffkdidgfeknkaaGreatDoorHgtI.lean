/-
  The program's StackHeights. Conditions: at most 2^20 instructions; the program's own error lies in its variable.
-/
import Derived.Test.YtffkdidgfeknkaaGreatDoorBunD
import Derived.Test.YtffkdidgfeknkaaGreatDoorHgtS
import Derived.Test.YtffkdidgfeknkaaGreatDoorAtt
namespace Go.Proofs.YtffkdidgfeknkaaGreatDoor
set_option linter.unusedVariables false
open Go.RowKit

set_option maxRecDepth 100000 in
set_option maxHeartbeats 4000000 in
theorem implHgt_c (tp : TypeId) (pv : Value) (A : Option Addr) (n c B : Nat) (xs : List (Int × Int)) (w : World) (h : InC w B A n xs) (hB : B ≤ w.heap.size) (hn : n ≤ 1048576) (hs : Stuck tp pv w) :
    Calls Tryz.prog 27 #[.slice A n c] w fun e w' => ∃ A' c', e = .returned (.tuple #[.slice A' (hgtR xs).1.length c', .bool (hgtR xs).2]) ∧ OwnL w' w.heap.size w'.heap.size A' (hgtR xs).1.length c' (hgtR xs).1 ∧ Below w.heap.size w w' := by
  have hmf : ∀ (fn : Fn) (first cap : Array Value) (w : World), (Instr.makeFunc fn first cap).run Tryz.prog w = .ok (.func fn first cap) w := fun _ _ _ _ => rfl
  have hb0 := bnew w (.cells #[.slice A n c] 32)
  have hX : BlkIs (w.alloc (.cells #[.slice A n c] 32)) w.heap.size 32 #[.slice A n c] := blk_new _ _ _ _ rfl
  have HC0 := implCode_c A n c B xs (w.alloc (.cells #[.slice A n c] 32)) (h.next hb0 hB) (Nat.le_trans hB hb0.size) hn
  have hlen : xs.length = n := h.1
  have HLN := Lib.hid hlen
  have HI := Lib.hid h
  obtain ⟨R, HR⟩ : ∃ R, Hid (hgtR xs = R) := ⟨_, rfl⟩
  rw [HR.out]
  cases hv : codeB xs with
  | false =>
    have HE : Hid (R = ([], false)) := by show R = _; rw [← HR.out]; exact hgtR_bad hv
    rw [hv] at HC0
    have HC := Lib.hid HC0
    clear HC0 hv h hlen
    go_enter Tryz.func27, Tryz.ntmps27
    go_wp2_with fail
    refine HC.out.mono ?_
    rintro e w1 ⟨rfl, hb1⟩
    go_wp2_with fail
    go_ret2
    rw [HE.out]
    exact ⟨none, 0, rfl, (ownL_nil _).less (bon hb0 hb1).size, bon hb0 hb1⟩
  | true =>
    have HV := Lib.hid hv
    rw [hv] at HC0
    have HC := Lib.hid HC0
    have HS := Lib.hid hs
    clear HC0 hv h hs hlen
    go_enter Tryz.func27, Tryz.ntmps27
    go_wp2_with fail
    generalize w.alloc (.cells #[.slice A n c] 32) = W0 at hb0 hX HC ⊢
    refine HC.out.mono ?_
    rintro e w1 ⟨rfl, hb1⟩
    have hX1 := hX.next hb1
    have hb01 := bon hb0 hb1
    have hb2 := bnew w1 (.cells #[.bool false] 4)
    have hX2 := hX1.next hb2
    have hz2 : (w1.alloc (.cells #[.bool false] 4)).heap.size = w1.heap.size + 1 := by simp
    have hrun := heights1_c w.heap.size A n c B xs tp pv (w1.alloc (.cells #[.bool false] 4)) (HI.out.next (bon hb01 hb2) hB) (Nat.le_trans hB (bon hb01 hb2).size) HV.out (hX2.cell 0) hX2.lt (HS.out.next (bon hb01 hb2))
    rw [hz2] at hrun
    by_cases hG : ∃ G, GoodH xs G
    · have hat := attempt_yes ⟨w.heap.size, 0, none⟩ (fun v w' => ∃ L A' c', v = .slice A' n c' ∧ LeastH xs L ∧ OwnL w' (w1.heap.size + 1) w'.heap.size A' n c' L) w1 (hrun.mono (by
        rintro e w' (⟨L, A', c', rfl, h1, h2, h3⟩ | ⟨rfl, h1, h2⟩)
        · exact ⟨_, rfl, ⟨L, A', c', rfl, h1, h2⟩, h3⟩
        · obtain ⟨G, hg⟩ := hG; exact absurd hg (h1 G)))
      have HAT := Lib.hid hat
      clear hat hrun hX1 hX2 hb2
      go_wp2_with fail
      refine HAT.out.mono ?_
      rintro e w3 ⟨v, w0, rfl, ⟨L, A', c', rfl, hL, ho⟩, hb3, rfl⟩
      have HE : Hid (R = (L, true)) := by show R = _; rw [← HR.out]; exact hgtR_yes HV.out hL
      have hll : L.length = n := hL.good.len.trans HLN.out
      have ho2 := ownsRow_setCell_below (a := ⟨w1.heap.size, 0, none⟩) (ownsRow_setCell_below (a := ⟨w1.heap.size, 0, none⟩) ho.2.1 (Nat.lt_succ_self _) (.bool true)) (Nat.lt_succ_self _) (.bool true)
      have HO := Lib.hid (OwnL.of_own ho2)
      have hbz : Below w.heap.size w ((w0.setCell ⟨w1.heap.size, 0, none⟩ (.bool true)).setCell ⟨w1.heap.size, 0, none⟩ (.bool true)) := ((bon hb01 (bnew w1 (.cells #[.bool false] 4))).trans (hb3.mono (Nat.le_succ_of_le hb01.size))).trans (((Below.refl _ _).setCell (p := ⟨w1.heap.size, 0, none⟩) hb01.size _).setCell (p := ⟨w1.heap.size, 0, none⟩) hb01.size _)
      have HBZ := Lib.hid hbz
      have HLL := Lib.hid hll
      clear hL ho hb3 ho2 hbz hll
      go_wp2_with fail
      go_ret2
      rw [HE.out]
      refine ⟨A', c', congrArg (fun m => Ending.returned (.tuple #[.slice A' m c', .bool true])) HLL.out.symm, ?_, HBZ.out⟩
      rw [HLL.out]
      exact HO.out.less (Nat.le_succ_of_le hb01.size)
    · have hat := attempt_no ⟨w.heap.size, 0, none⟩ tp pv (∀ G, ¬ GoodH xs G) w1 (hrun.mono (by
        rintro e w' (⟨L, A', c', rfl, h1, h2, h3⟩ | ⟨rfl, h1, h2⟩)
        · exact absurd ⟨L, h1.good⟩ hG
        · exact ⟨rfl, h1, h2⟩))
      have HAT := Lib.hid hat
      clear hat hrun hX1 hX2 hb2
      go_wp2_with fail
      refine HAT.out.mono ?_
      rintro e w3 ⟨rfl, hN, hb3⟩
      have HE : Hid (R = ([], false)) := by show R = _; rw [← HR.out]; exact hgtR_no hN
      have HB := Lib.hid (bon hb01 hb3)
      clear hN hb3
      go_wp2_with fail
      go_ret2
      rw [HE.out]
      exact ⟨none, 0, rfl, (ownL_nil _).less HB.out.size, HB.out⟩
end Go.Proofs.YtffkdidgfeknkaaGreatDoor
