/-
  The program's CompileTerm. Conditions: at most 2^20 coefficients.
-/
import Derived.Test.YtglbkbdljjaioaaCompI
namespace Go.Proofs.Ytglbkbdljjaioaa
set_option linter.unusedVariables false
open Go.RowKit

/-- The cells of a builder that is as it is made. -/
def bldR : Nat → Value
  | 0 => .slice none 0 0 | 1 => .slice none 0 0 | 3 => .slice none 0 0 | 4 => .map none | 5 => .slice none 0 0 | 6 => .slice none 0 0 | 8 => .int .i64 0 | _ => .bool false
theorem bld_new (w : World) : Bld (w.alloc (.cells #[.slice none 0 0, .slice none 0 0, .slice none 0 0, .slice none 0 0, .map none, .slice none 0 0, .slice none 0 0, .slice none 0 0, .int .i64 0] 131)) w.heap.size w.heap.size (fun k => k < w.heap.size) bldR [] [] := by
  refine ⟨none, 0, none, 0, blk_new _ _ _ _ rfl, World.ownsRow_nil _ _ _ _, World.ownsRow_nil _ _ _ _, Nat.le_refl _, fun k hk => ⟨by simp; omega, by omega, (fun e => by cases e), (fun e => by cases e)⟩⟩

set_option maxRecDepth 100000 in
set_option maxHeartbeats 4000000 in
theorem implCompTerm_c (c0 : Int) (A : Option Addr) (n c B : Nat) (zs : List Int) (w : World) (h : InL w B A n zs) (hB : B ≤ w.heap.size) (hn : n ≤ 1048576) :
    Calls Try.prog 33 #[.agg #[.int .i64 c0, .slice A n c]] w fun e w' => ∃ A' c', e = .returned (.tuple #[.slice A' (ctR (c0, zs)).1.length c', .bool (ctR (c0, zs)).2]) ∧ OwnC w' w.heap.size w'.heap.size A' (ctR (c0, zs)).1.length c' (ctR (c0, zs)).1 ∧ Below w.heap.size w w' := by
  have hb0 := bnew w (.cells #[.int .i64 c0, .slice A n c] 74)
  have hX : BlkIs (w.alloc (.cells #[.int .i64 c0, .slice A n c] 74)) w.heap.size 74 #[.int .i64 c0, .slice A n c] := blk_new _ _ _ _ rfl
  have hI := h.next hb0 hB
  have HC0 := isOver_c c0 A n c B zs _ hI (Nat.le_trans hB hb0.size) hn
  cases hv : overB (c0, zs) with
  | false =>
    have HE := Lib.hid (ctR_no hv)
    rw [hv] at HC0
    rw [HE.out]
    have HC := Lib.hid HC0
    clear HC0 hv h hI
    go_enter Try.func33, Try.ntmps33
    go_wp2_with fail
    generalize w.alloc (.cells #[.int .i64 c0, .slice A n c] 74) = W at hb0 hX HC ⊢
    refine HC.out.mono ?_
    rintro e w1 ⟨rfl, hb1⟩
    go_wp2_with fail
    go_ret2
    exact ⟨none, 0, rfl, ⟨rfl, World.ownsRow_nil _ _ _ _, (fun j hj => by cases hj), Nat.le_refl _⟩, bon hb0 hb1⟩
  | true =>
    have HE := Lib.hid (ctR_yes hv)
    have hn4 : n ≤ 1000 := by
      unfold overB at hv
      simp only [Bool.and_eq_true, decide_eq_true_eq] at hv
      have := h.1
      have h2 : zs.length ≤ 4 := hv.2
      omega
    rw [hv] at HC0
    rw [HE.out]
    have HC := Lib.hid HC0
    have HI := Lib.hid hI
    clear HC0 hv h hI
    go_enter Try.func33, Try.ntmps33
    go_wp2_with fail
    generalize w.alloc (.cells #[.int .i64 c0, .slice A n c] 74) = W at hb0 hX HC HI ⊢
    have hs0 := hb0.size
    refine HC.out.mono ?_
    rintro e w1 ⟨rfl, hb1⟩
    have hX1 := hX.next hb1
    have p0 := hX1.cell 0
    have p1 := hX1.cell 1
    simp at p0 p1
    have hb2 := bnew w1 (.cells #[.slice none 0 0, .slice none 0 0, .slice none 0 0, .slice none 0 0, .map none, .slice none 0 0, .slice none 0 0, .slice none 0 0, .int .i64 0] 131)
    have hs1 := hb1.size
    have HT := Lib.hid (term_c w1.heap.size w1.heap.size _ bldR [] [] 0 c0 A n c B zs _ (bld_new w1) rfl ((HI.out.next hb1 (by omega)).next hb2 (by omega)) (fun k hk => (by omega)) hn4 (by simp) (by simp))
    have q0 := cell_next p0 hb2
    have q1 := cell_next p1 hb2
    clear HI HC
    go_wp2_with fail
    refine HT.out.mono ?_
    rintro e w3 ⟨rfl, ⟨A2, c2, A3, c3, hG, hC, _, _, _⟩, hk⟩
    have z2 := hG.cell 2
    simp at z2
    have hC' : w3.ownsRow w1.heap.size 66 2 (.slice A2 (ctL (c0, zs)).length c2) (ctL (c0, zs)).length (flatC (ctL (c0, zs))) := hC
    have HO := Lib.hid (OwnC.of_own (own_less hC' (Nat.le_trans hs0 hs1)) rfl)
    have hbF : Below w.heap.size w w3 := (bon (bon hb0 hb1) hb2).trans ((hk.below (B := w1.heap.size) (fun k h => h)).mono (Nat.le_trans hs0 hs1))
    clear hC hC' hG HT
    go_wp2_with fail
    go_ret2
    exact ⟨A2, c2, rfl, HO.out, hbF⟩
end Go.Proofs.Ytglbkbdljjaioaa
