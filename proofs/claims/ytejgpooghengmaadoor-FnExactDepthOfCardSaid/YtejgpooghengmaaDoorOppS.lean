/-
  The model's opposite, multiple and sum of terms, by pointers. Conditions: valid terms, multipliers of at most 1000000.
-/
import Derived.Test.YtejgpooghengmaaDoorMakeS
namespace Go.Proofs.YtejgpooghengmaaDoor
open Go.RowKit
theorem ptrT_more {w : World} {B B' b o : Nat} {t : Int × List Int} (h : PtrT w B b o t) (hB : B ≤ B') : PtrT w B' b o t := by
  obtain ⟨A, n, c, h0, h1, h2, h3⟩ := h
  exact ⟨A, n, c, by omega, h1, h2, h3.more hB⟩
set_option maxRecDepth 100000 in
set_option maxHeartbeats 2000000 in
theorem l02Opposite_c (B b o : Nat) (t : Int × List Int) (w : World) (h : PtrT w B b o t) (hB : B ≤ w.heap.size) (v : tmB t = true) :
    Calls Tryd.prog 101 #[.pointer (some ⟨b, o, none⟩)] w (GivesT (mkL (-1 * t.1 + -1 * 1) (ten (lin t (-1) (1, []) (-1)))) w) := by
  have hb0 : Below w.heap.size w ((w.alloc (.cells #[.int .i64 0, .slice none 0 0] 45)).alloc (.cells #[.int .i64 1, .slice none 0 0] 45)) := bon (bnew _ _) (bnew _ _)
  have b00 : ((w.alloc (.cells #[.int .i64 0, .slice none 0 0] 45)).alloc (.cells #[.int .i64 1, .slice none 0 0] 45)).cell? ⟨w.heap.size, 0, none⟩ = some (.int .i64 0) := by simp
  have b01 : ((w.alloc (.cells #[.int .i64 0, .slice none 0 0] 45)).alloc (.cells #[.int .i64 1, .slice none 0 0] 45)).cell? ⟨w.heap.size, 1, none⟩ = some (.slice none 0 0) := by simp
  have b0l : w.heap.size < ((w.alloc (.cells #[.int .i64 0, .slice none 0 0] 45)).alloc (.cells #[.int .i64 1, .slice none 0 0] 45)).heap.size := by simp <;> omega
  have b10 : ((w.alloc (.cells #[.int .i64 0, .slice none 0 0] 45)).alloc (.cells #[.int .i64 1, .slice none 0 0] 45)).cell? ⟨w.heap.size + 1, 0, none⟩ = some (.int .i64 1) := by simp
  have b11 : ((w.alloc (.cells #[.int .i64 0, .slice none 0 0] 45)).alloc (.cells #[.int .i64 1, .slice none 0 0] 45)).cell? ⟨w.heap.size + 1, 1, none⟩ = some (.slice none 0 0) := by simp
  have b1l : w.heap.size + 1 < ((w.alloc (.cells #[.int .i64 0, .slice none 0 0] 45)).alloc (.cells #[.int .i64 1, .slice none 0 0] 45)).heap.size := by simp
  have rf : ∀ i, ((w.alloc (.cells #[.int .i64 0, .slice none 0 0] 45)).alloc (.cells #[.int .i64 1, .slice none 0 0] 45)).frozen? ⟨w.heap.size, i, none⟩ = false := fun i => by simp
  have hp := Lib.hid h
  clear h
  go_enter Tryd.func101, Tryd.ntmps101
  go_wp2_with fail
  generalize (w.alloc (.cells #[.int .i64 0, .slice none 0 0] 45)).alloc (.cells #[.int .i64 1, .slice none 0 0] 45) = W at hb0 b00 b01 b0l b10 b11 b1l rf ⊢
  have rf0 := rf 0
  have rf1 := rf 1
  have hsW := hb0.size
  obtain ⟨R, HR⟩ : ∃ R, Hid (mkL (-1 * t.1 + -1 * 1) (ten (lin t (-1) (1, []) (-1))) = R) := ⟨_, rfl⟩
  have HC := Lib.hid (l02Sum_c W.heap.size b o (w.heap.size + 1) 0 t (1, []) (-1) (-1) W (ptrT_more (hp.out.next hb0 hB) (by omega)) ⟨none, 0, 0, b1l, b10, b11, rfl, Row.nil⟩ (Nat.le_refl _) v (tmB_empty rfl (by omega) (by omega)) (by omega) (by omega) (by omega) (by omega))
  rw [HR.out] at HC
  refine HC.out.mono ?_
  rintro e w2 ⟨A1, k1, c1, rfl, hown, hb2⟩
  have r0 := cell_next b00 hb2
  have r1 := cell_next b01 hb2
  have f0 := (hb2.frozen (p := ⟨w.heap.size, 0, none⟩) b0l).trans rf0
  have f1 := (hb2.frozen (p := ⟨w.heap.size, 1, none⟩) b0l).trans rf1
  go_wp2_with fail
  refine bodyPost_ret (v := .tuple #[.agg #[.int .i64 R.1.1, .slice A1 k1 c1], .bool R.2]) (by simp [results, Tryd.results101, go_sem, r0, r1]) rfl ?_
  rw [HR.out]
  exact ⟨_, _, _, rfl, give_end hb0 (by omega) b0l hown hb2⟩

end Go.Proofs.YtejgpooghengmaaDoor
