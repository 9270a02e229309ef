/-
  The program's AddTerms. Conditions: at most 2^20 coefficients.
-/
import Derived.Test.YtddmpdpmgjggoaaCombI
namespace Go.Proofs.Ytddmpdpmgjggoaa
open Go.RowKit

theorem all_two (a b : Int × List Int) : allT 14 [a, b] = (tmB a && tmB b) := by
  unfold allT
  cases ha : tmB a <;> cases hb : tmB b <;> simp [ha, hb]
theorem add_eq (a b : Int × List Int) : combR [a, b] [1, 1] = addR a b := by
  have hb : btw 0 1000000 [1, 1] = true := by decide
  cases ha : tmB a with
  | false => rw [combR_no (combOk_no1 (by rw [all_two, ha]; rfl)), addR_no0 ha]
  | true =>
    cases hc : tmB b with
    | false => rw [combR_no (combOk_no1 (by rw [all_two, hc]; simp)), addR_no1 hc]
    | true =>
      rw [combR_yes (by rw [all_two, ha, hc]; rfl) rfl hb, addR_yes ha hc]
      have e : combTo [a, b] [1, 1] [a, b].length = lin a 1 b 1 := by
        funext j
        show (0 + 1 * tf a j) + 1 * tf b j = 1 * tf a j + 1 * tf b j
        omega
      rw [e, lin_const]

set_option maxRecDepth 100000 in
set_option maxHeartbeats 2000000 in
theorem implAdd_c (c0 : Int) (A : Option Addr) (n cp : Nat) (zs : List Int) (d0 : Int) (B : Option Addr) (m cq : Nat) (ys : List Int) (w : World) (h0 : InL w w.heap.size A n zs) (h1 : InL w w.heap.size B m ys) (g1 : n + m ≤ 1048576) :
    Calls Try.prog 15 #[.agg #[.int .i64 c0, .slice A n cp], .agg #[.int .i64 d0, .slice B m cq]] w (GivesT (addR (c0, zs) (d0, ys)) w) := by
  have hb0 : Below w.heap.size w (((w.alloc (.cells #[.int .i64 c0, .slice A n cp] 26)).alloc (.cells #[.int .i64 d0, .slice B m cq] 26)).alloc (.cells #[.int .i64 0, .slice none 0 0] 26)) := bon (bon (bnew _ _) (bnew _ _)) (bnew _ _)
  have b00 : (((w.alloc (.cells #[.int .i64 c0, .slice A n cp] 26)).alloc (.cells #[.int .i64 d0, .slice B m cq] 26)).alloc (.cells #[.int .i64 0, .slice none 0 0] 26)).cell? ⟨w.heap.size, 0, none⟩ = some (.int .i64 c0) := by
    have e : w.heap.size = w.heap.size := rfl
    rw [← e]
    exact cell_next (cell_next (cell_new w #[.int .i64 c0, .slice A n cp] 26 0 (.int .i64 c0) rfl) (bnew _ _)) (bnew _ _)
  have b01 : (((w.alloc (.cells #[.int .i64 c0, .slice A n cp] 26)).alloc (.cells #[.int .i64 d0, .slice B m cq] 26)).alloc (.cells #[.int .i64 0, .slice none 0 0] 26)).cell? ⟨w.heap.size, 1, none⟩ = some (.slice A n cp) := by
    have e : w.heap.size = w.heap.size := rfl
    rw [← e]
    exact cell_next (cell_next (cell_new w #[.int .i64 c0, .slice A n cp] 26 1 (.slice A n cp) rfl) (bnew _ _)) (bnew _ _)
  have b0l : w.heap.size < (((w.alloc (.cells #[.int .i64 c0, .slice A n cp] 26)).alloc (.cells #[.int .i64 d0, .slice B m cq] 26)).alloc (.cells #[.int .i64 0, .slice none 0 0] 26)).heap.size := by
    have e : (((w.alloc (.cells #[.int .i64 c0, .slice A n cp] 26)).alloc (.cells #[.int .i64 d0, .slice B m cq] 26)).alloc (.cells #[.int .i64 0, .slice none 0 0] 26)).heap.size = w.heap.size + 3 := by simp
    omega
  have b10 : (((w.alloc (.cells #[.int .i64 c0, .slice A n cp] 26)).alloc (.cells #[.int .i64 d0, .slice B m cq] 26)).alloc (.cells #[.int .i64 0, .slice none 0 0] 26)).cell? ⟨w.heap.size + 1, 0, none⟩ = some (.int .i64 d0) := by
    have e : (w.alloc (.cells #[.int .i64 c0, .slice A n cp] 26)).heap.size = w.heap.size + 1 := by simp
    rw [← e]
    exact cell_next (cell_new (w.alloc (.cells #[.int .i64 c0, .slice A n cp] 26)) #[.int .i64 d0, .slice B m cq] 26 0 (.int .i64 d0) rfl) (bnew _ _)
  have b11 : (((w.alloc (.cells #[.int .i64 c0, .slice A n cp] 26)).alloc (.cells #[.int .i64 d0, .slice B m cq] 26)).alloc (.cells #[.int .i64 0, .slice none 0 0] 26)).cell? ⟨w.heap.size + 1, 1, none⟩ = some (.slice B m cq) := by
    have e : (w.alloc (.cells #[.int .i64 c0, .slice A n cp] 26)).heap.size = w.heap.size + 1 := by simp
    rw [← e]
    exact cell_next (cell_new (w.alloc (.cells #[.int .i64 c0, .slice A n cp] 26)) #[.int .i64 d0, .slice B m cq] 26 1 (.slice B m cq) rfl) (bnew _ _)
  have b1l : w.heap.size + 1 < (((w.alloc (.cells #[.int .i64 c0, .slice A n cp] 26)).alloc (.cells #[.int .i64 d0, .slice B m cq] 26)).alloc (.cells #[.int .i64 0, .slice none 0 0] 26)).heap.size := by
    have e : (((w.alloc (.cells #[.int .i64 c0, .slice A n cp] 26)).alloc (.cells #[.int .i64 d0, .slice B m cq] 26)).alloc (.cells #[.int .i64 0, .slice none 0 0] 26)).heap.size = w.heap.size + 3 := by simp
    omega
  have b20 : (((w.alloc (.cells #[.int .i64 c0, .slice A n cp] 26)).alloc (.cells #[.int .i64 d0, .slice B m cq] 26)).alloc (.cells #[.int .i64 0, .slice none 0 0] 26)).cell? ⟨w.heap.size + 1 + 1, 0, none⟩ = some (.int .i64 0) := by
    have e : ((w.alloc (.cells #[.int .i64 c0, .slice A n cp] 26)).alloc (.cells #[.int .i64 d0, .slice B m cq] 26)).heap.size = w.heap.size + 1 + 1 := by simp
    rw [← e]
    exact cell_new ((w.alloc (.cells #[.int .i64 c0, .slice A n cp] 26)).alloc (.cells #[.int .i64 d0, .slice B m cq] 26)) #[.int .i64 0, .slice none 0 0] 26 0 (.int .i64 0) rfl
  have b21 : (((w.alloc (.cells #[.int .i64 c0, .slice A n cp] 26)).alloc (.cells #[.int .i64 d0, .slice B m cq] 26)).alloc (.cells #[.int .i64 0, .slice none 0 0] 26)).cell? ⟨w.heap.size + 1 + 1, 1, none⟩ = some (.slice none 0 0) := by
    have e : ((w.alloc (.cells #[.int .i64 c0, .slice A n cp] 26)).alloc (.cells #[.int .i64 d0, .slice B m cq] 26)).heap.size = w.heap.size + 1 + 1 := by simp
    rw [← e]
    exact cell_new ((w.alloc (.cells #[.int .i64 c0, .slice A n cp] 26)).alloc (.cells #[.int .i64 d0, .slice B m cq] 26)) #[.int .i64 0, .slice none 0 0] 26 1 (.slice none 0 0) rfl
  have b2l : w.heap.size + 1 + 1 < (((w.alloc (.cells #[.int .i64 c0, .slice A n cp] 26)).alloc (.cells #[.int .i64 d0, .slice B m cq] 26)).alloc (.cells #[.int .i64 0, .slice none 0 0] 26)).heap.size := by
    have e : (((w.alloc (.cells #[.int .i64 c0, .slice A n cp] 26)).alloc (.cells #[.int .i64 d0, .slice B m cq] 26)).alloc (.cells #[.int .i64 0, .slice none 0 0] 26)).heap.size = w.heap.size + 3 := by simp
    omega
  have rf : ∀ i, (((w.alloc (.cells #[.int .i64 c0, .slice A n cp] 26)).alloc (.cells #[.int .i64 d0, .slice B m cq] 26)).alloc (.cells #[.int .i64 0, .slice none 0 0] 26)).frozen? ⟨w.heap.size + 1 + 1, i, none⟩ = false := fun i => by
    have e : ((w.alloc (.cells #[.int .i64 c0, .slice A n cp] 26)).alloc (.cells #[.int .i64 d0, .slice B m cq] 26)).heap.size = w.heap.size + 1 + 1 := by simp
    rw [← e]
    exact fro_new _ _ _ _
  have hi0 := Lib.hid h0
  clear h0
  have hi1 := Lib.hid h1
  clear h1
  have hWs : (((w.alloc (.cells #[.int .i64 c0, .slice A n cp] 26)).alloc (.cells #[.int .i64 d0, .slice B m cq] 26)).alloc (.cells #[.int .i64 0, .slice none 0 0] 26)).heap.size = w.heap.size + 1 + 1 + 1 := by simp
  go_enter Try.func15, Try.ntmps15
  go_wp2_with fail
  generalize ((w.alloc (.cells #[.int .i64 c0, .slice A n cp] 26)).alloc (.cells #[.int .i64 d0, .slice B m cq] 26)).alloc (.cells #[.int .i64 0, .slice none 0 0] 26) = W at hb0 b00 b01 b0l b10 b11 b1l b20 b21 b2l rf hWs ⊢
  have rf0 := rf 0
  have rf1 := rf 1
  have hsW := hb0.size
  have hn0 := Lib.hid (hi0.out.next hb0 (Nat.le_refl _))
  have hn1 := Lib.hid (hi1.out.next hb0 (Nat.le_refl _))
  clear rf hi0 hi1
  have x0 : (W.alloc (.cells #[.int .i64 c0, .slice A n cp, .int .i64 d0, .slice B m cq] 26)).cell? ⟨W.heap.size, 0, none⟩ = some (.int .i64 c0) := cell_new W _ _ 0 _ rfl
  have x1 : (W.alloc (.cells #[.int .i64 c0, .slice A n cp, .int .i64 d0, .slice B m cq] 26)).cell? ⟨W.heap.size, 1, none⟩ = some (.slice A n cp) := cell_new W _ _ 1 _ rfl
  have x2 : (W.alloc (.cells #[.int .i64 c0, .slice A n cp, .int .i64 d0, .slice B m cq] 26)).cell? ⟨W.heap.size, 2, none⟩ = some (.int .i64 d0) := cell_new W _ _ 2 _ rfl
  have x3 : (W.alloc (.cells #[.int .i64 c0, .slice A n cp, .int .i64 d0, .slice B m cq] 26)).cell? ⟨W.heap.size, 3, none⟩ = some (.slice B m cq) := cell_new W _ _ 3 _ rfl
  have hba := bnew W (.cells #[.int .i64 c0, .slice A n cp, .int .i64 d0, .slice B m cq] 26)
  have hsa : (W.alloc (.cells #[.int .i64 c0, .slice A n cp, .int .i64 d0, .slice B m cq] 26)).heap.size = W.heap.size + 1 := by simp
  generalize W.alloc (.cells #[.int .i64 c0, .slice A n cp, .int .i64 d0, .slice B m cq] 26) = W1 at x0 x1 x2 x3 hba hsa ⊢
  have y0 : (W1.alloc (.cells #[.int .i64 1, .int .i64 1] 2)).cell? ⟨W1.heap.size, 0, none⟩ = some (.int .i64 1) := cell_new W1 _ _ 0 _ rfl
  have y1 : (W1.alloc (.cells #[.int .i64 1, .int .i64 1] 2)).cell? ⟨W1.heap.size, 1, none⟩ = some (.int .i64 1) := cell_new W1 _ _ 1 _ rfl
  have hbb := bnew W1 (.cells #[.int .i64 1, .int .i64 1] 2)
  have hsb : (W1.alloc (.cells #[.int .i64 1, .int .i64 1] 2)).heap.size = W1.heap.size + 1 := by simp
  replace x0 := cell_next x0 hbb
  replace x1 := cell_next x1 hbb
  replace x2 := cell_next x2 hbb
  replace x3 := cell_next x3 hbb
  generalize W1.alloc (.cells #[.int .i64 1, .int .i64 1] 2) = W2 at x0 x1 x2 x3 y0 y1 hbb hsb ⊢
  have hWW := bon hba hbb
  have hg0 : w.heap.size + 1 + 1 + 1 = W.heap.size := by omega
  have hg1 : W.heap.size + 1 = W1.heap.size := by omega
  have m0 := (hn0.out.next hWW hsW).more (B' := W2.heap.size) (by omega)
  have m1 := (hn1.out.next hWW hsW).more (B' := W2.heap.size) (by omega)
  have HTS : InTS W2 W2.heap.size (some ⟨W.heap.size, 0, none⟩) 2 [(c0, zs), (d0, ys)] := ⟨rfl, fun j t hj => by
    match j with
    | 0 => obtain rfl := by simpa using hj
           exact ⟨W.heap.size, 0, A, n, cp, rfl, by omega, x0, x1, m0.1, m0.2⟩
    | 1 => obtain rfl := by simpa using hj
           exact ⟨W.heap.size, 0, B, m, cq, rfl, by omega, x2, x3, m1.1, m1.2⟩
    | j + 2 => simp at hj⟩
  have HKS : InL W2 W2.heap.size (some ⟨W1.heap.size, 0, none⟩) 2 [1, 1] := ⟨rfl, fun j hj => by
    match j with
    | 0 => exact ⟨W1.heap.size, 0, rfl, by omega, y0⟩
    | 1 => exact ⟨W1.heap.size, 0, rfl, by omega, y1⟩
    | j + 2 => simp at hj; omega⟩
  have htot : totT [(c0, zs), (d0, ys)] ≤ 1048576 := by unfold totT; have := m0.1; have := m1.1; simp; omega
  have HC := Lib.hid (implCombine_c (some ⟨W.heap.size, 0, none⟩) 2 2 [(c0, zs), (d0, ys)] (some ⟨W1.heap.size, 0, none⟩) 2 2 [1, 1] W2 HTS htot HKS (by omega) (by omega))
  rw [add_eq, ← hg1, ← hg0] at HC
  replace b20 := cell_next b20 hWW
  replace b21 := cell_next b21 hWW
  have f0 := (hWW.frozen (p := ⟨w.heap.size + 1 + 1, 0, none⟩) b2l).trans rf0
  have f1 := (hWW.frozen (p := ⟨w.heap.size + 1 + 1, 1, none⟩) b2l).trans rf1
  have hbw := bon hb0 hWW
  have hrb : w.heap.size + 1 + 1 < W2.heap.size := by omega
  clear HTS HKS m0 m1 x0 x1 x2 x3 y0 y1 hn0 hn1 b00 b01 b10 b11 rf0 rf1 hb0 hba hbb hWW hWs hg0 hg1 hsa hsb htot
  obtain ⟨R, HR⟩ : ∃ R, Hid (addR (c0, zs) (d0, ys) = R) := ⟨_, rfl⟩
  rw [HR.out] at HC
  refine HC.out.mono ?_
  rintro e w3 ⟨A1, m1, c1, rfl, hown, hb3⟩
  replace b20 := cell_next b20 hb3
  replace b21 := cell_next b21 hb3
  replace f0 := (hb3.frozen (p := ⟨w.heap.size + 1 + 1, 0, none⟩) hrb).trans f0
  replace f1 := (hb3.frozen (p := ⟨w.heap.size + 1 + 1, 1, none⟩) hrb).trans f1
  go_wp2_with fail
  refine bodyPost_ret (v := .tuple #[.agg #[.int .i64 R.1.1, .slice A1 m1 c1], .bool R.2]) (by simp [results, Try.results15, go_sem, b20, b21]) rfl ?_
  rw [HR.out]
  exact ⟨_, _, _, rfl, give_end hbw (by omega) hrb hown hb3⟩
end Go.Proofs.Ytddmpdpmgjggoaa
