/-
  The model's OppositeOf, AddTerms, ScaleTerm. Conditions: at most 2^20 coefficients.
-/
import Derived.Test.YtddmpdpmgjggoaaOppS
namespace Go.Proofs.Ytddmpdpmgjggoaa
open Go.RowKit
theorem cell_new (w : World) (cs : Array Value) (t : TypeId) (i : Nat) (v : Value) (h : cs[i]? = some v) : (w.alloc (.cells cs t)).cell? ⟨w.heap.size, i, none⟩ = some v :=
  (cell_of_row _ _ i _ _ _ (heap_alloc_new w _)).trans h
theorem fro_new (w : World) (cs : Array Value) (t : TypeId) (i : Nat) : (w.alloc (.cells cs t)).frozen? ⟨w.heap.size, i, none⟩ = false := by simp
/-- The opposite of a term, and whether there is one. -/
def oppR (t : Int × List Int) : (Int × List Int) × Bool := if tmB t = true then mkL (-1 * t.1 + -1 * 1) (ten (lin t (-1) (1, []) (-1))) else ((0, []), false)
theorem oppR_yes {t : Int × List Int} (h : tmB t = true) : oppR t = mkL (-1 * t.1 + -1 * 1) (ten (lin t (-1) (1, []) (-1))) := if_pos h
theorem oppR_no {t : Int × List Int} (h : tmB t = false) : oppR t = ((0, []), false) := if_neg (by rw [h]; simp)
/-- The sum of two terms, and whether there is one. -/
def addR (t u : Int × List Int) : (Int × List Int) × Bool := if tmB t = true ∧ tmB u = true then mkL (1 * t.1 + 1 * u.1) (ten (lin t 1 u 1)) else ((0, []), false)
theorem addR_yes {t u : Int × List Int} (h : tmB t = true) (k : tmB u = true) : addR t u = mkL (1 * t.1 + 1 * u.1) (ten (lin t 1 u 1)) := if_pos ⟨h, k⟩
theorem addR_no0 {t u : Int × List Int} (h : tmB t = false) : addR t u = ((0, []), false) := if_neg (by rw [h]; simp)
theorem addR_no1 {t u : Int × List Int} (h : tmB u = false) : addR t u = ((0, []), false) := if_neg (by rw [h]; simp)
/-- A multiple of a term, and whether there is one. -/
def scaleR (t : Int × List Int) (k : Int) : (Int × List Int) × Bool := if tmB t = true ∧ -1000000 ≤ k ∧ k ≤ 1000000 then mkL (k * t.1 + 0 * 0) (ten (lin t k (0, []) 0)) else ((0, []), false)
theorem scaleR_yes {t : Int × List Int} {k : Int} (h : tmB t = true) (k1 : -1000000 ≤ k) (k2 : k ≤ 1000000) : scaleR t k = mkL (k * t.1 + 0 * 0) (ten (lin t k (0, []) 0)) := if_pos ⟨h, k1, k2⟩
theorem scaleR_no0 {t : Int × List Int} {k : Int} (h : tmB t = false) : scaleR t k = ((0, []), false) := if_neg (by rw [h]; simp)
theorem scaleR_no1 {t : Int × List Int} {k : Int} (h : ¬ (-1000000 ≤ k ∧ k ≤ 1000000)) : scaleR t k = ((0, []), false) := if_neg (fun a => h a.2)

set_option maxRecDepth 100000 in
set_option maxHeartbeats 2000000 in
theorem specOpposite_c (c0 : Int) (A : Option Addr) (n cp : Nat) (zs : List Int) (w : World) (h0 : InL w w.heap.size A n zs) (g0 : n ≤ 1048576) :
    Calls Try.prog 32 #[.agg #[.int .i64 c0, .slice A n cp]] w (GivesT (oppR (c0, zs)) w) := by
  have hb0 : Below w.heap.size w ((w.alloc (.cells #[.int .i64 c0, .slice A n cp] 26)).alloc (.cells #[.int .i64 0, .slice none 0 0] 26)) := bon (bnew _ _) (bnew _ _)
  have b00 : ((w.alloc (.cells #[.int .i64 c0, .slice A n cp] 26)).alloc (.cells #[.int .i64 0, .slice none 0 0] 26)).cell? ⟨w.heap.size, 0, none⟩ = some (.int .i64 c0) := by
    have e : w.heap.size = w.heap.size := rfl
    rw [← e]
    exact cell_next (cell_new w #[.int .i64 c0, .slice A n cp] 26 0 (.int .i64 c0) rfl) (bnew _ _)
  have b01 : ((w.alloc (.cells #[.int .i64 c0, .slice A n cp] 26)).alloc (.cells #[.int .i64 0, .slice none 0 0] 26)).cell? ⟨w.heap.size, 1, none⟩ = some (.slice A n cp) := by
    have e : w.heap.size = w.heap.size := rfl
    rw [← e]
    exact cell_next (cell_new w #[.int .i64 c0, .slice A n cp] 26 1 (.slice A n cp) rfl) (bnew _ _)
  have b0l : w.heap.size < ((w.alloc (.cells #[.int .i64 c0, .slice A n cp] 26)).alloc (.cells #[.int .i64 0, .slice none 0 0] 26)).heap.size := by
    have e : ((w.alloc (.cells #[.int .i64 c0, .slice A n cp] 26)).alloc (.cells #[.int .i64 0, .slice none 0 0] 26)).heap.size = w.heap.size + 2 := by simp
    omega
  have b10 : ((w.alloc (.cells #[.int .i64 c0, .slice A n cp] 26)).alloc (.cells #[.int .i64 0, .slice none 0 0] 26)).cell? ⟨w.heap.size + 1, 0, none⟩ = some (.int .i64 0) := by
    have e : (w.alloc (.cells #[.int .i64 c0, .slice A n cp] 26)).heap.size = w.heap.size + 1 := by simp
    rw [← e]
    exact cell_new (w.alloc (.cells #[.int .i64 c0, .slice A n cp] 26)) #[.int .i64 0, .slice none 0 0] 26 0 (.int .i64 0) rfl
  have b11 : ((w.alloc (.cells #[.int .i64 c0, .slice A n cp] 26)).alloc (.cells #[.int .i64 0, .slice none 0 0] 26)).cell? ⟨w.heap.size + 1, 1, none⟩ = some (.slice none 0 0) := by
    have e : (w.alloc (.cells #[.int .i64 c0, .slice A n cp] 26)).heap.size = w.heap.size + 1 := by simp
    rw [← e]
    exact cell_new (w.alloc (.cells #[.int .i64 c0, .slice A n cp] 26)) #[.int .i64 0, .slice none 0 0] 26 1 (.slice none 0 0) rfl
  have b1l : w.heap.size + 1 < ((w.alloc (.cells #[.int .i64 c0, .slice A n cp] 26)).alloc (.cells #[.int .i64 0, .slice none 0 0] 26)).heap.size := by
    have e : ((w.alloc (.cells #[.int .i64 c0, .slice A n cp] 26)).alloc (.cells #[.int .i64 0, .slice none 0 0] 26)).heap.size = w.heap.size + 2 := by simp
    omega
  have rf : ∀ i, ((w.alloc (.cells #[.int .i64 c0, .slice A n cp] 26)).alloc (.cells #[.int .i64 0, .slice none 0 0] 26)).frozen? ⟨w.heap.size + 1, i, none⟩ = false := fun i => by
    have e : (w.alloc (.cells #[.int .i64 c0, .slice A n cp] 26)).heap.size = w.heap.size + 1 := by simp
    rw [← e]
    exact fro_new _ _ _ _
  have hi0 := Lib.hid h0
  clear h0
  go_enter Try.func32, Try.ntmps32
  go_wp2_with fail
  generalize (w.alloc (.cells #[.int .i64 c0, .slice A n cp] 26)).alloc (.cells #[.int .i64 0, .slice none 0 0] 26) = W at hb0 b00 b01 b0l b10 b11 b1l rf ⊢
  have rf0 := rf 0
  have rf1 := rf 1
  have hsW := hb0.size
  have hn0 := hi0.out.next hb0 (Nat.le_refl _)
  have hp0 : PtrT W W.heap.size (w.heap.size) 0 (c0, zs) := ⟨A, n, cp, b0l, b00, b01, hn0.more hsW⟩
  refine (l02Is_c (w.heap.size) 0 c0 A n cp _ zs W b00 b01 hn0.2 hn0.1 g0).mono ?_
  rintro e w1 ⟨rfl, rfl⟩
  cases hv0 : tmB (c0, zs) with
  | false =>
    have HV0 := Lib.hid hv0
    clear hv0
    go_wp2_with fail
    refine bodyPost_ret (v := .tuple #[.agg #[.int .i64 0, .slice none 0 0], .bool false]) (by simp [results, Try.results32, go_sem, b10, b11]) rfl ?_
    unfold GivesT
    rw [oppR_no HV0.out]
    exact ⟨none, 0, 0, rfl, own_nil _ _, give_no hb0 (by omega)⟩
  | true =>
    have HV0 := Lib.hid hv0
    clear hv0
    go_wp2_with fail
    obtain ⟨R, HR⟩ : ∃ R, Hid (oppR (c0, zs) = R) := ⟨_, rfl⟩
    have HC := Lib.hid (l02Opposite_c W.heap.size w.heap.size 0 (c0, zs) W hp0 (Nat.le_refl _) HV0.out)
    rw [← oppR_yes HV0.out, HR.out] at HC
    refine HC.out.mono ?_
    rintro e w2 ⟨A1, k1, c1, rfl, hown, hb2⟩
    have r0 := cell_next b10 hb2
    have r1 := cell_next b11 hb2
    have f0 := (hb2.frozen (p := ⟨w.heap.size + 1, 0, none⟩) b1l).trans rf0
    have f1 := (hb2.frozen (p := ⟨w.heap.size + 1, 1, none⟩) b1l).trans rf1
    go_wp2_with fail
    refine bodyPost_ret (v := .tuple #[.agg #[.int .i64 R.1.1, .slice A1 k1 c1], .bool R.2]) (by simp [results, Try.results32, go_sem, r0, r1]) rfl ?_
    rw [HR.out]
    exact ⟨_, _, _, rfl, give_end hb0 (by omega) b1l hown hb2⟩

set_option maxRecDepth 100000 in
set_option maxHeartbeats 2000000 in
theorem specAdd_c (c0 : Int) (A : Option Addr) (n cp : Nat) (zs : List Int) (d0 : Int) (B : Option Addr) (m cq : Nat) (ys : List Int) (w : World) (h0 : InL w w.heap.size A n zs) (g0 : n ≤ 1048576) (h1 : InL w w.heap.size B m ys) (g1 : m ≤ 1048576) :
    Calls Try.prog 26 #[.agg #[.int .i64 c0, .slice A n cp], .agg #[.int .i64 d0, .slice B m cq]] w (GivesT (addR (c0, zs) (d0, ys)) w) := by
  have hb0 : Below w.heap.size w (((w.alloc (.cells #[.int .i64 c0, .slice A n cp] 26)).alloc (.cells #[.int .i64 d0, .slice B m cq] 26)).alloc (.cells #[.int .i64 0, .slice none 0 0] 26)) := bon (bon (bnew _ _) (bnew _ _)) (bnew _ _)
  have b00 : (((w.alloc (.cells #[.int .i64 c0, .slice A n cp] 26)).alloc (.cells #[.int .i64 d0, .slice B m cq] 26)).alloc (.cells #[.int .i64 0, .slice none 0 0] 26)).cell? ⟨w.heap.size, 0, none⟩ = some (.int .i64 c0) := by
    have e : w.heap.size = w.heap.size := rfl
    rw [← e]
    exact cell_next (cell_next (cell_new w #[.int .i64 c0, .slice A n cp] 26 0 (.int .i64 c0) rfl) (bnew _ _)) (bnew _ _)
  have b01 : (((w.alloc (.cells #[.int .i64 c0, .slice A n cp] 26)).alloc (.cells #[.int .i64 d0, .slice B m cq] 26)).alloc (.cells #[.int .i64 0, .slice none 0 0] 26)).cell? ⟨w.heap.size, 1, none⟩ = some (.slice A n cp) := by
    have e : w.heap.size = w.heap.size := rfl
    rw [← e]
    exact cell_next (cell_next (cell_new w #[.int .i64 c0, .slice A n cp] 26 1 (.slice A n cp) rfl) (bnew _ _)) (bnew _ _)
  have b0l : w.heap.size < (((w.alloc (.cells #[.int .i64 c0, .slice A n cp] 26)).alloc (.cells #[.int .i64 d0, .slice B m cq] 26)).alloc (.cells #[.int .i64 0, .slice none 0 0] 26)).heap.size := by
    have e : (((w.alloc (.cells #[.int .i64 c0, .slice A n cp] 26)).alloc (.cells #[.int .i64 d0, .slice B m cq] 26)).alloc (.cells #[.int .i64 0, .slice none 0 0] 26)).heap.size = w.heap.size + 3 := by simp
    omega
  have b10 : (((w.alloc (.cells #[.int .i64 c0, .slice A n cp] 26)).alloc (.cells #[.int .i64 d0, .slice B m cq] 26)).alloc (.cells #[.int .i64 0, .slice none 0 0] 26)).cell? ⟨w.heap.size + 1, 0, none⟩ = some (.int .i64 d0) := by
    have e : (w.alloc (.cells #[.int .i64 c0, .slice A n cp] 26)).heap.size = w.heap.size + 1 := by simp
    rw [← e]
    exact cell_next (cell_new (w.alloc (.cells #[.int .i64 c0, .slice A n cp] 26)) #[.int .i64 d0, .slice B m cq] 26 0 (.int .i64 d0) rfl) (bnew _ _)
  have b11 : (((w.alloc (.cells #[.int .i64 c0, .slice A n cp] 26)).alloc (.cells #[.int .i64 d0, .slice B m cq] 26)).alloc (.cells #[.int .i64 0, .slice none 0 0] 26)).cell? ⟨w.heap.size + 1, 1, none⟩ = some (.slice B m cq) := by
    have e : (w.alloc (.cells #[.int .i64 c0, .slice A n cp] 26)).heap.size = w.heap.size + 1 := by simp
    rw [← e]
    exact cell_next (cell_new (w.alloc (.cells #[.int .i64 c0, .slice A n cp] 26)) #[.int .i64 d0, .slice B m cq] 26 1 (.slice B m cq) rfl) (bnew _ _)
  have b1l : w.heap.size + 1 < (((w.alloc (.cells #[.int .i64 c0, .slice A n cp] 26)).alloc (.cells #[.int .i64 d0, .slice B m cq] 26)).alloc (.cells #[.int .i64 0, .slice none 0 0] 26)).heap.size := by
    have e : (((w.alloc (.cells #[.int .i64 c0, .slice A n cp] 26)).alloc (.cells #[.int .i64 d0, .slice B m cq] 26)).alloc (.cells #[.int .i64 0, .slice none 0 0] 26)).heap.size = w.heap.size + 3 := by simp
    omega
  have b20 : (((w.alloc (.cells #[.int .i64 c0, .slice A n cp] 26)).alloc (.cells #[.int .i64 d0, .slice B m cq] 26)).alloc (.cells #[.int .i64 0, .slice none 0 0] 26)).cell? ⟨w.heap.size + 1 + 1, 0, none⟩ = some (.int .i64 0) := by
    have e : ((w.alloc (.cells #[.int .i64 c0, .slice A n cp] 26)).alloc (.cells #[.int .i64 d0, .slice B m cq] 26)).heap.size = w.heap.size + 1 + 1 := by simp
    rw [← e]
    exact cell_new ((w.alloc (.cells #[.int .i64 c0, .slice A n cp] 26)).alloc (.cells #[.int .i64 d0, .slice B m cq] 26)) #[.int .i64 0, .slice none 0 0] 26 0 (.int .i64 0) rfl
  have b21 : (((w.alloc (.cells #[.int .i64 c0, .slice A n cp] 26)).alloc (.cells #[.int .i64 d0, .slice B m cq] 26)).alloc (.cells #[.int .i64 0, .slice none 0 0] 26)).cell? ⟨w.heap.size + 1 + 1, 1, none⟩ = some (.slice none 0 0) := by
    have e : ((w.alloc (.cells #[.int .i64 c0, .slice A n cp] 26)).alloc (.cells #[.int .i64 d0, .slice B m cq] 26)).heap.size = w.heap.size + 1 + 1 := by simp
    rw [← e]
    exact cell_new ((w.alloc (.cells #[.int .i64 c0, .slice A n cp] 26)).alloc (.cells #[.int .i64 d0, .slice B m cq] 26)) #[.int .i64 0, .slice none 0 0] 26 1 (.slice none 0 0) rfl
  have b2l : w.heap.size + 1 + 1 < (((w.alloc (.cells #[.int .i64 c0, .slice A n cp] 26)).alloc (.cells #[.int .i64 d0, .slice B m cq] 26)).alloc (.cells #[.int .i64 0, .slice none 0 0] 26)).heap.size := by
    have e : (((w.alloc (.cells #[.int .i64 c0, .slice A n cp] 26)).alloc (.cells #[.int .i64 d0, .slice B m cq] 26)).alloc (.cells #[.int .i64 0, .slice none 0 0] 26)).heap.size = w.heap.size + 3 := by simp
    omega
  have rf : ∀ i, (((w.alloc (.cells #[.int .i64 c0, .slice A n cp] 26)).alloc (.cells #[.int .i64 d0, .slice B m cq] 26)).alloc (.cells #[.int .i64 0, .slice none 0 0] 26)).frozen? ⟨w.heap.size + 1 + 1, i, none⟩ = false := fun i => by
    have e : ((w.alloc (.cells #[.int .i64 c0, .slice A n cp] 26)).alloc (.cells #[.int .i64 d0, .slice B m cq] 26)).heap.size = w.heap.size + 1 + 1 := by simp
    rw [← e]
    exact fro_new _ _ _ _
  have hi0 := Lib.hid h0
  clear h0
  have hi1 := Lib.hid h1
  clear h1
  go_enter Try.func26, Try.ntmps26
  go_wp2_with fail
  generalize ((w.alloc (.cells #[.int .i64 c0, .slice A n cp] 26)).alloc (.cells #[.int .i64 d0, .slice B m cq] 26)).alloc (.cells #[.int .i64 0, .slice none 0 0] 26) = W at hb0 b00 b01 b0l b10 b11 b1l b20 b21 b2l rf ⊢
  have rf0 := rf 0
  have rf1 := rf 1
  have hsW := hb0.size
  have hn0 := hi0.out.next hb0 (Nat.le_refl _)
  have hp0 : PtrT W W.heap.size (w.heap.size) 0 (c0, zs) := ⟨A, n, cp, b0l, b00, b01, hn0.more hsW⟩
  have hn1 := hi1.out.next hb0 (Nat.le_refl _)
  have hp1 : PtrT W W.heap.size (w.heap.size + 1) 0 (d0, ys) := ⟨B, m, cq, b1l, b10, b11, hn1.more hsW⟩
  refine (l02Is_c (w.heap.size) 0 c0 A n cp _ zs W b00 b01 hn0.2 hn0.1 g0).mono ?_
  rintro e w1 ⟨rfl, rfl⟩
  cases hv0 : tmB (c0, zs) with
  | false =>
    have HV0 := Lib.hid hv0
    clear hv0
    go_wp2_with fail
    refine bodyPost_ret (v := .tuple #[.agg #[.int .i64 0, .slice none 0 0], .bool false]) (by simp [results, Try.results26, go_sem, b20, b21]) rfl ?_
    unfold GivesT
    rw [addR_no0 HV0.out]
    exact ⟨none, 0, 0, rfl, own_nil _ _, give_no hb0 (by omega)⟩
  | true =>
    have HV0 := Lib.hid hv0
    clear hv0
    go_wp2_with fail
    refine (l02Is_c (w.heap.size + 1) 0 d0 B m cq _ ys W b10 b11 hn1.2 hn1.1 g1).mono ?_
    rintro e w1 ⟨rfl, rfl⟩
    cases hv1 : tmB (d0, ys) with
    | false =>
      have HV1 := Lib.hid hv1
      clear hv1
      go_wp2_with fail
      refine bodyPost_ret (v := .tuple #[.agg #[.int .i64 0, .slice none 0 0], .bool false]) (by simp [results, Try.results26, go_sem, b20, b21]) rfl ?_
      unfold GivesT
      rw [addR_no1 HV1.out]
      exact ⟨none, 0, 0, rfl, own_nil _ _, give_no hb0 (by omega)⟩
    | true =>
      have HV1 := Lib.hid hv1
      clear hv1
      go_wp2_with fail
      obtain ⟨R, HR⟩ : ∃ R, Hid (addR (c0, zs) (d0, ys) = R) := ⟨_, rfl⟩
      have HC := Lib.hid (l02Add_c W.heap.size w.heap.size 0 (w.heap.size + 1) 0 (c0, zs) (d0, ys) W hp0 hp1 (Nat.le_refl _) HV0.out HV1.out)
      rw [← addR_yes HV0.out HV1.out, HR.out] at HC
      refine HC.out.mono ?_
      rintro e w2 ⟨A1, k1, c1, rfl, hown, hb2⟩
      have r0 := cell_next b20 hb2
      have r1 := cell_next b21 hb2
      have f0 := (hb2.frozen (p := ⟨w.heap.size + 1 + 1, 0, none⟩) b2l).trans rf0
      have f1 := (hb2.frozen (p := ⟨w.heap.size + 1 + 1, 1, none⟩) b2l).trans rf1
      go_wp2_with fail
      refine bodyPost_ret (v := .tuple #[.agg #[.int .i64 R.1.1, .slice A1 k1 c1], .bool R.2]) (by simp [results, Try.results26, go_sem, r0, r1]) rfl ?_
      rw [HR.out]
      exact ⟨_, _, _, rfl, give_end hb0 (by omega) b2l hown hb2⟩

set_option maxRecDepth 100000 in
set_option maxHeartbeats 2000000 in
theorem specScale_c (c0 : Int) (A : Option Addr) (n cp : Nat) (zs : List Int) (k : Int) (w : World) (h0 : InL w w.heap.size A n zs) (g0 : n ≤ 1048576) :
    Calls Try.prog 31 #[.agg #[.int .i64 c0, .slice A n cp], .int .i64 k] w (GivesT (scaleR (c0, zs) k) w) := by
  have hb0 : Below w.heap.size w ((w.alloc (.cells #[.int .i64 c0, .slice A n cp] 26)).alloc (.cells #[.int .i64 0, .slice none 0 0] 26)) := bon (bnew _ _) (bnew _ _)
  have b00 : ((w.alloc (.cells #[.int .i64 c0, .slice A n cp] 26)).alloc (.cells #[.int .i64 0, .slice none 0 0] 26)).cell? ⟨w.heap.size, 0, none⟩ = some (.int .i64 c0) := by
    have e : w.heap.size = w.heap.size := rfl
    rw [← e]
    exact cell_next (cell_new w #[.int .i64 c0, .slice A n cp] 26 0 (.int .i64 c0) rfl) (bnew _ _)
  have b01 : ((w.alloc (.cells #[.int .i64 c0, .slice A n cp] 26)).alloc (.cells #[.int .i64 0, .slice none 0 0] 26)).cell? ⟨w.heap.size, 1, none⟩ = some (.slice A n cp) := by
    have e : w.heap.size = w.heap.size := rfl
    rw [← e]
    exact cell_next (cell_new w #[.int .i64 c0, .slice A n cp] 26 1 (.slice A n cp) rfl) (bnew _ _)
  have b0l : w.heap.size < ((w.alloc (.cells #[.int .i64 c0, .slice A n cp] 26)).alloc (.cells #[.int .i64 0, .slice none 0 0] 26)).heap.size := by
    have e : ((w.alloc (.cells #[.int .i64 c0, .slice A n cp] 26)).alloc (.cells #[.int .i64 0, .slice none 0 0] 26)).heap.size = w.heap.size + 2 := by simp
    omega
  have b10 : ((w.alloc (.cells #[.int .i64 c0, .slice A n cp] 26)).alloc (.cells #[.int .i64 0, .slice none 0 0] 26)).cell? ⟨w.heap.size + 1, 0, none⟩ = some (.int .i64 0) := by
    have e : (w.alloc (.cells #[.int .i64 c0, .slice A n cp] 26)).heap.size = w.heap.size + 1 := by simp
    rw [← e]
    exact cell_new (w.alloc (.cells #[.int .i64 c0, .slice A n cp] 26)) #[.int .i64 0, .slice none 0 0] 26 0 (.int .i64 0) rfl
  have b11 : ((w.alloc (.cells #[.int .i64 c0, .slice A n cp] 26)).alloc (.cells #[.int .i64 0, .slice none 0 0] 26)).cell? ⟨w.heap.size + 1, 1, none⟩ = some (.slice none 0 0) := by
    have e : (w.alloc (.cells #[.int .i64 c0, .slice A n cp] 26)).heap.size = w.heap.size + 1 := by simp
    rw [← e]
    exact cell_new (w.alloc (.cells #[.int .i64 c0, .slice A n cp] 26)) #[.int .i64 0, .slice none 0 0] 26 1 (.slice none 0 0) rfl
  have b1l : w.heap.size + 1 < ((w.alloc (.cells #[.int .i64 c0, .slice A n cp] 26)).alloc (.cells #[.int .i64 0, .slice none 0 0] 26)).heap.size := by
    have e : ((w.alloc (.cells #[.int .i64 c0, .slice A n cp] 26)).alloc (.cells #[.int .i64 0, .slice none 0 0] 26)).heap.size = w.heap.size + 2 := by simp
    omega
  have rf : ∀ i, ((w.alloc (.cells #[.int .i64 c0, .slice A n cp] 26)).alloc (.cells #[.int .i64 0, .slice none 0 0] 26)).frozen? ⟨w.heap.size + 1, i, none⟩ = false := fun i => by
    have e : (w.alloc (.cells #[.int .i64 c0, .slice A n cp] 26)).heap.size = w.heap.size + 1 := by simp
    rw [← e]
    exact fro_new _ _ _ _
  have hi0 := Lib.hid h0
  clear h0
  by_cases k1 : -1000000 ≤ k
  · by_cases k2 : k ≤ 1000000
    · go_enter Try.func31, Try.ntmps31
      go_wp2_with fail
      generalize (w.alloc (.cells #[.int .i64 c0, .slice A n cp] 26)).alloc (.cells #[.int .i64 0, .slice none 0 0] 26) = W at hb0 b00 b01 b0l b10 b11 b1l rf ⊢
      have rf0 := rf 0
      have rf1 := rf 1
      have hsW := hb0.size
      have hn0 := hi0.out.next hb0 (Nat.le_refl _)
      have hp0 : PtrT W W.heap.size (w.heap.size) 0 (c0, zs) := ⟨A, n, cp, b0l, b00, b01, hn0.more hsW⟩
      refine (l02Is_c (w.heap.size) 0 c0 A n cp _ zs W b00 b01 hn0.2 hn0.1 g0).mono ?_
      rintro e w1 ⟨rfl, rfl⟩
      cases hv0 : tmB (c0, zs) with
      | false =>
        have HV0 := Lib.hid hv0
        clear hv0
        go_wp2_with fail
        refine bodyPost_ret (v := .tuple #[.agg #[.int .i64 0, .slice none 0 0], .bool false]) (by simp [results, Try.results31, go_sem, b10, b11]) rfl ?_
        unfold GivesT
        rw [scaleR_no0 HV0.out]
        exact ⟨none, 0, 0, rfl, own_nil _ _, give_no hb0 (by omega)⟩
      | true =>
        have HV0 := Lib.hid hv0
        clear hv0
        go_wp2_with fail
        go_wp2_with (first | (go_at_call 64; go_in) | (go_at_call 74; go_in))
        obtain ⟨R, HR⟩ : ∃ R, Hid (scaleR (c0, zs) k = R) := ⟨_, rfl⟩
        have HC := Lib.hid (l02Scale_c W.heap.size w.heap.size 0 (c0, zs) k W hp0 (Nat.le_refl _) HV0.out k1 k2)
        rw [← scaleR_yes HV0.out k1 k2, HR.out] at HC
        refine HC.out.mono ?_
        rintro e w2 ⟨A1, m1, c1, rfl, hown, hb2⟩
        have r0 := cell_next b10 hb2
        have r1 := cell_next b11 hb2
        have f0 := (hb2.frozen (p := ⟨w.heap.size + 1, 0, none⟩) b1l).trans rf0
        have f1 := (hb2.frozen (p := ⟨w.heap.size + 1, 1, none⟩) b1l).trans rf1
        go_wp2_with fail
        refine bodyPost_ret (v := .tuple #[.agg #[.int .i64 R.1.1, .slice A1 m1 c1], .bool R.2]) (by simp [results, Try.results31, go_sem, r0, r1]) rfl ?_
        rw [HR.out]
        exact ⟨_, _, _, rfl, give_end hb0 (by omega) b1l hown hb2⟩
    · have HK := Lib.hid (scaleR_no1 (t := (c0, zs)) (k := k) (fun h => k2 h.2))
      have kb : decide (k ≤ 1000000) = false := decide_eq_false k2
      go_enter Try.func31, Try.ntmps31
      go_wp2_with fail
      generalize (w.alloc (.cells #[.int .i64 c0, .slice A n cp] 26)).alloc (.cells #[.int .i64 0, .slice none 0 0] 26) = W at hb0 b00 b01 b0l b10 b11 b1l rf ⊢
      have rf0 := rf 0
      have rf1 := rf 1
      have hsW := hb0.size
      have hn0 := hi0.out.next hb0 (Nat.le_refl _)
      have hp0 : PtrT W W.heap.size (w.heap.size) 0 (c0, zs) := ⟨A, n, cp, b0l, b00, b01, hn0.more hsW⟩
      refine (l02Is_c (w.heap.size) 0 c0 A n cp _ zs W b00 b01 hn0.2 hn0.1 g0).mono ?_
      rintro e w1 ⟨rfl, rfl⟩
      cases hv0 : tmB (c0, zs) with
      | false =>
        have HV0 := Lib.hid hv0
        clear hv0
        go_wp2_with fail
        refine bodyPost_ret (v := .tuple #[.agg #[.int .i64 0, .slice none 0 0], .bool false]) (by simp [results, Try.results31, go_sem, b10, b11]) rfl ?_
        unfold GivesT
        rw [scaleR_no0 HV0.out]
        exact ⟨none, 0, 0, rfl, own_nil _ _, give_no hb0 (by omega)⟩
      | true =>
        have HV0 := Lib.hid hv0
        clear hv0
        go_wp2_with fail
        go_wp2_with (first | (go_at_call 64; go_in) | (go_at_call 74; go_in))
        refine bodyPost_ret (v := .tuple #[.agg #[.int .i64 0, .slice none 0 0], .bool false]) (by simp [results, Try.results31, go_sem, b10, b11]) rfl ?_
        unfold GivesT
        rw [HK.out]
        exact ⟨none, 0, 0, rfl, own_nil _ _, give_no hb0 (by omega)⟩
  · have HK := Lib.hid (scaleR_no1 (t := (c0, zs)) (k := k) (fun h => k1 h.1))
    have kb : decide (-1000000 ≤ k) = false := decide_eq_false k1
    go_enter Try.func31, Try.ntmps31
    go_wp2_with fail
    generalize (w.alloc (.cells #[.int .i64 c0, .slice A n cp] 26)).alloc (.cells #[.int .i64 0, .slice none 0 0] 26) = W at hb0 b00 b01 b0l b10 b11 b1l rf ⊢
    have rf0 := rf 0
    have rf1 := rf 1
    have hsW := hb0.size
    have hn0 := hi0.out.next hb0 (Nat.le_refl _)
    have hp0 : PtrT W W.heap.size (w.heap.size) 0 (c0, zs) := ⟨A, n, cp, b0l, b00, b01, hn0.more hsW⟩
    refine (l02Is_c (w.heap.size) 0 c0 A n cp _ zs W b00 b01 hn0.2 hn0.1 g0).mono ?_
    rintro e w1 ⟨rfl, rfl⟩
    cases hv0 : tmB (c0, zs) with
    | false =>
      have HV0 := Lib.hid hv0
      clear hv0
      go_wp2_with fail
      refine bodyPost_ret (v := .tuple #[.agg #[.int .i64 0, .slice none 0 0], .bool false]) (by simp [results, Try.results31, go_sem, b10, b11]) rfl ?_
      unfold GivesT
      rw [scaleR_no0 HV0.out]
      exact ⟨none, 0, 0, rfl, own_nil _ _, give_no hb0 (by omega)⟩
    | true =>
      have HV0 := Lib.hid hv0
      clear hv0
      go_wp2_with fail
      go_wp2_with (first | (go_at_call 64; go_in) | (go_at_call 74; go_in))
      refine bodyPost_ret (v := .tuple #[.agg #[.int .i64 0, .slice none 0 0], .bool false]) (by simp [results, Try.results31, go_sem, b10, b11]) rfl ?_
      unfold GivesT
      rw [HK.out]
      exact ⟨none, 0, 0, rfl, own_nil _ _, give_no hb0 (by omega)⟩
end Go.Proofs.Ytddmpdpmgjggoaa
