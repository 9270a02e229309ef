/-
  The model's CompileTerm. Conditions: at most 2^20 coefficients.
-/
import Derived.Test.YtglbkbdljjaioaaCompP
namespace Go.Proofs.Ytglbkbdljjaioaa
set_option linter.unusedVariables false
open Go.RowKit

set_option maxRecDepth 100000 in
set_option maxHeartbeats 4000000 in
theorem l09Term_c (b o : Nat) (c0 : Int) (A : Option Addr) (n c B : Nat) (zs : List Int) (w : World) (hc0 : w.cell? ⟨b, o, none⟩ = some (.int .i64 c0)) (hc1 : w.cell? ⟨b, o + 1, none⟩ = some (.slice A n c)) (h : InL w B A n zs) (hB : B ≤ w.heap.size) (hn : n ≤ 1000) :
    Calls Try.prog 75 #[.pointer (some ⟨b, o, none⟩)] w fun e w' => ∃ A' c', e = .returned (.slice A' (ctL (c0, zs)).length c') ∧ w'.ownsRow w.heap.size 66 2 (.slice A' (ctL (c0, zs)).length c') (ctL (c0, zs)).length (flatC (ctL (c0, zs))) ∧ Below w.heap.size w w' := by
  have hlen := Lib.hid h.1
  have hb0 := bnew w (.cells #[.int .i64 0, .int .i64 c0] 66)
  have hst := own_oneC w 0 c0
  have p0 := cell_next hc0 hb0
  have p1 := cell_next hc1 hb0
  have HI := Lib.hid h
  clear h
  go_enter Try.func75, Try.ntmps75
  go_wp2_with fail
  generalize w.alloc (.cells #[.int .i64 0, .int .i64 c0] 66) = W at hb0 hst p0 p1 ⊢
  clear p0 p1
  go_loopw [3, 4] (fun v i wr => ∃ (k : Nat) (A' : Option Addr) (c' : Nat), k ≤ n ∧ i = .int .i64 k ∧ v = .slice A' ((0, c0) :: cosC zs k).length c' ∧ wr.ownsRow w.heap.size 66 2 (.slice A' ((0, c0) :: cosC zs k).length c') ((0, c0) :: cosC zs k).length (flatC ((0, c0) :: cosC zs k)) ∧ Below w.heap.size w wr) (fun _ i _ => n - (intOf i).toNat)
  case atStart => exact ⟨0, _, _, Nat.zero_le _, rfl, rfl, hst, hb0⟩
  case round =>
    clear hst
    obtain ⟨k, A', c', hk, rfl, rfl, hr, hbw⟩ := hrel
    have hsw := hbw.size
    have pk := cell_next hc1 hbw
    by_cases hlt : k < n
    · obtain ⟨b', off, z, rfl, hb', hz, q0⟩ := (HI.out.next hbw hB).2.int_at (k := k) (by rw [hlen.out]; exact hlt)
      have hcl := cosC_len zs k
      have HS := Lib.hid (cosC_succ hz)
      by_cases hz0 : z = 0
      · subst hz0
        have HN : Hid (cosC zs (k + 1) = cosC zs k) := by show _ = _; rw [HS.out, one1_0, List.append_nil]
        clear hz HS
        go_wp2_with fail
        go_roundw
        case rel => exact ⟨k + 1, _, _, by omega, by go_num, (by rw [HN.out]), (by rw [HN.out]; exact hr), hbw⟩
        case measure => simp [intOf]; omega
      · have e0 : (z == 0) = false := by simp [hz0]
        obtain ⟨ys, Y0⟩ : ∃ x, Hid ((0, c0) :: cosC zs k = x) := ⟨_, Lib.hid rfl⟩
        have hyl : ys.length ≤ 50000 := by rw [← Y0.out]; simp only [List.length_cons]; omega
        rw [Y0.out] at hr ⊢
        obtain ⟨g1, c1, w1, x1, r1, b1, _⟩ := app_oneC 1 (k : Int) hr hsw (by omega)
        obtain ⟨y1, Y1⟩ : ∃ x, Hid (ys ++ [(1, (k : Int))] = x) := ⟨_, Lib.hid rfl⟩
        have hy1 : y1.length = ys.length + 1 := by rw [← Y1.out]; simp
        have hyl1 : y1.length ≤ 60000 := by omega
        rw [Y1.out] at x1 r1
        have hb1' := hbw.trans b1
        have q1 := (b1.cell (p := ⟨b', off + k, none⟩) (by show b' < w.heap.size; omega)).trans q0
        have X1 := Lib.hid x1
        by_cases hz1 : z = 1
        · subst hz1
          have e1 : ((1 : Int) != 1) = false := by simp
          obtain ⟨g3, c3, w3, x3, r3, b3, _⟩ := app_oneC 3 0 r1 hb1'.size (by omega)
          obtain ⟨y3, Y3⟩ : ∃ x, Hid (y1 ++ [(3, 0)] = x) := ⟨_, Lib.hid rfl⟩
          rw [Y3.out] at x3 r3
          have X3 := Lib.hid x3
          have HN : Hid ((0, c0) :: cosC zs (k + 1) = y3) := by show _ = _; rw [HS.out, one1_1, ← Y3.out, ← Y1.out, ← Y0.out]; simp
          clear hz HS hy1 x1 x3 hcl e0
          go_wp2_with (at_builtin; first | (refine Lib.wpList_append_run (wr.alloc (.cells #[.int .i64 1, .int .i64 (k : Int)] 66)) rfl _ _ _ _ rfl _ _ rfl rfl _ _ X1.out ?_) | (refine Lib.wpList_append_run (w1.alloc (.cells #[.int .i64 3, .int .i64 0] 66)) rfl _ _ _ _ rfl _ _ rfl rfl _ _ X3.out ?_) | fail)
          go_roundw
          case rel => exact ⟨k + 1, _, c3, by omega, by go_num, (by rw [HN.out]), (by rw [HN.out]; exact r3), hb1'.trans b3⟩
          case measure => simp [intOf]; omega
        · have e1 : (z != 1) = true := by simp [hz1]
          obtain ⟨g2, c2, w2, x2, r2, b2, _⟩ := app_oneC 4 z r1 hb1'.size (by omega)
          obtain ⟨y2, Y2⟩ : ∃ x, Hid (y1 ++ [(4, z)] = x) := ⟨_, Lib.hid rfl⟩
          have hyl2 : y2.length ≤ 70000 := by rw [← Y2.out]; simp; omega
          rw [Y2.out] at x2 r2
          have hb2' := hb1'.trans b2
          have X2 := Lib.hid x2
          obtain ⟨g3, c3, w3, x3, r3, b3, _⟩ := app_oneC 3 0 r2 hb2'.size (by omega)
          obtain ⟨y3, Y3⟩ : ∃ x, Hid (y2 ++ [(3, 0)] = x) := ⟨_, Lib.hid rfl⟩
          rw [Y3.out] at x3 r3
          have X3 := Lib.hid x3
          have HN : Hid ((0, c0) :: cosC zs (k + 1) = y3) := by show _ = _; rw [HS.out, one1_n k hz0 hz1, ← Y3.out, ← Y2.out, ← Y1.out, ← Y0.out]; simp
          clear hz HS hy1 x1 x2 x3 hcl hz0 hz1
          go_wp2_with (at_builtin; first | (refine Lib.wpList_append_run (wr.alloc (.cells #[.int .i64 1, .int .i64 (k : Int)] 66)) rfl _ _ _ _ rfl _ _ rfl rfl _ _ X1.out ?_) | (refine Lib.wpList_append_run (w1.alloc (.cells #[.int .i64 4, .int .i64 z] 66)) rfl _ _ _ _ rfl _ _ rfl rfl _ _ X2.out ?_) | (refine Lib.wpList_append_run (w2.alloc (.cells #[.int .i64 3, .int .i64 0] 66)) rfl _ _ _ _ rfl _ _ rfl rfl _ _ X3.out ?_) | fail)
          go_roundw
          case rel => exact ⟨k + 1, _, c3, by omega, by go_num, (by rw [HN.out]), (by rw [HN.out]; exact r3), hb2'.trans b3⟩
          case measure => simp [intOf]; omega
    · have e : k = n := by omega
      subst e
      have HE : Hid ((0, c0) :: cosC zs k = ctL (c0, zs)) := by show _ = _; unfold ctL; rw [hlen.out]
      rw [HE.out] at hr ⊢
      clear HE
      go_wp2_with fail
      go_ret
      exact ⟨_, _, rfl, hr, hbw⟩

set_option maxRecDepth 100000 in
set_option maxHeartbeats 4000000 in
theorem specCompTerm_c (c0 : Int) (A : Option Addr) (n c B : Nat) (zs : List Int) (w : World) (h : InL w B A n zs) (hB : B ≤ w.heap.size) (hn : n ≤ 1048576) :
    Calls Try.prog 31 #[.agg #[.int .i64 c0, .slice A n c]] w fun e w' => ∃ A' c', e = .returned (.tuple #[.slice A' (ctR (c0, zs)).1.length c', .bool (ctR (c0, zs)).2]) ∧ InC w' w'.heap.size A' (ctR (c0, zs)).1.length (ctR (c0, zs)).1 ∧ Below w.heap.size w w' := by
  have hb0 := bnew w (.cells #[.int .i64 c0, .slice A n c] 74)
  have p0 : (w.alloc (.cells #[.int .i64 c0, .slice A n c] 74)).cell? ⟨w.heap.size, 0, none⟩ = some (.int .i64 c0) := by simp
  have p1 : (w.alloc (.cells #[.int .i64 c0, .slice A n c] 74)).cell? ⟨w.heap.size, 1, none⟩ = some (.slice A n c) := by simp
  have hI := h.next hb0 hB
  have HC0 := l03Term_o w.heap.size 0 c0 A n c B zs _ p0 p1 hI hn
  cases hv : overB (c0, zs) with
  | false =>
    have HE := Lib.hid (ctR_no hv)
    rw [hv] at HC0
    rw [HE.out]
    have HC := Lib.hid HC0
    clear HC0 hv h hI p0 p1
    go_enter Try.func31, Try.ntmps31
    go_wp2_with fail
    generalize w.alloc (.cells #[.int .i64 c0, .slice A n c] 74) = W at hb0 HC ⊢
    refine HC.out.mono ?_
    rintro e w1 ⟨rfl, rfl⟩
    go_wp2_with fail
    go_ret2
    exact ⟨none, 0, rfl, ⟨rfl, fun j x hj => by simp at hj⟩, hb0⟩
  | true =>
    have HE := Lib.hid (ctR_yes hv)
    have hn4 : n ≤ 1000 := by
      unfold overB at hv
      simp only [Bool.and_eq_true, decide_eq_true_eq] at hv
      have := h.1
      have h2 : zs.length ≤ 4 := hv.2
      omega
    have HT := Lib.hid (l09Term_c w.heap.size 0 c0 A n c B zs _ p0 p1 hI (Nat.le_trans hB hb0.size) hn4)
    rw [hv] at HC0
    rw [HE.out]
    have HC := Lib.hid HC0
    clear HC0 hv h hI p0 p1
    go_enter Try.func31, Try.ntmps31
    go_wp2_with fail
    generalize w.alloc (.cells #[.int .i64 c0, .slice A n c] 74) = W at hb0 HC HT ⊢
    refine HC.out.mono ?_
    rintro e w1 ⟨rfl, rfl⟩
    go_wp2_with fail
    refine HT.out.mono ?_
    rintro e w2 ⟨A2, c2, rfl, hr, hb2⟩
    have HR := Lib.hid (OwnC.of_own hr rfl).all
    clear hr
    go_wp2_with fail
    go_ret2
    exact ⟨A2, c2, rfl, HR.out, bon hb0 hb2⟩
end Go.Proofs.Ytglbkbdljjaioaa
