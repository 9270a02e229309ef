/-
  Valid configs: the model's test and the program's. Conditions: at most 2^20 numbers.
-/
import Derived.Test.YtdmcpabpjhinhaaCfg
namespace Go.Proofs.Ytdmcpabpjhinhaa
set_option linter.unusedVariables false
open Go.RowKit

/-- A valid config. -/
def cfgB (zs ys xs : List Int) (a : Int) : Bool := stB zs ys && ((decide (0 ≤ a) && decide (a ≤ 80)) && (decide (xs.length ≤ 6) && btw (-10000000000000000) 10000000000000000 xs))
theorem cfgB_st {zs ys xs : List Int} {a : Int} (h : stB zs ys = false) : cfgB zs ys xs a = false := by unfold cfgB; rw [h]; rfl
theorem cfgB_at {zs ys xs : List Int} {a : Int} (h : (decide (0 ≤ a) && decide (a ≤ 80)) = false) : cfgB zs ys xs a = false := by unfold cfgB; rw [h]; simp
theorem cfgB_len {zs ys xs : List Int} {a : Int} (h : ¬ xs.length ≤ 6) : cfgB zs ys xs a = false := by unfold cfgB; rw [decide_eq_false h]; simp
theorem cfgB_btw {zs ys xs : List Int} {a : Int} (h : btw (-10000000000000000) 10000000000000000 xs = false) : cfgB zs ys xs a = false := by unfold cfgB; rw [h]; simp
theorem cfgB_is {zs ys xs : List Int} {a : Int} (h : stB zs ys = true) (h1 : (decide (0 ≤ a) && decide (a ≤ 80)) = true) (h2 : xs.length ≤ 6) : cfgB zs ys xs a = btw (-10000000000000000) 10000000000000000 xs := by unfold cfgB; rw [h, h1, decide_eq_true h2]; rfl
/-- A valid config beside valid code. -/
def vcfB (cs : List (Int × Int)) (zs ys xs : List Int) (a : Int) : Bool := codeB cs && cfgB zs ys xs a
theorem vcfB_no {cs : List (Int × Int)} {zs ys xs : List Int} {a : Int} (h : codeB cs = false) : vcfB cs zs ys xs a = false := by unfold vcfB; rw [h]; rfl
theorem vcfB_is {cs : List (Int × Int)} {zs ys xs : List Int} {a : Int} (h : codeB cs = true) : vcfB cs zs ys xs a = cfgB zs ys xs a := by unfold vcfB; rw [h]; rfl

set_option maxRecDepth 100000 in
set_option maxHeartbeats 4000000 in
theorem implConfig_c (C : Option Addr) (k cc : Nat) (cs : List (Int × Int)) (A : Option Addr) (n c : Nat) (zs : List Int) (A' : Option Addr) (m c' : Nat) (ys : List Int) (A2 : Option Addr) (q c2 : Nat) (xs : List Int) (a : Int) (w : World)
    (hc : InC w w.heap.size C k cs) (h0 : InL w w.heap.size A n zs) (h1 : InL w w.heap.size A' m ys) (h2 : InL w w.heap.size A2 q xs) (hk : k ≤ 1048576) (hn : n ≤ 1048576) (hm : m ≤ 1048576) (hq : q ≤ 1048576) :
    Calls Try.prog 22 #[.slice C k cc, .agg #[.slice A n c, .slice A' m c', .slice A2 q c2, .int .i64 a]] w fun e w' => e = .returned (.bool (vcfB cs zs ys xs a)) ∧ Below w.heap.size w w' := by
  have hb0 := bnew w (.cells #[.slice A n c, .slice A' m c', .slice A2 q c2, .int .i64 a] 59)
  have hP : BlkIs (w.alloc (.cells #[.slice A n c, .slice A' m c', .slice A2 q c2, .int .i64 a] 59)) w.heap.size 59 #[.slice A n c, .slice A' m c', .slice A2 q c2, .int .i64 a] := blk_new _ _ _ _ rfl
  have HC0 := implCode_c C k cc w.heap.size cs _ (hc.next hb0 (Nat.le_refl _)) hb0.size hk
  have hlen := Lib.hid h2.1
  cases hv : codeB cs with
  | false =>
    have HN := Lib.hid (vcfB_no (zs := zs) (ys := ys) (xs := xs) (a := a) hv)
    rw [hv] at HC0
    have HC := Lib.hid HC0
    clear HC0 hv hc h0 h1 h2
    go_enter Try.func22, Try.ntmps22
    go_wp2_with fail
    generalize w.alloc (.cells #[.slice A n c, .slice A' m c', .slice A2 q c2, .int .i64 a] 59) = W at hb0 hP HC ⊢
    refine HC.out.mono ?_
    rintro e w1 ⟨rfl, hb1⟩
    go_wp2_with fail
    go_ret
    exact ⟨ret_bool HN.out.symm, bon hb0 hb1⟩
  | true =>
    have HN := Lib.hid (vcfB_is (zs := zs) (ys := ys) (xs := xs) (a := a) hv)
    rw [hv] at HC0
    have HC := Lib.hid HC0
    have H0 := Lib.hid (h0.next hb0 (Nat.le_refl _))
    have H1 := Lib.hid (h1.next hb0 (Nat.le_refl _))
    have H2 := Lib.hid (h2.next hb0 (Nat.le_refl _))
    clear HC0 hv hc h0 h1 h2
    go_enter Try.func22, Try.ntmps22
    go_wp2_with fail
    generalize w.alloc (.cells #[.slice A n c, .slice A' m c', .slice A2 q c2, .int .i64 a] 59) = W at hb0 hP HC H0 H1 H2 ⊢
    refine HC.out.mono ?_
    rintro e w1 ⟨rfl, hb1⟩
    have hP1 := hP.next hb1
    have p0 : w1.cell? ⟨w.heap.size, 0, none⟩ = some (.slice A n c) := hP1.cell 0
    have p1 : w1.cell? ⟨w.heap.size, 1, none⟩ = some (.slice A' m c') := hP1.cell 1
    have hs1 := hb1.size
    have hs0 := hb0.size
    have HS0 := implState_c A n c _ zs A' m c' ys w1 (H0.out.next hb1 hb0.size) (H1.out.next hb1 hb0.size) (by omega) hn hm
    cases hvs : stB zs ys with
    | false =>
      have HF := Lib.hid (cfgB_st (xs := xs) (a := a) hvs)
      rw [hvs] at HS0
      have HS := Lib.hid HS0
      clear HS0 hvs
      go_wp2_with fail
      refine HS.out.mono ?_
      rintro e w2 ⟨rfl, hb2⟩
      go_wp2_with fail
      go_ret
      exact ⟨by rw [HN.out, HF.out]; rfl, bon (bon hb0 hb1) hb2⟩
    | true =>
      rw [hvs] at HS0
      have HS := Lib.hid HS0
      have HV := Lib.hid hvs
      clear HS0 hvs
      go_wp2_with fail
      refine HS.out.mono ?_
      rintro e w2 ⟨rfl, hb2⟩
      have hP2 := hP1.next hb2
      have p2 : w2.cell? ⟨w.heap.size, 2, none⟩ = some (.slice A2 q c2) := hP2.cell 2
      have p3 : w2.cell? ⟨w.heap.size, 3, none⟩ = some (.int .i64 a) := hP2.cell 3
      have hb02 := bon (bon hb0 hb1) hb2
      have HI0 := isBetween_i a 0 80 w2
      clear p0 p1
      cases hat : (decide (0 ≤ a) && decide (a ≤ 80)) with
      | false =>
        have HF := Lib.hid (cfgB_at (zs := zs) (ys := ys) (xs := xs) hat)
        rw [hat] at HI0
        have HI := Lib.hid HI0
        clear HI0 hat
        go_wp2_with fail
        refine HI.out.mono ?_
        rintro e w3 ⟨rfl, rfl⟩
        go_wp2_with fail
        go_ret
        exact ⟨by rw [HN.out, HF.out]; rfl, hb02⟩
      | true =>
        rw [hat] at HI0
        have HI := Lib.hid HI0
        have HAT := Lib.hid hat
        clear HI0 hat
        by_cases h6 : q ≤ 6
        · have HF := Lib.hid (cfgB_is (xs := xs) HV.out HAT.out (by have := hlen.out; omega))
          have HB := Lib.hid (areBetween_c A2 q c2 _ (-10000000000000000) 10000000000000000 xs w2 ((H2.out.next hb1 hb0.size).next hb2 (by omega)).2 hlen.out hq)
          generalize btw (-10000000000000000) 10000000000000000 xs = r at HF HB
          go_wp2_with fail
          refine HI.out.mono ?_
          rintro e w3 ⟨rfl, rfl⟩
          go_wp2_with fail
          refine HB.out.mono ?_
          rintro e w4 ⟨rfl, rfl⟩
          cases r <;>
          · go_wp2_with fail
            go_ret
            exact ⟨by rw [HN.out, HF.out]; rfl, hb02⟩
        · have HF := Lib.hid (cfgB_len (zs := zs) (ys := ys) (a := a) (xs := xs) (by have := hlen.out; omega))
          go_wp2_with fail
          refine HI.out.mono ?_
          rintro e w3 ⟨rfl, rfl⟩
          go_wp2_with fail
          go_ret
          exact ⟨by rw [HN.out, HF.out]; rfl, hb02⟩
end Go.Proofs.Ytdmcpabpjhinhaa
