/-
  The program's CombineTerms. Conditions: at most 2^20 terms, coefficients and multipliers.
-/
import Derived.Test.YtejgpooghengmaaSumOf
import Derived.Deep.RegionHeld3
import Derived.StillTailTactics
namespace Go.Proofs.Ytejgpooghengmaa
open Go.RowKit

set_option maxRecDepth 100000 in
set_option maxHeartbeats 4000000 in
theorem implCombine_c (A : Option Addr) (n cp : Nat) (ts : List (Int × List Int)) (D : Option Addr) (m cq : Nat) (ks : List Int) (w : World) (h : InTS w w.heap.size A n ts) (he : totT ts ≤ 1048576) (hk : InL w w.heap.size D m ks) (hm : m ≤ 1048576) (hn : n ≤ 1048576) :
    Calls Try.prog 16 #[.slice A n cp, .slice D m cq] w (GivesT (combR ts ks) w) := by
  have hmm := @run_makeMap Try.prog
  have hb0 : Below w.heap.size w (w.alloc (.cells #[.int .i64 0, .slice none 0 0] 37)) := bnew _ _
  have b10 : (w.alloc (.cells #[.int .i64 0, .slice none 0 0] 37)).cell? ⟨w.heap.size, 0, none⟩ = some (.int .i64 0) := cell_new w _ _ 0 _ rfl
  have b11 : (w.alloc (.cells #[.int .i64 0, .slice none 0 0] 37)).cell? ⟨w.heap.size, 1, none⟩ = some (.slice none 0 0) := cell_new w _ _ 1 _ rfl
  have b1l : w.heap.size < (w.alloc (.cells #[.int .i64 0, .slice none 0 0] 37)).heap.size := by simp
  have rf : ∀ i, (w.alloc (.cells #[.int .i64 0, .slice none 0 0] 37)).frozen? ⟨w.heap.size, i, none⟩ = false := fun i => fro_new _ _ _ _
  have HI := Lib.hid (h.next hb0 (Nat.le_refl _))
  have HK := Lib.hid (hk.next hb0 (Nat.le_refl _))
  have hlt := Lib.hid h.1
  have hlk := Lib.hid hk.1
  clear h hk
  go_enter Try.func16, Try.ntmps16
  go_wp2_with fail
  generalize w.alloc (.cells #[.int .i64 0, .slice none 0 0] 37) = W at hb0 b10 b11 b1l rf HI HK ⊢
  have rf0 := rf 0
  have rf1 := rf 1
  have hsW := hb0.size
  refine (implFacts_c A n cp _ ts W HI.out hsW he).mono ?_
  rintro e w1 ⟨rfl, hb1⟩
  replace b10 := cell_next b10 hb1
  replace b11 := cell_next b11 hb1
  replace rf0 := (hb1.frozen (p := ⟨w.heap.size, 0, none⟩) b1l).trans rf0
  replace rf1 := (hb1.frozen (p := ⟨w.heap.size, 1, none⟩) b1l).trans rf1
  have hs1 := hb1.size
  have b1k := Nat.lt_of_lt_of_le b1l hs1
  have hb01 := bon hb0 hb1
  have HI1 := Lib.hid (HI.out.next hb1 hsW)
  have HK1 := Lib.hid (HK.out.next hb1 hsW)
  clear rf HI HK hb0 hb1
  cases hv0 : allT 14 ts with
  | false =>
    have HR := Lib.hid (combR_no (combOk_no1 (ks := ks) hv0))
    clear hv0
    go_wp2_with fail
    refine bodyPost_ret (v := .tuple #[.agg #[.int .i64 0, .slice none 0 0], .bool false]) (by simp [results, Try.results16, go_sem, b10, b11]) rfl ?_
    unfold GivesT
    rw [HR.out]
    exact ⟨none, 0, 0, rfl, own_nil _ _, give_no hb01 (by omega)⟩
  | true =>
    have HV0 := Lib.hid hv0
    clear hv0
    by_cases hmn : m = n
    · subst hmn
      go_wp2_with fail
      refine (areBetween_c D m cq _ 0 1000000 ks w1 HK1.out.2 HK1.out.1 hm).mono ?_
      rintro e w2 ⟨rfl, rfl⟩
      cases hv1 : btw 0 1000000 ks with
      | false =>
        have HR := Lib.hid (combR_no (combOk_no3 (ts := ts) hv1))
        clear hv1
        go_wp2_with fail
        refine bodyPost_ret (v := .tuple #[.agg #[.int .i64 0, .slice none 0 0], .bool false]) (by simp [results, Try.results16, go_sem, b10, b11]) rfl ?_
        unfold GivesT
        rw [HR.out]
        exact ⟨none, 0, 0, rfl, own_nil _ _, give_no hb01 (by omega)⟩
      | true =>
        have HR := Lib.hid (combR_yes HV0.out (by rw [hlt.out, hlk.out]) hv1)
        have HT := Lib.hid (allT_parts HV0.out).1
        have h14 : m ≤ 14 := by have := (allT_parts HV0.out).2; have := hlt.out; omega
        have ek : ts.length = m := hlt.out
        rw [ek] at HR
        have HSU := Lib.hid (sumOf_c A m cp _ ts D cq ks w1 HI1.out HK1.out (by omega) HT.out (by omega) hv1)
        clear hv1
        go_wp2_with fail
        refine HSU.out.mono ?_
        rintro e wr ⟨rfl, hmp, hbel⟩
        replace b10 := cell_next b10 hbel
        replace b11 := cell_next b11 hbel
        replace rf0 := (hbel.frozen (p := ⟨w.heap.size, 0, none⟩) b1k).trans rf0
        replace rf1 := (hbel.frozen (p := ⟨w.heap.size, 1, none⟩) b1k).trans rf1
        have hsz := hbel.size
        have hb7 := bon hb01 hbel
        go_wp2_with fail
        refine (term_c w1.heap.size _ _ wr hmp).mono ?_
        rintro e w3 ⟨A1, m1, c1, rfl, hown, hb3⟩
        rw [← HR.out] at hown ⊢
        replace b10 := cell_next b10 hb3
        replace b11 := cell_next b11 hb3
        replace rf0 := (hb3.frozen (p := ⟨w.heap.size, 0, none⟩) (by show w.heap.size < _; omega)).trans rf0
        replace rf1 := (hb3.frozen (p := ⟨w.heap.size, 1, none⟩) (by show w.heap.size < _; omega)).trans rf1
        clear HR
        obtain ⟨R, HR⟩ : ∃ R, Hid (combR ts ks = R) := ⟨_, rfl⟩
        rw [HR.out] at hown ⊢
        go_wp2_with fail
        refine bodyPost_ret (v := .tuple #[.agg #[.int .i64 R.1.1, .slice A1 m1 c1], .bool R.2]) (by simp [results, Try.results16, go_sem, b10, b11]) rfl ?_
        rw [HR.out]
        exact ⟨_, _, _, rfl, give_end hb7 (by omega) (by omega) hown hb3⟩
    · have q1 : ((m : Int) == (n : Int)) = false := by simp; omega
      have q2 : ((m : Int) != (n : Int)) = true := by simp; omega
      have HR := Lib.hid (combR_no (combOk_no2 (ts := ts) (ks := ks) (by rw [hlt.out, hlk.out]; exact hmn)))
      go_wp2_with fail
      refine bodyPost_ret (v := .tuple #[.agg #[.int .i64 0, .slice none 0 0], .bool false]) (by simp [results, Try.results16, go_sem, b10, b11]) rfl ?_
      unfold GivesT
      rw [HR.out]
      exact ⟨none, 0, 0, rfl, own_nil _ _, give_no hb01 (by omega)⟩
end Go.Proofs.Ytejgpooghengmaa
