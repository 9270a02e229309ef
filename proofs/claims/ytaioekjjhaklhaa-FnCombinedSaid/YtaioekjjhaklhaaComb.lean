/-
  The program's sum of multiples of terms, and of two terms. Conditions: at most 2^20 terms, coefficients and multipliers.
-/
import Derived.Test.YtaioekjjhaklhaaImplT1
import Derived.Test.YtaioekjjhaklhaaTermsC
import Derived.Deep.RegionHeld3
import Derived.StillTailTactics
namespace Go.Proofs.Ytaioekjjhaklhaa
open Go.RowKit

/-- The sum of the first k multiples. -/
def combTo (ts : List (Int × List Int)) (ks : List Int) : Nat → Int → Int
  | 0 => fun _ => 0
  | k + 1 => addT (combTo ts ks k) (ks.getD k 0) (ts.getD k (0, []))
def combOk (ts : List (Int × List Int)) (ks : List Int) : Bool := allT 14 ts && (decide (ks.length = ts.length) && btw 0 1000000 ks)
def combR (ts : List (Int × List Int)) (ks : List Int) : (Int × List Int) × Bool :=
  if combOk ts ks = true then mkL (combTo ts ks ts.length (-1)) (ten (combTo ts ks ts.length)) else ((0, []), false)
theorem combR_yes {ts : List (Int × List Int)} {ks : List Int} (h1 : allT 14 ts = true) (h2 : ks.length = ts.length) (h3 : btw 0 1000000 ks = true) : combR ts ks = mkL (combTo ts ks ts.length (-1)) (ten (combTo ts ks ts.length)) :=
  if_pos (by unfold combOk; rw [h1, h3, decide_eq_true h2]; rfl)
theorem combR_no {ts : List (Int × List Int)} {ks : List Int} (h : combOk ts ks = false) : combR ts ks = ((0, []), false) := if_neg (by rw [h]; simp)
theorem combOk_no1 {ts : List (Int × List Int)} {ks : List Int} (h : allT 14 ts = false) : combOk ts ks = false := by unfold combOk; rw [h]; rfl
theorem combOk_no2 {ts : List (Int × List Int)} {ks : List Int} (h : ¬ ks.length = ts.length) : combOk ts ks = false := by unfold combOk; rw [decide_eq_false h]; simp
theorem combOk_no3 {ts : List (Int × List Int)} {ks : List Int} (h : btw 0 1000000 ks = false) : combOk ts ks = false := by unfold combOk; rw [h]; simp
theorem res_lenC (ts : List (Int × List Int)) (ks : List Int) : (combR ts ks).1.2.length ≤ 10 := by
  unfold combR
  split
  · exact mkL_len _ _
  · simp
theorem tf_small {t : Int × List Int} (h : tmB t = true) (j : Int) : -1000000 ≤ tf t j ∧ tf t j ≤ 1000000 := by
  unfold tf
  by_cases h1 : j = -1
  · rw [if_pos h1]; exact (tmB_parts h).2.1
  · by_cases h2 : j < 0
    · rw [if_neg h1, if_pos h2]; omega
    · rw [if_neg h1, if_neg h2]; exact getD_small h _
theorem comb_bound {ts : List (Int × List Int)} {ks : List Int} (ht : ∀ t ∈ ts, tmB t = true) (hk : btw 0 1000000 ks = true) : ∀ (k : Nat), k ≤ ts.length → k ≤ ks.length → ∀ j, -((k : Int) * 1000000000000) ≤ combTo ts ks k j ∧ combTo ts ks k j ≤ (k : Int) * 1000000000000
  | 0, _, _, j => by simp [combTo]
  | k + 1, h1, h2, j => by
    have ih := comb_bound ht hk k (by omega) (by omega) j
    have e1 : ts.getD k (0, []) = ts[k] := by rw [List.getD_eq_getElem?_getD, List.getElem?_eq_getElem (by omega)]; rfl
    have e2 : ks.getD k 0 = ks[k] := by rw [List.getD_eq_getElem?_getD, List.getElem?_eq_getElem (by omega)]; rfl
    have a := tf_small (ht ts[k] (List.getElem_mem _)) j
    have b := btw_in hk ks[k] (List.getElem_mem _)
    have p := prod_le (a := ks[k]) (b := tf ts[k] j) (by omega) (by omega) a.1 a.2
    simp only [combTo, addT]
    rw [e1, e2]
    omega

set_option maxRecDepth 100000 in
theorem implFacts_c (A : Option Addr) (n c B : Nat) (ts : List (Int × List Int)) (w : World) (h : InTS w B A n ts) (hB : B ≤ w.heap.size) (he : totT ts ≤ 1048576) :
    Calls Try.prog 62 #[.slice A n c] w fun e w' => e = .returned (.bool (allT 14 ts)) ∧ Below w.heap.size w w' := by
  have HA := Lib.hid (areTerms_c A n c B ts 14 w h hB he (by omega))
  clear h
  go_enter Try.func62, Try.ntmps62
  go_wp2_with fail
  refine HA.out.mono ?_
  rintro e w1 ⟨rfl, hb⟩
  go_wp2_with fail
  go_ret
  exact ⟨rfl, hb⟩

set_option maxRecDepth 100000 in
set_option maxHeartbeats 4000000 in
theorem implCombine_c (A : Option Addr) (n cp : Nat) (ts : List (Int × List Int)) (D : Option Addr) (m cq : Nat) (ks : List Int) (w : World) (h : InTS w w.heap.size A n ts) (he : totT ts ≤ 1048576) (hk : InL w w.heap.size D m ks) (hm : m ≤ 1048576) (hn : n ≤ 1048576) :
    Calls Try.prog 23 #[.slice A n cp, .slice D m cq] w (GivesT (combR ts ks) w) := by
  have hmm := @run_makeMap Try.prog
  have hb0 : Below w.heap.size w (w.alloc (.cells #[.int .i64 0, .slice none 0 0] 26)) := bnew _ _
  have b10 : (w.alloc (.cells #[.int .i64 0, .slice none 0 0] 26)).cell? ⟨w.heap.size, 0, none⟩ = some (.int .i64 0) := cell_new w _ _ 0 _ rfl
  have b11 : (w.alloc (.cells #[.int .i64 0, .slice none 0 0] 26)).cell? ⟨w.heap.size, 1, none⟩ = some (.slice none 0 0) := cell_new w _ _ 1 _ rfl
  have b1l : w.heap.size < (w.alloc (.cells #[.int .i64 0, .slice none 0 0] 26)).heap.size := by simp
  have rf : ∀ i, (w.alloc (.cells #[.int .i64 0, .slice none 0 0] 26)).frozen? ⟨w.heap.size, i, none⟩ = false := fun i => fro_new _ _ _ _
  have HI := Lib.hid (h.next hb0 (Nat.le_refl _))
  have HK := Lib.hid (hk.next hb0 (Nat.le_refl _))
  have hlt := Lib.hid h.1
  have hlk := Lib.hid hk.1
  clear h hk
  go_enter Try.func23, Try.ntmps23
  go_wp2_with fail
  generalize w.alloc (.cells #[.int .i64 0, .slice none 0 0] 26) = W at hb0 b10 b11 b1l rf HI HK ⊢
  have rf0 := rf 0
  have rf1 := rf 1
  have hsW := hb0.size
  refine (implFacts_c A n cp _ ts W HI.out hsW he).mono ?_
  rintro e w1 ⟨rfl, hb1⟩
  replace b10 := cell_next b10 hb1
  replace b11 := cell_next b11 hb1
  replace rf0 := (hb1.frozen (p := ⟨w.heap.size, 0, none⟩) b1l).trans rf0
  replace rf1 := (hb1.frozen (p := ⟨w.heap.size, 1, none⟩) b1l).trans rf1
  have hs1 := hb1.size
  have b1k := Nat.lt_of_lt_of_le b1l hs1
  have hb01 := bon hb0 hb1
  have HI1 := Lib.hid (HI.out.next hb1 hsW)
  have HK1 := Lib.hid (HK.out.next hb1 hsW)
  clear rf HI HK hb0 hb1
  cases hv0 : allT 14 ts with
  | false =>
    have HR := Lib.hid (combR_no (combOk_no1 (ks := ks) hv0))
    clear hv0
    go_wp2_with fail
    refine bodyPost_ret (v := .tuple #[.agg #[.int .i64 0, .slice none 0 0], .bool false]) (by simp [results, Try.results23, go_sem, b10, b11]) rfl ?_
    unfold GivesT
    rw [HR.out]
    exact ⟨none, 0, 0, rfl, own_nil _ _, give_no hb01 (by omega)⟩
  | true =>
    have HV0 := Lib.hid hv0
    clear hv0
    by_cases hmn : m = n
    · subst hmn
      go_wp2_with fail
      refine (areBetween_c D m cq _ 0 1000000 ks w1 HK1.out.2 HK1.out.1 hm).mono ?_
      rintro e w2 ⟨rfl, rfl⟩
      cases hv1 : btw 0 1000000 ks with
      | false =>
        have HR := Lib.hid (combR_no (combOk_no3 (ts := ts) hv1))
        clear hv1
        go_wp2_with fail
        refine bodyPost_ret (v := .tuple #[.agg #[.int .i64 0, .slice none 0 0], .bool false]) (by simp [results, Try.results23, go_sem, b10, b11]) rfl ?_
        unfold GivesT
        rw [HR.out]
        exact ⟨none, 0, 0, rfl, own_nil _ _, give_no hb01 (by omega)⟩
      | true =>
        have HR := Lib.hid (combR_yes HV0.out (by rw [hlt.out, hlk.out]) hv1)
        have HT := Lib.hid (allT_parts HV0.out).1
        have h14 : m ≤ 14 := by have := (allT_parts HV0.out).2; have := hlt.out; omega
        have HB := Lib.hid (fun k h1 h2 => comb_bound HT.out hv1 k h1 h2)
        have HKB := Lib.hid (btw_in hv1)
        clear hv1
        go_wp2_with fail
        have hmp0 := mapF_made w1
        have hb2 := bnew w1 (.map #[] 0)
        obtain ⟨W1, hW1⟩ : ∃ x, x = w1.alloc (.map #[] 0) := ⟨_, rfl⟩
        rw [← hW1] at hmp0 hb2 ⊢
        have hl2 : w1.heap.size < W1.heap.size := by rw [hW1]; simp
        clear hW1
        go_loopw [7, 8, 28] (fun _ _ i wr => ∃ k : Nat, k ≤ m ∧ i = .int .i64 k ∧ MapF wr w1.heap.size (11 * k) (combTo ts ks k) ∧ Below w1.heap.size w1 wr) (fun _ _ i _ => m - (intOf i).toNat)
        case atStart => exact ⟨0, Nat.zero_le _, rfl, hmp0, hb2⟩
        case round =>
          clear hmp0 hb2 hl2
          obtain ⟨k, hk, rfl, hmp, hbel⟩ := hrel
          have hsz := hbel.size
          have hml := hmp.lt
          replace b10 := cell_next b10 hbel
          replace b11 := cell_next b11 hbel
          replace rf0 := (hbel.frozen (p := ⟨w.heap.size, 0, none⟩) b1k).trans rf0
          replace rf1 := (hbel.frozen (p := ⟨w.heap.size, 1, none⟩) b1k).trans rf1
          by_cases hlt1 : k < m
          · obtain ⟨b', off, A', n', c', t, rfl, hb', ht, hc0, hc1, hin⟩ := (HI1.out.next hbel (by omega)).at_ hlt1
            obtain ⟨b2, off2, x, rfl, hb2, hx, hd⟩ := (HK1.out.next hbel (by omega)).2.int_at (k := k) (by have := hlk.out; omega)
            have e1 : ts.getD k (0, []) = t := by rw [List.getD_eq_getElem?_getD, ht]; rfl
            have e2 : ks.getD k 0 = x := by rw [List.getD_eq_getElem?_getD, hx]; rfl
            have HS : Hid (combTo ts ks (k + 1) = addT (combTo ts ks k) x t) := by show _ = _; rw [combTo, e1, e2]
            have hxb := HKB.out x (List.mem_of_getElem? hx)
            obtain ⟨hx1, hx2⟩ := hxb
            have hvt : tmB (t.1, t.2) = true := HT.out t (List.mem_of_getElem? ht)
            have hbo := bnew wr (.cells #[.int .i64 t.1, .slice A' n' c'] 26)
            have o0 : (wr.alloc (.cells #[.int .i64 t.1, .slice A' n' c'] 26)).cell? ⟨wr.heap.size, 0, none⟩ = some (.int .i64 t.1) := cell_new wr _ _ 0 _ rfl
            have o1 : (wr.alloc (.cells #[.int .i64 t.1, .slice A' n' c'] 26)).cell? ⟨wr.heap.size, 1, none⟩ = some (.slice A' n' c') := cell_new wr _ _ 1 _ rfl
            have hd2 := cell_next hd hbo
            have hin2 := hin.next hbo (by omega)
            have hmp2 := hmp.next hbo hml
            have HADD := Lib.hid (addTimes_c w1.heap.size (11 * k) (combTo ts ks k) t.1 A' n' c' w.heap.size t.2 x ((k : Int) * 1000000000000) (wr.alloc (.cells #[.int .i64 t.1, .slice A' n' c'] 26)).drew hmp2.drew hin2.drew (Nat.le_trans (by omega) hbo.size) hvt (by omega) (by omega) (by omega) (by omega) (by omega) (HB.out k (by have := hlt.out; omega) (by have := hlk.out; omega)))
            clear hin ht hx hmp e1 e2 hin2 hmp2
            go_wp2_with fail
            generalize wr.alloc (.cells #[.int .i64 t.1, .slice A' n' c'] 26) = W2 at hbo o0 o1 hd2 HADD ⊢
            go_still_tail 6, (by kernel_rfl)
            change wpList _ _ _ _ _ W2.drew
            go_wp2_with fail
            refine HADD.out.mono ?_
            rintro e w3 ⟨rfl, hmp3, hg3⟩
            have hb3 : Below w1.heap.size w1 w3 := (bon hbel hbo).drew.trans (only_below hg3 (Nat.le_refl _) (Nat.le_trans hsz hbo.size))
            have hmp4 := hmp3.mono (n' := 11 * (k + 1)) (by omega)
            go_wp2_with fail
            go_roundw
            case rel => exact ⟨k + 1, by omega, by go_num, by rw [HS.out]; exact hmp4, hb3⟩
            case measure => simp [intOf]; omega
          · have e : k = m := by omega
            subst e
            have ek : ts.length = k := hlt.out
            rw [ek] at HR
            have hb7 := bon hb01 hbel
            go_wp2_with fail
            refine (term_c w1.heap.size _ _ wr hmp).mono ?_
            rintro e w3 ⟨A1, m1, c1, rfl, hown, hb3⟩
            rw [← HR.out] at hown ⊢
            replace b10 := cell_next b10 hb3
            replace b11 := cell_next b11 hb3
            replace rf0 := (hb3.frozen (p := ⟨w.heap.size, 0, none⟩) (by show w.heap.size < _; omega)).trans rf0
            replace rf1 := (hb3.frozen (p := ⟨w.heap.size, 1, none⟩) (by show w.heap.size < _; omega)).trans rf1
            clear HR
            obtain ⟨R, HR⟩ : ∃ R, Hid (combR ts ks = R) := ⟨_, rfl⟩
            rw [HR.out] at hown ⊢
            go_wp2_with fail
            refine bodyPost_ret (v := .tuple #[.agg #[.int .i64 R.1.1, .slice A1 m1 c1], .bool R.2]) (by simp [results, Try.results23, go_sem, b10, b11]) rfl ?_
            rw [HR.out]
            exact ⟨_, _, _, rfl, give_end hb7 (by omega) (by omega) hown hb3⟩
    · have q1 : ((m : Int) == (n : Int)) = false := by simp; omega
      have q2 : ((m : Int) != (n : Int)) = true := by simp; omega
      have HR := Lib.hid (combR_no (combOk_no2 (ts := ts) (ks := ks) (by rw [hlt.out, hlk.out]; exact hmn)))
      go_wp2_with fail
      refine bodyPost_ret (v := .tuple #[.agg #[.int .i64 0, .slice none 0 0], .bool false]) (by simp [results, Try.results23, go_sem, b10, b11]) rfl ?_
      unfold GivesT
      rw [HR.out]
      exact ⟨none, 0, 0, rfl, own_nil _ _, give_no hb01 (by omega)⟩
end Go.Proofs.Ytaioekjjhaklhaa
