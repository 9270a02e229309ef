/-
  The program's LeastCounter. Conditions: at most 2^20 terms and coefficients.
-/
import Derived.Test.YtapndnkcmmpdjaaLeastG
import Derived.Test.YtapndnkcmmpdjaaConcat
namespace Go.Proofs.Ytapndnkcmmpdjaa
open Go.RowKit
set_option linter.unusedVariables false

theorem isBetween_l (n a c : Int) (w : World) : Calls Try.prog 47 #[.int .i64 n, .int .i64 a, .int .i64 c] w fun e w' => e = .returned (.bool (decide (a ≤ n ∧ n ≤ c))) ∧ w = w' := by
  by_cases h1 : a ≤ n
  · by_cases h2 : n ≤ c
    · rw [decide_eq_true ⟨h1, h2⟩]
      go_enter Try.func47, Try.ntmps47
      go_wp2_with fail
      go_ret
      exact ⟨rfl, rfl⟩
    · rw [decide_eq_false (fun h => h2 h.2)]
      go_enter Try.func47, Try.ntmps47
      go_wp2_with fail
      go_ret
      exact ⟨rfl, rfl⟩
  · rw [decide_eq_false (fun h => h1 h.1)]
    go_enter Try.func47, Try.ntmps47
    go_wp2_with fail
    go_ret
    exact ⟨rfl, rfl⟩
theorem own_cap {w : World} {lo hi n c : Nat} {A : Option Addr} {zs : List Int} (h : OwnL w lo hi A n c zs) : n ≤ c := by
  rcases h.2.1.2 with ⟨h1, h2⟩ | ⟨g, cap, cur, h1, _, _, h4, _⟩
  · omega
  · injection h1 with _ _ h3
    omega

set_option maxRecDepth 100000 in
set_option maxHeartbeats 1000000 in
theorem implLeast_c (c0 r : Int) (A : Option Addr) (n c B : Nat) (ts : List (Int × List Int)) (D : Option Addr) (m d : Nat) (zs : List Int) (w : World) (h : InTS w B A n ts) (hl : InL w B D m zs) (hB : B ≤ w.heap.size)
    (hn : n ≤ 1048576) (he : totT ts ≤ 1048576) (hm : m ≤ 1048576) :
    Calls Try.prog 24 #[.agg #[.slice A n c, .int .i64 c0, .slice D m d], .int .i64 r] w fun e w' => ∃ A' c', e = .returned (.tuple #[.slice A' (lcR ts (c0, zs) r).1.length c', .bool (lcR ts (c0, zs) r).2]) ∧ OwnL w' w.heap.size w'.heap.size A' (lcR ts (c0, zs) r).1.length c' (lcR ts (c0, zs) r).1 ∧ Below w.heap.size w w' := by
  have hmk1 := fun q (hq : q ≤ 20) => run_make_row' (P := Try.prog) 24 2 (.int .i64 0) 8 Try.underlying24 info64 rfl .i64 .i64 q (by omega) (by omega)
  have hmk := hmk1 10 (by omega)
  simp only [show ((10 : Nat) : Int) = 10 from rfl] at hmk
  clear hmk1
  have hb0 := bnew w (.cells #[.slice A n c, .int .i64 c0, .slice D m d] 43)
  have hP : BlkIs (w.alloc (.cells #[.slice A n c, .int .i64 c0, .slice D m d] 43)) w.heap.size 43 #[.slice A n c, .int .i64 c0, .slice D m d] := blk_new _ _ _ _ rfl
  have HI := Lib.hid (h.next hb0 hB)
  have HZ := Lib.hid (hl.next hb0 hB)
  have hlen := Lib.hid h.1
  have hs0 := hb0.size
  have hBW : B ≤ (w.alloc (.cells #[.slice A n c, .int .i64 c0, .slice D m d] 43)).heap.size := by omega
  clear h hl
  cases hv : seqB ts (c0, zs) with
  | false =>
    have HX := Lib.hid (lcR_no0 (r := r) hv)
    have HS := Lib.hid (implSeq_c c0 A n c _ ts D m d zs _ HI.out HZ.out hBW he hm)
    rw [hv] at HS
    rw [HX.out]
    clear hv
    go_enter Try.func24, Try.ntmps24
    go_wp2_with fail
    generalize w.alloc (.cells #[.slice A n c, .int .i64 c0, .slice D m d] 43) = W at hb0 hP HI HZ HS ⊢
    have p0 := hP.cell 0
    have p1 := hP.cell 1
    have p2 := hP.cell 2
    simp at p0 p1 p2
    go_wp2_with fail
    refine HS.out.mono ?_
    rintro e w1 ⟨rfl, hb1⟩
    go_wp2_with fail
    go_ret2
    exact ⟨none, 0, rfl, own_nil _ _, bon hb0 hb1⟩
  | true =>
    have HS := Lib.hid (implSeq_c c0 A n c _ ts D m d zs _ HI.out HZ.out hBW he hm)
    rw [hv] at HS
    have hpv := seqB_parts hv
    have hn13 : n ≤ 13 := by
      have h13 : ts.length ≤ 13 := by unfold seqB at hv; exact (allT_parts (Bool.and_eq_true _ _ ▸ hv).1).2
      have := hlen.out
      omega
    have HALL := Lib.hid (seqB_all hv)
    by_cases hr : 0 ≤ r ∧ r ≤ 4
    · have HX := Lib.hid (lcR_yes hv hr)
      have HBT := Lib.hid (fun W => isBetween_l r 0 4 W)
      rw [decide_eq_true hr] at HBT
      rw [HX.out]
      obtain ⟨O, hO⟩ : ∃ O, Hid (lcO ts (c0, zs) r = O) := ⟨_, rfl⟩
      rw [hO.out]
      obtain ⟨hr0, hr4⟩ := hr
      have HPV := Lib.hid hpv
      clear hv HX hpv
      go_enter Try.func24, Try.ntmps24
      go_wp2_with fail
      generalize w.alloc (.cells #[.slice A n c, .int .i64 c0, .slice D m d] 43) = W at hb0 hP HI HZ HS hs0 hBW ⊢
      refine HS.out.mono ?_
      rintro e w1 ⟨rfl, hb1⟩
      have hs1 := hb1.size
      have hP1 := hP.next hb1
      have p0 : w1.cell? ⟨w.heap.size, 0, none⟩ = some (.slice A n c) := hP1.cell 0
      have p1 : w1.cell? ⟨w.heap.size, 1, none⟩ = some (.int .i64 c0) := hP1.cell 1
      have p2 : w1.cell? ⟨w.heap.size, 2, none⟩ = some (.slice D m d) := hP1.cell 2
      clear HS
      go_wp2_with fail
      refine (HBT.out _).mono ?_
      rintro e w2 ⟨rfl, rfl⟩
      have hbA := bnew w1 (.cells #[.int .i64 c0, .slice D m d] 41)
      have hbB := bnew (w1.alloc (.cells #[.int .i64 c0, .slice D m d] 41)) (.cells #[.slice A n c, .slice (some ⟨w1.heap.size, 0, none⟩) 1 1] 27)
      have hb2 := bon hbA hbB
      have HCO := Lib.hid (concat_c (w1.heap.size + 1) w1.heap.size A n c B ts c0 D m d zs ((w1.alloc (.cells #[.int .i64 c0, .slice D m d] 41)).alloc (.cells #[.slice A n c, .slice (some ⟨w1.heap.size, 0, none⟩) 1 1] 27)) (blk_new _ _ _ _ (by rw [World.size_alloc])) ((blk_new w1 _ _ _ rfl).next hbB) ((HI.out.next hb1 hBW).next hb2 (by omega)) ((HZ.out.next hb1 hBW).next hb2 (by omega)) (by have := hb2.size; omega) (by omega))
      have hsb2 := hb2.size
      have hb12 : Below W.heap.size W ((w1.alloc (.cells #[.int .i64 c0, .slice D m d] 41)).alloc (.cells #[.slice A n c, .slice (some ⟨w1.heap.size, 0, none⟩) 1 1] 27)) := bon hb1 hb2
      clear hbA hbB hb2
      go_wp2_with fail
      clear p0 p1 p2
      refine HCO.out.mono ?_
      rintro e w3 ⟨A3, c3, rfl, hin3, hb3⟩
      have hb13 := bon hb12 hb3
      have hl14 : (ts ++ [(c0, zs)]).length = n + 1 := by simp [hlen.out]
      have HSY := Lib.hid (symbolsOf_c A3 (n + 1) c3 _ (ts ++ [(c0, zs)]) w3 hin3 (Nat.le_refl _) (by have := totT_le10 HALL.out; omega))
      have hall14 : allT 14 (ts ++ [(c0, zs)]) = true := by
        rw [allT_yes (k := (ts ++ [(c0, zs)]).length) (fun u hu => HALL.out u (List.mem_of_mem_take hu)) (Nat.le_refl _)]
        exact decide_eq_true (by omega)
      rw [symsR_yes hall14] at HSY
      simp only [symN_len] at HSY
      rw [symN_is] at HSY
      obtain ⟨L, hL⟩ : ∃ L, Hid (symN (ts ++ [(c0, zs)]) = L) := ⟨_, rfl⟩
      rw [hL.out] at HSY
      clear hin3 hall14 hl14 HCO hb12 hsb2
      go_wp2_with fail
      refine HSY.out.mono ?_
      rintro e w4 ⟨A4, c4, rfl, hown4, hb4⟩
      have hb14 := bon hb13 hb4
      have hs14 := hb14.size
      have hcap := own_cap hown4
      have hbr := bnew w4 (.cells (madeCells #[.int .i64 0] 10) 2)
      have hv0 : (w4.alloc (.cells (madeCells #[.int .i64 0] 10) 2)).ownsRow w4.heap.size 2 1 (.slice (some ⟨w4.heap.size, 0, none⟩) 10 10) 10 ((List.replicate 10 0).map ic) := by
        have := own_zerosN (m := 10) (lo := w4.heap.size) (heap_alloc_new w4 _) (Nat.le_refl _) (by omega)
        simpa [ic] using this
      have hb15 := bon hb14 hbr
      have hP5 := hP.next hb15
      have hz5 : (w4.alloc (.cells (madeCells #[.int .i64 0] 10) 2)).heap.size = w4.heap.size + 1 := by rw [World.size_alloc]
      have HSE := Lib.hid (search_c c0 r zs ts hr0 hr4 HPV.out.1 HPV.out.2 w4.heap.size w4.heap.size 10 w4.heap.size (Nat.le_refl _) L A n c D m d A4 c4 (List.replicate 10 0) _ (((HI.out.next hb15 hBW).more (by omega))) ((HZ.out.next hb15 hBW).more (by omega)) (hown4.all.next hbr (Nat.le_refl _)) hcap hv0 hn valsB_zero (by rw [← hL.out]; exact symN_lt _))
      have p0 : (w4.alloc (.cells (madeCells #[.int .i64 0] 10) 2)).cell? ⟨w.heap.size, 0, none⟩ = some (.slice A n c) := hP5.cell 0
      have p1 : (w4.alloc (.cells (madeCells #[.int .i64 0] 10) 2)).cell? ⟨w.heap.size, 1, none⟩ = some (.int .i64 c0) := hP5.cell 1
      have p2 : (w4.alloc (.cells (madeCells #[.int .i64 0] 10) 2)).cell? ⟨w.heap.size, 2, none⟩ = some (.slice D m d) := hP5.cell 2
      clear hown4 hv0 HSY hbr
      by_cases h4 : L.length ≤ 4
      · have HO4 : Hid (O = leastO (refB ts (c0, zs)) r L) := Lib.hid (hO.out.symm.trans (by rw [lcO_yes (by rw [hL.out]; exact h4), hL.out]))
        obtain ⟨F, hF⟩ : ∃ F, F = leastV (refB ts (c0, zs)) r L (List.replicate 10 0) := ⟨_, rfl⟩
        have HOF : Hid (O = F) := Lib.hid (HO4.out.trans hF.symm)
        rw [← hF] at HSE
        clear hF HO4
        cases F with
        | none =>
          go_wp2_with fail
          refine HSE.out.mono ?_
          rintro e w6 ⟨v6, rfl, hr6, _, _, _, hg6⟩
          go_wp2_with fail
          go_ret2
          rw [HOF.out]
          exact ⟨none, 0, rfl, own_nil _ _, bon hb0 (hb15.trans (only_below hg6 (by omega) (by omega)))⟩
        | some v =>
          go_wp2_with fail
          refine HSE.out.mono ?_
          rintro e w6 ⟨v6, rfl, hr6, _, hv6, HE6, hg6⟩
          have h10 := valsB_10 hv6
          have e6 := HE6.out v rfl
          go_wp2_with fail
          go_ret2
          rw [HOF.out]
          subst e6
          simp only [Option.getD_some, h10, Option.isSome_some]
          exact ⟨_, _, rfl, (OwnL.of_own hr6).less (by omega), bon hb0 (hb15.trans (only_below hg6 (by omega) (by omega)))⟩
      · have HO4 : Hid (O = none) := Lib.hid (hO.out.symm.trans (lcO_no (by rw [hL.out]; exact h4)))
        go_wp2_with fail
        go_ret2
        rw [HO4.out]
        exact ⟨none, 0, rfl, own_nil _ _, bon hb0 hb15⟩
    · have HX := Lib.hid (lcR_no1 (ts := ts) (g := (c0, zs)) hr)
      have HBT := Lib.hid (fun W => isBetween_l r 0 4 W)
      rw [decide_eq_false hr] at HBT
      rw [HX.out]
      clear hv HX hpv hr
      go_enter Try.func24, Try.ntmps24
      go_wp2_with fail
      generalize w.alloc (.cells #[.slice A n c, .int .i64 c0, .slice D m d] 43) = W at hb0 hP HI HZ HS hs0 hBW ⊢
      refine HS.out.mono ?_
      rintro e w1 ⟨rfl, hb1⟩
      go_wp2_with fail
      refine (HBT.out _).mono ?_
      rintro e w2 ⟨rfl, rfl⟩
      go_wp2_with fail
      go_ret2
      exact ⟨none, 0, rfl, own_nil _ _, bon hb0 hb1⟩
end Go.Proofs.Ytapndnkcmmpdjaa
