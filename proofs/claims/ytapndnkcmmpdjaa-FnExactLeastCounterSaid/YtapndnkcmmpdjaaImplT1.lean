/-
  The program's ScaleTerm and OppositeOf. Conditions: at most 2^20 coefficients.
-/
import Derived.Test.YtapndnkcmmpdjaaSpecT1
import Derived.Test.YtapndnkcmmpdjaaSparse
namespace Go.Proofs.Ytapndnkcmmpdjaa
open Go.RowKit

theorem res_lenO (t : Int × List Int) : (oppR t).1.2.length ≤ 10 := by
  unfold oppR
  split
  · exact mkL_len _ _
  · simp
theorem res_lenS (t : Int × List Int) (k : Int) : (scaleR t k).1.2.length ≤ 10 := by
  unfold scaleR
  split
  · exact mkL_len _ _
  · simp
theorem ten_eq {f g : Int → Int} (h : ∀ i : Nat, f i = g i) : ten f = ten g := by
  unfold ten; exact List.map_congr_left fun i _ => h i
theorem scale_eq {t : Int × List Int} {k : Int} (h : tmB t = true) (k1 : -1000000 ≤ k) (k2 : k ≤ 1000000) : mkL (addT (fun _ => 0) k t (-1)) (ten (addT (fun _ => 0) k t)) = scaleR t k := by
  rw [scaleR_yes h k1 k2, ten_eq (g := lin t k (0, []) 0) (fun i => by rw [lin_nat]; unfold addT; rw [tf_nat]; simp)]
  unfold addT; rw [tf_const]; simp
theorem opp_eq {t : Int × List Int} (h : tmB t = true) : mkL (addT (fun j => if j = -1 then -1 else 0) (-1) t (-1)) (ten (addT (fun j => if j = -1 then -1 else 0) (-1) t)) = oppR t := by
  rw [oppR_yes h, ten_eq (g := lin t (-1) (1, []) (-1)) (fun i => by rw [lin_nat]; show (if ((i : Nat) : Int) = -1 then (-1 : Int) else 0) + -1 * tf t i = _; rw [tf_nat, if_neg (by omega)]; simp)]
  show mkL ((if (-1 : Int) = -1 then (-1 : Int) else 0) + -1 * tf t (-1)) _ = _
  rw [tf_const, if_pos rfl]
  congr 1; omega

set_option maxRecDepth 100000 in
set_option maxHeartbeats 4000000 in
theorem implOpposite_c (c0 : Int) (A : Option Addr) (n cp : Nat) (zs : List Int) (w : World) (h0 : InL w w.heap.size A n zs) (g0 : n ≤ 1048576) :
    Calls Try.prog 39 #[.agg #[.int .i64 c0, .slice A n cp]] w (GivesT (oppR (c0, zs)) w) := by
  have hmm := @run_makeMap Try.prog
  have hb0 : Below w.heap.size w ((w.alloc (.cells #[.int .i64 c0, .slice A n cp] 41)).alloc (.cells #[.int .i64 0, .slice none 0 0] 41)) := bon (bnew _ _) (bnew _ _)
  have b00 : ((w.alloc (.cells #[.int .i64 c0, .slice A n cp] 41)).alloc (.cells #[.int .i64 0, .slice none 0 0] 41)).cell? ⟨w.heap.size, 0, none⟩ = some (.int .i64 c0) := by
    have e : w.heap.size = w.heap.size := rfl
    rw [← e]
    exact cell_next (cell_new w #[.int .i64 c0, .slice A n cp] 41 0 (.int .i64 c0) rfl) (bnew _ _)
  have b01 : ((w.alloc (.cells #[.int .i64 c0, .slice A n cp] 41)).alloc (.cells #[.int .i64 0, .slice none 0 0] 41)).cell? ⟨w.heap.size, 1, none⟩ = some (.slice A n cp) := by
    have e : w.heap.size = w.heap.size := rfl
    rw [← e]
    exact cell_next (cell_new w #[.int .i64 c0, .slice A n cp] 41 1 (.slice A n cp) rfl) (bnew _ _)
  have b0l : w.heap.size < ((w.alloc (.cells #[.int .i64 c0, .slice A n cp] 41)).alloc (.cells #[.int .i64 0, .slice none 0 0] 41)).heap.size := by
    have e : ((w.alloc (.cells #[.int .i64 c0, .slice A n cp] 41)).alloc (.cells #[.int .i64 0, .slice none 0 0] 41)).heap.size = w.heap.size + 2 := by simp
    omega
  have b10 : ((w.alloc (.cells #[.int .i64 c0, .slice A n cp] 41)).alloc (.cells #[.int .i64 0, .slice none 0 0] 41)).cell? ⟨w.heap.size + 1, 0, none⟩ = some (.int .i64 0) := by
    have e : (w.alloc (.cells #[.int .i64 c0, .slice A n cp] 41)).heap.size = w.heap.size + 1 := by simp
    rw [← e]
    exact cell_new (w.alloc (.cells #[.int .i64 c0, .slice A n cp] 41)) #[.int .i64 0, .slice none 0 0] 41 0 (.int .i64 0) rfl
  have b11 : ((w.alloc (.cells #[.int .i64 c0, .slice A n cp] 41)).alloc (.cells #[.int .i64 0, .slice none 0 0] 41)).cell? ⟨w.heap.size + 1, 1, none⟩ = some (.slice none 0 0) := by
    have e : (w.alloc (.cells #[.int .i64 c0, .slice A n cp] 41)).heap.size = w.heap.size + 1 := by simp
    rw [← e]
    exact cell_new (w.alloc (.cells #[.int .i64 c0, .slice A n cp] 41)) #[.int .i64 0, .slice none 0 0] 41 1 (.slice none 0 0) rfl
  have b1l : w.heap.size + 1 < ((w.alloc (.cells #[.int .i64 c0, .slice A n cp] 41)).alloc (.cells #[.int .i64 0, .slice none 0 0] 41)).heap.size := by
    have e : ((w.alloc (.cells #[.int .i64 c0, .slice A n cp] 41)).alloc (.cells #[.int .i64 0, .slice none 0 0] 41)).heap.size = w.heap.size + 2 := by simp
    omega
  have rf : ∀ i, ((w.alloc (.cells #[.int .i64 c0, .slice A n cp] 41)).alloc (.cells #[.int .i64 0, .slice none 0 0] 41)).frozen? ⟨w.heap.size + 1, i, none⟩ = false := fun i => by
    have e : (w.alloc (.cells #[.int .i64 c0, .slice A n cp] 41)).heap.size = w.heap.size + 1 := by simp
    rw [← e]
    exact fro_new _ _ _ _
  have hi0 := Lib.hid h0
  clear h0
  cases hv : tmB (c0, zs) with
  | false =>
    have HV := Lib.hid hv
    clear hv
    go_enter Try.func39, Try.ntmps39
    go_wp2_with fail
    generalize (w.alloc (.cells #[.int .i64 c0, .slice A n cp] 41)).alloc (.cells #[.int .i64 0, .slice none 0 0] 41) = W at hb0 b00 b01 b0l b10 b11 b1l rf ⊢
    have rf0 := rf 0
    have rf1 := rf 1
    have hsW := hb0.size
    have hn0 := hi0.out.next hb0 (Nat.le_refl _)
    refine (implValid_c c0 A n cp _ zs W hn0.2 hsW hn0.1 g0).mono ?_
    rintro e w1 ⟨rfl, hb1⟩
    rw [HV.out]
    replace b00 := cell_next b00 hb1
    replace b01 := cell_next b01 hb1
    replace b10 := cell_next b10 hb1
    replace b11 := cell_next b11 hb1
    replace rf0 := (hb1.frozen (p := ⟨w.heap.size + 1, 0, none⟩) b1l).trans rf0
    replace rf1 := (hb1.frozen (p := ⟨w.heap.size + 1, 1, none⟩) b1l).trans rf1
    have hs1 := hb1.size
    have b0k := Nat.lt_of_lt_of_le b0l hs1
    have b1k := Nat.lt_of_lt_of_le b1l hs1
    have hb01 := hb0.trans (hb1.mono hsW)
    clear rf
    go_wp2_with fail
    refine bodyPost_ret (v := .tuple #[.agg #[.int .i64 0, .slice none 0 0], .bool false]) (by simp [results, Try.results39, go_sem, b10, b11]) rfl ?_
    unfold GivesT
    rw [oppR_no HV.out]
    exact ⟨none, 0, 0, rfl, own_nil _ _, give_no hb01 (by omega)⟩
  | true =>
    have HV := Lib.hid hv
    clear hv
    go_enter Try.func39, Try.ntmps39
    go_wp2_with fail
    generalize (w.alloc (.cells #[.int .i64 c0, .slice A n cp] 41)).alloc (.cells #[.int .i64 0, .slice none 0 0] 41) = W at hb0 b00 b01 b0l b10 b11 b1l rf ⊢
    have rf0 := rf 0
    have rf1 := rf 1
    have hsW := hb0.size
    have hn0 := hi0.out.next hb0 (Nat.le_refl _)
    refine (implValid_c c0 A n cp _ zs W hn0.2 hsW hn0.1 g0).mono ?_
    rintro e w1 ⟨rfl, hb1⟩
    rw [HV.out]
    replace b00 := cell_next b00 hb1
    replace b01 := cell_next b01 hb1
    replace b10 := cell_next b10 hb1
    replace b11 := cell_next b11 hb1
    replace rf0 := (hb1.frozen (p := ⟨w.heap.size + 1, 0, none⟩) b1l).trans rf0
    replace rf1 := (hb1.frozen (p := ⟨w.heap.size + 1, 1, none⟩) b1l).trans rf1
    have hs1 := hb1.size
    have b0k := Nat.lt_of_lt_of_le b0l hs1
    have b1k := Nat.lt_of_lt_of_le b1l hs1
    have hb01 := hb0.trans (hb1.mono hsW)
    clear rf
    have hown0 := World.ownsMap_made (H := Unit) w1 Try.prog 2 (plainElem Try.prog 2)
    obtain ⟨wm, hrun, hownm, hgm⟩ := hown0.update keyed64 Try.underlying96 (by unfold maxLen; omega) (Maps.keyOf_int_mk Try.underlying2 (a := -1) (by decide)) (plainElem_int Try.underlying2 (a := -1) (by decide))
    have hmp0 : MapF wm w1.heap.size 1 (fun j => if j = -1 then -1 else 0) := mapF_put (f := fun _ => 0) (fun k => rfl) (fun k h => by cases h) ⟨_, rfl⟩ (by omega) hownm (by omega)
    have hbm : Below w1.heap.size w1 wm := (bnew w1 (.map #[] 0)).trans (only_below hgm (Nat.le_refl _) (by simp))
    have hsm := hbm.size
    replace b00 := cell_next b00 hbm
    replace b01 := cell_next b01 hbm
    replace b10 := cell_next b10 hbm
    replace b11 := cell_next b11 hbm
    replace rf0 := (hbm.frozen (p := ⟨w.heap.size + 1, 0, none⟩) b1k).trans rf0
    replace rf1 := (hbm.frozen (p := ⟨w.heap.size + 1, 1, none⟩) b1k).trans rf1
    go_wp2_with fail
    refine (addTimes_c w1.heap.size 1 _ c0 A n cp w.heap.size zs (-1) 1 wm hmp0 ((hn0.next hb1 hsW).next hbm (by omega)) (by omega) HV.out (by omega) (by omega) (by omega) (by omega) (by omega) (fun j => by show -1 ≤ (if j = -1 then (-1 : Int) else 0) ∧ (if j = -1 then (-1 : Int) else 0) ≤ 1; split <;> omega)).mono ?_
    rintro e w2 ⟨rfl, hmp, hg⟩
    have hb2 : Below w1.heap.size w1 w2 := hbm.trans (only_below hg (Nat.le_refl _) hsm)
    have hs2 := hb2.size
    have hbm2 : Below w1.heap.size wm w2 := only_below hg (Nat.le_refl _) hsm
    replace b10 := (hbm2.cell (p := ⟨w.heap.size + 1, 0, none⟩) b1k).trans b10
    replace b11 := (hbm2.cell (p := ⟨w.heap.size + 1, 1, none⟩) b1k).trans b11
    replace rf0 := (hbm2.frozen (p := ⟨w.heap.size + 1, 0, none⟩) b1k).trans rf0
    replace rf1 := (hbm2.frozen (p := ⟨w.heap.size + 1, 1, none⟩) b1k).trans rf1
    go_wp2_with fail
    refine (term_c w1.heap.size _ _ w2 hmp).mono ?_
    rintro e w3 ⟨A1, m1, c1, rfl, hown, hb3⟩
    rw [opp_eq HV.out] at hown ⊢
    replace b10 := cell_next b10 hb3
    replace b11 := cell_next b11 hb3
    replace rf0 := (hb3.frozen (p := ⟨w.heap.size + 1, 0, none⟩) (by show w.heap.size + 1 < _; omega)).trans rf0
    replace rf1 := (hb3.frozen (p := ⟨w.heap.size + 1, 1, none⟩) (by show w.heap.size + 1 < _; omega)).trans rf1
    obtain ⟨R, HR⟩ : ∃ R, Hid (oppR (c0, zs) = R) := ⟨_, rfl⟩
    rw [HR.out] at hown ⊢
    go_wp2_with fail
    refine bodyPost_ret (v := .tuple #[.agg #[.int .i64 R.1.1, .slice A1 m1 c1], .bool R.2]) (by simp [results, Try.results39, go_sem, b10, b11]) rfl ?_
    rw [HR.out]
    exact ⟨_, _, _, rfl, give_end (hb01.trans (hb2.mono hb01.size)) (by omega) (by omega) hown hb3⟩
end Go.Proofs.Ytapndnkcmmpdjaa
