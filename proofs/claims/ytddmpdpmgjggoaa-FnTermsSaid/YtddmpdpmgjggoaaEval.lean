/-
  What a term is for values. Conditions: at most 2^20 coefficients and values.
-/
import Derived.Test.YtddmpdpmgjggoaaValid
import Derived.Test.YtddmpdpmgjggoaaSum
import Derived.Test.YtddmpdpmgjggoaaMakeS
import Derived.Test.YtddmpdpmgjggoaaSpecT1
import Derived.BigQuiet
import Derived.Deep.QuietTactic
namespace Go.Proofs.Ytddmpdpmgjggoaa
open Go.RowKit

/-- Ten numbers from -1000000000 to 1000000000. -/
def valsB (vs : List Int) : Bool := decide (vs.length = 10) && btw (-1000000000) 1000000000 vs
theorem valsB_len {vs : List Int} (h : vs.length ≠ 10) : valsB vs = false := by unfold valsB; rw [decide_eq_false h]; rfl
theorem valsB_btw {vs : List Int} (h : btw (-1000000000) 1000000000 vs = false) : valsB vs = false := by unfold valsB; rw [h]; simp
theorem valsB_is {vs : List Int} (h : vs.length = 10) : valsB vs = btw (-1000000000) 1000000000 vs := by unfold valsB; rw [decide_eq_true h]; rfl
theorem valsB_parts {vs : List Int} (h : valsB vs = true) : vs.length = 10 ∧ ∀ z ∈ vs, -1000000000 ≤ z ∧ z ≤ 1000000000 := by
  unfold valsB at h
  simp only [Bool.and_eq_true, decide_eq_true_eq] at h
  exact ⟨h.1, btw_in h.2⟩
theorem vals_at {vs : List Int} (h : valsB vs = true) (k : Nat) : -1000000000 ≤ vs.getD k 0 ∧ vs.getD k 0 ≤ 1000000000 := by
  by_cases h0 : vs.getD k 0 = 0
  · omega
  · exact (valsB_parts h).2 _ (getD_mem h0)
theorem evTo_bound {t : Int × List Int} {vs : List Int} (ht : tmB t = true) (hv : valsB vs = true) : ∀ k : Nat, -(1000000 + (k : Int) * 1000000000000000) ≤ evTo t vs k ∧ evTo t vs k ≤ 1000000 + (k : Int) * 1000000000000000
  | 0 => by have := (tmB_parts ht).2.1; simp only [evTo]; omega
  | k + 1 => by
    have ih := evTo_bound ht hv k
    have a := getD_small ht k
    have b := vals_at hv k
    have p := prod9_le a.1 a.2 b.1 b.2
    simp only [evTo]
    omega

set_option maxRecDepth 100000 in
set_option maxHeartbeats 1000000 in
theorem areValues_c (A : Option Addr) (n c B : Nat) (vs : List Int) (w : World) (h : InL w B A n vs) (hn : n ≤ 1048576) :
    Calls Try.prog 52 #[.slice A n c] w fun e w' => e = .returned (.bool (valsB vs)) ∧ w = w' := by
  by_cases h10 : n = 10
  · have HT : Hid (valsB vs = btw (-1000000000) 1000000000 vs) := valsB_is (h.1.trans h10)
    have q1 : ((n : Int) == 10) = true := by simp; omega
    have HA := Lib.hid (areBetween_c A n c B (-1000000000) 1000000000 vs w h.2 h.1 hn)
    have hE := Lib.hid h10
    clear h h10
    go_enter Try.func52, Try.ntmps52
    go_wp2_with fail
    refine HA.out.mono ?_
    rintro e w1 ⟨rfl, rfl⟩
    go_wp2_with fail
    go_ret
    exact ⟨ret_bool HT.out.symm, rfl⟩
  · have HT : Hid (valsB vs = false) := valsB_len (fun e => h10 (h.1.symm.trans e))
    have q1 : ((n : Int) == 10) = false := by simp; omega
    clear h
    go_enter Try.func52, Try.ntmps52
    go_wp2_with fail
    go_ret
    exact ⟨ret_bool HT.out.symm, rfl⟩

set_option maxRecDepth 100000 in
set_option maxHeartbeats 1000000 in
theorem numberOf_c (B : Nat) (c0 : Int) (D : Option Addr) (m d : Nat) (zs : List Int) (A : Option Addr) (n c : Nat) (vs : List Int) (w : World) (h3 : InL w B D m zs) (h : InL w B A n vs) (hB : B ≤ w.heap.size) (hv : tmB (c0, zs) = true) (hvs : valsB vs = true) :
    Calls Try.prog 53 #[.agg #[.int .i64 c0, .slice D m d], .slice A n c] w fun e w' => e = .returned (.int .i64 (evTo (c0, zs) vs zs.length)) ∧ Below w.heap.size w w' := by
  have hm := Lib.hid h3.1
  have hm10 : m ≤ 10 := by have := (tmB_parts hv).1; have := h3.1; simp at *; omega
  have hn10 := (valsB_parts hvs).1
  have hn : n = 10 := h.1.symm.trans hn10
  subst hn
  have HB := Lib.hid (evTo_bound hv hvs)
  have HA := Lib.hid (fun k => getD_small hv k)
  have HV := Lib.hid (fun k => vals_at hvs k)
  have hl := Lib.hid hn10
  have hb0 := bnew w (.cells #[.int .i64 c0, .slice D m d] 26)
  have r3 := h3.next hb0 hB
  have r1 := h.next hb0 hB
  clear hn10 h h3
  go_enter Try.func53, Try.ntmps53
  go_wp2_with fail
  generalize w.alloc (.cells #[.int .i64 c0, .slice D m d] 26) = W at hb0 r3 r1 ⊢
  go_loop [5, 6, 7, 13] (fun v _ _ i => ∃ k : Nat, k ≤ m ∧ i = .int .i64 k ∧ v = .int .i64 (evTo (c0, zs) vs k)) (fun _ _ _ i => m - (intOf i).toNat)
  case atStart => exact ⟨0, Nat.zero_le _, rfl, rfl⟩
  case round =>
    obtain ⟨k, hk, rfl, rfl⟩ := hrel
    by_cases hlt : k < m
    · obtain ⟨b1, off1, x, rfl, hb1, hx, hc⟩ := r3.2.int_at (k := k) (by have := hm.out; omega)
      obtain ⟨b2, off2, y, rfl, hb2, hy, hd⟩ := r1.2.int_at (k := k) (by have := hl.out; omega)
      have gx : zs.getD k 0 = x := by rw [List.getD_eq_getElem?_getD, hx]; rfl
      have gy : vs.getD k 0 = y := by rw [List.getD_eq_getElem?_getD, hy]; rfl
      have HS : Hid (evTo (c0, zs) vs (k + 1) = evTo (c0, zs) vs k + x * y) := by show _ = _; rw [evTo, gx, gy]
      have bx := HA.out k
      have bv := HV.out k
      rw [gx] at bx
      rw [gy] at bv
      have pp := prod9_le bx.1 bx.2 bv.1 bv.2
      have eb := HB.out k
      have k10 : (k : Int) < 10 := by omega
      obtain ⟨pp1, pp2⟩ := pp
      obtain ⟨eb1, eb2⟩ := eb
      clear gx gy hx hy
      generalize evTo (c0, zs) vs k = E at HS eb1 eb2 ⊢
      go_wp2_with fail
      go_round
      case rel => exact ⟨k + 1, by omega, by go_num, by rw [HS.out]⟩
      case measure => simp [intOf]; omega
    · have e : k = m := by omega
      subst e
      go_wp2_with fail
      go_ret
      exact ⟨by rw [hm.out]; rfl, hb0⟩

def evalR (t : Int × List Int) (vs : List Int) : Int × Bool := if tmB t = true ∧ valsB vs = true then (evTo t vs t.2.length, true) else (0, false)
theorem evalR_yes {t : Int × List Int} {vs : List Int} (h : tmB t = true) (g : valsB vs = true) : evalR t vs = (evTo t vs t.2.length, true) := if_pos ⟨h, g⟩
theorem evalR_no {t : Int × List Int} {vs : List Int} (h : tmB t = false) : evalR t vs = (0, false) := if_neg (by rw [h]; simp)
theorem evalR_no2 {t : Int × List Int} {vs : List Int} (h : valsB vs = false) : evalR t vs = (0, false) := if_neg (by rw [h]; simp)

set_option maxRecDepth 100000 in
set_option maxHeartbeats 2000000 in
theorem implEval_c (c0 : Int) (A : Option Addr) (n cp : Nat) (zs : List Int) (A1 : Option Addr) (n1 cp1 : Nat) (vs : List Int) (w : World) (h0 : InL w w.heap.size A n zs) (g0 : n ≤ 1048576) (h1 : InL w w.heap.size A1 n1 vs) (g1 : n1 ≤ 1048576) :
    Calls Try.prog 18 #[.agg #[.int .i64 c0, .slice A n cp], .slice A1 n1 cp1] w fun e w' => e = .returned (.tuple #[.int .i64 (evalR (c0, zs) vs).1, .bool (evalR (c0, zs) vs).2]) ∧ Below w.heap.size w w' := by
  have hb0 : Below w.heap.size w (w.alloc (.cells #[.int .i64 c0, .slice A n cp] 26)) := bnew _ _
  have b00 : (w.alloc (.cells #[.int .i64 c0, .slice A n cp] 26)).cell? ⟨w.heap.size, 0, none⟩ = some (.int .i64 c0) := cell_new w _ _ 0 _ rfl
  have b01 : (w.alloc (.cells #[.int .i64 c0, .slice A n cp] 26)).cell? ⟨w.heap.size, 1, none⟩ = some (.slice A n cp) := cell_new w _ _ 1 _ rfl
  have b0l : w.heap.size < (w.alloc (.cells #[.int .i64 c0, .slice A n cp] 26)).heap.size := by simp
  have hi0 := Lib.hid (h0.next hb0 (Nat.le_refl _))
  have hi1 := Lib.hid (h1.next hb0 (Nat.le_refl _))
  clear h0 h1
  obtain ⟨R, HR⟩ : ∃ R, Hid (evalR (c0, zs) vs = R) := ⟨_, rfl⟩
  rw [HR.out]
  go_enter Try.func18, Try.ntmps18
  go_wp2_with fail
  generalize w.alloc (.cells #[.int .i64 c0, .slice A n cp] 26) = W at hb0 b00 b01 b0l hi0 hi1 ⊢
  have hsW := hb0.size
  refine (implValid_c c0 A n cp _ zs W hi0.out.2 hsW hi0.out.1 g0).mono ?_
  rintro e w1 ⟨rfl, hb1⟩
  replace b00 := cell_next b00 hb1
  replace b01 := cell_next b01 hb1
  have hj0 := Lib.hid (hi0.out.next hb1 hsW)
  have hj1 := Lib.hid (hi1.out.next hb1 hsW)
  have hs1 := hb1.size
  have b0k := Nat.lt_of_lt_of_le b0l hs1
  have hb01 := hb0.trans (hb1.mono hsW)
  clear hi0 hi1 hb0 hb1
  cases hv0 : tmB (c0, zs) with
  | false =>
    have HV0 := Lib.hid hv0
    have HE : Hid (R = (0, false)) := HR.out.symm.trans (evalR_no hv0)
    clear hv0 HR
    obtain rfl := HE.out
    clear HE
    go_wp2_with fail
    refine bodyPost_ret (v := .tuple #[.int .i64 0, .bool false]) (by simp [results, Try.results18, go_sem]) rfl ?_
    exact ⟨rfl, hb01⟩
  | true =>
    have HV0 := Lib.hid hv0
    clear hv0
    go_wp2_with fail
    refine (areValues_c A1 n1 cp1 _ vs w1 hj1.out g1).mono ?_
    rintro e w2 ⟨rfl, rfl⟩
    cases hv1 : valsB vs with
    | false =>
      have HE : Hid (R = (0, false)) := HR.out.symm.trans (evalR_no2 hv1)
      clear hv1 HR
      obtain rfl := HE.out
      clear HE
      go_wp2_with fail
      refine bodyPost_ret (v := .tuple #[.int .i64 0, .bool false]) (by simp [results, Try.results18, go_sem]) rfl ?_
      exact ⟨rfl, hb01⟩
    | true =>
      have HV1 := Lib.hid hv1
      have HE : Hid (R = (evTo (c0, zs) vs zs.length, true)) := HR.out.symm.trans (evalR_yes HV0.out hv1)
      clear hv1 HR
      obtain rfl := HE.out
      clear HE
      have HC := Lib.hid (numberOf_c _ c0 A n cp zs A1 n1 cp1 vs w1 hj0.out hj1.out (by omega) HV0.out HV1.out)
      go_wp2_with fail
      refine HC.out.mono ?_
      rintro e w2 ⟨rfl, hb2⟩
      go_wp2_with fail
      refine bodyPost_ret (v := .tuple #[.int .i64 (evTo (c0, zs) vs zs.length), .bool true]) (by simp [results, Try.results18, go_sem]) rfl ?_
      exact ⟨rfl, hb01.trans (hb2.mono (by omega))⟩
end Go.Proofs.Ytddmpdpmgjggoaa
