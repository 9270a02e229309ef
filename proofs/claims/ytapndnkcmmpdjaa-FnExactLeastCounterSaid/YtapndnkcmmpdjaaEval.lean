/-
  What a term is for values. Conditions: at most 2^20 coefficients and values.
-/
import Derived.Test.YtapndnkcmmpdjaaValid
import Derived.Test.YtapndnkcmmpdjaaSum
import Derived.Test.YtapndnkcmmpdjaaMakeS
import Derived.Test.YtapndnkcmmpdjaaSpecT1
import Derived.BigQuiet
import Derived.Deep.QuietTactic
namespace Go.Proofs.Ytapndnkcmmpdjaa
open Go.RowKit

/-- Ten numbers from -1000000000 to 1000000000. -/
def valsB (vs : List Int) : Bool := decide (vs.length = 10) && btw (-1000000000) 1000000000 vs
theorem valsB_len {vs : List Int} (h : vs.length ≠ 10) : valsB vs = false := by unfold valsB; rw [decide_eq_false h]; rfl
theorem valsB_btw {vs : List Int} (h : btw (-1000000000) 1000000000 vs = false) : valsB vs = false := by unfold valsB; rw [h]; simp
theorem valsB_is {vs : List Int} (h : vs.length = 10) : valsB vs = btw (-1000000000) 1000000000 vs := by unfold valsB; rw [decide_eq_true h]; rfl
theorem valsB_parts {vs : List Int} (h : valsB vs = true) : vs.length = 10 ∧ ∀ z ∈ vs, -1000000000 ≤ z ∧ z ≤ 1000000000 := by
  unfold valsB at h
  simp only [Bool.and_eq_true, decide_eq_true_eq] at h
  exact ⟨h.1, btw_in h.2⟩
theorem vals_at {vs : List Int} (h : valsB vs = true) (k : Nat) : -1000000000 ≤ vs.getD k 0 ∧ vs.getD k 0 ≤ 1000000000 := by
  by_cases h0 : vs.getD k 0 = 0
  · omega
  · exact (valsB_parts h).2 _ (getD_mem h0)
theorem evTo_bound {t : Int × List Int} {vs : List Int} (ht : tmB t = true) (hv : valsB vs = true) : ∀ k : Nat, -(1000000 + (k : Int) * 1000000000000000) ≤ evTo t vs k ∧ evTo t vs k ≤ 1000000 + (k : Int) * 1000000000000000
  | 0 => by have := (tmB_parts ht).2.1; simp only [evTo]; omega
  | k + 1 => by
    have ih := evTo_bound ht hv k
    have a := getD_small ht k
    have b := vals_at hv k
    have p := prod9_le a.1 a.2 b.1 b.2
    simp only [evTo]
    omega

set_option maxRecDepth 100000 in
set_option maxHeartbeats 1000000 in
theorem l02Eval_c (B b o : Nat) (t : Int × List Int) (A : Option Addr) (n c : Nat) (vs : List Int) (w : World) (ht : PtrT w B b o t) (h : InL w B A n vs) (hv : tmB t = true) (hvs : valsB vs = true) :
    Calls Try.prog 81 #[.pointer (some ⟨b, o, none⟩), .slice A n c] w fun e w' => e = .returned (.int .i64 (evTo t vs t.2.length)) ∧ ∃ d, w' = w.drewN d := by
  obtain ⟨D, m, d, h0, h1, h2, h3⟩ := ht
  have hm := Lib.hid h3.1
  have hm10 : m ≤ 10 := by have := (tmB_parts hv).1; have := h3.1; omega
  have hn10 := (valsB_parts hvs).1
  have hn : n = 10 := h.1.symm.trans hn10
  subst hn
  have HB := Lib.hid (evTo_bound hv hvs)
  have HA := Lib.hid (fun k => getD_small hv k)
  have HV := Lib.hid (fun k => vals_at hvs k)
  have hl := Lib.hid hn10
  clear hn10
  go_enter Try.func81, Try.ntmps81
  go_wp2_with fail
  go_loopw [5, 6] (fun v i wr => ∃ k d0 : Nat, k ≤ m ∧ i = .int .i64 k ∧ v = .int .i64 (evTo t vs k) ∧ wr = w.drewN d0) (fun _ i _ => m - (intOf i).toNat)
  case atStart => exact ⟨0, 0, Nat.zero_le _, rfl, rfl, rfl⟩
  case round =>
    obtain ⟨k, d0, hk, rfl, rfl, rfl⟩ := hrel
    by_cases hlt : k < m
    · obtain ⟨b1, off1, x, rfl, hb1, hx, hc⟩ := h3.2.int_at (k := k) (by have := hm.out; omega)
      obtain ⟨b2, off2, y, rfl, hb2, hy, hd⟩ := h.2.int_at (k := k) (by have := hl.out; omega)
      have gx : t.2.getD k 0 = x := by rw [List.getD_eq_getElem?_getD, hx]; rfl
      have gy : vs.getD k 0 = y := by rw [List.getD_eq_getElem?_getD, hy]; rfl
      have HS : Hid (evTo t vs (k + 1) = evTo t vs k + x * y) := by show _ = _; rw [evTo, gx, gy]
      have bx := HA.out k
      have bv := HV.out k
      rw [gx] at bx
      rw [gy] at bv
      have pp := prod9_le bx.1 bx.2 bv.1 bv.2
      have eb := HB.out k
      have k10 : (k : Int) < 10 := by omega
      obtain ⟨pp1, pp2⟩ := pp
      obtain ⟨eb1, eb2⟩ := eb
      clear gx gy hx hy
      generalize evTo t vs k = E at HS eb1 eb2 ⊢
      go_wp2_with fail
      go_quiet (fail)
      go_wp2_with fail
      go_roundw
      case rel => exact ⟨k + 1, _, by omega, by go_num, by rw [HS.out], rfl⟩
      case measure => simp [intOf]; omega
    · have e : k = m := by omega
      subst e
      go_wp2_with fail
      go_ret
      exact ⟨by rw [hm.out]; rfl, _, rfl⟩

set_option maxRecDepth 100000 in
set_option maxHeartbeats 1000000 in
theorem numberOf_c (B : Nat) (c0 : Int) (D : Option Addr) (m d : Nat) (zs : List Int) (A : Option Addr) (n c : Nat) (vs : List Int) (w : World) (h3 : InL w B D m zs) (h : InL w B A n vs) (hB : B ≤ w.heap.size) (hv : tmB (c0, zs) = true) (hvs : valsB vs = true) :
    Calls Try.prog 82 #[.agg #[.int .i64 c0, .slice D m d], .slice A n c] w fun e w' => e = .returned (.int .i64 (evTo (c0, zs) vs zs.length)) ∧ Below w.heap.size w w' := by
  have hm := Lib.hid h3.1
  have hm10 : m ≤ 10 := by have := (tmB_parts hv).1; have := h3.1; simp at *; omega
  have hn10 := (valsB_parts hvs).1
  have hn : n = 10 := h.1.symm.trans hn10
  subst hn
  have HB := Lib.hid (evTo_bound hv hvs)
  have HA := Lib.hid (fun k => getD_small hv k)
  have HV := Lib.hid (fun k => vals_at hvs k)
  have hl := Lib.hid hn10
  have hb0 := bnew w (.cells #[.int .i64 c0, .slice D m d] 41)
  have r3 := h3.next hb0 hB
  have r1 := h.next hb0 hB
  clear hn10 h h3
  go_enter Try.func82, Try.ntmps82
  go_wp2_with fail
  generalize w.alloc (.cells #[.int .i64 c0, .slice D m d] 41) = W at hb0 r3 r1 ⊢
  go_loop [5, 6, 7, 13] (fun v _ _ i => ∃ k : Nat, k ≤ m ∧ i = .int .i64 k ∧ v = .int .i64 (evTo (c0, zs) vs k)) (fun _ _ _ i => m - (intOf i).toNat)
  case atStart => exact ⟨0, Nat.zero_le _, rfl, rfl⟩
  case round =>
    obtain ⟨k, hk, rfl, rfl⟩ := hrel
    by_cases hlt : k < m
    · obtain ⟨b1, off1, x, rfl, hb1, hx, hc⟩ := r3.2.int_at (k := k) (by have := hm.out; omega)
      obtain ⟨b2, off2, y, rfl, hb2, hy, hd⟩ := r1.2.int_at (k := k) (by have := hl.out; omega)
      have gx : zs.getD k 0 = x := by rw [List.getD_eq_getElem?_getD, hx]; rfl
      have gy : vs.getD k 0 = y := by rw [List.getD_eq_getElem?_getD, hy]; rfl
      have HS : Hid (evTo (c0, zs) vs (k + 1) = evTo (c0, zs) vs k + x * y) := by show _ = _; rw [evTo, gx, gy]
      have bx := HA.out k
      have bv := HV.out k
      rw [gx] at bx
      rw [gy] at bv
      have pp := prod9_le bx.1 bx.2 bv.1 bv.2
      have eb := HB.out k
      have k10 : (k : Int) < 10 := by omega
      obtain ⟨pp1, pp2⟩ := pp
      obtain ⟨eb1, eb2⟩ := eb
      clear gx gy hx hy
      generalize evTo (c0, zs) vs k = E at HS eb1 eb2 ⊢
      go_wp2_with fail
      go_round
      case rel => exact ⟨k + 1, by omega, by go_num, by rw [HS.out]⟩
      case measure => simp [intOf]; omega
    · have e : k = m := by omega
      subst e
      go_wp2_with fail
      go_ret
      exact ⟨by rw [hm.out]; rfl, hb0⟩

def evalR (t : Int × List Int) (vs : List Int) : Int × Bool := if tmB t = true ∧ valsB vs = true then (evTo t vs t.2.length, true) else (0, false)
theorem evalR_yes {t : Int × List Int} {vs : List Int} (h : tmB t = true) (g : valsB vs = true) : evalR t vs = (evTo t vs t.2.length, true) := if_pos ⟨h, g⟩
theorem evalR_no {t : Int × List Int} {vs : List Int} (h : tmB t = false) : evalR t vs = (0, false) := if_neg (by rw [h]; simp)
theorem evalR_no2 {t : Int × List Int} {vs : List Int} (h : valsB vs = false) : evalR t vs = (0, false) := if_neg (by rw [h]; simp)

end Go.Proofs.Ytapndnkcmmpdjaa
