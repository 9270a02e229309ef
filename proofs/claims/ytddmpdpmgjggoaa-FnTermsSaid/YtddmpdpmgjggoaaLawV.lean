/-
  The law's own number of a term for values. Conditions: a valid term, ten values that are not too great.
-/
import Derived.Test.YtddmpdpmgjggoaaLawT
namespace Go.Proofs.Ytddmpdpmgjggoaa
open Go.RowKit
set_option linter.unusedVariables false

theorem valsB_of {vs : List Int} (hl : vs.length = 10) (h : ∀ z ∈ vs, -6 ≤ z ∧ z ≤ 6) : valsB vs = true := by
  rw [valsB_is hl]
  exact decide_eq_true fun z hz => by have := h z hz; omega

set_option maxRecDepth 100000 in
set_option maxHeartbeats 1000000 in
theorem b10Value_c (B : Nat) (c0 : Int) (D : Option Addr) (m d : Nat) (zs : List Int) (A : Option Addr) (n c : Nat) (vs : List Int) (w : World) (h3 : InL w B D m zs) (h : InL w B A n vs) (hB : B ≤ w.heap.size) (hv : tmB (c0, zs) = true) (hvs : valsB vs = true) :
    Calls Try.prog 21 #[.agg #[.int .i64 c0, .slice D m d], .slice A n c] w fun e w' => e = .returned (.int .i64 (evTo (c0, zs) vs zs.length)) ∧ Below w.heap.size w w' := by
  have hm := Lib.hid h3.1
  have hm10 : m ≤ 10 := by have := (tmB_parts hv).1; have := h3.1; simp at *; omega
  have hn10 := (valsB_parts hvs).1
  have hn : n = 10 := h.1.symm.trans hn10
  subst hn
  have HB := Lib.hid (evTo_bound hv hvs)
  have HA := Lib.hid (fun k => getD_small hv k)
  have HV := Lib.hid (fun k => vals_at hvs k)
  have hl := Lib.hid hn10
  have hb0 := bnew w (.cells #[.int .i64 c0, .slice D m d] 26)
  have p0 : (w.alloc (.cells #[.int .i64 c0, .slice D m d] 26)).cell? ⟨w.heap.size, 0, none⟩ = some (.int .i64 c0) := by simp
  have p1 : (w.alloc (.cells #[.int .i64 c0, .slice D m d] 26)).cell? ⟨w.heap.size, 1, none⟩ = some (.slice D m d) := by simp
  have r3 := h3.next hb0 hB
  have r1 := h.next hb0 hB
  clear hn10 h h3
  go_enter Try.func21, Try.ntmps21
  go_wp2_with fail
  generalize w.alloc (.cells #[.int .i64 c0, .slice D m d] 26) = W at hb0 p0 p1 r3 r1 ⊢
  go_loopw [5, 6] (fun v i wr => ∃ k d0 : Nat, k ≤ m ∧ i = .int .i64 k ∧ v = .int .i64 (evTo (c0, zs) vs k) ∧ wr = W.drewN d0) (fun _ i _ => m - (intOf i).toNat)
  case atStart => exact ⟨0, 0, Nat.zero_le _, rfl, rfl, rfl⟩
  case round =>
    obtain ⟨k, d0, hk, rfl, rfl, rfl⟩ := hrel
    by_cases hlt : k < m
    · obtain ⟨b1, off1, x, rfl, hb1, hx, hc⟩ := r3.2.int_at (k := k) (by have := hm.out; omega)
      obtain ⟨b2, off2, y, rfl, hb2, hy, hd⟩ := r1.2.int_at (k := k) (by have := hl.out; omega)
      have gx : zs.getD k 0 = x := by rw [List.getD_eq_getElem?_getD, hx]; rfl
      have gy : vs.getD k 0 = y := by rw [List.getD_eq_getElem?_getD, hy]; rfl
      have HS : Hid (evTo (c0, zs) vs (k + 1) = evTo (c0, zs) vs k + x * y) := by show _ = _; rw [evTo, gx, gy]
      have bx := HA.out k
      have bv := HV.out k
      rw [gx] at bx
      rw [gy] at bv
      have pp := prod9_le bx.1 bx.2 bv.1 bv.2
      have eb := HB.out k
      have k10 : (k : Int) < 10 := by omega
      have km : (k : Int) < m := by omega
      obtain ⟨pp1, pp2⟩ := pp
      obtain ⟨eb1, eb2⟩ := eb
      clear gx gy hx hy
      generalize evTo (c0, zs) vs k = E at HS eb1 eb2 ⊢
      go_wp2_with fail
      go_quiet (fail)
      go_wp2_with fail
      go_roundw
      case rel => exact ⟨k + 1, _, by omega, by go_num, by rw [HS.out], by first | rfl | exact World.drewN_drewN _ _ _⟩
      case measure => simp [intOf]; omega
    · have e : k = m := by omega
      subst e
      go_wp2_with fail
      go_ret
      exact ⟨by rw [hm.out]; rfl, below_drewN hb0 _⟩
end Go.Proofs.Ytddmpdpmgjggoaa
