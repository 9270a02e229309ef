/-
  The model's common divisor of the coefficients of a term. Conditions: at most 2^20 coefficients.
-/
import Derived.Test.YtaioekjjhaklhaaLawG
import Derived.BigQuiet
import Derived.Deep.QuietTactic
namespace Go.Proofs.Ytaioekjjhaklhaa
open Go.RowKit
set_option linter.unusedVariables false

theorem gcdL_small {zs : List Int} (h : ∀ z ∈ zs, -1000000 ≤ z ∧ z ≤ 1000000) : gcdL zs ≤ 1000000 := by
  rcases Nat.eq_zero_or_pos (gcdL zs) with h0 | h0
  · omega
  · have ha := gcdL_pos.1 h0
    simp only [anyB, List.any_eq_true] at ha
    obtain ⟨z, hz, hne⟩ := ha
    have hd := gcdL_dvd hz
    have hz0 : z ≠ 0 := by simpa using hne
    have := Nat.le_of_dvd (by omega) hd
    have := h z hz
    omega
theorem mk_same {c : Int} {zs : List Int} (h : tmB (c, zs) = true) : mkL c zs = ((c, zs), true) := by
  have hl := (tmB_parts h).2.2.2
  have e : zs.length = trimN zs := by
    refine Trim.is ⟨Nat.le_refl _, fun k h1 h2 => by omega, ?_⟩
    rcases Nat.eq_zero_or_pos zs.length with h0 | h0
    · exact .inl h0
    · refine .inr ?_
      obtain ⟨x, hx⟩ : ∃ x, zs[zs.length - 1]? = some x := ⟨_, List.getElem?_eq_getElem (by omega)⟩
      exact ⟨x, hx, fun e => hl (by show zs[zs.length - 1]? = some 0; rw [hx, e])⟩
  have e2 : zs.take (trimN zs) = zs := by rw [← e]; exact List.take_length
  rw [mkL_yes (by rw [e2]; exact h), e2]

set_option maxRecDepth 100000 in
set_option maxHeartbeats 2000000 in
theorem l02Divisor_c (B b o : Nat) (t : Int × List Int) (w : World) (ht : PtrT w B b o t) (hv : tmB t = true) :
    Calls Try.prog 86 #[.pointer (some ⟨b, o, none⟩)] w fun e w' => e = .returned (.int .i64 ((gcdL t.2 : Nat) : Int)) ∧ ∃ d, w' = w.drewN d := by
  obtain ⟨A, n, c, hlb, h0, h1, h3⟩ := ht
  have hm := Lib.hid h3.1
  have hm10 : n ≤ 10 := by have := (tmB_parts hv).1; have := h3.1; omega
  have HA := Lib.hid (tmB_parts hv).2.2.1
  clear hv
  go_enter Try.func86, Try.ntmps86
  go_wp2_with fail
  go_loopw [3, 4, 5, 6] (fun g i _ _ wr => ∃ k d0 p : Nat, k ≤ n ∧ i = .int .i64 k ∧ g = .int .i64 (p : Int) ∧ Hid (gcdL (t.2.take k) = p) ∧ p ≤ 1000000 ∧ wr = w.drewN d0) (fun _ i _ _ _ => n - (intOf i).toNat)
  case atStart => exact ⟨0, 0, 0, Nat.zero_le _, rfl, rfl, rfl, by omega, rfl⟩
  case round =>
    obtain ⟨k, d0, p, hk, rfl, rfl, hg, hp, rfl⟩ := hrel
    by_cases hlt : k < n
    · obtain ⟨b1, off1, x, rfl, hb1, hx, hc⟩ := h3.2.int_at (k := k) (by have := hm.out; omega)
      have hxb := HA.out x (List.mem_of_getElem? hx)
      obtain ⟨hx1, hx2⟩ := hxb
      obtain ⟨xn, hxn⟩ : ∃ xn : Nat, x.natAbs = xn := ⟨_, rfl⟩
      have HXN := Lib.hid hxn
      have HG : Hid (Nat.gcd p xn = gcdL (t.2.take (k + 1))) := by show _ = _; rw [gcdL_succ hx, hg.out, hxn]
      have hxn2 : xn ≤ 1000000 := by omega
      have km : (k : Int) < n := by omega
      have hwn : IntKind.i64.wrap (-x) = -x := IntWalk.i64_in _ (by omega)
      have hm1 : -1000000 ≤ -x := by omega
      have hm2 : -x ≤ 1000000 := by omega
      clear hx hxn hg
      go_wp2_with fail
      go_quiet ((exact (abs_c x xn HXN.out _).mono fun _ _ hh => ⟨hh.1, _, hh.2.symm⟩))
      go_wp2_with fail
      go_loopw [3, 5, 6] (fun g a _ wr => ∃ p q d1 : Nat, g = .int .i64 (p : Int) ∧ a = .int .i64 (q : Int) ∧ Hid (Nat.gcd p q = gcdL (t.2.take (k + 1))) ∧ p ≤ 1000000 ∧ q ≤ 1000000 ∧ wr = w.drewN d1) (fun _ a _ _ => (intOf a).toNat)
      case atStart => exact ⟨p, xn, _, rfl, rfl, HG, hp, hxn2, by first | rfl | exact World.drewN_drewN _ _ _⟩
      case round =>
        clear hp hxn2 HG hc
        obtain ⟨p, q, d1, rfl, rfl, hg, hp, hq, rfl⟩ := hrel
        by_cases hpos : 0 < q
        · have hmm : p % q < q := Nat.mod_lt _ hpos
          have HS : Hid (Nat.gcd q (p % q) = gcdL (t.2.take (k + 1))) := by
            show _ = _
            rw [Nat.gcd_comm q, ← Nat.gcd_rec, Nat.gcd_comm]
            exact hg.out
          clear hg
          have HM := Lib.hid hmm
          have hqi : (0 : Int) < (q : Int) := by omega
          clear hmm
          go_wp2
          go_roundw
          case rel => exact ⟨q, p % q, _, rfl, by go_num, HS, hq, by have := HM.out; omega, rfl⟩
          case measure => simp [intOf]; have := HM.out; omega
        · have e : q = 0 := by omega
          subst e
          have HE : Hid (gcdL (t.2.take (k + 1)) = p) := by
            have h := hg.out
            rw [Nat.gcd_zero_right] at h
            exact h.symm
          clear hg
          go_wp2
          go_roundw
          case rel => exact ⟨k + 1, _, p, by omega, by go_num, rfl, HE, hp, rfl⟩
          case measure => simp [intOf]; omega
    · have e : k = n := by omega
      have HE : Hid (gcdL t.2 = p) := by
        have h := hg.out
        rwa [List.take_of_length_le (by have := hm.out; omega)] at h
      clear hg
      go_wp2_with fail
      go_ret
      exact ⟨by rw [HE.out]; rfl, _, rfl⟩

end Go.Proofs.Ytaioekjjhaklhaa
