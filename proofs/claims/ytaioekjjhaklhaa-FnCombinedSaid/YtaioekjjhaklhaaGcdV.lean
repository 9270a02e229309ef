/-
  Lists that can be coded, and greatest common divisors: what the program's and the model's functions give. Conditions: lists of at most 2^20 whole numbers of 64 bits.
-/
import Derived.Test.YtaioekjjhaklhaaInts
import Derived.Test.YtaioekjjhaklhaaCodedV
import Derived.WalkLawsBesides
namespace Go.Proofs.Ytaioekjjhaklhaa
open Go.RowKit

/-- The greatest common divisor of a list. -/
def gcdL (zs : List Int) : Nat := zs.foldl (fun g z => Nat.gcd g z.natAbs) 0
theorem gcdL_succ {zs : List Int} {k : Nat} {x : Int} (hx : zs[k]? = some x) : gcdL (zs.take (k + 1)) = Nat.gcd (gcdL (zs.take k)) x.natAbs := by
  rw [List.take_add_one, hx]
  simp [gcdL, List.foldl_append]
theorem gcd_step {a b : Int} (_ : b ≠ 0) : Nat.gcd b.natAbs (a.tmod b).natAbs = Nat.gcd a.natAbs b.natAbs := by
  rw [Int.natAbs_tmod, Nat.gcd_comm b.natAbs, ← Nat.gcd_rec, Nat.gcd_comm]
theorem tmod_small {a b : Int} (hb : b ≠ 0) : (a.tmod b).natAbs < b.natAbs := by
  rw [Int.natAbs_tmod]; exact Nat.mod_lt _ (by omega)

theorem ret_int_bool {a b : Int} {t : Bool} (h : a = b) : Ending.returned (.tuple #[.int .i64 a, .bool t]) = .returned (.tuple #[.int .i64 b, .bool t]) := by rw [h]
/-- What the inner loop keeps of two numbers. -/
def Gk (g : Nat) (a b : Int) : Prop := Nat.gcd a.natAbs b.natAbs = g

set_option maxRecDepth 100000 in
set_option maxHeartbeats 2000000 in
theorem implGcd_c (A : Option Addr) (n c B : Nat) (zs : List Int) (w : World) (h : Row w B A (zs.map ic)) (hz : zs.length = n) (hn : n ≤ 1048576) (hco : codedB zs = true) :
    Calls Try.prog 56 #[.slice A n c] w fun e w' => e = .returned (.tuple #[.int .i64 (gcdL zs), .bool true]) ∧ ∃ d, w' = w.drewN d := by
  have hin := coded_in hco
  have HIN := Lib.hid hin
  clear hin
  have HCO := Lib.hid hco
  clear hco
  go_enter Try.func56, Try.ntmps56
  go_wp2_with (go_at_call 80; refine (areCoded_c A n c B zs _ h hz hn).mono ?_; rintro e w' ⟨rfl, rfl⟩; rw [HCO.out])
  go_loopw [4, 6, 12] (fun v _ i wr => ∃ (k d : Nat) (a : Int), k ≤ n ∧ i = .int .i64 k ∧ v = .int .i64 a ∧ Hid (a.natAbs = gcdL (zs.take k)) ∧ -1000000000000000 ≤ a ∧ a ≤ 1000000000000000 ∧ wr = w.drewN d) (fun _ _ i _ => n - (intOf i).toNat)
  case atStart => exact ⟨0, 0, 0, Nat.zero_le _, rfl, rfl, rfl, by omega, by omega, rfl⟩
  case round =>
    obtain ⟨k, d, a, hk, rfl, rfl, hg, ha1, ha2, rfl⟩ := hrel
    by_cases hlt : k < n
    · obtain ⟨b, off, x, rfl, hb, hx, hc⟩ := h.int_at (k := k) (by omega)
      have hxi : InC x := HIN.out x (List.mem_of_getElem? hx)
      obtain ⟨hx1, hx2⟩ := hxi
      have HX := Lib.hid hx
      clear hx
      have hgk : Gk (gcdL (zs.take (k + 1))) a x := by unfold Gk; rw [gcdL_succ HX.out, hg.out]
      have HG := Lib.hid hgk
      clear hgk hg
      go_wp2
      go_loopw [4, 6] (fun v r wr => ∃ (a b : Int) (d : Nat), v = .int .i64 a ∧ r = .int .i64 b ∧ Hid (Gk (gcdL (zs.take (k + 1))) a b) ∧ -1000000000000000 ≤ a ∧ a ≤ 1000000000000000 ∧ -1000000000000000 ≤ b ∧ b ≤ 1000000000000000 ∧ wr = w.drewN d) (fun _ r _ => (intOf r).natAbs)
      case atStart => exact ⟨a, x, d, rfl, rfl, HG, ha1, ha2, hx1, hx2, rfl⟩
      case round =>
        clear ha1 ha2 hx1 hx2 HG HX hc
        obtain ⟨a, y, d, rfl, rfl, hg, ha1, ha2, hx1, hx2, rfl⟩ := hrel
        by_cases hy : y = 0
        · subst hy
          have HG : Hid (a.natAbs = gcdL (zs.take (k + 1))) := by
            have h := hg.out
            unfold Gk at h
            show _ = _
            simpa using h
          clear hg
          go_wp2
          go_roundw
          case rel => exact ⟨k + 1, _, _, by omega, by go_num, rfl, HG, ha1, ha2, rfl⟩
          case measure => simp [intOf]; omega
        · have q1 : (y == 0) = false := by simpa using hy
          have q2 : (y != 0) = true := by simpa using hy
          have ht := tmod_small (a := a) hy
          have HT := Lib.hid ht
          have ht1 : -1000000000000000 ≤ a.tmod y := by omega
          have ht2 : a.tmod y ≤ 1000000000000000 := by omega
          have HS : Hid (Gk (gcdL (zs.take (k + 1))) y (a.tmod y)) := by
            have h := hg.out
            show Gk _ _ _
            unfold Gk at h ⊢
            rw [gcd_step hy, h]
          clear ht hg
          go_wp2
          go_quiet (fail)
          go_wp2
          go_roundw
          case rel => exact ⟨y, a.tmod y, _, rfl, rfl, HS, hx1, hx2, ht1, ht2, by first | rfl | exact World.drewN_drewN _ _ _⟩
          case measure =>
            simp [intOf]
            exact Nat.mod_lt _ (by omega)
    · have HG : Hid (a.natAbs = gcdL zs) := by
        have h := hg.out
        rwa [List.take_of_length_le (by omega)] at h
      clear hg
      by_cases hs : 0 ≤ a
      all_goals
        go_wp2
        go_ret2
        exact ⟨ret_int_bool (by have := HG.out; omega), _, rfl⟩

/-- l00Max at a number and its opposite: the number's size. -/
theorem abs_c (a : Int) (x : Nat) (hx : a.natAbs = x) (w : World) : Calls Try.prog 90 #[.int .i64 a, .int .i64 (-a)] w fun e w' => e = .returned (.int .i64 x) ∧ w = w' := by
  have HX := Lib.hid hx
  clear hx
  by_cases h : -a < a
  all_goals
    go_enter Try.func90, Try.ntmps90
    go_wp2
    go_ret
    exact ⟨by have := HX.out; go_num, rfl⟩

theorem gcd_le (a b : Int) (ha : (a.natAbs : Int) ≤ 1000000000000000) (hb : (b.natAbs : Int) ≤ 1000000000000000) : ((Nat.gcd a.natAbs b.natAbs : Nat) : Int) ≤ 1000000000000000 := by
  rcases Nat.eq_zero_or_pos a.natAbs with h | h
  · rw [h, Nat.gcd_zero_left]; exact hb
  · have := Nat.gcd_le_left b.natAbs h
    omega

end Go.Proofs.Ytaioekjjhaklhaa
