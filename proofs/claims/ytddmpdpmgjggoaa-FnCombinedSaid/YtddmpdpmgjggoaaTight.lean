/-
  A fact divided by the common divisor of its coefficients: the program's function. Conditions: at most 2^20 coefficients.
-/
import Derived.Test.YtddmpdpmgjggoaaGcdV
import Derived.Test.YtddmpdpmgjggoaaImplT1
import Derived.Test.YtddmpdpmgjggoaaBlk
namespace Go.Proofs.Ytddmpdpmgjggoaa
set_option linter.unusedVariables false
open Go.RowKit

def anyB (zs : List Int) : Bool := zs.any fun z => z != 0
theorem anyB_succ {zs : List Int} {k : Nat} {x : Int} (hx : zs[k]? = some x) : anyB (zs.take (k + 1)) = (anyB (zs.take k) || x != 0) := by
  simp [anyB, List.take_add_one, hx]
theorem fold_gcd_dvd : ∀ (zs : List Int) (a : Nat), (zs.foldl (fun g z => Nat.gcd g z.natAbs) a ∣ a) ∧ ∀ z ∈ zs, zs.foldl (fun g z => Nat.gcd g z.natAbs) a ∣ z.natAbs
  | [], a => ⟨Nat.dvd_refl _, fun _ h => by simp at h⟩
  | y :: zs, a => by
    obtain ⟨h1, h2⟩ := fold_gcd_dvd zs (Nat.gcd a y.natAbs)
    refine ⟨Nat.dvd_trans h1 (Nat.gcd_dvd_left _ _), fun z hz => ?_⟩
    rcases List.mem_cons.1 hz with rfl | hz
    · exact Nat.dvd_trans h1 (Nat.gcd_dvd_right _ _)
    · exact h2 z hz
theorem gcdL_dvd {zs : List Int} {z : Int} (h : z ∈ zs) : gcdL zs ∣ z.natAbs := (fold_gcd_dvd zs 0).2 z h
theorem gcdL_pos {zs : List Int} : (0 < gcdL zs) ↔ anyB zs = true := by
  constructor
  · intro h
    cases ha : anyB zs with
    | true => rfl
    | false =>
      have h0 : ∀ z ∈ zs, z = 0 := by
        intro z hz
        simp only [anyB, List.any_eq_false] at ha
        simpa using ha z hz
      have : ∀ (l : List Int), (∀ z ∈ l, z = 0) → l.foldl (fun g z => Nat.gcd g z.natAbs) 0 = 0 := by
        intro l
        induction l with
        | nil => intro _; rfl
        | cons y l ih =>
          intro hl
          rw [List.foldl_cons, hl y (List.mem_cons_self ..)]
          exact ih fun z hz => hl z (List.mem_cons_of_mem _ hz)
      have := this zs h0
      unfold gcdL at h
      omega
  · intro h
    simp only [anyB, List.any_eq_true] at h
    obtain ⟨z, hz, hne⟩ := h
    have := gcdL_dvd hz
    rcases Nat.eq_zero_or_pos (gcdL zs) with h0 | h0
    · rw [h0] at this
      have := Nat.eq_zero_of_zero_dvd this
      have hz0 : z = 0 := by omega
      simp [hz0] at hne
    · exact h0
theorem tmod_zero {z : Int} {d : Nat} (h : d ∣ z.natAbs) : z.tmod (d : Int) = 0 := by
  have : (d : Int) ∣ z := Int.ofNat_dvd_left.2 h
  exact Int.tmod_eq_zero_of_dvd this
theorem fold_scale (d : Nat) (hd : 0 < d) : ∀ (zs : List Int) (a : Nat), (∀ z ∈ zs, d ∣ z.natAbs) →
    d * (zs.map fun z => z.tdiv (d : Int)).foldl (fun g z => Nat.gcd g z.natAbs) a = zs.foldl (fun g z => Nat.gcd g z.natAbs) (d * a)
  | [], a, _ => rfl
  | y :: zs, a, h => by
    rw [List.map_cons, List.foldl_cons, List.foldl_cons, fold_scale d hd zs _ fun z hz => h z (List.mem_cons_of_mem _ hz)]
    congr 1
    rw [← Nat.gcd_mul_left]
    congr 1
    rw [Int.natAbs_tdiv, Int.natAbs_natCast]
    exact Nat.mul_div_cancel' (h y (List.mem_cons_self ..))
theorem gcdL_less {zs : List Int} (h : 0 < gcdL zs) : gcdL (zs.map fun z => z.tdiv (gcdL zs : Int)) = 1 := by
  have h1 := fold_scale (gcdL zs) h zs 0 fun z hz => gcdL_dvd hz
  rw [Nat.mul_zero] at h1
  have h2 : gcdL zs * gcdL (zs.map fun z => z.tdiv (gcdL zs : Int)) = gcdL zs * 1 := by rw [Nat.mul_one]; exact h1
  exact Nat.eq_of_mul_eq_mul_left h h2
theorem inC_tdiv {z : Int} {d : Nat} (h : InC z) : InC (z.tdiv (d : Int)) := by
  have h1 : (z.tdiv (d : Int)).natAbs ≤ z.natAbs := by rw [Int.natAbs_tdiv]; exact Nat.div_le_self _ _
  obtain ⟨a, b⟩ := h
  exact ⟨by omega, by omega⟩
theorem coded_of {zs : List Int} (h : ∀ z ∈ zs, InC z) (hl : zs.length ≤ 100) : codedB zs = true := by
  unfold codedB
  rw [decide_eq_true h, decide_eq_true hl]; rfl
theorem gcdL_bound {zs : List Int} (h : ∀ z ∈ zs, InC z) : (gcdL zs : Int) ≤ 1000000000000000 := by
  rcases Nat.eq_zero_or_pos (gcdL zs) with h0 | h0
  · omega
  · have ha := gcdL_pos.1 h0
    simp only [anyB, List.any_eq_true] at ha
    obtain ⟨z, hz, hne⟩ := ha
    have hd := gcdL_dvd hz
    have hz0 : z ≠ 0 := by simpa using hne
    have := Nat.le_of_dvd (by omega) hd
    obtain ⟨a, b⟩ := h z hz
    omega
/-- A quotient that is rounded down. -/
theorem floor_facts (x y : Int) (hx : InC x) (hy : 1 ≤ y) : (x / y) * y ≤ x ∧ x - (x / y) * y < y ∧ -1000000000000000 ≤ x / y ∧ x / y ≤ 1000000000000000 := by
  have h1 := Int.emod_add_mul_ediv x y
  have h2 := Int.emod_lt_of_pos x (by omega : 0 < y)
  have h3 := Int.emod_nonneg x (by omega : y ≠ 0)
  rw [Int.mul_comm] at h1
  obtain ⟨a, b⟩ := hx
  refine ⟨by omega, by omega, ?_, ?_⟩
  · exact Int.le_ediv_of_mul_le (by omega) (by have : -1000000000000000 * y ≤ -1000000000000000 * 1 := by omega
                                               omega)
  · rcases Int.lt_or_le x 0 with hn | hn
    · have := Int.ediv_neg_of_neg_of_pos hn (by omega : 0 < y)
      omega
    · exact Int.le_trans (Int.ediv_le_self _ hn) b
theorem tdiv_floor (x y : Int) (hy : 1 ≤ y) : (if x.tmod y < 0 then x.tdiv y - 1 else x.tdiv y) = x / y := by
  have h1 := Int.tmod_add_mul_tdiv x y
  have h2 := Int.tmod_lt_of_pos x (by omega : 0 < y)
  have h3 : -y < x.tmod y := by
    have := Int.lt_tmod_of_pos x (by omega : 0 < y)
    exact this
  have e1 := Int.emod_add_mul_ediv x y
  have e2 := Int.emod_lt_of_pos x (by omega : 0 < y)
  have e3 := Int.emod_nonneg x (by omega : y ≠ 0)
  generalize x.tdiv y = p at *
  generalize x.tmod y = r at *
  generalize x / y = q at *
  generalize x % y = t at *
  split
  · have hlt : y * (p - 1 - q) < y * 1 := by rw [Int.mul_sub, Int.mul_sub]; omega
    have hgt : y * (-1) < y * (p - 1 - q) := by rw [Int.mul_sub, Int.mul_sub]; omega
    have a := Int.lt_of_mul_lt_mul_left hlt (by omega)
    have b := Int.lt_of_mul_lt_mul_left hgt (by omega)
    omega
  · have hlt : y * (p - q) < y * 1 := by rw [Int.mul_sub]; omega
    have hgt : y * (-1) < y * (p - q) := by rw [Int.mul_sub]; omega
    have a := Int.lt_of_mul_lt_mul_left hlt (by omega)
    have b := Int.lt_of_mul_lt_mul_left hgt (by omega)
    omega
/-- The tightened fact, and whether there is one. -/
def tightR (t : Int × List Int) : (Int × List Int) × Bool := if tmB t = true ∧ 2 ≤ gcdL t.2 then ((t.1 / (gcdL t.2 : Int), t.2.map (fun z => z.tdiv (gcdL t.2 : Int))), true) else ((0, []), false)
theorem tightR_yes {t : Int × List Int} (h : tmB t = true) (k : 2 ≤ gcdL t.2) : tightR t = ((t.1 / (gcdL t.2 : Int), t.2.map (fun z => z.tdiv (gcdL t.2 : Int))), true) := if_pos ⟨h, k⟩
theorem tightR_no {t : Int × List Int} (h : tmB t = false) : tightR t = ((0, []), false) := if_neg (by rw [h]; simp)
theorem tightR_no2 {t : Int × List Int} (h : ¬ 2 ≤ gcdL t.2) : tightR t = ((0, []), false) := if_neg (fun a => h a.2)
theorem tm_coded {t : Int × List Int} (h : tmB t = true) : codedB t.2 = true := by
  obtain ⟨a, _, c, _⟩ := tmB_parts h
  exact coded_of (fun z hz => by have := c z hz; exact ⟨by omega, by omega⟩) (by omega)
theorem tdiv_le {z : Int} {d : Nat} (z1 : -1000000 ≤ z) (z2 : z ≤ 1000000) : -1000000 ≤ z.tdiv (d : Int) ∧ z.tdiv (d : Int) ≤ 1000000 := by
  have h : (z.tdiv (d : Int)).natAbs ≤ z.natAbs := by rw [Int.natAbs_tdiv]; exact Nat.div_le_self _ _
  omega

end Go.Proofs.Ytddmpdpmgjggoaa
