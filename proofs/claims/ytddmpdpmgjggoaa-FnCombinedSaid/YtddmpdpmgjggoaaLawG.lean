/-
  Tightened facts for values: what is divided, the sign that stays. Plain lemmas, of no program; and the law's numbers chosen by bytes. No conditions.
-/
import Derived.Test.YtddmpdpmgjggoaaLawF
import Derived.Test.YtddmpdpmgjggoaaTight
namespace Go.Proofs.Ytddmpdpmgjggoaa
open Go.RowKit
set_option linter.unusedVariables false

theorem fold_dvd (d : Nat) : ∀ (zs : List Int) (a : Nat), d ∣ a → (∀ z ∈ zs, d ∣ z.natAbs) → d ∣ zs.foldl (fun g z => Nat.gcd g z.natAbs) a
  | [], a, ha, _ => ha
  | y :: zs, a, ha, h => by
    rw [List.foldl_cons]
    exact fold_dvd d zs _ (Nat.dvd_gcd ha (h y (List.mem_cons_self ..))) fun z hz => h z (List.mem_cons_of_mem _ hz)
theorem dvd_gcdL {d : Nat} {zs : List Int} (h : ∀ z ∈ zs, d ∣ z.natAbs) : d ∣ gcdL zs := fold_dvd d zs 0 (Nat.dvd_zero d) h
theorem gcdL_last {zs : List Int} (hl : 0 < zs.length) (hlast : zs[zs.length - 1]? ≠ some 0) : 0 < gcdL zs := by
  refine gcdL_pos.2 ?_
  obtain ⟨x, hx⟩ : ∃ x, zs[zs.length - 1]? = some x := ⟨_, List.getElem?_eq_getElem (by omega)⟩
  rw [hx] at hlast
  unfold anyB
  rw [List.any_eq_true]
  exact ⟨x, List.mem_of_getElem? hx, by simpa using fun e : x = 0 => hlast (by rw [e])⟩
theorem gcd_scale {zs : List Int} {n : Int} (hn : 2 ≤ n) (hl : 0 < zs.length) (hlast : (zs.map (fun z => n * z))[(zs.map (fun z => n * z)).length - 1]? ≠ some 0) : 2 ≤ gcdL (zs.map (fun z => n * z)) := by
  have h0 := gcdL_last (by rw [List.length_map]; exact hl) hlast
  have h1 : n.natAbs ∣ gcdL (zs.map (fun z => n * z)) := dvd_gcdL fun z hz => by
    obtain ⟨y, _, rfl⟩ := List.mem_map.1 hz
    rw [Int.natAbs_mul]
    exact Nat.dvd_mul_right _ _
  have := Nat.le_of_dvd h0 h1
  omega
theorem gcdL_nil : gcdL [] = 0 := rfl
/-- What is divided is a valid fact that cannot be divided again. -/
theorem tight_ok {q : Int × List Int} (h : tmB q = true) (h2 : 2 ≤ gcdL q.2) : tmB (q.1 / (gcdL q.2 : Int), q.2.map (fun z => z.tdiv (gcdL q.2 : Int))) = true ∧ tightR (q.1 / (gcdL q.2 : Int), q.2.map (fun z => z.tdiv (gcdL q.2 : Int))) = ((0, []), false) := by
  obtain ⟨a, b, c, d⟩ := tmB_parts h
  have hg : ∀ x ∈ q.2, x ≠ 0 → x.tdiv (gcdL q.2 : Int) ≠ 0 := fun x hx h0 e => by
    have h1 := gcdL_dvd hx
    have h3 : (x.tdiv (gcdL q.2 : Int)).natAbs = x.natAbs / gcdL q.2 := by rw [Int.natAbs_tdiv, Int.natAbs_natCast]; rfl
    rw [e] at h3
    have h4 := Nat.div_mul_cancel h1
    rw [← h3] at h4
    simp at h4
    omega
  have hf := floor_facts q.1 (gcdL q.2 : Int) ⟨by omega, by omega⟩ (by omega)
  have hc : -1000000 ≤ q.1 / (gcdL q.2 : Int) ∧ q.1 / (gcdL q.2 : Int) ≤ 1000000 := by
    constructor
    · exact Int.le_ediv_of_mul_le (by omega) (by have : -1000000 * (gcdL q.2 : Int) ≤ -1000000 * 1 := by omega
                                                 omega)
    · rcases Int.lt_or_le q.1 0 with hn | hn
      · have := Int.ediv_neg_of_neg_of_pos hn (by omega : 0 < (gcdL q.2 : Int)); omega
      · exact Int.le_trans (Int.ediv_le_self _ hn) b.2
  refine ⟨tmB_mk (by rw [List.length_map]; exact a) (map_last d hg) hc.1 hc.2 (fun z hz => by obtain ⟨y, hy, rfl⟩ := List.mem_map.1 hz; exact tdiv_le (c y hy).1 (c y hy).2), tightR_no2 ?_⟩
  show ¬ 2 ≤ gcdL (q.2.map fun z => z.tdiv (gcdL q.2 : Int))
  rw [gcdL_less (by omega)]
  omega
theorem ev_div {C C' : Int} {zs vs : List Int} {d : Nat} (hd : ∀ z ∈ zs, d ∣ z.natAbs) : ∀ k, evTo (C, zs) vs k - C = (d : Int) * (evTo (C', zs.map (fun z => z.tdiv (d : Int))) vs k - C')
  | 0 => by simp [evTo]
  | k + 1 => by
    have ih := ev_div (C := C) (C' := C') (vs := vs) hd k
    have e : zs.getD k 0 = (d : Int) * (zs.getD k 0).tdiv (d : Int) := by
      by_cases h0 : zs.getD k 0 = 0
      · rw [h0]; simp
      · have hm := hd _ (getD_mem h0)
        exact (Int.mul_tdiv_cancel' (Int.ofNat_dvd_left.2 hm)).symm
    simp only [evTo]
    rw [getD_map (g := fun z => z.tdiv (d : Int)) (by simp)]
    generalize (zs.getD k 0).tdiv (d : Int) = y at e
    rw [e, Int.mul_assoc]
    generalize evTo (C, zs) vs k = P at ih ⊢
    generalize evTo (C', zs.map (fun z => z.tdiv (d : Int))) vs k = Q at ih ⊢
    generalize y * vs.getD k 0 = Z
    rw [show P + (d : Int) * Z - C = (P - C) + (d : Int) * Z by omega, ih, ← Int.mul_add]
    congr 1
    omega
/-- The sign stays. -/
theorem tight_sign {q : Int × List Int} (h2 : 2 ≤ gcdL q.2) (vs : List Int) (k : Nat) : (0 ≤ evTo (q.1 / (gcdL q.2 : Int), q.2.map (fun z => z.tdiv (gcdL q.2 : Int))) vs k) ↔ 0 ≤ evTo q vs k := by
  have hd := ev_div (C := q.1) (C' := q.1 / (gcdL q.2 : Int)) (vs := vs) (fun z hz => gcdL_dvd (zs := q.2) hz) k
  have e : evTo (q.1, q.2) vs k = evTo q vs k := rfl
  rw [e] at hd
  generalize evTo q vs k = P at hd ⊢
  generalize evTo (q.1 / (gcdL q.2 : Int), q.2.map (fun z => z.tdiv (gcdL q.2 : Int))) vs k = Q at hd ⊢
  obtain ⟨C, hC⟩ : ∃ C, q.1 = C := ⟨_, rfl⟩
  rw [hC] at hd
  obtain ⟨g, hg⟩ : ∃ g : Int, (gcdL q.2 : Int) = g := ⟨_, rfl⟩
  rw [hg] at hd
  have hg2 : 2 ≤ g := by omega
  have h1 := Int.emod_add_mul_ediv C g
  have h3 := Int.emod_lt_of_pos C (by omega : 0 < g)
  have h4 := Int.emod_nonneg C (by omega : g ≠ 0)
  generalize C / g = D at hd h1
  generalize C % g = M at h1 h3 h4
  rw [Int.mul_sub] at hd
  have hP : P = M + g * Q := by omega
  constructor
  · intro hQ
    have := Int.mul_nonneg (show 0 ≤ g by omega) hQ
    omega
  · intro hP0
    rcases Int.lt_or_le Q 0 with hn | hn
    · have h5 : g * Q ≤ g * (-1) := Int.mul_le_mul_of_nonneg_left (by omega) (by omega)
      omega
    · exact hn
set_option maxHeartbeats 400000 in
theorem b10At4_c (A : Option Addr) (n c B : Nat) (bs : List Nat) (j : Nat) (w : World) (hrow : Row w B A (bs.map bc)) (hz : bs.length = n) (hb : ∀ z ∈ bs, z < 256) (hj : j ≤ 1000) :
    ∃ x : Int, 0 ≤ x ∧ x < 4 ∧ Calls Try.prog 14 #[.slice A n c, .int .i64 (j : Int), .int .i64 4] w fun e w' => e = .returned (.int .i64 x) ∧ w' = w := by
  by_cases hlt : j < n
  · obtain ⟨b, off, hA, hbb, hc⟩ := hrow j (by simp; omega)
    subst hA
    have hz2 := hb (bs[j]'(by omega)) (List.getElem_mem ..)
    rw [List.getElem?_map, List.getElem?_eq_getElem (by omega)] at hc
    simp only [Option.map, bc] at hc
    generalize bs[j] = z at hc hz2
    clear hb
    have hz0 : (0 : Int) ≤ z := by omega
    have hm1 := Int.emod_lt_of_pos (z : Int) (by omega : (0 : Int) < 4)
    have hm2 := Int.emod_nonneg (z : Int) (by omega : (4 : Int) ≠ 0)
    refine ⟨_, hm2, hm1, ?_⟩
    go_enter Try.func14, Try.ntmps14
    go_wp2
    go_ret
    exact ⟨rfl, rfl⟩
  · have hz0 : (0 : Int) ≤ (j : Int) * 37 + 11 := by omega
    have hm1 := Int.emod_lt_of_pos ((j : Int) * 37 + 11) (by omega : (0 : Int) < 4)
    have hm2 := Int.emod_nonneg ((j : Int) * 37 + 11) (by omega : (4 : Int) ≠ 0)
    refine ⟨_, hm2, hm1, ?_⟩
    go_enter Try.func14, Try.ntmps14
    go_wp2
    go_ret
    exact ⟨rfl, rfl⟩
set_option maxHeartbeats 400000 in
theorem b10At6_c (A : Option Addr) (n c B : Nat) (bs : List Nat) (j : Nat) (w : World) (hrow : Row w B A (bs.map bc)) (hz : bs.length = n) (hb : ∀ z ∈ bs, z < 256) (hj : j ≤ 1000) :
    ∃ x : Int, 0 ≤ x ∧ x < 6 ∧ Calls Try.prog 14 #[.slice A n c, .int .i64 (j : Int), .int .i64 6] w fun e w' => e = .returned (.int .i64 x) ∧ w' = w := by
  by_cases hlt : j < n
  · obtain ⟨b, off, hA, hbb, hc⟩ := hrow j (by simp; omega)
    subst hA
    have hz2 := hb (bs[j]'(by omega)) (List.getElem_mem ..)
    rw [List.getElem?_map, List.getElem?_eq_getElem (by omega)] at hc
    simp only [Option.map, bc] at hc
    generalize bs[j] = z at hc hz2
    clear hb
    have hz0 : (0 : Int) ≤ z := by omega
    have hm1 := Int.emod_lt_of_pos (z : Int) (by omega : (0 : Int) < 6)
    have hm2 := Int.emod_nonneg (z : Int) (by omega : (6 : Int) ≠ 0)
    refine ⟨_, hm2, hm1, ?_⟩
    go_enter Try.func14, Try.ntmps14
    go_wp2
    go_ret
    exact ⟨rfl, rfl⟩
  · have hz0 : (0 : Int) ≤ (j : Int) * 37 + 11 := by omega
    have hm1 := Int.emod_lt_of_pos ((j : Int) * 37 + 11) (by omega : (0 : Int) < 6)
    have hm2 := Int.emod_nonneg ((j : Int) * 37 + 11) (by omega : (6 : Int) ≠ 0)
    refine ⟨_, hm2, hm1, ?_⟩
    go_enter Try.func14, Try.ntmps14
    go_wp2
    go_ret
    exact ⟨rfl, rfl⟩
set_option maxHeartbeats 400000 in
theorem b10At7_c (A : Option Addr) (n c B : Nat) (bs : List Nat) (j : Nat) (w : World) (hrow : Row w B A (bs.map bc)) (hz : bs.length = n) (hb : ∀ z ∈ bs, z < 256) (hj : j ≤ 1000) :
    ∃ x : Int, 0 ≤ x ∧ x < 7 ∧ Calls Try.prog 14 #[.slice A n c, .int .i64 (j : Int), .int .i64 7] w fun e w' => e = .returned (.int .i64 x) ∧ w' = w := by
  by_cases hlt : j < n
  · obtain ⟨b, off, hA, hbb, hc⟩ := hrow j (by simp; omega)
    subst hA
    have hz2 := hb (bs[j]'(by omega)) (List.getElem_mem ..)
    rw [List.getElem?_map, List.getElem?_eq_getElem (by omega)] at hc
    simp only [Option.map, bc] at hc
    generalize bs[j] = z at hc hz2
    clear hb
    have hz0 : (0 : Int) ≤ z := by omega
    have hm1 := Int.emod_lt_of_pos (z : Int) (by omega : (0 : Int) < 7)
    have hm2 := Int.emod_nonneg (z : Int) (by omega : (7 : Int) ≠ 0)
    refine ⟨_, hm2, hm1, ?_⟩
    go_enter Try.func14, Try.ntmps14
    go_wp2
    go_ret
    exact ⟨rfl, rfl⟩
  · have hz0 : (0 : Int) ≤ (j : Int) * 37 + 11 := by omega
    have hm1 := Int.emod_lt_of_pos ((j : Int) * 37 + 11) (by omega : (0 : Int) < 7)
    have hm2 := Int.emod_nonneg ((j : Int) * 37 + 11) (by omega : (7 : Int) ≠ 0)
    refine ⟨_, hm2, hm1, ?_⟩
    go_enter Try.func14, Try.ntmps14
    go_wp2
    go_ret
    exact ⟨rfl, rfl⟩
end Go.Proofs.Ytddmpdpmgjggoaa
