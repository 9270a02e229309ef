/-
  What the opposite, a multiple and a tightened term are for values. Plain lemmas, of no program. No conditions.
-/
import Derived.Test.YtddmpdpmgjggoaaDrawT
namespace Go.Proofs.Ytddmpdpmgjggoaa
set_option linter.unusedVariables false

theorem map_last {zs : List Int} {g : Int → Int} (hlast : zs[zs.length - 1]? ≠ some 0) (hg : ∀ x ∈ zs, x ≠ 0 → g x ≠ 0) : (zs.map g)[(zs.map g).length - 1]? ≠ some 0 := by
  rw [List.length_map, List.getElem?_map]
  cases hx : zs[zs.length - 1]? with
  | none => simp
  | some x =>
    rw [hx] at hlast
    have h0 : x ≠ 0 := fun e => hlast (by rw [e])
    have := hg x (List.mem_of_getElem? hx) h0
    simpa using this
theorem tmB_mk {c : Int} {zs : List Int} (hl : zs.length ≤ 10) (hlast : zs[zs.length - 1]? ≠ some 0) (h1 : -1000000 ≤ c) (h2 : c ≤ 1000000) (h : ∀ z ∈ zs, -1000000 ≤ z ∧ z ≤ 1000000) : tmB (c, zs) = true := by
  rcases hz : zs with _ | ⟨y, ys⟩
  · exact tmB_empty rfl h1 h2
  · rw [← hz]
    have hlen : zs.length = ys.length + 1 := by rw [hz]; rfl
    obtain ⟨x, hx⟩ : ∃ x, zs[ys.length]? = some x := ⟨_, List.getElem?_eq_getElem (by omega)⟩
    rw [hlen, Nat.add_sub_cancel, hx] at hlast
    rw [tmB_rest (t := (c, zs)) (k := ys.length) (x := x) hlen hl hx (fun e => hlast (by rw [e])) h1 h2]
    exact decide_eq_true h
/-- Numbers made one by one out of those of a valid term, none of which becomes 0, keep their length. -/
theorem trim_map {zs : List Int} {g f : Int → Int} (hl : zs.length ≤ 10) (hlast : zs[zs.length - 1]? ≠ some 0) (hg : ∀ x ∈ zs, x ≠ 0 → g x ≠ 0)
    (hf : ∀ i : Nat, i < zs.length → f (i : Nat) = g (zs.getD i 0)) (hz : ∀ i : Nat, zs.length ≤ i → i < 10 → f (i : Nat) = 0) : (ten f).take (trimN (ten f)) = zs.map g := by
  have e : zs.length = trimN (ten f) := by
    refine ten_trim hl hz ?_
    by_cases h0 : zs.length = 0
    · exact .inl h0
    · refine .inr ?_
      have hc : ((zs.length : Int) - 1) = ((zs.length - 1 : Nat) : Int) := by omega
      rw [hc, hf _ (by omega)]
      obtain ⟨x, hx⟩ : ∃ x, zs[zs.length - 1]? = some x := ⟨_, List.getElem?_eq_getElem (by omega)⟩
      rw [List.getD_eq_getElem?_getD, hx]
      rw [hx] at hlast
      exact hg x (List.mem_of_getElem? hx) (fun e => hlast (by rw [e]))
  rw [← e, ten_take f hl]
  refine List.ext_getElem? fun j => ?_
  by_cases hj : j < zs.length
  · rw [List.getElem?_map, List.getElem?_map, List.getElem?_range hj, List.getElem?_eq_getElem hj]
    simp only [Option.map]
    rw [hf j hj, List.getD_eq_getElem?_getD, List.getElem?_eq_getElem hj]; rfl
  · rw [List.getElem?_eq_none (by simp; omega), List.getElem?_eq_none (by simp; omega)]
theorem mk_map {c : Int} {zs : List Int} {g f : Int → Int} (hl : zs.length ≤ 10) (hlast : zs[zs.length - 1]? ≠ some 0) (hg : ∀ x ∈ zs, x ≠ 0 → g x ≠ 0)
    (hf : ∀ i : Nat, i < zs.length → f (i : Nat) = g (zs.getD i 0)) (hz : ∀ i : Nat, zs.length ≤ i → i < 10 → f (i : Nat) = 0)
    (h1 : -1000000 ≤ c) (h2 : c ≤ 1000000) (hb : ∀ z ∈ zs, -1000000 ≤ g z ∧ g z ≤ 1000000) : mkL c (ten f) = ((c, zs.map g), true) ∧ tmB (c, zs.map g) = true := by
  have e := trim_map hl hlast hg hf hz
  have ht : tmB (c, zs.map g) = true := tmB_mk (by rw [List.length_map]; exact hl) (map_last hlast hg) h1 h2 (fun z hz => by obtain ⟨y, hy, rfl⟩ := List.mem_map.1 hz; exact hb y hy)
  refine ⟨?_, ht⟩
  rw [mkL_yes (by rw [e]; exact ht), e]

theorem getD_map {zs : List Int} {g : Int → Int} (h0 : g 0 = 0) (k : Nat) : (zs.map g).getD k 0 = g (zs.getD k 0) := by
  rw [List.getD_eq_getElem?_getD, List.getD_eq_getElem?_getD, List.getElem?_map]
  cases zs[k]? with
  | none => simp [h0]
  | some x => rfl
theorem getD_off {zs : List Int} {k : Nat} (h : zs.length ≤ k) : zs.getD k 0 = 0 := by
  rw [List.getD_eq_getElem?_getD, List.getElem?_eq_none h]; rfl
theorem opp_is {t : Int × List Int} (h : tmB t = true) (hc : t.1 ≤ 999999) : oppR t = ((-1 - t.1, t.2.map (fun z => -z)), true) ∧ tmB (-1 - t.1, t.2.map (fun z => -z)) = true := by
  obtain ⟨a, b, c, d⟩ := tmB_parts h
  have hk := mk_map (c := -1 * t.1 + -1 * 1) (zs := t.2) (g := fun z => -z) (f := lin t (-1) (1, []) (-1)) a d (fun x _ hx => by show -x ≠ 0; omega)
    (fun i hi => by rw [lin_nat]; show -1 * t.2.getD i 0 + -1 * List.getD [] i 0 = -(t.2.getD i 0); simp) (fun i hi hi2 => by rw [lin_nat, getD_off hi]; show -1 * 0 + -1 * List.getD [] i 0 = 0; simp) (by omega) (by omega) (fun z hz => by have := c z hz; show _ ≤ -z ∧ -z ≤ _; omega)
  have e : -1 * t.1 + -1 * 1 = -1 - t.1 := by omega
  rw [e] at hk
  rw [oppR_yes h, e]
  exact hk
theorem ev_opp (t : Int × List Int) (vs : List Int) : ∀ k, evTo (-1 - t.1, t.2.map (fun z => -z)) vs k = -1 - evTo t vs k
  | 0 => rfl
  | k + 1 => by
    simp only [evTo]
    rw [ev_opp t vs k, getD_map (g := fun z => -z) rfl]
    show -1 - evTo t vs k + -(t.2.getD k 0) * vs.getD k 0 = _
    rw [Int.neg_mul]; omega
theorem opp_opp (t : Int × List Int) : ((-1 - (-1 - t.1), (t.2.map (fun z => -z)).map (fun z => -z)) : Int × List Int) = t := by
  obtain ⟨c, zs⟩ := t
  rw [List.map_map]
  have e1 : ((fun z : Int => -z) ∘ fun z => -z) = id := by funext z; simp
  rw [e1, List.map_id]
  show (-1 - (-1 - c), zs) = (c, zs)
  rw [show -1 - (-1 - c) = c by omega]

/-! Multiples. -/
theorem scale_is {t : Int × List Int} {n : Int} (h : tmB t = true) (hn : 1 ≤ n) (hn2 : n ≤ 1000) (hc : -1000 ≤ t.1 ∧ t.1 ≤ 1000) (hb : ∀ z ∈ t.2, -1000 ≤ z ∧ z ≤ 1000) :
    scaleR t n = ((n * t.1, t.2.map (fun z => n * z)), true) ∧ tmB (n * t.1, t.2.map (fun z => n * z)) = true := by
  obtain ⟨a, b, c, d⟩ := tmB_parts h
  have pr : ∀ z : Int, -1000 ≤ z → z ≤ 1000 → -1000000 ≤ n * z ∧ n * z ≤ 1000000 := fun z h1 h2 => by
    have h : (n * z).natAbs ≤ 1000 * 1000 := by
      rw [Int.natAbs_mul]
      exact Nat.mul_le_mul (by omega) (by omega)
    omega
  have p1 := pr t.1 hc.1 hc.2
  have hk := mk_map (c := n * t.1 + 0 * 0) (zs := t.2) (g := fun z => n * z) (f := lin t n (0, []) 0) a d (fun x _ hx => by show n * x ≠ 0; exact Int.mul_ne_zero (by omega) hx)
    (fun i hi => by rw [lin_nat]; show n * t.2.getD i 0 + 0 * List.getD [] i 0 = n * (t.2.getD i 0); simp) (fun i hi hi2 => by rw [lin_nat, getD_off hi]; show n * 0 + 0 * List.getD [] i 0 = 0; simp) (by omega) (by omega) (fun z hz => pr z (hb z hz).1 (hb z hz).2)
  have e : n * t.1 + 0 * 0 = n * t.1 := by omega
  rw [e] at hk
  rw [scaleR_yes h (by omega) (by omega), e]
  exact hk
theorem ev_const (c c' : Int) (zs vs : List Int) : ∀ k, evTo (c, zs) vs k - c = evTo (c', zs) vs k - c'
  | 0 => by simp [evTo]
  | k + 1 => by
    have := ev_const c c' zs vs k
    simp only [evTo]
    omega
theorem ev_scale (n : Int) (t : Int × List Int) (vs : List Int) : ∀ k, evTo (n * t.1, t.2.map (fun z => n * z)) vs k = n * evTo t vs k
  | 0 => rfl
  | k + 1 => by
    simp only [evTo]
    rw [ev_scale n t vs k, getD_map (g := fun z => n * z) (by simp), Int.mul_add, Int.mul_assoc]
end Go.Proofs.Ytddmpdpmgjggoaa
