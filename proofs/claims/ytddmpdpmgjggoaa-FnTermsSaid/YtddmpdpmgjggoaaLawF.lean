/-
  Terms as functions of the symbol: what sums, multiples and replaced terms with small numbers are for values. Plain lemmas, of no program. No conditions.
-/
import Derived.Test.YtddmpdpmgjggoaaLawV
import Derived.Test.YtddmpdpmgjggoaaSubR
import Derived.Test.YtddmpdpmgjggoaaAddT
namespace Go.Proofs.Ytddmpdpmgjggoaa
set_option linter.unusedVariables false

/-- What a function of the symbols is for values, as far as its first k symbols go. -/
def valF (f : Int → Int) (vs : List Int) : Nat → Int
  | 0 => f (-1)
  | k + 1 => valF f vs k + f (k : Nat) * vs.getD k 0
theorem ev_valF (t : Int × List Int) (vs : List Int) : ∀ k, evTo t vs k = valF (tf t) vs k
  | 0 => by simp only [evTo, valF]; rw [tf_const]
  | k + 1 => by simp only [evTo, valF]; rw [ev_valF t vs k, tf_nat]
theorem ev_past (t : Int × List Int) (vs : List Int) : ∀ d, evTo t vs (t.2.length + d) = evTo t vs t.2.length
  | 0 => rfl
  | d + 1 => by
    show evTo t vs ((t.2.length + d) + 1) = _
    simp only [evTo]
    rw [ev_past t vs d, getD_off (by omega), Int.zero_mul]; omega
theorem ev_ten {t : Int × List Int} (h : t.2.length ≤ 10) (vs : List Int) : evTo t vs t.2.length = valF (tf t) vs 10 := by
  rw [← ev_valF, ← ev_past t vs (10 - t.2.length)]
  congr 1
  omega
theorem valF_lin (m n : Int) (f g : Int → Int) (vs : List Int) : ∀ k, valF (fun j => m * f j + n * g j) vs k = m * valF f vs k + n * valF g vs k
  | 0 => rfl
  | k + 1 => by
    simp only [valF]
    rw [valF_lin m n f g vs k, Int.add_mul, Int.mul_add, Int.mul_add, Int.mul_assoc, Int.mul_assoc]
    omega
theorem valF_addT (f : Int → Int) (x : Int) (t : Int × List Int) (vs : List Int) : ∀ k, valF (addT f x t) vs k = valF f vs k + x * valF (tf t) vs k
  | 0 => rfl
  | k + 1 => by
    simp only [valF]
    rw [valF_addT f x t vs k]
    unfold addT
    rw [Int.add_mul, Int.mul_add, Int.mul_assoc]
    omega
theorem valF_upd (f : Int → Int) (i : Nat) (x : Int) (vs : List Int) : ∀ k, valF (upd f (i : Int) x) vs k = valF f vs k + (if i < k then x * vs.getD i 0 else 0)
  | 0 => by
    simp only [valF]
    unfold upd
    rw [if_neg (by omega), if_neg (by omega)]; omega
  | k + 1 => by
    simp only [valF]
    rw [valF_upd f i x vs k]
    unfold upd
    by_cases h : k = i
    · subst h
      rw [if_neg (show ¬ k < k by omega), if_pos (show (k : Int) = (k : Int) from rfl), if_pos (show k < k + 1 by omega), Int.add_mul]; omega
    · rw [if_neg (show ¬ (k : Int) = (i : Int) by omega)]
      by_cases h2 : i < k
      · rw [if_pos h2, if_pos (show i < k + 1 by omega)]; omega
      · rw [if_neg h2, if_neg (show ¬ i < k + 1 by omega)]; omega
theorem valF_cut (f : Int → Int) (vs : List Int) (n : Nat) (h : ∀ k : Nat, n ≤ k → k < 10 → f (k : Nat) = 0) : ∀ d, n + d ≤ 10 → valF f vs (n + d) = valF f vs n
  | 0, _ => rfl
  | d + 1, hd => by
    show valF f vs ((n + d) + 1) = _
    simp only [valF]
    rw [valF_cut f vs n h d (by omega), h (n + d) (by omega) (by omega), Int.zero_mul]; omega
theorem mk_val {f : Int → Int} (hb : ∀ j, -1000000 ≤ f j ∧ f j ≤ 1000000) (vs : List Int) : ∃ r, mkL (f (-1)) (ten f) = (r, true) ∧ tmB r = true ∧ evTo r vs r.2.length = valF f vs 10 := by
  have hbt : ∀ z ∈ ten f, -1000000 ≤ z ∧ z ≤ 1000000 := fun z hz => by
    unfold ten at hz
    obtain ⟨i, _, rfl⟩ := List.mem_map.1 hz
    exact hb _
  have ht := tmB_trim (c := f (-1)) (zs := ten f) (by rw [ten_len]; omega) (hb _).1 (hb _).2 hbt
  refine ⟨_, mkL_yes ht, ht, ?_⟩
  have hT := trimN_is (ten f)
  generalize trimN (ten f) = n at ht hT ⊢
  have hn : n ≤ 10 := by have := hT.1; rw [ten_len] at this; exact this
  have hz : ∀ k : Nat, n ≤ k → k < 10 → f (k : Nat) = 0 := fun k h1 h2 => by
    have := hT.2.1 k h1 (by rw [ten_len]; exact h2)
    rw [ten_at f h2] at this
    exact Option.some.inj this
  have hlen : ((ten f).take n).length = n := by rw [List.length_take, ten_len]; omega
  show evTo (f (-1), (ten f).take n) vs ((ten f).take n).length = _
  rw [hlen]
  have key : ∀ k, k ≤ n → evTo (f (-1), (ten f).take n) vs k = valF f vs k := by
    intro k
    induction k with
    | zero => intro _; rfl
    | succ k ih =>
      intro hk
      simp only [evTo, valF]
      rw [ih (by omega)]
      have e : ((ten f).take n).getD k 0 = f (k : Nat) := by
        rw [List.getD_eq_getElem?_getD, List.getElem?_take, if_pos (by omega), ten_at f (by omega)]; rfl
      rw [e]
  rw [key n (Nat.le_refl _)]
  have := valF_cut f vs n hz (10 - n) (by omega)
  rw [show n + (10 - n) = 10 by omega] at this
  exact this.symm

theorem tf_le {t : Int × List Int} (h : SmallT 7 4 t) (j : Int) : -7 ≤ tf t j ∧ tf t j ≤ 7 := by
  obtain ⟨_, h1, h2, h3⟩ := h
  unfold tf
  by_cases a : j = -1
  · rw [if_pos a]; exact ⟨h1, h2⟩
  · rw [if_neg a]
    by_cases b : j < 0
    · rw [if_pos b]; omega
    · rw [if_neg b]
      by_cases h0 : t.2.getD j.toNat 0 = 0
      · omega
      · have := h3 _ (getD_mem h0); omega
theorem coef_le {t : Int × List Int} (h : SmallT 7 4 t) (k : Nat) : -4 ≤ t.2.getD k 0 ∧ t.2.getD k 0 ≤ 4 := by
  by_cases h0 : t.2.getD k 0 = 0
  · omega
  · exact h.2.2.2 _ (getD_mem h0)
theorem mul_le' {a b : Int} {m n : Nat} (a1 : -(m : Int) ≤ a) (a2 : a ≤ m) (b1 : -(n : Int) ≤ b) (b2 : b ≤ n) : -((m * n : Nat) : Int) ≤ a * b ∧ a * b ≤ ((m * n : Nat) : Int) := by
  have h : (a * b).natAbs ≤ m * n := by
    rw [Int.natAbs_mul]
    exact Nat.mul_le_mul (by omega) (by omega)
  omega
theorem sum_val {t u : Int × List Int} (ht : SmallT 7 4 t) (hu : SmallT 7 4 u) (vs : List Int) : ∃ r, addR t u = (r, true) ∧ tmB r = true ∧ evTo r vs r.2.length = evTo t vs t.2.length + evTo u vs u.2.length := by
  obtain ⟨r, h1, h2, h3⟩ := mk_val (f := lin t 1 u 1) (fun j => by have := tf_le ht j; have := tf_le hu j; unfold lin; omega) vs
  rw [lin_const] at h1
  refine ⟨r, by rw [addR_yes ht.1 hu.1]; exact h1, h2, ?_⟩
  rw [h3, ev_ten (tmB_parts ht.1).1, ev_ten (tmB_parts hu.1).1]
  show valF (fun j => 1 * tf t j + 1 * tf u j) vs 10 = _
  rw [valF_lin]; omega
theorem times_val {t : Int × List Int} (ht : SmallT 7 4 t) {n : Int} (h1 : -4 ≤ n) (h2 : n ≤ 4) (vs : List Int) : ∃ r, scaleR t n = (r, true) ∧ tmB r = true ∧ evTo r vs r.2.length = n * evTo t vs t.2.length := by
  obtain ⟨r, k1, k2, k3⟩ := mk_val (f := lin t n (0, []) 0) (fun j => by have := tf_le ht j; have := mul_le' (a := n) (b := tf t j) (m := 4) (n := 7) h1 h2 this.1 this.2; unfold lin; omega) vs
  rw [lin_const] at k1
  refine ⟨r, by rw [scaleR_yes ht.1 (by omega) (by omega)]; exact k1, k2, ?_⟩
  rw [k3, ev_ten (tmB_parts ht.1).1]
  show valF (fun j => n * tf t j + 0 * tf (0, []) j) vs 10 = _
  rw [valF_lin]; omega
theorem subTo_small {t u : Int × List Int} (ht : SmallT 7 4 t) (hu : SmallT 7 4 u) : ∀ (k : Nat) (j : Int), -(7 + (k : Int) * 28) ≤ subTo t [u] k j ∧ subTo t [u] k j ≤ 7 + (k : Int) * 28
  | 0, j => by
    have := ht.2.1; have := ht.2.2.1
    simp only [subTo]
    by_cases h : j = -1
    · rw [if_pos h]; omega
    · rw [if_neg h]; omega
  | k + 1, j => by
    have ih := subTo_small ht hu k j
    have b := coef_le ht k
    simp only [subTo, subStep]
    by_cases h : k < [u].length
    · rw [if_pos h]
      have hk : k = 0 := by simpa using h
      subst hk
      have a := tf_le hu j
      have p := mul_le' (a := t.2.getD 0 0) (b := tf u j) (m := 4) (n := 7) b.1 b.2 a.1 a.2
      show _ ≤ subTo t [u] 0 j + t.2.getD 0 0 * tf u j ∧ subTo t [u] 0 j + t.2.getD 0 0 * tf u j ≤ _
      omega
    · rw [if_neg h]
      unfold upd
      by_cases hj : j = (k : Int)
      · rw [if_pos hj]; omega
      · rw [if_neg hj]; omega
theorem subTo_val {t u : Int × List Int} (hu : u.2.length ≤ 10) (vs : List Int) : ∀ (k : Nat), k ≤ 10 → valF (subTo t [u] k) vs 10 = evTo t vs k + (if 0 < k then t.2.getD 0 0 * (evTo u vs u.2.length - vs.getD 0 0) else 0)
  | 0, _ => by
    have e : ∀ k, valF (fun j => if j = -1 then t.1 else 0) vs k = t.1 := by
      intro k
      induction k with
      | zero => rfl
      | succ k ih => simp only [valF]; rw [ih, if_neg (by omega)]; omega
    show valF (fun j => if j = -1 then t.1 else 0) vs 10 = _
    rw [e]; simp only [evTo]; rw [if_neg (by omega)]; omega
  | 1, _ => by
    have ih := subTo_val (t := t) (u := u) hu vs 0 (by omega)
    have e : subTo t [u] 1 = addT (subTo t [u] 0) (t.2.getD 0 0) u := rfl
    rw [e, valF_addT, ih, if_neg (by omega), if_pos (by omega), ← ev_ten hu]
    simp only [evTo]
    rw [Int.mul_sub]; omega
  | k + 2, hk => by
    have ih := subTo_val (t := t) (u := u) hu vs (k + 1) (by omega)
    have e : subTo t [u] (k + 2) = upd (subTo t [u] (k + 1)) ((k + 1 : Nat) : Int) (t.2.getD (k + 1) 0) := by
      show subStep [u] (subTo t [u] (k + 1)) (k + 1) (t.2.getD (k + 1) 0) = _
      unfold subStep
      rw [if_neg (by simp)]
    rw [e, valF_upd, ih, if_pos (by omega), if_pos (by omega), if_pos (by omega)]
    show _ = evTo t vs ((k + 1) + 1) + _
    simp only [evTo]
    omega
theorem by_val {t u : Int × List Int} (ht : SmallT 7 4 t) (hu : SmallT 7 4 u) (vs : List Int) : ∃ r, subR t [u] = (r, true) ∧ tmB r = true ∧
    evTo r vs r.2.length = evTo t vs t.2.length - t.2.getD 0 0 * vs.getD 0 0 + t.2.getD 0 0 * evTo u vs u.2.length := by
  have hl := (tmB_parts ht.1).1
  obtain ⟨r, k1, k2, k3⟩ := mk_val (f := subTo t [u] t.2.length) (fun j => by have := subTo_small ht hu t.2.length j; omega) vs
  have ha : allT 10 [u] = true := by unfold allT; simp [hu.1]
  refine ⟨r, by rw [subR_yes ht.1 ha]; exact k1, k2, ?_⟩
  rw [k3, subTo_val (tmB_parts hu.1).1 vs _ hl]
  by_cases h0 : 0 < t.2.length
  · rw [if_pos h0, Int.mul_sub]; omega
  · rw [if_neg h0, getD_off (by omega), Int.zero_mul, Int.zero_mul]; omega
theorem ev_le {t : Int × List Int} {vs : List Int} (ht : tmB t = true) (hv : valsB vs = true) : -20000000000000000 ≤ evTo t vs t.2.length ∧ evTo t vs t.2.length ≤ 20000000000000000 := by
  have := evTo_bound ht hv t.2.length
  have := (tmB_parts ht).1
  omega
open Go.RowKit
theorem InL.on {w w' : World} {A : Option Addr} {n : Nat} {zs : List Int} (h : InL w w.heap.size A n zs) (hb : Below w.heap.size w w') : InL w' w'.heap.size A n zs := (h.next hb (Nat.le_refl _)).more hb.size
set_option maxHeartbeats 400000 in
theorem b10At9_c (A : Option Addr) (n c B : Nat) (bs : List Nat) (j : Nat) (w : World) (hrow : Row w B A (bs.map bc)) (hz : bs.length = n) (hb : ∀ z ∈ bs, z < 256) (hj : j ≤ 1000) :
    Calls Try.prog 14 #[.slice A n c, .int .i64 (j : Int), .int .i64 9] w fun e w' => ∃ x : Int, e = .returned (.int .i64 x) ∧ 0 ≤ x ∧ x < 9 ∧ w = w' := by
  by_cases hlt : j < n
  · obtain ⟨b, off, hA, hbb, hc⟩ := hrow j (by simp; omega)
    subst hA
    have hz2 := hb (bs[j]'(by omega)) (List.getElem_mem ..)
    rw [List.getElem?_map, List.getElem?_eq_getElem (by omega)] at hc
    simp only [Option.map, bc] at hc
    generalize bs[j] = z at hc hz2
    clear hb
    have hz0 : (0 : Int) ≤ z := by omega
    have hm1 := Int.emod_lt_of_pos (z : Int) (by omega : (0 : Int) < 9)
    have hm2 := Int.emod_nonneg (z : Int) (by omega : (9 : Int) ≠ 0)
    go_enter Try.func14, Try.ntmps14
    go_wp2
    go_ret
    exact ⟨_, rfl, hm2, hm1, rfl⟩
  · have hz0 : (0 : Int) ≤ (j : Int) * 37 + 11 := by omega
    have hm1 := Int.emod_lt_of_pos ((j : Int) * 37 + 11) (by omega : (0 : Int) < 9)
    have hm2 := Int.emod_nonneg ((j : Int) * 37 + 11) (by omega : (9 : Int) ≠ 0)
    go_enter Try.func14, Try.ntmps14
    go_wp2
    go_ret
    exact ⟨_, rfl, hm2, hm1, rfl⟩
end Go.Proofs.Ytddmpdpmgjggoaa
