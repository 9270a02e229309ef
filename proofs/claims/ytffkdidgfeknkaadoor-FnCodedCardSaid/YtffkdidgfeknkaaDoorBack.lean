/-
  Codes are read back: of numbers, lists and texts, wherever they begin; a code without its last byte is none. Conditions: numbers that can be coded. Plain lists and numbers: no program.
-/
import Derived.Test.YtffkdidgfeknkaaDoorGetL
import Derived.Test.YtffkdidgfeknkaaDoorGetT
import Derived.Test.YtffkdidgfeknkaaDoorLists
namespace Go.Proofs.YtffkdidgfeknkaaDoor
open Go.RowKit

/-- From place p on the string has the bytes of l. -/
def Has (s : ByteArray) (p : Nat) (l : List Nat) : Prop := p + l.length ≤ s.size ∧ ∀ i, i < l.length → l[i]? = some (ba s (p + i))
theorem Has.tail {s : ByteArray} {p d : Nat} {l : List Nat} (h : Has s p (d :: l)) : Has s (p + 1) l := by
  obtain ⟨h1, h2⟩ := h
  simp only [List.length_cons] at h1 h2
  refine ⟨by omega, fun i hi => ?_⟩
  have := h2 (i + 1) (by omega)
  rw [List.getElem?_cons_succ] at this
  rw [this]; congr 2; omega
theorem Has.head {s : ByteArray} {p d : Nat} {l : List Nat} (h : Has s p (d :: l)) : p < s.size ∧ ba s p = d := by
  obtain ⟨h1, h2⟩ := h
  simp only [List.length_cons] at h1 h2
  have := h2 0 (by omega)
  simp at this
  exact ⟨by omega, this.symm⟩
theorem Has.left {s : ByteArray} {p : Nat} {l r : List Nat} (h : Has s p (l ++ r)) : Has s p l := by
  obtain ⟨h1, h2⟩ := h
  rw [List.length_append] at h1 h2
  refine ⟨by omega, fun i hi => ?_⟩
  have := h2 i (by omega)
  rwa [List.getElem?_append_left hi] at this
theorem Has.right {s : ByteArray} {p : Nat} {l r : List Nat} (h : Has s p (l ++ r)) : Has s (p + l.length) r := by
  obtain ⟨h1, h2⟩ := h
  rw [List.length_append] at h1 h2
  refine ⟨by omega, fun i hi => ?_⟩
  have := h2 (l.length + i) (by omega)
  rw [List.getElem?_append_right (by omega), Nat.add_sub_cancel_left] at this
  rw [this]; congr 2; omega

/-- The digits of m are read. -/
theorem gnum_digs (s : ByteArray) : ∀ (f m p a b : Nat), 0 < f → m < 128 ^ f → 0 < b → (b = 1 ∨ 0 < m) → Has s p (digs m) → gnum s f p a b = some (a + m * b, p + (digs m).length)
  | 0, m, p, a, b, hf, hm, hb, h1, h => absurd hf (by decide)
  | f + 1, m, p, a, b, hf, hm, hb, h1, h => by
    by_cases hlt : m < 128
    · rw [digs_small hlt] at h ⊢
      obtain ⟨hp, hd⟩ := h.head
      rw [gnum, if_pos hp, hd, if_neg (by omega), if_neg (by omega)]
      simp
    · rw [digs_great hlt] at h ⊢
      obtain ⟨hp, hd⟩ := h.head
      rw [gnum, if_pos hp, hd, if_pos (by omega)]
      have ht := h.tail
      rw [gnum_digs s f (m / 128) (p + 1) _ (b * 128) (by
        rcases Nat.eq_zero_or_pos f with rfl | hf0
        · rw [Nat.zero_add, Nat.pow_one] at hm; exact absurd hm hlt
        · exact hf0) (by rw [Nat.div_lt_iff_lt_mul (by decide)]; rw [Nat.pow_succ] at hm; exact hm) (by omega) (Or.inr (by omega)) ht]
      have e1 : m % 128 + 128 - 128 = m % 128 := by omega
      have e2 : a + m % 128 * b + m / 128 * (b * 128) = a + m * b := by
        have e3 : m = m % 128 + 128 * (m / 128) := (Nat.mod_add_div m 128).symm
        have e4 : m * b = m % 128 * b + m / 128 * (b * 128) := by
          conv => lhs; rw [e3]
          rw [Nat.add_mul, Nat.mul_comm b 128, ← Nat.mul_assoc, Nat.mul_comm (m / 128) 128]
        omega
      rw [e1, e2]
      simp; omega
theorem sg_zz {n : Int} (h : InC n) : sg (zz n) = n ∧ zz n ≤ 2000000000000000 := by
  obtain ⟨h1, h2⟩ := h
  unfold sg zz
  by_cases hn : n < 0
  · simp only [hn, if_true]
    have e : (-2 * n - 1).toNat % 2 ≠ 0 := by omega
    rw [if_neg e]
    omega
  · simp only [hn, if_false]
    have e : (2 * n).toNat % 2 = 0 := by omega
    rw [if_pos e]
    omega
theorem getN_back {s : ByteArray} {p : Nat} {n : Int} (hn : InC n) (h : Has s p (digs (zz n))) : getN s p = some (n, p + (digs (zz n)).length) := by
  obtain ⟨h1, h2⟩ := sg_zz hn
  have hb : zz n < 128 ^ 8 := by
    have e : (128 : Nat) ^ 8 = 72057594037927936 := by decide
    omega
  have := gnum_digs s 8 (zz n) p 0 1 (by decide) hb (by decide) (Or.inl rfl) h
  rw [getN_some (by simpa using this) h2, h1]
theorem getLs_back (s : ByteArray) : ∀ (zs acc : List Int) (p : Nat), (∀ z ∈ zs, InC z) → Has s p (zs.flatMap fun z => digs (zz z)) → getLs s zs.length p acc = some (acc ++ zs, p + (zs.flatMap fun z => digs (zz z)).length)
  | [], acc, p, _, _ => by simp [getLs]
  | z :: zs, acc, p, hin, h => by
    rw [List.flatMap_cons] at h ⊢
    rw [List.length_cons, getLs_yes (getN_back (hin z (List.mem_cons_self ..)) h.left), getLs_back s zs _ _ (fun y hy => hin y (List.mem_cons_of_mem _ hy)) h.right]
    simp [Nat.add_assoc]
theorem getL_back {s : ByteArray} {p : Nat} {zs : List Int} (hc : codedB zs = true) (h : Has s p (codeL zs)) : getL s p = some (zs, p + (codeL zs).length) := by
  have hl := coded_len hc
  unfold codeL at h ⊢
  rw [getL_of (getN_back ⟨by omega, by omega⟩ h.left) hl, getLs_back s zs [] _ (coded_in hc) h.right]
  simp [Nat.add_assoc]
end Go.Proofs.YtffkdidgfeknkaaDoor
